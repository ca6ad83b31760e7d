/- The contract of layer 4's lives. -/
import Derived.Test.YtcheikpmhdliiaaDoorJAdd
namespace Go.Proofs.YtcheikpmhdliiaaDoor
open Go.RowKit
set_option maxRecDepth 100000

/-! ### Bytes joined in new memory -/
theorem own_empty (w : World) : Own w.heap.size (w.alloc (.cells #[] 5)) (.slice (some ⟨w.heap.size, 0, none⟩) 0 0) [] :=
  ⟨rfl, .inr ⟨w.heap.size, 0, #[], rfl, Nat.le_refl _, heap_alloc_new w _, Nat.le_refl _, by decide, rfl, rfl⟩⟩
theorem join2 {w : World} {bv gv : Value} {l m : List UInt8} (hb : Bts w bv l) (hg : Bts w gv m) (hl : l.length + m.length ≤ 140737488355328) :
    ∃ v1 w1 v2 w2, Hid ((Builtin.append_ #[24, 24] 24 #[.slice (some ⟨w.heap.size, 0, none⟩) 0 0, bv]).run Tryd.prog (w.alloc (.cells #[] 5)) = .ok v1 w1) ∧ Hid ((Builtin.append_ #[24, 24] 24 #[v1, gv]).run Tryd.prog w1 = .ok v2 w2) ∧ Hid (Own w.heap.size w2 v2 (l ++ m) ∧ Below w.heap.size w w2) := by
  obtain ⟨v1, w1, r1, a1⟩ := own_app 24 (own_empty w) (hb.alloc _) (by simp; omega) (by simp)
  have b1 : Below w.heap.size w w1 := ((Below.refl _ w).alloc (Nat.le_refl _) _).trans (a1.below (own_empty w) (by simp))
  obtain ⟨v2, w2, r2, a2⟩ := own_app 24 a1.own (hg.below b1) (by simpa using hl) b1.size
  refine ⟨v1, w1, v2, w2, r1, r2, ?_, b1.trans (a2.below a1.own b1.size)⟩
  have := a2.own
  rwa [List.nil_append] at this

/-! ### The change of the document's example -/
def op1 : OpT := ⟨1, ⟨#[]⟩, ⟨#[]⟩, 0, 0, 0, 0, ⟨#[]⟩, ⟨⟨#[]⟩, ⟨#[]⟩, ⟨#[]⟩⟩, ⟨⟨#[]⟩, ⟨#[]⟩, 0, 0, ⟨0, 0, ⟨#[]⟩⟩⟩, []⟩
theorem in0 : In64 0 := by constructor <;> decide
theorem in1 : In64 1 := by constructor <;> decide
theorem op1_ok : ∀ o ∈ [op1], o.Ok := by
  intro o ho
  rw [List.mem_singleton.1 ho]
  exact ⟨in1, in0, in0, in0, in0, ⟨in0, in0, in0, in0⟩, fun c hc => by simp [op1] at hc⟩
theorem op1_len : (opsB [op1]).length ≤ 400 := by
  have h0 := numB_length in0
  have h1 := numB_length in1
  have e : ∀ x : ByteArray, x = ⟨#[]⟩ → (textB x).length ≤ 10 := by
    rintro x rfl
    rw [textB_length]
    have : ((⟨#[]⟩ : ByteArray).size : Int) = 0 := rfl
    rw [this]
    have : (⟨#[]⟩ : ByteArray).size = 0 := rfl
    omega
  have hE := e ⟨#[]⟩ rfl
  have e1 : ((([op1] : List OpT).length : Nat) : Int) = 1 := rfl
  have e0 : ((([] : List CellT).length : Nat) : Int) = 0 := rfl
  simp only [opsB, lstB, opB, op1, nameB, linkB, valB, List.length_append, List.flatMap_cons, List.flatMap_nil, List.length_nil] at *
  rw [e0]
  simp only [List.length_cons, List.length_nil] at *
  have e2 : ((0 + 1 : Nat) : Int) = 1 := rfl
  rw [e2]
  omega
theorem op1_opl (w : World) (b : Nat) (hb : b = w.heap.size) : Opl 0 (w.heap.size + 1) (w.alloc (.cells #[.int .i64 1, strE, strE, int0, int0, int0, int0, strE, strE, strE, strE, strE, strE, int0, int0, int0, int0, strE, .slice none 0 0] 58)) (.slice (some ⟨b, 0, none⟩) 1 1) [op1] := by
  subst hb
  refine ⟨fun _ => .slice none 0 0, .inr ⟨⟨w.heap.size, 0, none⟩, 1, rfl, Nat.le_refl _, by decide, fun _ => ⟨Nat.zero_le _, Nat.lt_succ_self _⟩, fun j i u hj hu => ?_⟩, fun j o hj => ?_⟩
  · obtain rfl : j = 0 := by simp at hj; omega
    have hadd : (⟨w.heap.size, 0, none⟩ : Addr).add (0 * 19 + i) = ⟨w.heap.size, i, none⟩ := by unfold Addr.add; split <;> simp_all
    rw [hadd, cell_of_row _ _ i _ 58 (0, 0) (heap_alloc_new w _)]
    rw [← hu]
    show (opC op1 (.slice none 0 0)).toArray[i]? = (opC op1 (.slice none 0 0))[i]?
    simp
  · obtain rfl : j = 0 := by
      rcases Nat.eq_zero_or_pos j with h | h
      · exact h
      · rw [List.getElem?_eq_none (by simp; omega)] at hj; cases hj
    simp at hj
    subst hj
    exact Cls.nil _ _ _

theorem groupC_len {s : Int} (hs : In64 s) (L : List OpT) : (groupC s L).length ≤ 11 + (opsB L).length ∧ (opsB L).length ≤ (groupC s L).length := by
  have := numB_length hs
  simp only [groupC, listB_one, List.length_append, List.length_cons]
  omega
theorem group_ok {seq : Int} {L : List OpT} (h1 : 1 ≤ seq) (hL : L ≠ []) (hl : (groupC seq L).length ≤ 131072) : groupJ seq L = (frameB (groupC seq L), 0) := by
  unfold groupJ
  rw [if_neg (by rintro (h | h); · omega
                 · exact hL (List.eq_nil_of_length_eq_zero h)), if_neg (by omega)]
theorem jrn_snoc (id : Int) (gs : List (List OpT)) (g : List OpT) : jrn id (gs ++ [g]) = jrn id gs ++ frameB (groupC ((gs.length : Int) + 1) g) := by
  unfold jrn
  rw [flatJ_append, List.append_assoc]
  simp [flatJ]
theorem jrn_nil (id : Int) : jrn id [] = beginJ id := by simp [jrn, flatJ]
theorem fits_nil : Fits 0 [] := trivial
theorem fits_op1 : Fits 0 [[op1]] := by
  refine ⟨⟨op1_ok, by simp, ?_⟩, trivial⟩
  have := groupC_len (s := ((0 : Nat) : Int) + 1) (by constructor <;> decide) [op1]
  have := op1_len
  omega
theorem beginJ_len {id : Int} (h : In64 id) : (beginJ id).length ≤ 38 := by
  have := listB_two_len h
  unfold beginJ
  rw [frameB_length]
  omega
theorem fld1 (W : World) (x y z : Value) : (Instr.field 38 (.agg #[x, y, z]) 1).run Tryd.prog W = .ok y W := by kernel_rfl
theorem fld2 (W : World) (x y z : Value) : (Instr.field 38 (.agg #[x, y, z]) 2).run Tryd.prog W = .ok z W := by kernel_rfl
theorem in5 : In64 5 := by constructor <;> decide

set_option maxHeartbeats 4000000 in
theorem livesJ_any {w : World} (T : Tab w) : Calls Tryd.prog 14 #[] w fun e w' => e = .returned (.bool true) ∧ Below w.heap.size w w' := by
  have C1 := begin_any T in5
  have fl1 := fld1
  have fl2 := fld2
  have HT : Hid (Tab w) := T
  clear T
  go_enter Tryd.func14, Tryd.ntmps14
  go_wp2_with fail
  refine C1.mono ?_
  rintro e w1 ⟨bv, rfl, o1, b1⟩
  have O1 : Hid (Bts w1 bv (jrn 5 [])) := by rw [jrn_nil]; exact o1.bts
  have B1 : Hid (Below w.heap.size w w1) := b1
  have hbl := beginJ_len in5
  have hb2 : Below w.heap.size w (w1.alloc (.cells #[.int .i64 1, strE, strE, int0, int0, int0, int0, strE, strE, strE, strE, strE, strE, int0, int0, int0, int0, strE, .slice none 0 0] 58)) := b1.alloc b1.size _
  have C2 := add_any (O1.out.alloc (.cells #[.int .i64 1, strE, strE, int0, int0, int0, int0, strE, strE, strE, strE, strE, strE, int0, int0, int0, int0, strE, .slice none 0 0] 58)) (HT.out.below (Nat.le_refl _) hb2) (by rw [jrn_nil]; omega) (op1_opl w1 _ rfl) (by simp) op1_ok (by have := op1_len; omega)
  have hadd : addJ (jrn 5 []) [op1] = (frameB (groupC 1 [op1]), 0) := by
    rw [add_jrn in5 fits_nil (by simp)]
    show groupJ 1 [op1] = _
    exact group_ok (by decide) (by simp) (by have := groupC_len in1 [op1]; have := op1_len; omega)
  rw [hadd] at C2
  have B2 : Hid _ := hb2
  clear C1 o1 b1 hb2 hadd
  go_wp2_with fail
  refine C2.mono ?_
  rintro e w2 ⟨gv, rfl, o2, b2⟩
  have B3 : Hid (Below w.heap.size w w2) := B2.out.trans (b2.mono B2.out.size)
  have O2 : Hid (Bts w2 bv (jrn 5 [])) := (O1.out.alloc _).below b2
  obtain ⟨v1, w3, v2, w4, R1, R2, HJ⟩ := join2 O2.out o2.bts (by rw [jrn_nil, frameB_length]; have := groupC_len in1 [op1]; have := op1_len; omega)
  have hj : jrn 5 [] ++ frameB (groupC 1 [op1]) = jrn 5 [[op1]] := (jrn_snoc 5 [] [op1]).symm
  rw [hj] at HJ
  have B4 : Hid (Below w.heap.size w w4) := B3.out.trans (HJ.out.2.mono B3.out.size)
  have O4 : Hid (Bts w4 bv (jrn 5 [])) := O2.out.below HJ.out.2
  have hlen2 : (jrn 5 [[op1]]).length ≤ 1000000000 := by
    rw [← hj, List.length_append, jrn_nil, frameB_length]; have := groupC_len in1 [op1]; have := op1_len; omega
  have C3 := scan_any HJ.out.1.bts (HT.out.below (Nat.le_refl _) B4.out) (id := 5) hlen2
  rw [scan_jrn in5 fits_op1 (by simp)] at C3
  have C3' : Calls Tryd.prog 18 #[v2, .int .i64 5] w4 fun e w5 => ∃ ga gc good, e = .returned (.agg #[.slice ga 1 gc, .int .i64 good, .bool true]) ∧ Hid (Below w.heap.size w w5 ∧ Below w4.heap.size w4 w5) := by
    refine C3.mono ?_
    rintro e w5 ⟨ga, gc, rfl, _, _, b5⟩
    exact ⟨ga, gc, _, rfl, B4.out.trans (b5.mono B4.out.size), b5⟩
  have HZ5 : Hid ((jrn 5 []).length ≤ 1000000000) := by show _ ≤ _; rw [jrn_nil]; omega
  clear C2 C3 o2 b2 B1 B2 B3 O1 O2 HJ hj hlen2 hbl
  go_wp2_with (at_builtin; first | (refine wpList_append_run rfl _ _ 24 rfl _ _ _ _ rfl rfl R1.out ?_) | (refine wpList_append_run rfl _ _ 24 rfl _ _ _ _ rfl rfl R2.out ?_))
  refine C3'.mono ?_
  rintro e w5 ⟨ga, gc, good, rfl, HB5⟩
  have B5a : Hid (Below w.heap.size w (w5.alloc (.cells #[.slice ga 1 gc, .int .i64 good, .bool true] 38))) := HB5.out.1.alloc HB5.out.1.size _
  have O5 : Hid (Bts (w5.alloc (.cells #[.slice ga 1 gc, .int .i64 good, .bool true] 38)) bv (jrn 5 [])) := (O4.out.below HB5.out.2).alloc _
  have C4 := scan_any O5.out (HT.out.below (Nat.le_refl _) B5a.out) (id := 6) HZ5.out
  rw [scan_other in5 [] (by decide)] at C4
  have C4' : Calls Tryd.prog 18 #[bv, .int .i64 6] (w5.alloc (.cells #[.slice ga 1 gc, .int .i64 good, .bool true] 38)) fun e w6 => ∃ ga2 gc2, e = .returned (.agg #[.slice ga2 0 gc2, .int .i64 0, .bool false]) ∧ Hid (Below w.heap.size w w6 ∧ Bts w6 bv (jrn 5 [])) := by
    refine C4.mono ?_
    rintro e w6 ⟨ga2, gc2, rfl, _, _, b6⟩
    exact ⟨ga2, gc2, rfl, B5a.out.trans (b6.mono B5a.out.size), O5.out.below b6⟩
  clear C3' C4 HB5 O4 B4 O5 B5a
  go_wp2_with fail
  refine C4'.mono ?_
  rintro e w6 ⟨ga2, gc2, rfl, HB6⟩
  have C5 := scan_any HB6.out.2 (HT.out.below (Nat.le_refl _) HB6.out.1) (id := 5) HZ5.out
  rw [scan_jrn in5 fits_nil (by simp)] at C5
  have C5' : Calls Tryd.prog 18 #[bv, .int .i64 5] w6 fun e w7 => ∃ ga3 gc3, e = .returned (.agg #[.slice ga3 0 gc3, .int .i64 ((jrn 5 []).length : Int), .bool true]) ∧ Hid (Below w.heap.size w w7) := by
    refine C5.mono ?_
    rintro e w7 ⟨ga3, gc3, rfl, _, _, b7⟩
    exact ⟨ga3, gc3, rfl, HB6.out.1.trans (b7.mono HB6.out.1.size)⟩
  obtain ⟨ba, bc, rfl, _, _⟩ := HB6.out.2.slice
  clear C4' C5 HB6
  generalize (jrn 5 []).length = n at *
  go_wp2_with fail
  refine C5'.mono ?_
  rintro e w7 ⟨ga3, gc3, rfl, HB7⟩
  clear C5'
  go_wp2_with fail
  go_ret
  exact ⟨rfl, HB7.out⟩
end Go.Proofs.YtcheikpmhdliiaaDoor
