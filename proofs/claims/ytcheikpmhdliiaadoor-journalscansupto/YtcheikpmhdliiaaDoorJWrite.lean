import Derived.Test.YtcheikpmhdliiaaDoorPutOp3
import Derived.Test.YtcheikpmhdliiaaDoorOpRuns
import Derived.Test.YtcheikpmhdliiaaDoorJPure
import Derived.Test.YtcheikpmhdliiaaDoorFrame
import Derived.Deep.RegionHeldLaw
import Derived.WalkMore
/- The contracts of putList of changes and of bytes.Ops. -/
namespace Go.Proofs.YtcheikpmhdliiaaDoor
open Go.RowKit
set_option maxRecDepth 100000

set_option maxHeartbeats 4000000 in
theorem putOps_any {base lo hi : Nat} {w : World} {v : Value} {l : List UInt8} (h : Own base w v l) (hb : base ≤ w.heap.size) {iv : Value} {L : List OpT} (hs : Opl lo hi w iv L) (hhi : hi ≤ base) (hn : ∀ c ∈ L, c.Ok) (hl : l.length + (opsB L).length + 10 ≤ 140737488355328) :
    Calls Tryd.prog 30 #[v, iv, .func (.func 31) #[] #[]] w fun e w' => ∃ v', e = .returned v' ∧ Apd base w v w' v' (l ++ opsB L) := by
  have H : Hid (Own base w v l) := h
  have HS : Hid (∀ w', Below base w w' → Opl lo hi w' iv L) := fun w' hw => hs.below hhi hw
  have hg := flatMap_ge opB_pos L
  simp only [opsB, lstB, List.length_append] at hl
  have P1 := putNumber_any h hb L.length (by constructor <;> omega) (by omega)
  obtain ⟨a, c, rfl, _, _⟩ := hs.slice
  have HL : Hid (l.length + ((numB L.length).length + (L.flatMap opB).length) + 10 ≤ 140737488355328) := hl
  have hlen : L.length ≤ 140737488355328 := by omega
  clear h hs hl hg
  go_enter Tryd.func30, Tryd.ntmps30
  go_wp2_with (go_at_call 53; refine P1.mono ?_; rintro e w1 ⟨v1, rfl, ap1⟩)
  have HP : Hid (Apd base w v w1 v1 (l ++ numB L.length)) := ap1
  clear P1 ap1
  go_loopw [0, 15] (fun u0 u15 wr => ∃ k : Nat, u15 = .int .i64 k ∧ k ≤ L.length ∧ Hid (Apd base w v wr u0 (l ++ (numB L.length ++ (L.take k).flatMap opB)))) (fun _ u15 _ => L.length - (intOf u15).toNat)
  case atStart => exact ⟨0, rfl, by omega, by show Apd _ _ _ _ _ _; simpa using HP.out⟩
  case round =>
    obtain ⟨k, rfl, hk, HD⟩ := hrel
    clear HP
    by_cases hlt : k < L.length
    · obtain ⟨a', cv, ov, W, rfl, ho, hcl, hW, R1, R2, R3⟩ := (HS.out wr (HD.out.below H.out hb)).runs hlt
      have hw : base ≤ wr.heap.size := Nat.le_trans hb HD.out.gr.size
      have PN : Calls Tryd.prog 31 #[u0, ov] W fun e w' => ∃ v', e = .returned v' ∧ Hid (Apd base w v w' v' (l ++ (numB L.length ++ (L.take (k + 1)).flatMap opB))) := by
        rw [ho, hW]
        refine (putOp_any (HD.out.own.alloc (.cells (opC L[k] cv).toArray 58)) (by simp; omega) L[k] (hn _ (List.getElem_mem _)) (hcl.below hhi ((Below.refl base wr).alloc hw _)) hhi (by
          have h1 := flatMap_part opB L k hlt
          have h2 := HL.out
          simp only [List.length_append]
          omega)).mono ?_
        rintro e w2 ⟨v2, rfl, ap2⟩
        refine ⟨v2, rfl, ?_⟩
        have := HD.out.trans ap2.of_alloc
        rw [List.append_assoc, List.append_assoc, ← flatMap_snoc opB L k hlt] at this
        exact this
      have hk63 : k < 9223372036854775807 := by omega
      clear hw ho hW hcl HD
      go_wp2_with (first
        | (refine wpList_load_run rfl 58 _ rfl _ _ rfl R1.out ?_)
        | (refine wpList_store_run rfl 58 _ _ rfl _ _ _ rfl rfl R2.out ?_)
        | (refine wpList_load_run rfl 58 _ rfl _ _ rfl R3.out ?_)
        | (go_at_call 31; refine PN.mono ?_; rintro e w2 ⟨v2, rfl, HD2⟩))
      clear PN R1 R2 R3
      go_roundw
      case rel => exact ⟨k + 1, by go_num, by omega, HD2⟩
      case measure => simp [intOf]; omega
    · have HD2 : Hid (Apd base w v wr u0 (l ++ opsB L)) := by
        have := HD.out
        rw [List.take_of_length_le (by omega)] at this
        exact this
      clear HD
      go_wp2_with fail
      go_ret
      exact ⟨u0, rfl, HD2.out⟩

set_option maxHeartbeats 1000000 in
theorem ops_any {lo hi : Nat} {w : World} {iv : Value} {L : List OpT} (hs : Opl lo hi w iv L) (hhi : hi ≤ w.heap.size) (hn : ∀ c ∈ L, c.Ok) (hl : (opsB L).length + 10 ≤ 140737488355328) :
    Calls Tryd.prog 10 #[iv] w fun e w' => ∃ v', e = .returned v' ∧ Own w.heap.size w' v' (opsB L) ∧ Below w.heap.size w w' := by
  have P := putOps_any (Own.nil w w.heap.size) (Nat.le_refl _) hs hhi hn (by simpa using hl)
  clear hs hn hl
  go_enter Tryd.func10, Tryd.ntmps10
  go_wp2_with (go_at_call 30; refine P.mono ?_; rintro e w2 ⟨v2, rfl, ap2⟩)
  go_ret
  exact ⟨v2, rfl, by simpa using ap2.own, ap2.below (Own.nil _ _) (Nat.le_refl _)⟩
end Go.Proofs.YtcheikpmhdliiaaDoor

/- The contracts of the journal's writers: content of a header and of a group, framed, Begin, Group. -/
namespace Go.Proofs.YtcheikpmhdliiaaDoor
open Go.RowKit
set_option maxRecDepth 100000

/-- An append whose run is known, as one step of a region that draws. -/
theorem step_append_run {P : Program} {ops : Array Oper} {o : Oper} {a : Act} {w : World} {K : Act → World → Prop} {Q : Exit → Act → World → Prop} {E : Prop}
    (hg : o.guard = none) (n : Nat) (hdst : o.dst = some n) (s x : Operand) (t : TypeId) (hop : o.op = Op.call { callee := Callee.builtin Builtin.append, args := #[s, x], argTypes := #[t, t] })
    (v bv v' : Value) (w' : World) (hs : a.eval s = v) (hx : a.eval x = bv) (hrun : (Builtin.append_ #[t, t] o.type #[v, bv]).run P w = .ok v' w')
    (hK : K (a.put (some n) v') w') : if Region.wanted o (yielded ops a.tmps) = true then Oper.wp P o a w K Q else E := by
  have hw : Region.wanted o (yielded ops a.tmps) = true := by simp [Region.wanted, hg]
  rw [if_pos hw]
  unfold Oper.wp
  simp [execOp, hop, resolve, invoke, builtin, hs, hx, hrun, Result.andThen]
  show K (a.put o.dst v') w'
  rw [hdst]
  exact hK
theorem Own.mono_base {b b' : Nat} {w : World} {v : Value} {l : List UInt8} (h : Own b w v l) (hb : b' ≤ b) : Own b' w v l := by
  refine ⟨h.1, ?_⟩
  rcases h.2 with hn | ⟨g, cap, cur, rfl, h1, rest⟩
  · exact .inl hn
  · exact .inr ⟨g, cap, cur, rfl, Nat.le_trans hb h1, rest⟩

theorem its_lit (w : World) (ns : List Int) (z : Nat × Nat) (hl : ns.length ≤ maxLen) (b : Nat) (hb : b = w.heap.size) : Its (w.alloc (.cells (ns.map (Value.int .i64)).toArray 3 z)) (.slice (some ⟨b, 0, none⟩) ns.length ns.length) ns := by
  subst hb
  refine .inr ⟨⟨w.heap.size, 0, none⟩, ns.length, rfl, Nat.le_refl _, hl, fun j n hj => ?_⟩
  have hp : (⟨w.heap.size, 0, none⟩ : Addr).add j = ⟨w.heap.size, j, none⟩ := by unfold Addr.add; split <;> simp_all
  rw [hp, cell_of_row _ _ j _ 3 z (heap_alloc_new w _)]
  simp [hj]

theorem two_in {id : Int} (h : In64 id) : ∀ n ∈ [7, id], In64 n := by
  intro n hn
  simp at hn
  rcases hn with rfl | rfl
  · constructor <;> decide
  · exact h

set_option maxHeartbeats 1000000 in
theorem headC_any (w : World) {id : Int} (hid : In64 id) :
    Calls Tryd.prog 109 #[.agg #[.int .i64 id]] w fun e w' => ∃ v', e = .returned v' ∧ Own w.heap.size w' v' (listB [7, id]) ∧ Below w.heap.size w w' := by
  have hI : Its ((w.alloc (.cells #[.int .i64 id] 92)).alloc (.cells #[.int .i64 7, .int .i64 id] 3)) (.slice (some ⟨w.heap.size + 1, 0, none⟩) 2 2) [7, id] := its_lit (w.alloc (.cells #[.int .i64 id] 92)) [7, id] (0, 0) (by simp [maxLen]) _ (by simp)
  have C := ints_any hI (two_in hid) (by simp)
  go_enter Tryd.func109, Tryd.ntmps109
  go_wp2_with fail
  refine C.mono ?_
  rintro e w1 ⟨v1, rfl, o1, b1⟩
  have O : Hid (Own w.heap.size w1 v1 (listB [7, id]) ∧ Below w.heap.size w w1) := ⟨o1.mono_base (by simp; omega), (((Below.refl _ w).alloc (Nat.le_refl _) _).alloc (by simp) _).trans (b1.mono (by simp; omega))⟩
  clear C o1 b1
  go_wp2_with fail
  go_ret
  exact ⟨v1, rfl, O.out⟩

set_option maxHeartbeats 2000000 in
theorem groupC_any {w : World} {seq : Int} (hs : In64 seq) {lo hi : Nat} {lv : Value} {L : List OpT} (h : Opl lo hi w lv L) (hhi : hi ≤ w.heap.size) (ok : ∀ o ∈ L, o.Ok) (hl : (opsB L).length + 1000 ≤ 140737488355328) :
    Calls Tryd.prog 110 #[.agg #[.int .i64 seq, lv]] w fun e w' => ∃ v', e = .returned v' ∧ Own w.heap.size w' v' (groupC seq L) ∧ Below w.heap.size w w' := by
  obtain ⟨a, c, rfl, _, _⟩ := h.slice
  have HK : Hid ((w.alloc (.cells #[.int .i64 seq, .slice a L.length c] 94)).heap[w.heap.size]? = some (.cells #[.int .i64 seq, .slice a L.length c] 94)) := heap_alloc_new w _
  have hb0 : Below w.heap.size w ((w.alloc (.cells #[.int .i64 seq, .slice a L.length c] 94)).drew.alloc (.cells #[.int .i64 seq] 3)) := (((Below.refl _ w).alloc (Nat.le_refl _) _).drew).alloc (by simp) _
  have T1 : Hid (Calls Tryd.prog 27 #[.slice (some ⟨w.heap.size + 1, 0, none⟩) 1 1] ((w.alloc (.cells #[.int .i64 seq, .slice a L.length c] 94)).drew.alloc (.cells #[.int .i64 seq] 3)) fun e w' => ∃ v', e = .returned v' ∧ Hid (w'.heap[w.heap.size]? = some (.cells #[.int .i64 seq, .slice a L.length c] 94)) ∧ Hid (Own w.heap.size w' v' (listB [seq]) ∧ Below w.heap.size w w')) := by
    have hI : Its ((w.alloc (.cells #[.int .i64 seq, .slice a L.length c] 94)).drew.alloc (.cells #[.int .i64 seq] 3)) (.slice (some ⟨w.heap.size + 1, 0, none⟩) 1 1) [seq] := its_lit (w.alloc (.cells #[.int .i64 seq, .slice a L.length c] 94)).drew [seq] (0, 0) (by simp [maxLen]) _ (by simp [World.drew])
    refine (ints_any hI (by simpa using hs) (by simp)).mono ?_
    rintro e w1 ⟨v1, rfl, o1, b1⟩
    refine ⟨v1, rfl, ?_, o1.mono_base (by simp; omega), hb0.trans (b1.mono (by simp; omega))⟩
    refine (b1.block _ (by simp; omega)).trans ?_
    exact (Below.heap_alloc _ _ _ (by simp)).trans HK.out
  have T2 : Hid (∀ w1 v1, Hid (w1.heap[w.heap.size]? = some (.cells #[.int .i64 seq, .slice a L.length c] 94)) → Hid (Own w.heap.size w1 v1 (listB [seq]) ∧ Below w.heap.size w w1) → Calls Tryd.prog 10 #[.slice a L.length c] w1 fun e w' => ∃ v2, e = .returned v2 ∧ Hid (w'.heap[w.heap.size]? = some (.cells #[.int .i64 seq, .slice a L.length c] 94)) ∧
      ∃ v' w3, Hid ((Builtin.append_ #[24, 24] 24 #[v1, v2]).run Tryd.prog w' = .ok v' w3) ∧ Hid (w3.heap[w.heap.size]? = some (.cells #[.int .i64 seq, .slice a L.length c] 94)) ∧ Hid (Own w.heap.size w3 v' (groupC seq L) ∧ Below w.heap.size w w3)) := by
    intro w1 v1 hk ho
    refine (ops_any (h.below hhi ho.out.2) (Nat.le_trans hhi ho.out.2.size) ok (by omega)).mono ?_
    rintro e w2 ⟨v2, rfl, o2, b2⟩
    have hk2 : w2.heap[w.heap.size]? = some (.cells #[.int .i64 seq, .slice a L.length c] 94) := by
      refine (b2.block _ ?_).trans hk.out
      rcases Nat.lt_or_ge w.heap.size w1.heap.size with h | h
      · exact h
      · have := hk.out
        rw [Array.getElem?_eq_none h] at this; cases this
    have o1' : Own w.heap.size w2 v1 (listB [seq]) := ho.out.1.kept b2.block
    have hln := listB_one seq
    have hnl := numB_length hs
    obtain ⟨v3, w3, r3, a3⟩ := own_app 24 o1' o2.bts (by rw [hln]; simp; omega) (Nat.le_trans ho.out.2.size b2.size)
    have hB2 : Below w.heap.size w w2 := ho.out.2.trans (b2.mono ho.out.2.size)
    exact ⟨v2, rfl, hk2, v3, w3, r3, a3.box o1' (by decide) hk2, a3.own, hB2.trans (a3.below o1' (Nat.le_trans ho.out.2.size b2.size))⟩
  clear h ok hl hb0
  go_enter Tryd.func110, Tryd.ntmps110
  go_wp2_with fail
  go_region_held_law (fun u => u.cell? ⟨w.heap.size, 0, none⟩ = some (.int .i64 seq) ∧ u.cell? ⟨w.heap.size, 1, none⟩ = some (.slice a L.length c)) (first | exact ⟨cell_heap HK.out rfl, cell_heap HK.out rfl⟩ | exact ⟨cell_heap ((Below.heap_alloc _ _ _ (by simp)).trans HK.out) rfl, cell_heap ((Below.heap_alloc _ _ _ (by simp)).trans HK.out) rfl⟩) (first
    | (go_at_call 27; refine T1.out.mono ?_; rintro e w1 ⟨v1, rfl, HK, HO⟩)
    | (go_at_call 10; refine (T2.out _ _ HK HO).mono ?_; rintro e w2 ⟨v2, rfl, HK, v3, w3, R3, HK3, HO⟩)
    | (refine step_append_run (by rfl) 10 (by rfl) _ _ 24 (by rfl) _ _ _ _ (by rfl) (by rfl) R3.out ?_; have HK := HK3))
  go_wp2_with fail
  go_ret
  exact ⟨_, rfl, HO.out⟩
set_option maxHeartbeats 1000000 in
theorem framedH_any {w : World} (T : Tab w) {id : Int} (hid : In64 id) :
    Calls Tryd.prog 45 #[.iface 92 (.agg #[.int .i64 id])] w fun e w' => ∃ v', e = .returned v' ∧ Own w.heap.size w' v' (beginJ id) ∧ Below w.heap.size w w' := by
  have C := headC_any w hid
  have HT : Hid (Tab w) := T
  have HL : Hid ((listB [7, id]).length ≤ 131072) := Nat.le_trans (listB_two_len hid) (by decide)
  clear T
  go_enter Tryd.func45, Tryd.ntmps45
  go_wp2_with fail
  refine C.mono ?_
  rintro e w1 ⟨v1, rfl, o1, b1⟩
  have C2 := frame_any o1.bts (HT.out.below (Nat.le_refl _) b1) HL.out
  have B1 : Hid (Below w.heap.size w w1) := b1
  clear C o1 b1
  go_wp2_with fail
  refine C2.mono ?_
  rintro e w2 ⟨v2, rfl, o2, b2⟩
  have O : Hid (Own w.heap.size w2 v2 (beginJ id) ∧ Below w.heap.size w w2) := ⟨o2.mono_base B1.out.size, B1.out.trans (b2.mono B1.out.size)⟩
  clear C2 o2 b2
  go_wp2_with fail
  go_ret
  exact ⟨v2, rfl, O.out⟩
set_option maxHeartbeats 1000000 in
theorem begin_any {w : World} (T : Tab w) {id : Int} (hid : In64 id) :
    Calls Tryd.prog 20 #[.int .i64 id] w fun e w' => ∃ v', e = .returned v' ∧ Own w.heap.size w' v' (beginJ id) ∧ Below w.heap.size w w' := by
  have C := framedH_any T hid
  clear T
  go_enter Tryd.func20, Tryd.ntmps20
  go_wp2_with fail
  refine C.mono ?_
  rintro e w2 ⟨v2, rfl, o2⟩
  have O : Hid _ := o2
  clear o2 C
  go_wp2_with fail
  go_ret
  exact ⟨v2, rfl, O.out⟩

/-- A frame, or nothing, if there is too much. -/
def frameOr (l : List UInt8) : List UInt8 := if 131072 < l.length then [] else frameB l
theorem frameOr_long {l : List UInt8} (h : 131072 < l.length) : frameOr l = [] := if_pos h
theorem frameOr_ok {l : List UInt8} (h : ¬ 131072 < l.length) : frameOr l = frameB l := if_neg h

set_option maxHeartbeats 1000000 in
theorem framedG_any {w : World} (T : Tab w) {seq : Int} (hs : In64 seq) {lo hi : Nat} {lv : Value} {L : List OpT} (h : Opl lo hi w lv L) (hhi : hi ≤ w.heap.size) (ok : ∀ o ∈ L, o.Ok) (hl : (opsB L).length + 1000 ≤ 140737488355328) :
    Calls Tryd.prog 45 #[.iface 94 (.agg #[.int .i64 seq, lv])] w fun e w' => ∃ v', e = .returned v' ∧ Own w.heap.size w' v' (frameOr (groupC seq L)) ∧ Below w.heap.size w w' := by
  have C := groupC_any hs h hhi ok hl
  have HT : Hid (Tab w) := T
  obtain ⟨a, c, rfl, _, _⟩ := h.slice
  clear T h ok hl
  go_enter Tryd.func45, Tryd.ntmps45
  go_wp2_with fail
  refine C.mono ?_
  rintro e w1 ⟨v1, rfl, o1, b1⟩
  have C2 : Calls Tryd.prog 28 #[v1] w1 fun e w2 => ∃ v2, e = .returned v2 ∧ Hid (Own w.heap.size w2 v2 (frameOr (groupC seq L)) ∧ Below w.heap.size w w2) := by
    by_cases hbig : 131072 < (groupC seq L).length
    · refine (frame_long o1.bts hbig).mono ?_
      rintro e w2 ⟨rfl, rfl⟩
      refine ⟨_, rfl, ?_, b1⟩
      rw [frameOr_long hbig]
      exact Own.nil _ _
    · refine (frame_any o1.bts (HT.out.below (Nat.le_refl _) b1) (by omega)).mono ?_
      rintro e w2 ⟨v2, rfl, o2, b2⟩
      refine ⟨v2, rfl, ?_, b1.trans (b2.mono b1.size)⟩
      rw [frameOr_ok hbig]
      exact o2.mono_base b1.size
  clear C o1 b1
  go_wp2_with fail
  refine C2.mono ?_
  rintro e w2 ⟨v2, rfl, O⟩
  clear C2
  go_wp2_with fail
  go_ret
  exact ⟨v2, rfl, O.out⟩

set_option maxHeartbeats 1000000 in
theorem group_any {w : World} (T : Tab w) {seq : Int} (hs : In64 seq) {lo hi : Nat} {lv : Value} {L : List OpT} (h : Opl lo hi w lv L) (hhi : hi ≤ w.heap.size) (ok : ∀ o ∈ L, o.Ok) (hl : (opsB L).length + 1000 ≤ 140737488355328) :
    Calls Tryd.prog 22 #[.int .i64 seq, lv] w fun e w' => ∃ v', e = .returned (.tuple #[v', .int .i64 (groupJ seq L).2]) ∧ Own w.heap.size w' v' (groupJ seq L).1 ∧ Below w.heap.size w w' := by
  have C := framedG_any T hs h hhi ok hl
  obtain ⟨a, c, rfl, _, _⟩ := h.slice
  have hlen : L.length ≤ 140737488355328 := by
    have := flatMap_ge opB_pos L
    simp only [opsB, lstB, List.length_append] at hl
    omega
  clear T h ok hl
  by_cases h1 : seq < 1 ∨ L.length = 0
  · have HE : Hid (groupJ seq L = ([], 2)) := by show _ = _; unfold groupJ; rw [if_pos h1]
    clear C
    by_cases h0 : seq < 1
    · clear h1
      go_enter Tryd.func22, Tryd.ntmps22
      go_wp2
      go_ret2
      exact ⟨.slice none 0 0, by rw [HE.out]; rfl, by rw [HE.out]; exact Own.nil _ _, Below.refl _ _⟩
    · have h2 : L.length = 0 := by omega
      rw [h2] at *
      clear h1
      go_enter Tryd.func22, Tryd.ntmps22
      go_wp2
      go_ret2
      exact ⟨.slice none 0 0, by rw [HE.out]; rfl, by rw [HE.out]; exact Own.nil _ _, Below.refl _ _⟩
  · have hs1 : ¬ seq < 1 := by omega
    have hL : ¬ (L.length : Int) = 0 := by omega
    by_cases hbig : 131072 < (groupC seq L).length
    · have HE : Hid (groupJ seq L = ([], 9)) := by show _ = _; unfold groupJ; rw [if_neg h1, if_pos hbig]
      have C2 : Calls Tryd.prog 45 #[.iface 94 (.agg #[.int .i64 seq, .slice a L.length c])] w fun e w' => ∃ a' c', e = .returned (.slice a' 0 c') ∧ Hid (Below w.heap.size w w') := by
        refine C.mono ?_
        rintro e w1 ⟨v1, rfl, o1, b1⟩
        rw [frameOr_long hbig] at o1
        obtain ⟨a', c', rfl⟩ := o1.slice
        exact ⟨a', c', rfl, b1⟩
      clear C h1
      go_enter Tryd.func22, Tryd.ntmps22
      go_wp2_with (go_at_call 45; refine C2.mono ?_; rintro e w1 ⟨a', c', rfl, HB⟩)
      go_ret2
      exact ⟨.slice none 0 0, by rw [HE.out]; rfl, by rw [HE.out]; exact Own.nil _ _, HB.out⟩
    · have HE : Hid (groupJ seq L = (frameB (groupC seq L), 0)) := by show _ = _; unfold groupJ; rw [if_neg h1, if_neg hbig]
      have C2 : Calls Tryd.prog 45 #[.iface 94 (.agg #[.int .i64 seq, .slice a L.length c])] w fun e w' => ∃ a' n' c', e = .returned (.slice a' (n' + 1) c') ∧ Hid (Own w.heap.size w' (.slice a' (n' + 1) c') (frameB (groupC seq L)) ∧ Below w.heap.size w w') := by
        refine C.mono ?_
        rintro e w1 ⟨v1, rfl, o1, b1⟩
        rw [frameOr_ok hbig] at o1
        have o1' := o1
        obtain ⟨a', c', rfl⟩ := o1.slice
        have e : (frameB (groupC seq L)).length = (groupC seq L).length + 7 + 1 := frameB_length _
        rw [e] at o1' ⊢
        exact ⟨a', _, c', rfl, o1', b1⟩
      clear C h1
      go_enter Tryd.func22, Tryd.ntmps22
      go_wp2_with (go_at_call 45; refine C2.mono ?_; rintro e w1 ⟨a', n', c', rfl, HO⟩)
      go_ret2
      exact ⟨_, by rw [HE.out]; rfl, by rw [HE.out]; exact HO.out.1, HO.out.2⟩
end Go.Proofs.YtcheikpmhdliiaaDoor
