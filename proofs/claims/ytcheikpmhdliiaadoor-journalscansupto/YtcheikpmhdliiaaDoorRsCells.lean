import Derived.Test.YtcheikpmhdliiaaDoorRsNum
/- The contracts of the reference's num (any reader), count and text. -/
namespace Go.Proofs.YtcheikpmhdliiaaDoor
open Go.RowKit
set_option maxRecDepth 100000

theorem RS.cells {B : Nat} {w : World} {rb : Nat} {l : List UInt8} {wr : Bool} (h : RS B w rb l wr) : ∃ a c, w.heap[rb]? = some (.cells #[.slice a l.length c, .bool wr] 126 (0, 0)) ∧ Bts w (.slice a l.length c) l ∧ Low B (.slice a l.length c) l ∧ B ≤ rb := by
  obtain ⟨h0, v, h1, h2, h3⟩ := h
  obtain ⟨a, c, rfl, _, _⟩ := h2.slice
  exact ⟨a, c, h1, h2, h3, h0⟩

theorem rnum_nil {B : Nat} {w : World} {rb : Nat} {wr : Bool} (hB : B ≤ rb) (h1 : w.heap[rb]? = some (.cells #[.slice none 0 0, .bool wr] 126 (0, 0))) :
    Calls Tryd.prog 69 #[ptrOf rb] w fun e w' => TkR B w rb (Value.int .i64) (numR []) wr e w' := by
  obtain ⟨c0, f0, c1, f1⟩ := cells126 h1
  have HG : Hid _ := rs_gone hB h1
  clear hB h1
  go_enter Tryd.func69, Tryd.ntmps69
  go_wp2
  go_loop [12] (fun u12 => u12 = .int .i64 0) (fun _ => 0)
  case atStart => rfl
  case round =>
    subst hrel
    go_wp2
    go_ret
    exact ⟨0, [], true, rfl, HG.out.1, HG.out.2, .inr ⟨rfl, .inr rfl⟩, by simp⟩
theorem rnum_any {B : Nat} {w : World} {rb : Nat} {l : List UInt8} {wr : Bool} (h : RS B w rb l wr) (hl : l.length ≤ 1099511627776) :
    Calls Tryd.prog 69 #[ptrOf rb] w fun e w' => TkR B w rb (Value.int .i64) (numR l) wr e w' := by
  obtain ⟨h0, v, h1, h2, h3⟩ := h
  rcases h2 with ⟨rfl, rfl⟩ | ⟨a, cap, rfl, k2, k3, k4⟩
  · exact rnum_nil h0 h1
  · exact rnum_some h0 h1 k2 k3 k4 h3 hl

theorem countR_num {l : List UInt8} : countR l = match numR l with
    | some (x, r) => if x < 0 ∨ (r.length : Int) < x then none else some (x.toNat, r)
    | none => none := by
  unfold countR numR
  rcases numAux 0 0 l with _ | ⟨u, r⟩ <;> rfl

set_option maxHeartbeats 1000000 in
theorem rcount_any {B : Nat} {w : World} {rb : Nat} {l : List UInt8} {wr : Bool} (h : RS B w rb l wr) (hl : l.length ≤ 1099511627776) :
    Calls Tryd.prog 68 #[ptrOf rb] w fun e w' => TkR B w rb (fun n : Nat => Value.int .i64 (n : Int)) (countR l) wr e w' := by
  have C := rnum_any h hl
  clear h
  go_enter Tryd.func68, Tryd.ntmps68
  go_wp2_with fail
  refine C.mono ?_
  rintro e w1 ⟨x, l1, wr1, rfl, rs, g, sp, hl1⟩
  obtain ⟨a, c, h1, h2, h3, h4⟩ := rs.cells
  obtain ⟨c0, f0, c1, f1⟩ := cells126 h1
  by_cases hx : x < 0 ∨ (l1.length : Int) < x
  · have HW := rs_wrong h4 h1 h2 h3
    have HE : Hid (TkR B w rb (fun n : Nat => Value.int .i64 (n : Int)) (countR l) wr (.returned (.int .i64 0)) (w1.setCell ⟨rb, 1, none⟩ (.bool true))) := by
      refine ⟨0, l1, true, rfl, HW.1, grown_trans g HW.2, .inr ⟨rfl, ?_⟩, hl1⟩
      rcases sp with ⟨_, h5, h6⟩ | ⟨_, h5 | h5⟩
      · right
        rw [countR_num, h6]
        simp only
        rw [if_pos hx]
      · exact .inl h5
      · right
        rw [countR_num, h5]
    clear C rs g sp h1 h2 h3 h4 HW
    by_cases h0 : x < 0
    · clear hx
      go_wp2
      go_ret
      exact HE.out
    · have h5 : (l1.length : Int) < x := by omega
      clear hx
      go_wp2
      go_ret
      exact HE.out
  · obtain ⟨n, rfl⟩ := Int.eq_ofNat_of_zero_le (by omega : 0 ≤ x)
    have HE : Hid (TkR B w rb (fun n : Nat => Value.int .i64 (n : Int)) (countR l) wr (.returned (.int .i64 (n : Int))) w1) := by
      refine ⟨n, l1, wr1, rfl, rs, g, ?_, hl1⟩
      rcases sp with ⟨h5, h6, h7⟩ | ⟨h5, h6⟩
      · refine .inl ⟨h5, h6, ?_⟩
        rw [countR_num, h7]
        simp only
        rw [if_neg hx]
        simp
      · refine .inr ⟨h5, h6.imp id fun h => ?_⟩
        rw [countR_num, h]
    have h5 : ¬ ((l1.length : Int) < (n : Int)) := by omega
    clear C rs g sp h1 h2 h3 h4 hx
    go_wp2
    go_ret
    exact HE.out

set_option maxHeartbeats 2000000 in
theorem rtext_any {B : Nat} {w : World} {rb : Nat} {l : List UInt8} {wr : Bool} (h : RS B w rb l wr) (hl : l.length ≤ 1099511627776) :
    Calls Tryd.prog 70 #[ptrOf rb] w fun e w' => TkR B w rb Value.string (textR l) wr e w' := by
  have C := rcount_any h hl
  clear h
  go_enter Tryd.func70, Tryd.ntmps70
  go_wp2_with fail
  refine C.mono ?_
  rintro e w1 ⟨n, l1, wr1, rfl, rs, g, sp, hl1⟩
  obtain ⟨a, c, h1, h2, h3, h4⟩ := rs.cells
  obtain ⟨c0, f0, c1, f1⟩ := cells126 h1
  rcases wr1 with _ | _
  · have hq : wr = false ∧ countR l = some (n, l1) := by
      rcases sp with ⟨_, h5, h6⟩ | ⟨h5, _⟩
      · exact ⟨h5, h6⟩
      · cases h5
    obtain ⟨_, hn, _⟩ := countR_inv hq.2
    have HT : Hid (textR l = some (⟨(l1.take n).toArray⟩, l1.drop n)) := by show _ = _; unfold textR; rw [hq.2]; rfl
    have HWR : Hid (wr = false) := hq.1
    have HD : Hid ((l1.drop n).length ≤ 1099511627776) := by show _ ≤ _; rw [List.length_drop]; omega
    have HG : Hid (w.grownBy w1 (some rb)) := g
    rcases h2 with ⟨e, e2⟩ | ⟨a', cap', e, k2, k3, k4⟩
    · subst e2
      cases e
      have hn0 : n = 0 := by simpa using hn
      subst hn0
      have cv : (convert 24 9 (.slice none 0 0)).run Tryd.prog w1 = .ok (.string ⟨#[]⟩) w1 := conv_bts (.inl ⟨rfl, rfl⟩)
      have HE : Hid _ := rs_set h4 h1 (x := .slice none 0 0) (l := []) (.inl ⟨rfl, rfl⟩) (fun h => absurd rfl h)
      clear C rs g sp h1 h3 h4 hq hn
      go_wp2
      go_ret
      exact ⟨⟨#[]⟩, [], false, rfl, HE.out.1, grown_trans HG.out HE.out.2, .inl ⟨rfl, HWR.out, HT.out⟩, by simp⟩
    · cases e
      have k3' : c ≤ 9223372036854775807 := k3
      have n1 : (n : Int) ≤ (l1.length : Int) := by omega
      have n2 : (n : Int) ≤ (c : Int) := by omega
      have cv : (convert 24 9 (.slice (some a') n c)).run Tryd.prog w1 = .ok (.string ⟨(l1.take n).toArray⟩) w1 := conv_bts (Bts.part hn (by omega) k3 k4)
      by_cases hce : c = n
      · have HE : Hid (RS B (w1.setCell ⟨rb, 0, none⟩ (.slice (some a') 0 0)) rb (l1.drop n) false ∧ w1.grownBy (w1.setCell ⟨rb, 0, none⟩ (.slice (some a') 0 0)) (some rb)) := by
          have e0 : l1.drop n = [] := List.drop_eq_nil_of_le (by omega)
          rw [e0]
          exact rs_set h4 h1 (.inr ⟨a', 0, rfl, Nat.le_refl _, by decide, fun j u hj => by simp [bcells] at hj⟩) (fun h => absurd rfl h)
        have hll : l1.length - n = 0 := by omega
        clear C rs g sp h1 h3 h4 hq k3 k4
        subst hce
        go_wp2
        go_ret
        exact ⟨_, _, false, rfl, HE.out.1, grown_trans HG.out HE.out.2, .inl ⟨rfl, HWR.out, HT.out⟩, HD.out⟩
      · have HE : Hid (RS B (w1.setCell ⟨rb, 0, none⟩ (.slice (some (a'.add n)) (l1.length - n) (c - n))) rb (l1.drop n) false ∧ w1.grownBy (w1.setCell ⟨rb, 0, none⟩ (.slice (some (a'.add n)) (l1.length - n) (c - n))) (some rb)) := by
          refine rs_set h4 h1 ?_ (fun hne a2 n2 c2 e => by
            cases e
            rw [addr_block]
            exact h3 (by rintro rfl; simp at hne) _ _ _ rfl)
          rcases Nat.eq_zero_or_pos n with z | z
          · subst z
            rw [add_zero_addr]
            exact .inr ⟨a', c, by simp, by simpa using k2, k3, by simpa using k4⟩
          · have := Bts.later (m := n) (n := l1.length - n) (by omega) (by omega) (by omega) k3 k4
            rwa [List.take_of_length_le (by simp)] at this
        clear C rs g sp h1 h3 h4 hq k3 k4
        go_wp2
        go_ret
        exact ⟨_, _, false, rfl, HE.out.1, grown_trans HG.out HE.out.2, .inl ⟨rfl, HWR.out, HT.out⟩, HD.out⟩
  · have HE : Hid (TkR B w rb Value.string (textR l) wr (.returned (.string ⟨#[]⟩)) w1) := by
      refine ⟨⟨#[]⟩, l1, true, rfl, rs, g, .inr ⟨rfl, ?_⟩, hl1⟩
      rcases sp with ⟨h5, _⟩ | ⟨_, h5 | h5⟩
      · cases h5
      · exact .inl h5
      · right
        unfold textR
        rw [h5]
        rfl
    clear C rs g sp h1 h2 h3 h4
    go_wp2
    go_ret
    exact HE.out
end Go.Proofs.YtcheikpmhdliiaaDoor

/- The contracts of the reference's value, name and link. -/
namespace Go.Proofs.YtcheikpmhdliiaaDoor
open Go.RowKit
set_option maxRecDepth 100000

theorem take_endR {B : Nat} {w wn : World} {rb : Nat} {r : List UInt8} {wr : Bool} {t : TypeId} {zv : Value} {sz bytes : Nat} {zs es : Array Value} (hrb : rb < w.heap.size) (g : (w.alloc (.cells zs t)).grownBy wn (some rb)) (rs : RS B wn rb r wr)
    (hinf : (Tryd.prog.info? t).map (fun i => (i.zero, i.size, i.bytes)) = some (some zv, sz, bytes)) (hz : zs.size = sz) (he : es.size = sz) (h1 : es.all (·.oneCell') = true) :
    ∃ w', Hid ((Instr.storeAt t (.pointer (some ⟨w.heap.size, 0, none⟩)) (.agg es)).run Tryd.prog wn = .ok () w') ∧ Hid (w'.heap[w.heap.size]? = some (.cells es t (0, 0))) ∧ Hid (RS B w' rb r wr ∧ w.grownBy w' (some rb)) := by
  have hi : (Tryd.prog.info? t).map (·.size) = some es.size := by
    cases hq : Tryd.prog.info? t with
    | none => simp [hq] at hinf
    | some i => simp [hq] at hinf ⊢; omega
  have hg : wn.heap[w.heap.size]? = some (.cells zs t (0, 0)) := (g.block _ (by simp) (by simp; omega)).trans (heap_alloc_new w _)
  have hr := run_storeVar_row (P := Tryd.prog) wn w.heap.size t t zs es hg hi (by omega) h1
  have hbl : Below w.heap.size wn (wn.setRow w.heap.size es) := setRow_below (Below.refl _ _) (Nat.le_refl _)
  refine ⟨wn.setRow w.heap.size es, ?_, setRow_heap _ _ _ _ _ _ hg, rs.kept hrb hbl, ?_⟩
  · show _ = _
    simp only [Instr.storeAt, Instr.sureAddr, Sem.run_bind, Sem.run_pure, Result.andThen_ok, hr]
  · exact grown_below (grown_trans grown_alloc g) hbl (Nat.le_refl _)

set_option maxHeartbeats 4000000 in
theorem rvalue_any {B : Nat} {w : World} {rb : Nat} {l : List UInt8} {wr : Bool} (h : RS B w rb l wr) (hrb : rb < w.heap.size) (hl : l.length ≤ 1099511627776) :
    Calls Tryd.prog 88 #[ptrOf rb] w fun e w' => TkR B w rb valV (valR l) wr e w' := by
  have rs0 : Hid (RS B (w.alloc (.cells #[.int .i64 0, .int .i64 0, .string ⟨#[]⟩] 53)) rb l wr) := h.kept hrb ((Below.refl _ _).alloc (Nat.le_refl _) _)
  have C1 := rnum_any rs0.out hl
  clear h
  go_enter Tryd.func88, Tryd.ntmps88
  go_wp2_with fail
  refine C1.mono ?_
  rintro e w1 ⟨x1, l1, wr1, rfl, rs, g, s1, hl1⟩
  have S1 : Hid _ := s1
  have G1 : Hid _ := g
  have C2 := rnum_any rs hl1
  clear C1 rs s1 g rs0
  go_wp2_with fail
  refine C2.mono ?_
  rintro e w2 ⟨x2, l2, wr2, rfl, rs, g, s2, hl2⟩
  have S2 : Hid _ := s2
  have G2 : Hid _ := grown_trans G1.out g
  have C3 := rtext_any rs hl2
  clear C2 rs s2 g G1
  go_wp2_with fail
  refine C3.mono ?_
  rintro e w3 ⟨x3, l3, wr3, rfl, rs, g, s3, hl3⟩
  have S3 : Hid _ := s3
  have G3 : Hid _ := grown_trans G2.out g
  obtain ⟨wz, RZ, HZ, HE⟩ := take_endR (es := #[.int .i64 x1, .int .i64 x2, .string x3]) hrb G3.out rs inf53 rfl rfl (by simp [Value.oneCell'])
  clear C3 rs s3 g G2
  go_wp2_with (refine wpList_store_run rfl 53 _ _ rfl _ _ _ rfl rfl RZ.out ?_)
  refine bodyPost_ret_by (results_cell_row rfl _ _ w.heap.size 53 _ (0, 0) _ rfl HZ.out Tryd.underlying53 rfl (by kernel_rfl)) rfl ⟨⟨x1, x2, x3⟩, l3, wr3, rfl, HE.out.1, HE.out.2, ?_, hl3⟩
  exact Sp.bindK S1.out (Sp.bindK S2.out (Sp.bindK S3.out (Sp.pure wr3 _ l3)))

set_option maxHeartbeats 4000000 in
theorem rname_any {B : Nat} {w : World} {rb : Nat} {l : List UInt8} {wr : Bool} (h : RS B w rb l wr) (hrb : rb < w.heap.size) (hl : l.length ≤ 1099511627776) :
    Calls Tryd.prog 71 #[ptrOf rb] w fun e w' => TkR B w rb nameV (nameR l) wr e w' := by
  have rs0 : Hid (RS B (w.alloc (.cells #[.string ⟨#[]⟩, .string ⟨#[]⟩, .string ⟨#[]⟩] 51)) rb l wr) := h.kept hrb ((Below.refl _ _).alloc (Nat.le_refl _) _)
  have C1 := rtext_any rs0.out hl
  clear h
  go_enter Tryd.func71, Tryd.ntmps71
  go_wp2_with fail
  refine C1.mono ?_
  rintro e w1 ⟨x1, l1, wr1, rfl, rs, g, s1, hl1⟩
  have S1 : Hid _ := s1
  have G1 : Hid _ := g
  have C2 := rtext_any rs hl1
  clear C1 rs s1 g rs0
  go_wp2_with fail
  refine C2.mono ?_
  rintro e w2 ⟨x2, l2, wr2, rfl, rs, g, s2, hl2⟩
  have S2 : Hid _ := s2
  have G2 : Hid _ := grown_trans G1.out g
  have C3 := rtext_any rs hl2
  clear C2 rs s2 g G1
  go_wp2_with fail
  refine C3.mono ?_
  rintro e w3 ⟨x3, l3, wr3, rfl, rs, g, s3, hl3⟩
  have S3 : Hid _ := s3
  have G3 : Hid _ := grown_trans G2.out g
  obtain ⟨wz, RZ, HZ, HE⟩ := take_endR (es := #[.string x1, .string x2, .string x3]) hrb G3.out rs inf51 rfl rfl (by simp [Value.oneCell'])
  clear C3 rs s3 g G2
  go_wp2_with (refine wpList_store_run rfl 51 _ _ rfl _ _ _ rfl rfl RZ.out ?_)
  refine bodyPost_ret_by (results_cell_row rfl _ _ w.heap.size 51 _ (0, 0) _ rfl HZ.out Tryd.underlying51 rfl (by kernel_rfl)) rfl ⟨⟨x1, x2, x3⟩, l3, wr3, rfl, HE.out.1, HE.out.2, ?_, hl3⟩
  exact Sp.bindK S1.out (Sp.bindK S2.out (Sp.bindK S3.out (Sp.pure wr3 _ l3)))

set_option maxHeartbeats 4000000 in
theorem rlink_any {B : Nat} {w : World} {rb : Nat} {l : List UInt8} {wr : Bool} (h : RS B w rb l wr) (hrb : rb < w.heap.size) (hl : l.length ≤ 1099511627776) :
    Calls Tryd.prog 72 #[ptrOf rb] w fun e w' => TkR B w rb linkV (linkR l) wr e w' := by
  have rs0 : Hid (RS B (w.alloc (.cells #[.string ⟨#[]⟩, .string ⟨#[]⟩, .int .i64 0, .int .i64 0, .int .i64 0, .int .i64 0, .string ⟨#[]⟩] 55)) rb l wr) := h.kept hrb ((Below.refl _ _).alloc (Nat.le_refl _) _)
  have C1 := rtext_any rs0.out hl
  clear h
  go_enter Tryd.func72, Tryd.ntmps72
  go_wp2_with fail
  refine C1.mono ?_
  rintro e w1 ⟨x1, l1, wr1, rfl, rs, g, s1, hl1⟩
  have S1 : Hid _ := s1
  have G1 : Hid _ := g
  have C2 := rtext_any rs hl1
  clear C1 rs s1 g rs0
  go_wp2_with fail
  refine C2.mono ?_
  rintro e w2 ⟨x2, l2, wr2, rfl, rs, g, s2, hl2⟩
  have S2 : Hid _ := s2
  have G2 : Hid _ := grown_trans G1.out g
  have C3 := rnum_any rs hl2
  clear C2 rs s2 g G1
  go_wp2_with fail
  refine C3.mono ?_
  rintro e w3 ⟨x3, l3, wr3, rfl, rs, g, s3, hl3⟩
  have S3 : Hid _ := s3
  have G3 : Hid _ := grown_trans G2.out g
  have C4 := rnum_any rs hl3
  clear C3 rs s3 g G2
  go_wp2_with fail
  refine C4.mono ?_
  rintro e w4 ⟨x4, l4, wr4, rfl, rs, g, s4, hl4⟩
  have S4 : Hid _ := s4
  have G4 : Hid _ := grown_trans G3.out g
  have C5 := rvalue_any rs (Nat.lt_of_lt_of_le (by simpa using Nat.lt_succ_of_lt hrb) G4.out.size) hl4
  clear C4 rs s4 g G3
  go_wp2_with fail
  refine C5.mono ?_
  rintro e w5 ⟨x5, l5, wr5, rfl, rs, g, s5, hl5⟩
  have S5 : Hid _ := s5
  have G5 : Hid _ := grown_trans G4.out g
  obtain ⟨wz, RZ, HZ, HE⟩ := take_endR (es := #[.string x1, .string x2, .int .i64 x3, .int .i64 x4, .int .i64 x5.kind, .int .i64 x5.n, .string x5.s]) hrb G5.out rs inf55 rfl rfl (by simp [Value.oneCell'])
  clear C5 rs s5 g G4
  go_wp2_with (refine wpList_store_run rfl 55 _ _ rfl _ _ _ rfl rfl RZ.out ?_)
  refine bodyPost_ret_by (results_cell_row rfl _ _ w.heap.size 55 _ (0, 0) _ rfl HZ.out Tryd.underlying55 rfl (by kernel_rfl)) rfl ⟨⟨x1, x2, x3, x4, x5⟩, l5, wr5, rfl, HE.out.1, HE.out.2, ?_, hl5⟩
  exact Sp.bindK S1.out (Sp.bindK S2.out (Sp.bindK S3.out (Sp.bindK S4.out (Sp.bindK S5.out (Sp.pure wr5 _ l5)))))

end Go.Proofs.YtcheikpmhdliiaaDoor

/- The contract of the reference's cells (read). -/
namespace Go.Proofs.YtcheikpmhdliiaaDoor
open Go.RowKit
set_option maxRecDepth 100000

/-- How far a list has been read. -/
def Sq {α : Type} (R : Rdr α) (n : Nat) (l0 : List UInt8) (wr0 : Bool) (xs : List α) (li : List UInt8) (wri : Bool) : Prop :=
  (wri = false ∧ wr0 = false ∧ xs.length ≤ n ∧ n ≤ 1099511627776 ∧ itemsR R n l0 = (itemsR R (n - xs.length) li).bind fun p => some (xs ++ p.1, p.2)) ∨ (wri = true ∧ (wr0 = true ∨ itemsR R n l0 = none))
theorem Sq.start {α : Type} {R : Rdr α} {wr wr0 : Bool} {l l0 : List UInt8} {n : Nat} (s : Sp wr (countR l) n l0 wr0) (hl : l0.length ≤ 1099511627776) : Sq R n l0 wr0 [] l0 wr0 := by
  rcases s with ⟨rfl, _, q⟩ | ⟨rfl, _⟩
  · obtain ⟨_, h, _⟩ := countR_inv q
    exact .inl ⟨rfl, rfl, Nat.zero_le _, by omega, items_start _⟩
  · exact .inr ⟨rfl, .inl rfl⟩
theorem Sq.step {α : Type} {R : Rdr α} {n : Nat} {l0 : List UInt8} {wr0 : Bool} {xs : List α} {li : List UInt8} (h : Sq R n l0 wr0 xs li false) (hlt : xs.length < n) {x : α} {l' : List UInt8} {wr' : Bool} (s : Sp false (R li) x l' wr') : Sq R n l0 wr0 (xs ++ [x]) l' wr' := by
  rcases h with ⟨_, h1, h2, h3, h4⟩ | ⟨h, _⟩
  · obtain ⟨m, hm⟩ : ∃ m, n - xs.length = m + 1 := ⟨n - xs.length - 1, by omega⟩
    rcases s with ⟨rfl, _, q⟩ | ⟨rfl, q | q⟩
    · refine .inl ⟨rfl, h1, by simp; omega, h3, ?_⟩
      rw [List.length_append]
      exact itemsR_step hm q h4
    · cases q
    · refine .inr ⟨rfl, .inr ?_⟩
      rw [h4, hm, itemsR_none q]
      rfl
  · cases h
theorem Sq.stop {α : Type} {R : Rdr α} {n : Nat} {l0 : List UInt8} {wr0 : Bool} {xs : List α} {li : List UInt8} {wri : Bool} (h : Sq R n l0 wr0 xs li wri) (he : wri = false → n ≤ xs.length) : Sp wr0 (itemsR R n l0) xs li wri := by
  rcases h with ⟨rfl, h1, h2, h3, h4⟩ | ⟨rfl, h⟩
  · refine .inl ⟨rfl, h1, ?_⟩
    have := he rfl
    rw [h4, show n - xs.length = 0 by omega]
    simp [itemsR]
  · exact .inr ⟨rfl, h⟩
theorem Sq.few {α : Type} {R : Rdr α} {n : Nat} {l0 : List UInt8} {wr0 : Bool} {xs : List α} {li : List UInt8} (h : Sq R n l0 wr0 xs li false) : n ≤ 1099511627776 := by
  rcases h with ⟨_, _, _, h, _⟩ | ⟨h, _⟩
  · exact h
  · cases h

def TkRC (base B : Nat) (w : World) (rb : Nat) (o : Option (List CellT × List UInt8)) (wr : Bool) (e : Ending) (w' : World) : Prop :=
  ∃ v xs l' wr', e = .returned v ∧ OwnCl base w' v xs ∧ RS B w' rb l' wr' ∧ w.grownBy w' (some rb) ∧ Sp wr o xs l' wr' ∧ l'.length ≤ 1099511627776

set_option maxHeartbeats 4000000 in
theorem rcells_any {B : Nat} {w : World} {rb : Nat} {l : List UInt8} {wq : Bool} (h : RS B w rb l wq) (hrb : rb < w.heap.size) (hl : l.length ≤ 1099511627776) :
    Calls Tryd.prog 73 #[ptrOf rb] w fun e w' => TkRC w.heap.size B w rb (lstR cellR l) wq e w' := by
  have C := rcount_any h hl
  have HRB : Hid (rb < w.heap.size) := hrb
  clear h hrb
  go_enter Tryd.func73, Tryd.ntmps73
  go_wp2_with fail
  refine C.mono ?_
  rintro e w1 ⟨n, l0, wr0, rfl, rs, g, s0, hl0⟩
  have S0 : Hid (Sp wq (countR l) n l0 wr0) := s0
  have ST : Hid (∃ li wri, RS B w1 rb li wri ∧ w.grownBy w1 (some rb) ∧ Sq cellR n l0 wr0 [] li wri ∧ li.length ≤ 1099511627776) := ⟨l0, wr0, rs, g, Sq.start s0 hl0, hl0⟩
  clear C rs g s0
  go_wp2_with fail
  go_loopw [3, 5] (fun u3 u5 wk => ∃ i : Nat, u5 = .int .i64 i ∧ ∃ xs, xs.length = i ∧ Hid (OwnCl w.heap.size wk u3 xs) ∧ Hid (∃ li wri, RS B wk rb li wri ∧ w.grownBy wk (some rb) ∧ Sq cellR n l0 wr0 xs li wri ∧ li.length ≤ 1099511627776)) (fun _ u5 _ => n - (intOf u5).toNat)
  case atStart => exact ⟨0, rfl, [], rfl, OwnR.nil _ _ _ _ _, ST⟩
  case round =>
    obtain ⟨i, rfl, xs, hxi, HO, HS⟩ := hrel
    clear ST
    obtain ⟨li, wri, rs, g, sq, hli⟩ := HS.out
    clear HS
    obtain ⟨a, c, h1, h2, h3, h4⟩ := rs.cells
    obtain ⟨c0, f0, c1, f1⟩ := cells126 h1
    by_cases hgo : i < n ∧ wri = false
    · obtain ⟨hlt, rfl⟩ := hgo
      have hn40 := sq.few
      have C1 := rnum_any rs hli
      have SQ : Hid (Sq cellR n l0 wr0 xs li false) := sq
      have G0 : Hid (w.grownBy wr (some rb)) := g
      clear rs g sq h1 h2 h3 h4
      go_wp2_with fail
      refine C1.mono ?_
      rintro e w2 ⟨x1, l1, wr1, rfl, rs1, g1, s1, hl1⟩
      have C2 := rnum_any rs1 hl1
      have S1 : Hid (Sp false (numR li) x1 l1 wr1) := s1
      have G1 : Hid _ := grown_trans G0.out g1
      have K1 : Hid _ := g1
      clear C1 rs1 g1 s1 G0 c0 f0 c1 f1
      go_wp2_with fail
      refine C2.mono ?_
      rintro e w3 ⟨x2, l2, wr2, rfl, rs2, g2, s2, hl2⟩
      have S2 : Hid (Sp wr1 (numR l1) x2 l2 wr2) := s2
      have G2 : Hid _ := grown_trans G1.out g2
      have K2 : Hid _ := grown_trans K1.out g2
      have C3 : Calls Tryd.prog 70 #[ptrOf rb] w3 fun e w4 => ∃ (x3 : ByteArray) (v4 : Value) (w5 : World), e = .returned (.string x3) ∧ Hid ((Builtin.append_ #[56, 56] 56 #[u3, .slice (some ⟨w4.heap.size, 0, none⟩) 1 1]).run Tryd.prog (w4.alloc (.cells #[.int .i64 x1, .int .i64 x2, .string x3] 104)) = .ok v4 w5) ∧
          Hid (∃ xs', xs'.length = i + 1 ∧ OwnCl w.heap.size w5 v4 xs' ∧ ∃ li wri, RS B w5 rb li wri ∧ w.grownBy w5 (some rb) ∧ Sq cellR n l0 wr0 xs' li wri ∧ li.length ≤ 1099511627776) := by
        refine (rtext_any rs2 hl2).mono ?_
        rintro e w4 ⟨x3, l3, wr3, rfl, rs3, g3, s3, hl3⟩
        have G3 := grown_trans G2.out g3
        have K3 := grown_trans K2.out g3
        have hsz : w.heap.size ≤ w4.heap.size := G3.size
        have ho : OwnCl w.heap.size w4 u3 xs := OwnR.of_block HO.out fun b hb => K3.block b (OwnR.lt HO.out hb).2 (by have := (OwnR.lt HO.out hb).1; have := HRB.out; simp; omega)
        obtain ⟨v4, w5, r5, o5, b5⟩ := own_cell ho hsz ⟨x1, x2, x3⟩ (by omega)
        have sp : Sp false (cellR li) (⟨x1, x2, x3⟩ : CellT) l3 wr3 := by
          unfold cellR
          exact Sp.bindK S1.out (Sp.bindK S2.out (Sp.bindK s3 (Sp.pure wr3 _ l3)))
        exact ⟨x3, v4, w5, rfl, r5, xs ++ [⟨x1, x2, x3⟩], by simp [hxi], o5, l3, wr3, rs3.kept HRB.out b5, grown_below G3 b5 (Nat.le_refl _), SQ.out.step (by omega) sp, hl3⟩
      clear C2 rs2 g2 s2 S1 S2 G1 G2 K1 K2 SQ
      go_wp2_with fail
      refine C3.mono ?_
      rintro e w4 ⟨x3, v4, w5, rfl, R5, HF⟩
      clear C3
      go_wp2_with (at_builtin; refine wpList_append_run rfl _ _ 56 rfl _ _ _ _ rfl rfl R5.out ?_)
      have HF2 : Hid (∃ xs', xs'.length = i + 1 ∧ Hid (OwnCl w.heap.size w5 v4 xs') ∧ Hid (∃ li wri, RS B w5 rb li wri ∧ w.grownBy w5 (some rb) ∧ Sq cellR n l0 wr0 xs' li wri ∧ li.length ≤ 1099511627776)) := by
        obtain ⟨xs', e1, e2, e3⟩ := HF.out
        exact ⟨xs', e1, e2, e3⟩
      clear R5 HF
      go_roundw
      case rel => exact ⟨i + 1, by go_num, HF2.out⟩
      case measure => simp [intOf]; omega
    · have HT : Hid (TkRC w.heap.size B w rb (lstR cellR l) wq (.returned u3) wr) :=
        ⟨u3, xs, li, wri, rfl, HO.out, rs, g, Sp.bindK S0.out (sq.stop fun hw => by
          have : ¬ i < n := fun h => hgo ⟨h, hw⟩
          omega), hli⟩
      clear rs g sq h1 h2 h3 h4
      by_cases hlt : i < n
      · have hw : wri = true := by
          cases wri
          · exact absurd ⟨hlt, rfl⟩ hgo
          · rfl
        subst hw
        clear hgo
        go_wp2_with fail
        go_ret
        exact HT.out
      · clear hgo
        go_wp2_with fail
        go_ret
        exact HT.out
end Go.Proofs.YtcheikpmhdliiaaDoor
