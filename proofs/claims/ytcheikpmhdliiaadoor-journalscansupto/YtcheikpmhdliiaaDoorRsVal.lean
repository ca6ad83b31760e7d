/- The contracts of the reference's value, name and link. -/
import Derived.Test.YtcheikpmhdliiaaDoorRsText
namespace Go.Proofs.YtcheikpmhdliiaaDoor
open Go.RowKit
set_option maxRecDepth 100000

theorem take_endR {B : Nat} {w wn : World} {rb : Nat} {r : List UInt8} {wr : Bool} {t : TypeId} {zv : Value} {sz bytes : Nat} {zs es : Array Value} (hrb : rb < w.heap.size) (g : (w.alloc (.cells zs t)).grownBy wn (some rb)) (rs : RS B wn rb r wr)
    (hinf : (Tryd.prog.info? t).map (fun i => (i.zero, i.size, i.bytes)) = some (some zv, sz, bytes)) (hz : zs.size = sz) (he : es.size = sz) (h1 : es.all (·.oneCell') = true) :
    ∃ w', Hid ((Instr.storeAt t (.pointer (some ⟨w.heap.size, 0, none⟩)) (.agg es)).run Tryd.prog wn = .ok () w') ∧ Hid (w'.heap[w.heap.size]? = some (.cells es t (0, 0))) ∧ Hid (RS B w' rb r wr ∧ w.grownBy w' (some rb)) := by
  have hi : (Tryd.prog.info? t).map (·.size) = some es.size := by
    cases hq : Tryd.prog.info? t with
    | none => simp [hq] at hinf
    | some i => simp [hq] at hinf ⊢; omega
  have hg : wn.heap[w.heap.size]? = some (.cells zs t (0, 0)) := (g.block _ (by simp) (by simp; omega)).trans (heap_alloc_new w _)
  have hr := run_storeVar_row (P := Tryd.prog) wn w.heap.size t t zs es hg hi (by omega) h1
  have hbl : Below w.heap.size wn (wn.setRow w.heap.size es) := setRow_below (Below.refl _ _) (Nat.le_refl _)
  refine ⟨wn.setRow w.heap.size es, ?_, setRow_heap _ _ _ _ _ _ hg, rs.kept hrb hbl, ?_⟩
  · show _ = _
    simp only [Instr.storeAt, Instr.sureAddr, Sem.run_bind, Sem.run_pure, Result.andThen_ok, hr]
  · exact grown_below (grown_trans grown_alloc g) hbl (Nat.le_refl _)

set_option maxHeartbeats 4000000 in
theorem rvalue_any {B : Nat} {w : World} {rb : Nat} {l : List UInt8} {wr : Bool} (h : RS B w rb l wr) (hrb : rb < w.heap.size) (hl : l.length ≤ 1099511627776) :
    Calls Tryd.prog 88 #[ptrOf rb] w fun e w' => TkR B w rb valV (valR l) wr e w' := by
  have rs0 : Hid (RS B (w.alloc (.cells #[.int .i64 0, .int .i64 0, .string ⟨#[]⟩] 53)) rb l wr) := h.kept hrb ((Below.refl _ _).alloc (Nat.le_refl _) _)
  have C1 := rnum_any rs0.out hl
  clear h
  go_enter Tryd.func88, Tryd.ntmps88
  go_wp2_with fail
  refine C1.mono ?_
  rintro e w1 ⟨x1, l1, wr1, rfl, rs, g, s1, hl1⟩
  have S1 : Hid _ := s1
  have G1 : Hid _ := g
  have C2 := rnum_any rs hl1
  clear C1 rs s1 g rs0
  go_wp2_with fail
  refine C2.mono ?_
  rintro e w2 ⟨x2, l2, wr2, rfl, rs, g, s2, hl2⟩
  have S2 : Hid _ := s2
  have G2 : Hid _ := grown_trans G1.out g
  have C3 := rtext_any rs hl2
  clear C2 rs s2 g G1
  go_wp2_with fail
  refine C3.mono ?_
  rintro e w3 ⟨x3, l3, wr3, rfl, rs, g, s3, hl3⟩
  have S3 : Hid _ := s3
  have G3 : Hid _ := grown_trans G2.out g
  obtain ⟨wz, RZ, HZ, HE⟩ := take_endR (es := #[.int .i64 x1, .int .i64 x2, .string x3]) hrb G3.out rs inf53 rfl rfl (by simp [Value.oneCell'])
  clear C3 rs s3 g G2
  go_wp2_with (refine wpList_store_run rfl 53 _ _ rfl _ _ _ rfl rfl RZ.out ?_)
  refine bodyPost_ret_by (results_cell_row rfl _ _ w.heap.size 53 _ (0, 0) _ rfl HZ.out Tryd.underlying53 rfl (by kernel_rfl)) rfl ⟨⟨x1, x2, x3⟩, l3, wr3, rfl, HE.out.1, HE.out.2, ?_, hl3⟩
  exact Sp.bindK S1.out (Sp.bindK S2.out (Sp.bindK S3.out (Sp.pure wr3 _ l3)))

set_option maxHeartbeats 4000000 in
theorem rname_any {B : Nat} {w : World} {rb : Nat} {l : List UInt8} {wr : Bool} (h : RS B w rb l wr) (hrb : rb < w.heap.size) (hl : l.length ≤ 1099511627776) :
    Calls Tryd.prog 71 #[ptrOf rb] w fun e w' => TkR B w rb nameV (nameR l) wr e w' := by
  have rs0 : Hid (RS B (w.alloc (.cells #[.string ⟨#[]⟩, .string ⟨#[]⟩, .string ⟨#[]⟩] 51)) rb l wr) := h.kept hrb ((Below.refl _ _).alloc (Nat.le_refl _) _)
  have C1 := rtext_any rs0.out hl
  clear h
  go_enter Tryd.func71, Tryd.ntmps71
  go_wp2_with fail
  refine C1.mono ?_
  rintro e w1 ⟨x1, l1, wr1, rfl, rs, g, s1, hl1⟩
  have S1 : Hid _ := s1
  have G1 : Hid _ := g
  have C2 := rtext_any rs hl1
  clear C1 rs s1 g rs0
  go_wp2_with fail
  refine C2.mono ?_
  rintro e w2 ⟨x2, l2, wr2, rfl, rs, g, s2, hl2⟩
  have S2 : Hid _ := s2
  have G2 : Hid _ := grown_trans G1.out g
  have C3 := rtext_any rs hl2
  clear C2 rs s2 g G1
  go_wp2_with fail
  refine C3.mono ?_
  rintro e w3 ⟨x3, l3, wr3, rfl, rs, g, s3, hl3⟩
  have S3 : Hid _ := s3
  have G3 : Hid _ := grown_trans G2.out g
  obtain ⟨wz, RZ, HZ, HE⟩ := take_endR (es := #[.string x1, .string x2, .string x3]) hrb G3.out rs inf51 rfl rfl (by simp [Value.oneCell'])
  clear C3 rs s3 g G2
  go_wp2_with (refine wpList_store_run rfl 51 _ _ rfl _ _ _ rfl rfl RZ.out ?_)
  refine bodyPost_ret_by (results_cell_row rfl _ _ w.heap.size 51 _ (0, 0) _ rfl HZ.out Tryd.underlying51 rfl (by kernel_rfl)) rfl ⟨⟨x1, x2, x3⟩, l3, wr3, rfl, HE.out.1, HE.out.2, ?_, hl3⟩
  exact Sp.bindK S1.out (Sp.bindK S2.out (Sp.bindK S3.out (Sp.pure wr3 _ l3)))

set_option maxHeartbeats 4000000 in
theorem rlink_any {B : Nat} {w : World} {rb : Nat} {l : List UInt8} {wr : Bool} (h : RS B w rb l wr) (hrb : rb < w.heap.size) (hl : l.length ≤ 1099511627776) :
    Calls Tryd.prog 72 #[ptrOf rb] w fun e w' => TkR B w rb linkV (linkR l) wr e w' := by
  have rs0 : Hid (RS B (w.alloc (.cells #[.string ⟨#[]⟩, .string ⟨#[]⟩, .int .i64 0, .int .i64 0, .int .i64 0, .int .i64 0, .string ⟨#[]⟩] 55)) rb l wr) := h.kept hrb ((Below.refl _ _).alloc (Nat.le_refl _) _)
  have C1 := rtext_any rs0.out hl
  clear h
  go_enter Tryd.func72, Tryd.ntmps72
  go_wp2_with fail
  refine C1.mono ?_
  rintro e w1 ⟨x1, l1, wr1, rfl, rs, g, s1, hl1⟩
  have S1 : Hid _ := s1
  have G1 : Hid _ := g
  have C2 := rtext_any rs hl1
  clear C1 rs s1 g rs0
  go_wp2_with fail
  refine C2.mono ?_
  rintro e w2 ⟨x2, l2, wr2, rfl, rs, g, s2, hl2⟩
  have S2 : Hid _ := s2
  have G2 : Hid _ := grown_trans G1.out g
  have C3 := rnum_any rs hl2
  clear C2 rs s2 g G1
  go_wp2_with fail
  refine C3.mono ?_
  rintro e w3 ⟨x3, l3, wr3, rfl, rs, g, s3, hl3⟩
  have S3 : Hid _ := s3
  have G3 : Hid _ := grown_trans G2.out g
  have C4 := rnum_any rs hl3
  clear C3 rs s3 g G2
  go_wp2_with fail
  refine C4.mono ?_
  rintro e w4 ⟨x4, l4, wr4, rfl, rs, g, s4, hl4⟩
  have S4 : Hid _ := s4
  have G4 : Hid _ := grown_trans G3.out g
  have C5 := rvalue_any rs (Nat.lt_of_lt_of_le (by simpa using Nat.lt_succ_of_lt hrb) G4.out.size) hl4
  clear C4 rs s4 g G3
  go_wp2_with fail
  refine C5.mono ?_
  rintro e w5 ⟨x5, l5, wr5, rfl, rs, g, s5, hl5⟩
  have S5 : Hid _ := s5
  have G5 : Hid _ := grown_trans G4.out g
  obtain ⟨wz, RZ, HZ, HE⟩ := take_endR (es := #[.string x1, .string x2, .int .i64 x3, .int .i64 x4, .int .i64 x5.kind, .int .i64 x5.n, .string x5.s]) hrb G5.out rs inf55 rfl rfl (by simp [Value.oneCell'])
  clear C5 rs s5 g G4
  go_wp2_with (refine wpList_store_run rfl 55 _ _ rfl _ _ _ rfl rfl RZ.out ?_)
  refine bodyPost_ret_by (results_cell_row rfl _ _ w.heap.size 55 _ (0, 0) _ rfl HZ.out Tryd.underlying55 rfl (by kernel_rfl)) rfl ⟨⟨x1, x2, x3, x4, x5⟩, l5, wr5, rfl, HE.out.1, HE.out.2, ?_, hl5⟩
  exact Sp.bindK S1.out (Sp.bindK S2.out (Sp.bindK S3.out (Sp.bindK S4.out (Sp.bindK S5.out (Sp.pure wr5 _ l5)))))

end Go.Proofs.YtcheikpmhdliiaaDoor
