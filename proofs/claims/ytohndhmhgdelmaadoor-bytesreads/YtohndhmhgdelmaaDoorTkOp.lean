/- The contract of takeOp. -/
import Derived.Test.YtohndhmhgdelmaaDoorTkCells
namespace Go.Proofs.YtohndhmhgdelmaaDoor
open Go.RowKit
set_option maxRecDepth 100000

theorem OwnR.mono {base base' : Nat} {t : TypeId} {sz : Nat} {w : World} {v : Value} {n : Nat} {C : Nat → List Value} (h : OwnR base t sz w v n C) (hb : base' ≤ base) : OwnR base' t sz w v n C := by
  obtain ⟨xs, h1, h2⟩ := h
  refine ⟨xs, ⟨h1.1, ?_⟩, h2⟩
  rcases h1.2 with hn | ⟨g, cap, cur, rfl, hg, rest⟩
  · exact .inl hn
  · exact .inr ⟨g, cap, cur, rfl, by omega, rest⟩
theorem take_end2 {B : Nat} {w wn : World} {rb : Nat} {r : List UInt8} {t : TypeId} {zv : Value} {sz bytes : Nat} {zs es : Array Value} (hB : B ≤ w.heap.size) (hrb : rb < w.heap.size) (g : (w.alloc (.cells zs t)).grownBy wn (some rb)) (rd : Rd B wn rb r)
    (hinf : (Tryd.prog.info? t).map (fun i => (i.zero, i.size, i.bytes)) = some (some zv, sz, bytes)) (hz : zs.size = sz) (he : es.size = sz) (h1 : es.all (·.oneCell') = true) :
    ∃ w', Hid ((Instr.storeAt t (.pointer (some ⟨w.heap.size, 0, none⟩)) (.agg es)).run Tryd.prog wn = .ok () w') ∧ Hid (w'.heap[w.heap.size]? = some (.cells es t (0, 0))) ∧ Hid (Rd B w' rb r ∧ w.grownBy w' (some rb)) ∧ Hid (∀ i, i ≠ w.heap.size → w'.heap[i]? = wn.heap[i]?) := by
  have hi : (Tryd.prog.info? t).map (·.size) = some es.size := by
    cases hq : Tryd.prog.info? t with
    | none => simp [hq] at hinf
    | some i => simp [hq] at hinf ⊢; omega
  have hg : wn.heap[w.heap.size]? = some (.cells zs t (0, 0)) := (g.block _ (by simp) (by simp; omega)).trans (heap_alloc_new w _)
  have hr := run_storeVar_row (P := Tryd.prog) wn w.heap.size t t zs es hg hi (by omega) h1
  have hbl : Below w.heap.size wn (wn.setRow w.heap.size es) := setRow_below (Below.refl _ _) (Nat.le_refl _)
  refine ⟨wn.setRow w.heap.size es, ?_, setRow_heap _ _ _ _ _ _ hg, ⟨rd.kept hB hrb hbl, ?_⟩, fun i hi => setRow_other hi⟩
  · show _ = _
    simp only [Instr.storeAt, Instr.sureAddr, Sem.run_bind, Sem.run_pure, Result.andThen_ok, hr]
  · exact grown_below (grown_trans grown_alloc g) hbl (Nat.le_refl _)

def TkO (base B : Nat) (w : World) (rb : Nat) (o : Option (OpT × List UInt8)) (e : Ending) (w' : World) : Prop :=
  (∃ cv x r, o = some (x, r) ∧ e = .returned (opV x cv) ∧ OwnCl base w' cv x.cells ∧ Rd B w' rb r ∧ w.grownBy w' (some rb)) ∨ (o = none ∧ e = .panicked noneP ∧ w.grownBy w' (some rb))

set_option maxHeartbeats 8000000 in
theorem takeOp_tk {B : Nat} {w : World} {rb : Nat} {l : List UInt8} (h : Rd B w rb l) (hB : B ≤ w.heap.size) (hrb : rb < w.heap.size) (hl : l.length ≤ 1099511627776) :
    Calls Tryd.prog 65 #[ptrOf rb] w fun e w' => TkO w.heap.size B w rb (opR l) e w' := by
  have rd0 : Hid (Rd B (w.alloc (.cells #[int0, strE, strE, int0, int0, int0, int0, strE, strE, strE, strE, strE, strE, int0, int0, int0, int0, strE, .slice none 0 0] 84)) rb l) := h.alloc hB hrb _
  have HB : Hid (B ≤ w.heap.size) := hB
  have C1 := number_tk rd0.out
  clear h hB
  go_enter Tryd.func65, Tryd.ntmps65
  go_wp2_with fail
  refine C1.mono ?_
  rintro e w1 (⟨x1, l1, q1, rfl, rd, g⟩ | ⟨q1, rfl, g⟩)
  rotate_left
  · exact ⟨rfl, .inr ⟨by simp only [opR, q1, Option.bind_none], rfl, grown_trans grown_alloc g⟩⟩
  have t1 := numR_len q1
  have Q1 : Hid _ := q1
  have G1 : Hid _ := g
  have C2 := text_tk rd (by omega)
  clear C1 rd q1 g rd0
  go_wp2_with fail
  refine C2.mono ?_
  rintro e w2 (⟨x2, l2, q2, rfl, rd, g⟩ | ⟨q2, rfl, g⟩)
  rotate_left
  · exact ⟨rfl, .inr ⟨by simp only [opR, Q1.out, q2, Option.bind_some, Option.bind_none], rfl, grown_trans grown_alloc (grown_trans G1.out g)⟩⟩
  have t2 := textR_len q2
  have Q2 : Hid _ := q2
  have G2 : Hid _ := grown_trans G1.out g
  have C3 := text_tk rd (by omega)
  clear C2 rd q2 g G1
  go_wp2_with fail
  refine C3.mono ?_
  rintro e w3 (⟨x3, l3, q3, rfl, rd, g⟩ | ⟨q3, rfl, g⟩)
  rotate_left
  · exact ⟨rfl, .inr ⟨by simp only [opR, Q1.out, Q2.out, q3, Option.bind_some, Option.bind_none], rfl, grown_trans grown_alloc (grown_trans G2.out g)⟩⟩
  have t3 := textR_len q3
  have Q3 : Hid _ := q3
  have G3 : Hid _ := grown_trans G2.out g
  have C4 := number_tk rd
  clear C3 rd q3 g G2
  go_wp2_with fail
  refine C4.mono ?_
  rintro e w4 (⟨x4, l4, q4, rfl, rd, g⟩ | ⟨q4, rfl, g⟩)
  rotate_left
  · exact ⟨rfl, .inr ⟨by simp only [opR, Q1.out, Q2.out, Q3.out, q4, Option.bind_some, Option.bind_none], rfl, grown_trans grown_alloc (grown_trans G3.out g)⟩⟩
  have t4 := numR_len q4
  have Q4 : Hid _ := q4
  have G4 : Hid _ := grown_trans G3.out g
  have C5 := number_tk rd
  clear C4 rd q4 g G3
  go_wp2_with fail
  refine C5.mono ?_
  rintro e w5 (⟨x5, l5, q5, rfl, rd, g⟩ | ⟨q5, rfl, g⟩)
  rotate_left
  · exact ⟨rfl, .inr ⟨by simp only [opR, Q1.out, Q2.out, Q3.out, Q4.out, q5, Option.bind_some, Option.bind_none], rfl, grown_trans grown_alloc (grown_trans G4.out g)⟩⟩
  have t5 := numR_len q5
  have Q5 : Hid _ := q5
  have G5 : Hid _ := grown_trans G4.out g
  have C6 := number_tk rd
  clear C5 rd q5 g G4
  go_wp2_with fail
  refine C6.mono ?_
  rintro e w6 (⟨x6, l6, q6, rfl, rd, g⟩ | ⟨q6, rfl, g⟩)
  rotate_left
  · exact ⟨rfl, .inr ⟨by simp only [opR, Q1.out, Q2.out, Q3.out, Q4.out, Q5.out, q6, Option.bind_some, Option.bind_none], rfl, grown_trans grown_alloc (grown_trans G5.out g)⟩⟩
  have t6 := numR_len q6
  have Q6 : Hid _ := q6
  have G6 : Hid _ := grown_trans G5.out g
  have C7 := number_tk rd
  clear C6 rd q6 g G5
  go_wp2_with fail
  refine C7.mono ?_
  rintro e w7 (⟨x7, l7, q7, rfl, rd, g⟩ | ⟨q7, rfl, g⟩)
  rotate_left
  · exact ⟨rfl, .inr ⟨by simp only [opR, Q1.out, Q2.out, Q3.out, Q4.out, Q5.out, Q6.out, q7, Option.bind_some, Option.bind_none], rfl, grown_trans grown_alloc (grown_trans G6.out g)⟩⟩
  have t7 := numR_len q7
  have Q7 : Hid _ := q7
  have G7 : Hid _ := grown_trans G6.out g
  have C8 := text_tk rd (by omega)
  clear C7 rd q7 g G6
  go_wp2_with fail
  refine C8.mono ?_
  rintro e w8 (⟨x8, l8, q8, rfl, rd, g⟩ | ⟨q8, rfl, g⟩)
  rotate_left
  · exact ⟨rfl, .inr ⟨by simp only [opR, Q1.out, Q2.out, Q3.out, Q4.out, Q5.out, Q6.out, Q7.out, q8, Option.bind_some, Option.bind_none], rfl, grown_trans grown_alloc (grown_trans G7.out g)⟩⟩
  have t8 := textR_len q8
  have Q8 : Hid _ := q8
  have G8 : Hid _ := grown_trans G7.out g
  have C9 := takeName_tk rd (Nat.le_trans (by simpa using Nat.le_succ_of_le HB.out) G8.out.size) (Nat.lt_of_lt_of_le (by simpa using Nat.lt_succ_of_lt hrb) G8.out.size) (by omega)
  clear C8 rd q8 g G7
  go_wp2_with fail
  refine C9.mono ?_
  rintro e w9 (⟨x9, l9, q9, rfl, rd, g⟩ | ⟨q9, rfl, g⟩)
  rotate_left
  · exact ⟨rfl, .inr ⟨by simp only [opR, Q1.out, Q2.out, Q3.out, Q4.out, Q5.out, Q6.out, Q7.out, Q8.out, q9, Option.bind_some, Option.bind_none], rfl, grown_trans grown_alloc (grown_trans G8.out g)⟩⟩
  have t9 := inv_len nameB_pos nameR_inv q9
  have Q9 : Hid _ := q9
  have G9 : Hid _ := grown_trans G8.out g
  have C10 := takeLink_tk rd (Nat.le_trans (by simpa using Nat.le_succ_of_le HB.out) G9.out.size) (Nat.lt_of_lt_of_le (by simpa using Nat.lt_succ_of_lt hrb) G9.out.size) (by omega)
  clear C9 rd q9 g G8
  go_wp2_with fail
  refine C10.mono ?_
  rintro e w10 (⟨x10, l10, q10, rfl, rd, g⟩ | ⟨q10, rfl, g⟩)
  rotate_left
  · exact ⟨rfl, .inr ⟨by simp only [opR, Q1.out, Q2.out, Q3.out, Q4.out, Q5.out, Q6.out, Q7.out, Q8.out, Q9.out, q10, Option.bind_some, Option.bind_none], rfl, grown_trans grown_alloc (grown_trans G9.out g)⟩⟩
  have t10 := inv_len linkB_pos linkR_inv q10
  have Q10 : Hid _ := q10
  have G10 : Hid _ := grown_trans G9.out g
  have C11 := takeCells_tk rd (Nat.le_trans (by simpa using Nat.le_succ_of_le HB.out) G10.out.size) (Nat.lt_of_lt_of_le (by simpa using Nat.lt_succ_of_lt hrb) G10.out.size) (by omega)
  clear C10 rd q10 g
  go_wp2_with fail
  refine C11.mono ?_
  rintro e w11 (⟨cv, x11, l11, q11, rfl, oc, rd, g⟩ | ⟨q11, rfl, g⟩)
  rotate_left
  · exact ⟨rfl, .inr ⟨by simp only [opR, Q1.out, Q2.out, Q3.out, Q4.out, Q5.out, Q6.out, Q7.out, Q8.out, Q9.out, Q10.out, q11, Option.bind_some, Option.bind_none], rfl, grown_trans grown_alloc (grown_trans G10.out g)⟩⟩
  have Q11 : Hid _ := q11
  have G11 : Hid _ := grown_trans G10.out g
  have hsz : w.heap.size + 1 ≤ w10.heap.size := by have := G10.out.size; simpa using this
  obtain ⟨ca, cc, rfl, _, _⟩ := oc.cls.slice
  obtain ⟨wz, RS, HZ, HE, HK⟩ := take_end2 (es := #[.int .i64 x1, .string x2, .string x3, .int .i64 x4, .int .i64 x5, .int .i64 x6, .int .i64 x7, .string x8, .string x9.scope, .string x9.name, .string x9.text, .string x10.book, .string x10.sheet, .int .i64 x10.row, .int .i64 x10.col, .int .i64 x10.value.kind, .int .i64 x10.value.n, .string x10.value.s, .slice ca x11.length cc]) (by simpa using HB.out) hrb G11.out rd inf84 rfl rfl (by simp [Value.oneCell'])
  have OC : Hid (OwnCl w.heap.size wz (.slice ca x11.length cc) x11) := (OwnR.mono oc (by omega)).of_block fun g hg => HK.out g (by have := (OwnR.lt oc hg).1; omega)
  clear C11 rd q11 g G10 oc hsz
  go_wp2_with (refine wpList_store_run rfl 84 _ _ rfl _ _ _ rfl rfl RS.out ?_)
  refine bodyPost_ret_by (results_cell_row rfl _ _ w.heap.size 84 _ (0, 0) _ rfl HZ.out Tryd.underlying84 rfl (by kernel_rfl)) rfl (.inl ⟨_, ⟨x1, x2, x3, x4, x5, x6, x7, x8, x9, x10, x11⟩, l11, ?_, rfl, OC.out, HE.out⟩)
  simp only [opR, Q1.out, Q2.out, Q3.out, Q4.out, Q5.out, Q6.out, Q7.out, Q8.out, Q9.out, Q10.out, Q11.out, Option.bind_some]

end Go.Proofs.YtohndhmhgdelmaaDoor
