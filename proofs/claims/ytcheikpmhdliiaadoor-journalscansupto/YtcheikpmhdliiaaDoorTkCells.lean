import Derived.Test.YtcheikpmhdliiaaDoorOpRuns
import Derived.Test.YtcheikpmhdliiaaDoorLives
import Derived.Laws.Tables
/- What the reader's calls may end in; the contracts of number and text in that form. -/
namespace Go.Proofs.YtcheikpmhdliiaaDoor
open Go.RowKit
set_option maxRecDepth 100000

def Tk {α : Type} (B : Nat) (w : World) (rb : Nat) (val : α → Value) (o : Option (α × List UInt8)) (e : Ending) (w' : World) : Prop :=
  (∃ x r, o = some (x, r) ∧ e = .returned (val x) ∧ Rd B w' rb r ∧ w.grownBy w' (some rb)) ∨ (o = none ∧ e = .panicked noneP ∧ w.grownBy w' (some rb))

theorem number_tk {B : Nat} {w : World} {rb : Nat} {l : List UInt8} (h : Rd B w rb l) : Calls Tryd.prog 77 #[ptrOf rb] w fun e w' => Tk B w rb (Value.int .i64) (numR l) e w' := by
  refine (number_any h).mono ?_
  rintro e w' ⟨g, hm⟩
  unfold numR
  rcases hq : numAux 0 0 l with _ | ⟨u, r⟩
  · rw [hq] at hm; exact .inr ⟨rfl, hm, g⟩
  · rw [hq] at hm; exact .inl ⟨_, _, rfl, hm.1, hm.2, g⟩

theorem countR_len {l : List UInt8} {n : Nat} {r : List UInt8} (h : countR l = some (n, r)) : r.length < l.length := by
  obtain ⟨h1, _, _⟩ := countR_inv h
  have := numB_pos n
  rw [h1]; simp; omega
theorem numR_len {l : List UInt8} {n : Int} {r : List UInt8} (h : numR l = some (n, r)) : r.length < l.length := by
  obtain ⟨h1, _⟩ := numR_inv h
  have := numB_pos n
  rw [h1]; simp; omega
theorem textR_len {l : List UInt8} {n : ByteArray} {r : List UInt8} (h : textR l = some (n, r)) : r.length < l.length := by
  have h1 := textR_inv h
  have := numB_pos n.size
  rw [h1]; simp [textB]; omega
theorem inv_len {α : Type} {R : Rdr α} {B : α → List UInt8} {P : α → Prop} (hp : ∀ x, 1 ≤ (B x).length) (hR : ∀ l x r, R l = some (x, r) → l = B x ++ r ∧ P x) {l : List UInt8} {x : α} {r : List UInt8} (h : R l = some (x, r)) : r.length < l.length := by
  have := hp x
  rw [(hR _ _ _ h).1]; simp; omega
theorem valB_pos (c : ValT) : 1 ≤ (valB c).length := by have := numB_pos c.kind; simp [valB]; omega

set_option maxHeartbeats 1000000 in
theorem text_tk {B : Nat} {w : World} {rb : Nat} {l : List UInt8} (h : Rd B w rb l) (hl : l.length ≤ 1099511627776) : Calls Tryd.prog 81 #[ptrOf rb] w fun e w' => Tk B w rb Value.string (textR l) e w' := by
  have C := count_any h hl
  rcases hq : countR l with _ | ⟨n, r⟩
  · have HT : Hid (textR l = none) := by show _ = _; unfold textR; rw [hq]; rfl
    have C2 : Calls Tryd.prog 80 #[ptrOf rb] w fun e w' => e = .panicked noneP ∧ Hid (w.grownBy w' (some rb)) := by
      refine C.mono ?_
      rintro e w' hc
      rw [hq] at hc
      exact ⟨hc.2, hc.1⟩
    clear h C hq
    go_enter Tryd.func81, Tryd.ntmps81
    go_wp2_with (go_at_call 80; refine C2.mono ?_; rintro e w1 ⟨rfl, hg⟩)
    exact ⟨rfl, .inr ⟨HT.out, rfl, hg.out⟩⟩
  · have HT : Hid (textR l = some (⟨(r.take n).toArray⟩, r.drop n)) := by show _ = _; unfold textR; rw [hq]; rfl
    have C2 : Calls Tryd.prog 80 #[ptrOf rb] w fun e w' => e = .returned (.int .i64 n) ∧ Hid (Rd B w' rb r ∧ w.grownBy w' (some rb) ∧ n ≤ r.length) := by
      refine C.mono ?_
      rintro e w' hc
      rw [hq] at hc
      exact ⟨hc.2.1, hc.2.2.1, hc.1, hc.2.2.2⟩
    have hn : n ≤ 1099511627776 := by
      obtain ⟨_, h2, _⟩ := countR_inv hq
      have := countR_len hq
      omega
    clear h C hq
    go_enter Tryd.func81, Tryd.ntmps81
    go_wp2_with fail
    refine C2.mono ?_
    rintro e w1 ⟨rfl, HR⟩
    have C3 : Calls Tryd.prog 89 #[ptrOf rb, .int .i64 n] w1 fun e w' => ∃ v, e = .returned v ∧ Hid ((convert 24 9 v).run Tryd.prog w' = .ok (.string ⟨(r.take n).toArray⟩) w') ∧ Hid (Rd B w' rb (r.drop n) ∧ w.grownBy w' (some rb)) := by
      obtain ⟨h1, h2, h3⟩ := HR.out
      refine (cut_some h1 n h3).mono ?_
      rintro e w' ⟨v, rfl, b, rd, g⟩
      exact ⟨v, rfl, conv_bts b, rd, grown_trans h2 g⟩
    clear C2 HR
    go_wp2_with fail
    refine C3.mono ?_
    rintro e w2 ⟨v2, rfl, R, HR⟩
    have R' := R.out
    clear R C3
    go_wp2
    go_ret
    exact .inl ⟨_, _, HT.out, rfl, HR.out⟩

/-! ### A struct that is read: its own place, and what is laid there last -/
theorem grown_alloc {w : World} {o : Obj} {rb : Nat} : w.grownBy (w.alloc o) (some rb) := ⟨rfl, rfl, rfl, by simp, fun k hk _ => Below.heap_alloc w o k hk⟩
theorem Rd.alloc {B : Nat} {w : World} {rb : Nat} {l : List UInt8} (h : Rd B w rb l) (hB : B ≤ w.heap.size) (hrb : rb < w.heap.size) (o : Obj) : Rd B (w.alloc o) rb l :=
  h.kept hB hrb ((Below.refl _ _).alloc (Nat.le_refl _) o)

theorem setRow_other {w : World} {g : Nat} {cs : Array Value} {i : Nat} (h : i ≠ g) : (w.setRow g cs).heap[i]? = w.heap[i]? := by
  simp [World.setRow, Array.getElem?_modify, Ne.symm h]
theorem setRow_below {b : Nat} {w w1 : World} {g : Nat} {cs : Array Value} (h : Below b w w1) (hg : b ≤ g) : Below b w (w1.setRow g cs) :=
  ⟨h.os, h.tape, h.output, by have := h.size; simpa [World.setRow] using this, fun i hi => (setRow_other (by omega)).trans (h.block i hi)⟩

theorem take_end {B : Nat} {w wn : World} {rb : Nat} {r : List UInt8} {t : TypeId} {zv : Value} {sz bytes : Nat} {zs es : Array Value} (hB : B ≤ w.heap.size) (hrb : rb < w.heap.size) (g : (w.alloc (.cells zs t)).grownBy wn (some rb)) (rd : Rd B wn rb r)
    (hinf : (Tryd.prog.info? t).map (fun i => (i.zero, i.size, i.bytes)) = some (some zv, sz, bytes)) (hz : zs.size = sz) (he : es.size = sz) (h1 : es.all (·.oneCell') = true) :
    ∃ w', Hid ((Instr.storeAt t (.pointer (some ⟨w.heap.size, 0, none⟩)) (.agg es)).run Tryd.prog wn = .ok () w') ∧ Hid (w'.heap[w.heap.size]? = some (.cells es t (0, 0))) ∧ Hid (Rd B w' rb r ∧ w.grownBy w' (some rb)) := by
  have hi : (Tryd.prog.info? t).map (·.size) = some es.size := by
    cases hq : Tryd.prog.info? t with
    | none => simp [hq] at hinf
    | some i => simp [hq] at hinf ⊢; omega
  have hg : wn.heap[w.heap.size]? = some (.cells zs t (0, 0)) := (g.block _ (by simp) (by simp; omega)).trans (heap_alloc_new w _)
  have hr := run_storeVar_row (P := Tryd.prog) wn w.heap.size t t zs es hg hi (by omega) h1
  have hbl : Below w.heap.size wn (wn.setRow w.heap.size es) := setRow_below (Below.refl _ _) (Nat.le_refl _)
  refine ⟨wn.setRow w.heap.size es, ?_, setRow_heap _ _ _ _ _ _ hg, rd.kept hB hrb hbl, ?_⟩
  · show _ = _
    simp only [Instr.storeAt, Instr.sureAddr, Sem.run_bind, Sem.run_pure, Result.andThen_ok, hr]
  · exact grown_below (grown_trans grown_alloc g) hbl (Nat.le_refl _)
end Go.Proofs.YtcheikpmhdliiaaDoor

/- The contracts of takeCell, takeName, takeValue, takeLink. -/
namespace Go.Proofs.YtcheikpmhdliiaaDoor
open Go.RowKit
set_option maxRecDepth 100000

theorem inf51 : (Tryd.prog.info? 51).map (fun i => (i.zero, i.size, i.bytes)) = some (some (.agg #[strE, strE, strE]), 3, 48) := by kernel_rfl
theorem inf53 : (Tryd.prog.info? 53).map (fun i => (i.zero, i.size, i.bytes)) = some (some (.agg #[int0, int0, strE]), 3, 32) := by kernel_rfl
theorem inf55 : (Tryd.prog.info? 55).map (fun i => (i.zero, i.size, i.bytes)) = some (some (.agg #[strE, strE, int0, int0, int0, int0, strE]), 7, 80) := by kernel_rfl

set_option maxHeartbeats 4000000 in
theorem takeCell_tk {B : Nat} {w : World} {rb : Nat} {l : List UInt8} (h : Rd B w rb l) (hB : B ≤ w.heap.size) (hrb : rb < w.heap.size) (hl : l.length ≤ 1099511627776) :
    Calls Tryd.prog 85 #[ptrOf rb] w fun e w' => Tk B w rb cellV (cellR l) e w' := by
  have rd0 : Hid (Rd B (w.alloc (.cells #[.int .i64 0, .int .i64 0, .string ⟨#[]⟩] 104)) rb l) := h.alloc hB hrb _
  have HB : Hid (B ≤ w.heap.size) := hB
  have C1 := number_tk rd0.out
  clear h hB
  go_enter Tryd.func85, Tryd.ntmps85
  go_wp2_with fail
  refine C1.mono ?_
  rintro e w1 (⟨x1, l1, q1, rfl, rd, g⟩ | ⟨q1, rfl, g⟩)
  rotate_left
  · exact ⟨rfl, .inr ⟨by simp only [cellR, q1, Option.bind_none], rfl, grown_trans grown_alloc g⟩⟩
  have t1 := numR_len q1
  have Q1 : Hid _ := q1
  have G1 : Hid _ := g
  have C2 := number_tk rd
  clear C1 rd q1 g rd0
  go_wp2_with fail
  refine C2.mono ?_
  rintro e w2 (⟨x2, l2, q2, rfl, rd, g⟩ | ⟨q2, rfl, g⟩)
  rotate_left
  · exact ⟨rfl, .inr ⟨by simp only [cellR, Q1.out, q2, Option.bind_some, Option.bind_none], rfl, grown_trans grown_alloc (grown_trans G1.out g)⟩⟩
  have t2 := numR_len q2
  have Q2 : Hid _ := q2
  have G2 : Hid _ := grown_trans G1.out g
  have C3 := text_tk rd (by omega)
  clear C2 rd q2 g G1
  go_wp2_with fail
  refine C3.mono ?_
  rintro e w3 (⟨x3, l3, q3, rfl, rd, g⟩ | ⟨q3, rfl, g⟩)
  rotate_left
  · exact ⟨rfl, .inr ⟨by simp only [cellR, Q1.out, Q2.out, q3, Option.bind_some, Option.bind_none], rfl, grown_trans grown_alloc (grown_trans G2.out g)⟩⟩
  have t3 := textR_len q3
  have Q3 : Hid _ := q3
  have G3 : Hid _ := grown_trans G2.out g
  obtain ⟨wz, RS, HZ, HE⟩ := take_end (es := #[.int .i64 x1, .int .i64 x2, .string x3]) (by simpa using HB.out) hrb G3.out rd inf104 rfl rfl (by simp [Value.oneCell'])
  clear C3 rd q3 g G2
  go_wp2_with (refine wpList_store_run rfl 104 _ _ rfl _ _ _ rfl rfl RS.out ?_)
  refine bodyPost_ret_by (results_cell_row rfl _ _ w.heap.size 104 _ (0, 0) _ rfl HZ.out Tryd.underlying104 rfl (by kernel_rfl)) rfl (.inl ⟨⟨x1, x2, x3⟩, l3, ?_, rfl, HE.out⟩)
  simp only [cellR, Q1.out, Q2.out, Q3.out, Option.bind_some]

set_option maxHeartbeats 4000000 in
theorem takeName_tk {B : Nat} {w : World} {rb : Nat} {l : List UInt8} (h : Rd B w rb l) (hB : B ≤ w.heap.size) (hrb : rb < w.heap.size) (hl : l.length ≤ 1099511627776) :
    Calls Tryd.prog 82 #[ptrOf rb] w fun e w' => Tk B w rb nameV (nameR l) e w' := by
  have rd0 : Hid (Rd B (w.alloc (.cells #[.string ⟨#[]⟩, .string ⟨#[]⟩, .string ⟨#[]⟩] 51)) rb l) := h.alloc hB hrb _
  have HB : Hid (B ≤ w.heap.size) := hB
  have C1 := text_tk rd0.out (by omega)
  clear h hB
  go_enter Tryd.func82, Tryd.ntmps82
  go_wp2_with fail
  refine C1.mono ?_
  rintro e w1 (⟨x1, l1, q1, rfl, rd, g⟩ | ⟨q1, rfl, g⟩)
  rotate_left
  · exact ⟨rfl, .inr ⟨by simp only [nameR, q1, Option.bind_none], rfl, grown_trans grown_alloc g⟩⟩
  have t1 := textR_len q1
  have Q1 : Hid _ := q1
  have G1 : Hid _ := g
  have C2 := text_tk rd (by omega)
  clear C1 rd q1 g rd0
  go_wp2_with fail
  refine C2.mono ?_
  rintro e w2 (⟨x2, l2, q2, rfl, rd, g⟩ | ⟨q2, rfl, g⟩)
  rotate_left
  · exact ⟨rfl, .inr ⟨by simp only [nameR, Q1.out, q2, Option.bind_some, Option.bind_none], rfl, grown_trans grown_alloc (grown_trans G1.out g)⟩⟩
  have t2 := textR_len q2
  have Q2 : Hid _ := q2
  have G2 : Hid _ := grown_trans G1.out g
  have C3 := text_tk rd (by omega)
  clear C2 rd q2 g G1
  go_wp2_with fail
  refine C3.mono ?_
  rintro e w3 (⟨x3, l3, q3, rfl, rd, g⟩ | ⟨q3, rfl, g⟩)
  rotate_left
  · exact ⟨rfl, .inr ⟨by simp only [nameR, Q1.out, Q2.out, q3, Option.bind_some, Option.bind_none], rfl, grown_trans grown_alloc (grown_trans G2.out g)⟩⟩
  have t3 := textR_len q3
  have Q3 : Hid _ := q3
  have G3 : Hid _ := grown_trans G2.out g
  obtain ⟨wz, RS, HZ, HE⟩ := take_end (es := #[.string x1, .string x2, .string x3]) (by simpa using HB.out) hrb G3.out rd inf51 rfl rfl (by simp [Value.oneCell'])
  clear C3 rd q3 g G2
  go_wp2_with (refine wpList_store_run rfl 51 _ _ rfl _ _ _ rfl rfl RS.out ?_)
  refine bodyPost_ret_by (results_cell_row rfl _ _ w.heap.size 51 _ (0, 0) _ rfl HZ.out Tryd.underlying51 rfl (by kernel_rfl)) rfl (.inl ⟨⟨x1, x2, x3⟩, l3, ?_, rfl, HE.out⟩)
  simp only [nameR, Q1.out, Q2.out, Q3.out, Option.bind_some]

set_option maxHeartbeats 4000000 in
theorem takeValue_tk {B : Nat} {w : World} {rb : Nat} {l : List UInt8} (h : Rd B w rb l) (hB : B ≤ w.heap.size) (hrb : rb < w.heap.size) (hl : l.length ≤ 1099511627776) :
    Calls Tryd.prog 91 #[ptrOf rb] w fun e w' => Tk B w rb valV (valR l) e w' := by
  have rd0 : Hid (Rd B (w.alloc (.cells #[.int .i64 0, .int .i64 0, .string ⟨#[]⟩] 53)) rb l) := h.alloc hB hrb _
  have HB : Hid (B ≤ w.heap.size) := hB
  have C1 := number_tk rd0.out
  clear h hB
  go_enter Tryd.func91, Tryd.ntmps91
  go_wp2_with fail
  refine C1.mono ?_
  rintro e w1 (⟨x1, l1, q1, rfl, rd, g⟩ | ⟨q1, rfl, g⟩)
  rotate_left
  · exact ⟨rfl, .inr ⟨by simp only [valR, q1, Option.bind_none], rfl, grown_trans grown_alloc g⟩⟩
  have t1 := numR_len q1
  have Q1 : Hid _ := q1
  have G1 : Hid _ := g
  have C2 := number_tk rd
  clear C1 rd q1 g rd0
  go_wp2_with fail
  refine C2.mono ?_
  rintro e w2 (⟨x2, l2, q2, rfl, rd, g⟩ | ⟨q2, rfl, g⟩)
  rotate_left
  · exact ⟨rfl, .inr ⟨by simp only [valR, Q1.out, q2, Option.bind_some, Option.bind_none], rfl, grown_trans grown_alloc (grown_trans G1.out g)⟩⟩
  have t2 := numR_len q2
  have Q2 : Hid _ := q2
  have G2 : Hid _ := grown_trans G1.out g
  have C3 := text_tk rd (by omega)
  clear C2 rd q2 g G1
  go_wp2_with fail
  refine C3.mono ?_
  rintro e w3 (⟨x3, l3, q3, rfl, rd, g⟩ | ⟨q3, rfl, g⟩)
  rotate_left
  · exact ⟨rfl, .inr ⟨by simp only [valR, Q1.out, Q2.out, q3, Option.bind_some, Option.bind_none], rfl, grown_trans grown_alloc (grown_trans G2.out g)⟩⟩
  have t3 := textR_len q3
  have Q3 : Hid _ := q3
  have G3 : Hid _ := grown_trans G2.out g
  obtain ⟨wz, RS, HZ, HE⟩ := take_end (es := #[.int .i64 x1, .int .i64 x2, .string x3]) (by simpa using HB.out) hrb G3.out rd inf53 rfl rfl (by simp [Value.oneCell'])
  clear C3 rd q3 g G2
  go_wp2_with (refine wpList_store_run rfl 53 _ _ rfl _ _ _ rfl rfl RS.out ?_)
  refine bodyPost_ret_by (results_cell_row rfl _ _ w.heap.size 53 _ (0, 0) _ rfl HZ.out Tryd.underlying53 rfl (by kernel_rfl)) rfl (.inl ⟨⟨x1, x2, x3⟩, l3, ?_, rfl, HE.out⟩)
  simp only [valR, Q1.out, Q2.out, Q3.out, Option.bind_some]

set_option maxHeartbeats 4000000 in
theorem takeLink_tk {B : Nat} {w : World} {rb : Nat} {l : List UInt8} (h : Rd B w rb l) (hB : B ≤ w.heap.size) (hrb : rb < w.heap.size) (hl : l.length ≤ 1099511627776) :
    Calls Tryd.prog 83 #[ptrOf rb] w fun e w' => Tk B w rb linkV (linkR l) e w' := by
  have rd0 : Hid (Rd B (w.alloc (.cells #[.string ⟨#[]⟩, .string ⟨#[]⟩, .int .i64 0, .int .i64 0, .int .i64 0, .int .i64 0, .string ⟨#[]⟩] 55)) rb l) := h.alloc hB hrb _
  have HB : Hid (B ≤ w.heap.size) := hB
  have C1 := text_tk rd0.out (by omega)
  clear h hB
  go_enter Tryd.func83, Tryd.ntmps83
  go_wp2_with fail
  refine C1.mono ?_
  rintro e w1 (⟨x1, l1, q1, rfl, rd, g⟩ | ⟨q1, rfl, g⟩)
  rotate_left
  · exact ⟨rfl, .inr ⟨by simp only [linkR, q1, Option.bind_none], rfl, grown_trans grown_alloc g⟩⟩
  have t1 := textR_len q1
  have Q1 : Hid _ := q1
  have G1 : Hid _ := g
  have C2 := text_tk rd (by omega)
  clear C1 rd q1 g rd0
  go_wp2_with fail
  refine C2.mono ?_
  rintro e w2 (⟨x2, l2, q2, rfl, rd, g⟩ | ⟨q2, rfl, g⟩)
  rotate_left
  · exact ⟨rfl, .inr ⟨by simp only [linkR, Q1.out, q2, Option.bind_some, Option.bind_none], rfl, grown_trans grown_alloc (grown_trans G1.out g)⟩⟩
  have t2 := textR_len q2
  have Q2 : Hid _ := q2
  have G2 : Hid _ := grown_trans G1.out g
  have C3 := number_tk rd
  clear C2 rd q2 g G1
  go_wp2_with fail
  refine C3.mono ?_
  rintro e w3 (⟨x3, l3, q3, rfl, rd, g⟩ | ⟨q3, rfl, g⟩)
  rotate_left
  · exact ⟨rfl, .inr ⟨by simp only [linkR, Q1.out, Q2.out, q3, Option.bind_some, Option.bind_none], rfl, grown_trans grown_alloc (grown_trans G2.out g)⟩⟩
  have t3 := numR_len q3
  have Q3 : Hid _ := q3
  have G3 : Hid _ := grown_trans G2.out g
  have C4 := number_tk rd
  clear C3 rd q3 g G2
  go_wp2_with fail
  refine C4.mono ?_
  rintro e w4 (⟨x4, l4, q4, rfl, rd, g⟩ | ⟨q4, rfl, g⟩)
  rotate_left
  · exact ⟨rfl, .inr ⟨by simp only [linkR, Q1.out, Q2.out, Q3.out, q4, Option.bind_some, Option.bind_none], rfl, grown_trans grown_alloc (grown_trans G3.out g)⟩⟩
  have t4 := numR_len q4
  have Q4 : Hid _ := q4
  have G4 : Hid _ := grown_trans G3.out g
  have C5 := takeValue_tk rd (Nat.le_trans (by simpa using Nat.le_succ_of_le HB.out) G4.out.size) (Nat.lt_of_lt_of_le (by simpa using Nat.lt_succ_of_lt hrb) G4.out.size) (by omega)
  clear C4 rd q4 g G3
  go_wp2_with fail
  refine C5.mono ?_
  rintro e w5 (⟨x5, l5, q5, rfl, rd, g⟩ | ⟨q5, rfl, g⟩)
  rotate_left
  · exact ⟨rfl, .inr ⟨by simp only [linkR, Q1.out, Q2.out, Q3.out, Q4.out, q5, Option.bind_some, Option.bind_none], rfl, grown_trans grown_alloc (grown_trans G4.out g)⟩⟩
  have t5 := inv_len valB_pos valR_inv q5
  have Q5 : Hid _ := q5
  have G5 : Hid _ := grown_trans G4.out g
  obtain ⟨wz, RS, HZ, HE⟩ := take_end (es := #[.string x1, .string x2, .int .i64 x3, .int .i64 x4, .int .i64 x5.kind, .int .i64 x5.n, .string x5.s]) (by simpa using HB.out) hrb G5.out rd inf55 rfl rfl (by simp [Value.oneCell'])
  clear C5 rd q5 g G4
  go_wp2_with (refine wpList_store_run rfl 55 _ _ rfl _ _ _ rfl rfl RS.out ?_)
  refine bodyPost_ret_by (results_cell_row rfl _ _ w.heap.size 55 _ (0, 0) _ rfl HZ.out Tryd.underlying55 rfl (by kernel_rfl)) rfl (.inl ⟨⟨x1, x2, x3, x4, x5⟩, l5, ?_, rfl, HE.out⟩)
  simp only [linkR, Q1.out, Q2.out, Q3.out, Q4.out, Q5.out, Option.bind_some]

end Go.Proofs.YtcheikpmhdliiaaDoor

/- The contract of takeList of cells. -/
namespace Go.Proofs.YtcheikpmhdliiaaDoor
open Go.RowKit
set_option maxRecDepth 100000

theorem itemsR_cons {α : Type} {R : Rdr α} {m : Nat} {l r : List UInt8} {x : α} (h : R l = some (x, r)) : itemsR R (m + 1) l = (itemsR R m r).bind fun q => some (x :: q.1, q.2) := by
  rw [itemsR, h]; rfl
theorem itemsR_none {α : Type} {R : Rdr α} {m : Nat} {l : List UInt8} (h : R l = none) : itemsR R (m + 1) l = none := by
  rw [itemsR, h]; rfl
theorem itemsR_step {α : Type} {R : Rdr α} {n k m : Nat} {r rest rest' : List UInt8} {xs : List α} {x : α} (hm : n - k = m + 1) (h : R rest = some (x, rest')) (ht : itemsR R n r = (itemsR R (n - k) rest).bind fun p => some (xs ++ p.1, p.2)) :
    itemsR R n r = (itemsR R (n - (k + 1)) rest').bind fun p => some ((xs ++ [x]) ++ p.1, p.2) := by
  rw [ht, hm, itemsR_cons h, show n - (k + 1) = m by omega]
  rcases itemsR R m rest' with _ | ⟨ys, t⟩
  · rfl
  · simp

theorem items_start {α : Type} (o : Option (List α × List UInt8)) : o = o.bind fun p => some ([] ++ p.1, p.2) := by rcases o with _ | ⟨x, y⟩ <;> rfl

def cellsC (L : List CellT) : Nat → List Value := fun j => (L[j]?.map cellC).getD []
def OwnCl (base : Nat) (w : World) (v : Value) (L : List CellT) : Prop := OwnR base 104 3 w v L.length (cellsC L)
theorem OwnCl.cls {base : Nat} {w : World} {v : Value} {L : List CellT} (h : OwnCl base w v L) : Cls base w.heap.size w v L := OwnR.rws h
theorem own_cell {base : Nat} {w : World} {v : Value} {L : List CellT} (h : OwnCl base w v L) (hb : base ≤ w.heap.size) (x : CellT) (hl : L.length + 1 ≤ 1099511627776) :
    ∃ v' w', (Builtin.append_ #[56, 56] 56 #[v, .slice (some ⟨w.heap.size, 0, none⟩) 1 1]).run Tryd.prog (w.alloc (.cells #[.int .i64 x.row, .int .i64 x.col, .string x.text] 104)) = .ok v' w' ∧ OwnCl base w' v' (L ++ [x]) ∧ Below base w w' := by
  have h' : OwnR base 104 3 (w.alloc (.cells (cellC x).toArray 104)) v L.length (cellsC L) := h.of_block fun g hg => Below.heap_alloc w _ g (h.lt hg).2
  obtain ⟨v', w', h1, h2, _, h4, _⟩ := row_app Tryd.underlying56 inf104 rfl (by decide) h' (b := w.heap.size) (es := cellC x) (z := (0, 0)) (heap_alloc_new w _) rfl (by intro u hu; simp [cellC] at hu; rcases hu with rfl | rfl | rfl <;> rfl) (by omega) hl (by simp; omega)
  refine ⟨v', w', h1, ?_, ((Below.refl base w).alloc hb _).trans h4⟩
  unfold OwnCl
  rw [List.length_append]
  refine (show OwnR base 104 3 w' v' (L.length + 1) (cellsC (L ++ [x])) from ?_)
  obtain ⟨xs, k1, k2⟩ := h2
  refine ⟨xs, k1, fun j i u hj hu => k2 j i u hj ?_⟩
  dsimp only
  by_cases hjn : j = L.length
  · rw [if_pos hjn]
    subst hjn
    simpa [cellsC] using hu
  · rw [if_neg hjn]
    simpa [cellsC, List.getElem?_append_left (show j < L.length by omega)] using hu

def TkC (base B : Nat) (w : World) (rb : Nat) (o : Option (List CellT × List UInt8)) (e : Ending) (w' : World) : Prop :=
  (∃ v xs r, o = some (xs, r) ∧ e = .returned v ∧ OwnCl base w' v xs ∧ Rd B w' rb r ∧ w.grownBy w' (some rb)) ∨ (o = none ∧ e = .panicked noneP ∧ w.grownBy w' (some rb))

set_option maxHeartbeats 2000000 in
theorem takeCells_tk {B : Nat} {w : World} {rb : Nat} {l : List UInt8} (h : Rd B w rb l) (hB : B ≤ w.heap.size) (hrb : rb < w.heap.size) (hl : l.length ≤ 1099511627776) :
    Calls Tryd.prog 84 #[ptrOf rb, .func (.func 85) #[] #[]] w fun e w' => TkC w.heap.size B w rb (lstR cellR l) e w' := by
  have C := count_any h hl
  rcases hnx : countR l with _ | ⟨n, r⟩
  · have C2 : Calls Tryd.prog 80 #[ptrOf rb] w fun e w' => e = .panicked noneP ∧ Hid (w.grownBy w' (some rb)) := by
      refine C.mono ?_
      rintro e w' hc
      rw [hnx] at hc
      exact ⟨hc.2, hc.1⟩
    have HC : Hid (lstR cellR l = none) := by show _ = _; unfold lstR; rw [hnx]; rfl
    clear h hnx C
    go_enter Tryd.func84, Tryd.ntmps84
    go_wp2_with (go_at_call 80; refine C2.mono ?_; rintro e w1 ⟨rfl, hg⟩)
    exact ⟨rfl, .inr ⟨HC.out, rfl, hg.out⟩⟩
  · have hr := countR_len hnx
    have C2 : Calls Tryd.prog 80 #[ptrOf rb] w fun e w' => e = .returned (.int .i64 n) ∧ Hid (Rd B w' rb r ∧ w.grownBy w' (some rb)) := by
      refine C.mono ?_
      rintro e w' hc
      rw [hnx] at hc
      exact ⟨hc.2.1, hc.2.2.1, hc.1⟩
    have hn : n ≤ 1099511627776 := by
      have := (countR_inv hnx).2.1
      omega
    have HC : Hid (lstR cellR l = itemsR cellR n r) := by show _ = _; unfold lstR; rw [hnx]; rfl
    have HL : Hid (r.length ≤ 1099511627776) := by show _ ≤ _; omega
    have HB : Hid (B ≤ w.heap.size) := hB
    have HRB : Hid (rb < w.heap.size) := hrb
    clear h hnx C hr hl hB hrb
    go_enter Tryd.func84, Tryd.ntmps84
    go_wp2_with (go_at_call 80; refine C2.mono ?_; rintro e w1 ⟨rfl, HR⟩)
    clear C2
    go_loopw [5, 8] (fun u5 u8 wr => ∃ k : Nat, u8 = .int .i64 k ∧ k ≤ n ∧ Hid (∃ xs rest, xs.length = k ∧ rest.length ≤ r.length ∧ itemsR cellR n r = (itemsR cellR (n - k) rest).bind (fun p => some (xs ++ p.1, p.2)) ∧ OwnCl w.heap.size wr u5 xs ∧ Rd B wr rb rest ∧ w.grownBy wr (some rb))) (fun _ u8 _ => n - (intOf u8).toNat)
    case atStart => exact ⟨0, rfl, by omega, [], r, rfl, Nat.le_refl _, items_start _, OwnR.nil _ _ _ _ _, HR.out.1, HR.out.2⟩
    case round =>
      obtain ⟨k, rfl, hk, HD⟩ := hrel
      clear HR
      by_cases hlt : k < n
      · have C2 : Calls Tryd.prog 85 #[ptrOf rb] wr fun e w' => (∃ x : CellT, e = .returned (cellV x) ∧ ∃ v3 w3, Hid ((Builtin.append_ #[56, 56] 56 #[u5, .slice (some ⟨w'.heap.size, 0, none⟩) 1 1]).run Tryd.prog (w'.alloc (.cells #[.int .i64 x.row, .int .i64 x.col, .string x.text] 104)) = .ok v3 w3) ∧
            Hid (∃ xs rest, xs.length = k + 1 ∧ rest.length ≤ r.length ∧ itemsR cellR n r = (itemsR cellR (n - (k + 1)) rest).bind (fun p => some (xs ++ p.1, p.2)) ∧ OwnCl w.heap.size w3 v3 xs ∧ Rd B w3 rb rest ∧ w.grownBy w3 (some rb))) ∨
            (e = .panicked noneP ∧ Hid (TkC w.heap.size B w rb (lstR cellR l) (.panicked noneP) w')) := by
          obtain ⟨xs, rest, hx, hrl, ht, ho, hrd, hg⟩ := HD.out
          obtain ⟨m, hm⟩ : ∃ m, n - k = m + 1 := ⟨n - k - 1, by omega⟩
          refine (takeCell_tk hrd (Nat.le_trans HB.out hg.size) (Nat.lt_of_lt_of_le HRB.out hg.size) (by have := HL.out; omega)).mono ?_
          rintro e w' (⟨x, r', q, rfl, rd1, g1⟩ | ⟨q, rfl, g1⟩)
          · left
            have hsz : w.heap.size ≤ w'.heap.size := Nat.le_trans hg.size g1.size
            have ho1 : OwnCl w.heap.size w' u5 xs := OwnR.of_block ho fun g hgg => g1.block g (OwnR.lt ho hgg).2 (by have := (OwnR.lt ho hgg).1; have := HRB.out; simp; omega)
            obtain ⟨v3, w3, run, o3, b3⟩ := own_cell ho1 hsz x (by omega)
            have hrl2 := inv_len cellB_pos cellR_inv q
            refine ⟨x, rfl, v3, w3, run, xs ++ [x], r', by simp [hx], by omega, itemsR_step hm q ht, o3, rd1.kept HB.out HRB.out b3, grown_below (grown_trans hg g1) b3 (Nat.le_refl _)⟩
          · right
            refine ⟨rfl, .inr ⟨?_, rfl, grown_trans hg g1⟩⟩
            rw [HC.out, ht, hm, itemsR_none q]
            rfl
        clear HD
        go_wp2_with fail
        refine C2.mono ?_
        rintro e w2 (⟨x, rfl, v3, w3, R3, HF⟩ | ⟨rfl, HT⟩)
        rotate_left
        · exact ⟨rfl, HT.out⟩
        clear C2
        go_wp2_with (at_builtin; refine wpList_append_run rfl _ _ 56 rfl _ _ _ _ rfl rfl R3.out ?_)
        clear R3
        go_roundw
        case rel => exact ⟨k + 1, by go_num, by omega, HF⟩
        case measure => simp [intOf]; omega
      · have HT : Hid (TkC w.heap.size B w rb (lstR cellR l) (.returned u5) wr) := by
          obtain ⟨xs, rest, hx, hrl, ht, ho, hrd, hg⟩ := HD.out
          refine .inl ⟨u5, xs, rest, ?_, rfl, ho, hrd, hg⟩
          rw [HC.out, ht, show n - k = 0 by omega]
          simp [itemsR]
        clear HD HC
        go_wp2_with fail
        go_ret
        exact HT.out
end Go.Proofs.YtcheikpmhdliiaaDoor
