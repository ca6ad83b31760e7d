/- What the reader's calls may end in; the contracts of number and text in that form. -/
import Derived.Test.YtohndhmhgdelmaaDoorOpRuns
import Derived.Test.YtohndhmhgdelmaaDoorLives
import Derived.Laws.Tables
namespace Go.Proofs.YtohndhmhgdelmaaDoor
open Go.RowKit
set_option maxRecDepth 100000

def Tk {α : Type} (B : Nat) (w : World) (rb : Nat) (val : α → Value) (o : Option (α × List UInt8)) (e : Ending) (w' : World) : Prop :=
  (∃ x r, o = some (x, r) ∧ e = .returned (val x) ∧ Rd B w' rb r ∧ w.grownBy w' (some rb)) ∨ (o = none ∧ e = .panicked noneP ∧ w.grownBy w' (some rb))

theorem number_tk {B : Nat} {w : World} {rb : Nat} {l : List UInt8} (h : Rd B w rb l) : Calls Tryd.prog 71 #[ptrOf rb] w fun e w' => Tk B w rb (Value.int .i64) (numR l) e w' := by
  refine (number_any h).mono ?_
  rintro e w' ⟨g, hm⟩
  unfold numR
  rcases hq : numAux 0 0 l with _ | ⟨u, r⟩
  · rw [hq] at hm; exact .inr ⟨rfl, hm, g⟩
  · rw [hq] at hm; exact .inl ⟨_, _, rfl, hm.1, hm.2, g⟩

theorem countR_len {l : List UInt8} {n : Nat} {r : List UInt8} (h : countR l = some (n, r)) : r.length < l.length := by
  obtain ⟨h1, _, _⟩ := countR_inv h
  have := numB_pos n
  rw [h1]; simp; omega
theorem numR_len {l : List UInt8} {n : Int} {r : List UInt8} (h : numR l = some (n, r)) : r.length < l.length := by
  obtain ⟨h1, _⟩ := numR_inv h
  have := numB_pos n
  rw [h1]; simp; omega
theorem textR_len {l : List UInt8} {n : ByteArray} {r : List UInt8} (h : textR l = some (n, r)) : r.length < l.length := by
  have h1 := textR_inv h
  have := numB_pos n.size
  rw [h1]; simp [textB]; omega
theorem inv_len {α : Type} {R : Rdr α} {B : α → List UInt8} {P : α → Prop} (hp : ∀ x, 1 ≤ (B x).length) (hR : ∀ l x r, R l = some (x, r) → l = B x ++ r ∧ P x) {l : List UInt8} {x : α} {r : List UInt8} (h : R l = some (x, r)) : r.length < l.length := by
  have := hp x
  rw [(hR _ _ _ h).1]; simp; omega
theorem valB_pos (c : ValT) : 1 ≤ (valB c).length := by have := numB_pos c.kind; simp [valB]; omega

set_option maxHeartbeats 1000000 in
theorem text_tk {B : Nat} {w : World} {rb : Nat} {l : List UInt8} (h : Rd B w rb l) (hl : l.length ≤ 1099511627776) : Calls Tryd.prog 75 #[ptrOf rb] w fun e w' => Tk B w rb Value.string (textR l) e w' := by
  have C := count_any h hl
  rcases hq : countR l with _ | ⟨n, r⟩
  · have HT : Hid (textR l = none) := by show _ = _; unfold textR; rw [hq]; rfl
    have C2 : Calls Tryd.prog 74 #[ptrOf rb] w fun e w' => e = .panicked noneP ∧ Hid (w.grownBy w' (some rb)) := by
      refine C.mono ?_
      rintro e w' hc
      rw [hq] at hc
      exact ⟨hc.2, hc.1⟩
    clear h C hq
    go_enter Tryd.func75, Tryd.ntmps75
    go_wp2_with (go_at_call 74; refine C2.mono ?_; rintro e w1 ⟨rfl, hg⟩)
    exact ⟨rfl, .inr ⟨HT.out, rfl, hg.out⟩⟩
  · have HT : Hid (textR l = some (⟨(r.take n).toArray⟩, r.drop n)) := by show _ = _; unfold textR; rw [hq]; rfl
    have C2 : Calls Tryd.prog 74 #[ptrOf rb] w fun e w' => e = .returned (.int .i64 n) ∧ Hid (Rd B w' rb r ∧ w.grownBy w' (some rb) ∧ n ≤ r.length) := by
      refine C.mono ?_
      rintro e w' hc
      rw [hq] at hc
      exact ⟨hc.2.1, hc.2.2.1, hc.1, hc.2.2.2⟩
    have hn : n ≤ 1099511627776 := by
      obtain ⟨_, h2, _⟩ := countR_inv hq
      have := countR_len hq
      omega
    clear h C hq
    go_enter Tryd.func75, Tryd.ntmps75
    go_wp2_with fail
    refine C2.mono ?_
    rintro e w1 ⟨rfl, HR⟩
    have C3 : Calls Tryd.prog 79 #[ptrOf rb, .int .i64 n] w1 fun e w' => ∃ v, e = .returned v ∧ Hid ((convert 29 9 v).run Tryd.prog w' = .ok (.string ⟨(r.take n).toArray⟩) w') ∧ Hid (Rd B w' rb (r.drop n) ∧ w.grownBy w' (some rb)) := by
      obtain ⟨h1, h2, h3⟩ := HR.out
      refine (cut_some h1 n h3).mono ?_
      rintro e w' ⟨v, rfl, b, rd, g⟩
      exact ⟨v, rfl, conv_bts b, rd, grown_trans h2 g⟩
    clear C2 HR
    go_wp2_with fail
    refine C3.mono ?_
    rintro e w2 ⟨v2, rfl, R, HR⟩
    have R' := R.out
    clear R C3
    go_wp2
    go_ret
    exact .inl ⟨_, _, HT.out, rfl, HR.out⟩

/-! ### A struct that is read: its own place, and what is laid there last -/
theorem grown_alloc {w : World} {o : Obj} {rb : Nat} : w.grownBy (w.alloc o) (some rb) := ⟨rfl, rfl, rfl, by simp, fun k hk _ => Below.heap_alloc w o k hk⟩
theorem Rd.alloc {B : Nat} {w : World} {rb : Nat} {l : List UInt8} (h : Rd B w rb l) (hB : B ≤ w.heap.size) (hrb : rb < w.heap.size) (o : Obj) : Rd B (w.alloc o) rb l :=
  h.kept hB hrb ((Below.refl _ _).alloc (Nat.le_refl _) o)

theorem setRow_other {w : World} {g : Nat} {cs : Array Value} {i : Nat} (h : i ≠ g) : (w.setRow g cs).heap[i]? = w.heap[i]? := by
  simp [World.setRow, Array.getElem?_modify, Ne.symm h]
theorem setRow_below {b : Nat} {w w1 : World} {g : Nat} {cs : Array Value} (h : Below b w w1) (hg : b ≤ g) : Below b w (w1.setRow g cs) :=
  ⟨h.os, h.tape, h.output, by have := h.size; simpa [World.setRow] using this, fun i hi => (setRow_other (by omega)).trans (h.block i hi)⟩

theorem take_end {B : Nat} {w wn : World} {rb : Nat} {r : List UInt8} {t : TypeId} {zv : Value} {sz bytes : Nat} {zs es : Array Value} (hB : B ≤ w.heap.size) (hrb : rb < w.heap.size) (g : (w.alloc (.cells zs t)).grownBy wn (some rb)) (rd : Rd B wn rb r)
    (hinf : (Tryd.prog.info? t).map (fun i => (i.zero, i.size, i.bytes)) = some (some zv, sz, bytes)) (hz : zs.size = sz) (he : es.size = sz) (h1 : es.all (·.oneCell') = true) :
    ∃ w', Hid ((Instr.storeAt t (.pointer (some ⟨w.heap.size, 0, none⟩)) (.agg es)).run Tryd.prog wn = .ok () w') ∧ Hid (w'.heap[w.heap.size]? = some (.cells es t (0, 0))) ∧ Hid (Rd B w' rb r ∧ w.grownBy w' (some rb)) := by
  have hi : (Tryd.prog.info? t).map (·.size) = some es.size := by
    cases hq : Tryd.prog.info? t with
    | none => simp [hq] at hinf
    | some i => simp [hq] at hinf ⊢; omega
  have hg : wn.heap[w.heap.size]? = some (.cells zs t (0, 0)) := (g.block _ (by simp) (by simp; omega)).trans (heap_alloc_new w _)
  have hr := run_storeVar_row (P := Tryd.prog) wn w.heap.size t t zs es hg hi (by omega) h1
  have hbl : Below w.heap.size wn (wn.setRow w.heap.size es) := setRow_below (Below.refl _ _) (Nat.le_refl _)
  refine ⟨wn.setRow w.heap.size es, ?_, setRow_heap _ _ _ _ _ _ hg, rd.kept hB hrb hbl, ?_⟩
  · show _ = _
    simp only [Instr.storeAt, Instr.sureAddr, Sem.run_bind, Sem.run_pure, Result.andThen_ok, hr]
  · exact grown_below (grown_trans grown_alloc g) hbl (Nat.le_refl _)
end Go.Proofs.YtohndhmhgdelmaaDoor
