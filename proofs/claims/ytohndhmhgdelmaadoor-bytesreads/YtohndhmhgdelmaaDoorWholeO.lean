/- The contracts of readWhole of changes and of ReadOps. -/
import Derived.Test.YtohndhmhgdelmaaDoorTkOps
import Derived.Defers
import Derived.Recover
namespace Go.Proofs.YtohndhmhgdelmaaDoor
open Go.RowKit
set_option maxRecDepth 100000

set_option maxHeartbeats 1000000 in
theorem catchO_idle (p : Addr) (w : World) :
    CallsD Tryd.prog 63 #[.pointer (some p)] .returning w fun e u' w' => e = .returned (.tuple #[]) ∧ u' = .returning ∧ w' = w := by
  refine callsD_of_wpS Tryd.func63 rfl fun c₀ cs hu => ?_
  apply wpS_seq
  apply wpS_region
  simp [wpOpsS, go_sem, recoverD, hu, Tryd.ntmps63, Exit.thenS, Array.replicate, List.replicate]
  refine wpS_of_wp ?_
  go_wp2
  cases c₀
  simp_all [bodyPostS, results, Tryd.results63]


set_option maxHeartbeats 1000000 in
theorem catchO_none (p : Addr) (x : Int) (w : World) (hc : w.cell? p = some (.int .i64 x)) (hz : w.frozen? p = false) :
    CallsD Tryd.prog 63 #[.pointer (some p)] (.panicking noneP) w fun e u' w' =>
      e = .returned (.tuple #[]) ∧ u' = .panicking [{ v := .iface 104 (.agg #[]), recovered := true }] ∧ w' = (w.alloc (.cells #[] 104)).setCell p (.int .i64 12) := by
  have ay := assert_yes
  have hb := World.block_lt_of_cell? w p hc
  have hc1 : (w.alloc (.cells #[] 104)).cell? p = some (.int .i64 x) := (World.cell?_of_block (Below.heap_alloc w _ _ hb)).trans hc
  have hz1 : (w.alloc (.cells #[] 104)).frozen? p = false := (World.frozen?_of_block (Below.heap_alloc w _ _ hb)).trans hz
  unfold noneP
  refine callsD_of_wpS Tryd.func63 rfl fun c₀ cs hu => ?_
  apply wpS_seq
  apply wpS_region
  simp [wpOpsS, go_sem, recoverD, hu, Tryd.ntmps63, Exit.thenS, Array.replicate, List.replicate]
  refine wpS_of_wp ?_
  go_wp2
  cases c₀
  simp_all [bodyPostS, results, Tryd.results63]


theorem OwnOl.mono {base base' : Nat} {w : World} {v : Value} {L : List OpT} (h : OwnOl base w v L) (hb : base' ≤ base) : OwnOl base' w v L := by
  obtain ⟨cv, h1, h2⟩ := h
  exact ⟨cv, h1.mono hb, fun j o hj => ⟨OwnR.mono (h2 j o hj).1 hb, (h2 j o hj).2⟩⟩

theorem whole_goodO {w w3 : World} (h : w3.cell? ⟨w.heap.size, 0, none⟩ = some (.int .i64 0)) (hB : Below w.heap.size w w3) {x : Value} {L : List OpT} (ho : OwnOl (w.heap.size + 2) w3 x L) :
    (w3.setCell ⟨w.heap.size, 0, none⟩ (.int .i64 0)).cell? ⟨w.heap.size, 0, none⟩ = some (.int .i64 0) ∧ OwnOl (w.heap.size + 2) (w3.setCell ⟨w.heap.size, 0, none⟩ (.int .i64 0)) x L ∧ Below w.heap.size w (w3.setCell ⟨w.heap.size, 0, none⟩ (.int .i64 0)) :=
  ⟨cell_set h, ho.kept fun i hi _ => Below.heap_setCell w3 _ _ i (by simp; omega), hB.setCell (Nat.le_refl _) _⟩

set_option maxHeartbeats 1000000 in
theorem wholeO_none {w : World} {v : Value} {l : List UInt8} (h : Bts w v l) (hl : l.length ≤ 536870911999) (hno : readO l = none) :
    Calls Tryd.prog 36 #[v, .func (.func 37) #[] #[]] w fun e w' => e = .returned (.tuple #[.slice none 0 0, .int .i64 12]) ∧ Below w.heap.size w w' := by
  have hmf : ∀ (fn : Fn) (first cap : Array Value) (w : World), (Instr.makeFunc fn first cap).run Tryd.prog w = .ok (.func fn first cap) w := fun _ _ _ _ => rfl
  have C := takeOps_tk (rdW_rd h) (by simp; omega) (by simp) hl
  obtain ⟨a, c, rfl, _, _⟩ := h.slice
  have C2 : Calls Tryd.prog 37 #[ptrOf (w.heap.size + 1)] (rdW w (.slice a l.length c)) fun e w' => (w'.cell? ⟨w.heap.size, 0, none⟩ = some (.int .i64 0) ∧ w'.frozen? ⟨w.heap.size, 0, none⟩ = false) ∧ Hid (Below w.heap.size w w') ∧
      (e = .panicked noneP ∨ ∃ x a2 n2 c2, e = .returned x ∧ w'.cell? ⟨w.heap.size + 1, 0, none⟩ = some (.slice a2 (n2 + 1) c2)) := by
    refine C.mono ?_
    unfold readO at hno
    rintro e w' (⟨x, xs, r, q, rfl, _, ⟨v3, h1, h2, _⟩, hg⟩ | ⟨q, rfl, hg⟩)
    · refine ⟨rdW_cell hg, rdW_below hg, ?_⟩
      rw [q] at hno
      rcases r with _ | ⟨d, r⟩
      · cases hno
      · obtain ⟨a2, c2, rfl, _, _⟩ := h2.slice
        exact .inr ⟨x, a2, r.length, c2, rfl, (cell0 h1).1⟩
    · exact ⟨rdW_cell hg, rdW_below hg, .inl rfl⟩
  clear C h hno
  go_enter_defers Tryd.func36, Tryd.ntmps36
  go_wp2_with fail
  refine C2.mono ?_
  rintro e w3 ⟨⟨c3, f3⟩, HB, rfl | ⟨x, a2, n2, c2, rfl, c4⟩⟩
  · have E := whole_end c3 HB.out
    go_wp2_with fail
    refine leaves_cons (f := 63) (args := #[.pointer (some ⟨w.heap.size, 0, none⟩)]) (by simp) (by simp [go_sem]) ?_
    refine (catchO_none ⟨w.heap.size, 0, none⟩ 0 _ c3 f3).mono ?_
    rintro e u' w'' ⟨rfl, rfl, rfl⟩
    simp [Leaves, settle, results, Tryd.results36, go_sem, E.1]
    exact E.2
  · have E := whole_end c3 HB.out
    go_wp2_with fail
    refine leaves_cons (f := 63) (args := #[.pointer (some ⟨w.heap.size, 0, none⟩)]) (by simp) (by simp [go_sem]) ?_
    refine (catchO_none ⟨w.heap.size, 0, none⟩ 0 _ c3 f3).mono ?_
    rintro e u' w'' ⟨rfl, rfl, rfl⟩
    simp [Leaves, settle, results, Tryd.results36, go_sem, E.1]
    exact E.2

set_option maxHeartbeats 1000000 in
theorem wholeO_some {w : World} {v : Value} {l : List UInt8} (h : Bts w v l) (hl : l.length ≤ 536870911999) {L : List OpT} (hs : readO l = some L) :
    Calls Tryd.prog 36 #[v, .func (.func 37) #[] #[]] w fun e w' => ∃ x, e = .returned (.tuple #[x, .int .i64 0]) ∧ OwnOl w.heap.size w' x L ∧ Below w.heap.size w w' := by
  have hmf : ∀ (fn : Fn) (first cap : Array Value) (w : World), (Instr.makeFunc fn first cap).run Tryd.prog w = .ok (.func fn first cap) w := fun _ _ _ _ => rfl
  have C := takeOps_tk (rdW_rd h) (by simp; omega) (by simp) hl
  obtain ⟨a, c, rfl, _, _⟩ := h.slice
  have C2 : Calls Tryd.prog 37 #[ptrOf (w.heap.size + 1)] (rdW w (.slice a l.length c)) fun e w' => (w'.cell? ⟨w.heap.size, 0, none⟩ = some (.int .i64 0) ∧ w'.frozen? ⟨w.heap.size, 0, none⟩ = false) ∧ Hid (Below w.heap.size w w') ∧
      ∃ x a2 c2, e = .returned x ∧ w'.cell? ⟨w.heap.size + 1, 0, none⟩ = some (.slice a2 0 c2) ∧ Hid (OwnOl (w.heap.size + 2) w' x L) := by
    refine C.mono ?_
    unfold readO at hs
    rintro e w' (⟨x, xs, r, q, rfl, ho, ⟨v3, h1, h2, _⟩, hg⟩ | ⟨q, rfl, hg⟩)
    · refine ⟨rdW_cell hg, rdW_below hg, ?_⟩
      rw [q] at hs
      rcases r with _ | ⟨d, r⟩
      · cases hs
        obtain ⟨a2, c2, rfl, _, _⟩ := h2.slice
        rw [rdW_size] at ho
        exact ⟨x, a2, c2, rfl, (cell0 h1).1, ho⟩
      · cases hs
    · rw [q] at hs; cases hs
  clear C h hs
  go_enter_defers Tryd.func36, Tryd.ntmps36
  go_wp2_with fail
  refine C2.mono ?_
  rintro e w3 ⟨⟨c3, f3⟩, HB, x, a2, c2, rfl, c4, HO⟩
  have E : Hid _ := whole_goodO c3 HB.out HO.out
  go_wp2_with fail
  refine leaves_cons (f := 63) (args := #[.pointer (some ⟨w.heap.size, 0, none⟩)]) (by simp) (by simp [go_sem]) ?_
  refine (catchO_idle ⟨w.heap.size, 0, none⟩ _).mono ?_
  rintro e u' w'' ⟨rfl, rfl, rfl⟩
  simp [Leaves, settle, results, Tryd.results36, go_sem, E.out.1]
  exact ⟨E.out.2.1.mono (by omega), E.out.2.2⟩

set_option maxHeartbeats 1000000 in
theorem readOps_none {w : World} {v : Value} {l : List UInt8} (h : Bts w v l) (hl : l.length ≤ 536870911999) (hno : readO l = none) :
    Calls Tryd.prog 12 #[v] w fun e w' => e = .returned (.tuple #[.slice none 0 0, .int .i64 12]) ∧ Below w.heap.size w w' := by
  have C := wholeO_none h hl hno
  clear h hno
  go_enter Tryd.func12, Tryd.ntmps12
  go_wp2_with (go_at_call 36; refine C.mono ?_; rintro e w' ⟨rfl, hb⟩)
  go_ret2
  exact ⟨rfl, hb⟩
set_option maxHeartbeats 1000000 in
theorem readOps_some {w : World} {v : Value} {l : List UInt8} (h : Bts w v l) (hl : l.length ≤ 536870911999) {L : List OpT} (hs : readO l = some L) :
    Calls Tryd.prog 12 #[v] w fun e w' => ∃ x, e = .returned (.tuple #[x, .int .i64 0]) ∧ OwnOl w.heap.size w' x L ∧ Below w.heap.size w w' := by
  have C := wholeO_some h hl hs
  clear h hs
  go_enter Tryd.func12, Tryd.ntmps12
  go_wp2_with (go_at_call 36; refine C.mono ?_; rintro e w' ⟨x, rfl, hr⟩)
  go_ret2
  exact ⟨x, rfl, hr⟩
end Go.Proofs.YtohndhmhgdelmaaDoor
