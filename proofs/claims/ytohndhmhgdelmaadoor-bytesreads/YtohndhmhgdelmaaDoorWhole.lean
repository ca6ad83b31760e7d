/- The contracts of readWhole of ints and of ReadInts: a panic of bytes that are none is caught. -/
import Derived.Test.YtohndhmhgdelmaaDoorTake
import Derived.Defers
import Derived.Recover
namespace Go.Proofs.YtohndhmhgdelmaaDoor
open Go.RowKit
set_option maxRecDepth 100000

set_option maxHeartbeats 1000000 in
theorem catch_idle (p : Addr) (w : World) :
    CallsD Tryd.prog 69 #[.pointer (some p)] .returning w fun e u' w' => e = .returned (.tuple #[]) ∧ u' = .returning ∧ w' = w := by
  refine callsD_of_wpS Tryd.func69 rfl fun c₀ cs hu => ?_
  apply wpS_seq
  apply wpS_region
  simp [wpOpsS, go_sem, recoverD, hu, Tryd.ntmps69, Exit.thenS, Array.replicate, List.replicate]
  refine wpS_of_wp ?_
  go_wp2
  cases c₀
  simp_all [bodyPostS, results, Tryd.results69]

theorem assert_yes (W : World) (v : Value) : (Instr.typeAssert (.iface 104 v) 20 104 true).run Tryd.prog W = .ok (.tuple #[v, .bool true]) W := by kernel_rfl
set_option maxHeartbeats 1000000 in
theorem catch_none (p : Addr) (x : Int) (w : World) (hc : w.cell? p = some (.int .i64 x)) (hz : w.frozen? p = false) :
    CallsD Tryd.prog 69 #[.pointer (some p)] (.panicking noneP) w fun e u' w' =>
      e = .returned (.tuple #[]) ∧ u' = .panicking [{ v := .iface 104 (.agg #[]), recovered := true }] ∧ w' = (w.alloc (.cells #[] 104)).setCell p (.int .i64 12) := by
  have ay := assert_yes
  have hb := World.block_lt_of_cell? w p hc
  have hc1 : (w.alloc (.cells #[] 104)).cell? p = some (.int .i64 x) := (World.cell?_of_block (Below.heap_alloc w _ _ hb)).trans hc
  have hz1 : (w.alloc (.cells #[] 104)).frozen? p = false := (World.frozen?_of_block (Below.heap_alloc w _ _ hb)).trans hz
  unfold noneP
  refine callsD_of_wpS Tryd.func69 rfl fun c₀ cs hu => ?_
  apply wpS_seq
  apply wpS_region
  simp [wpOpsS, go_sem, recoverD, hu, Tryd.ntmps69, Exit.thenS, Array.replicate, List.replicate]
  refine wpS_of_wp ?_
  go_wp2
  cases c₀
  simp_all [bodyPostS, results, Tryd.results69]

def readI (l : List UInt8) : Option (List Int) :=
  match listR l with
  | some (ns, []) => some ns
  | _ => none

/-- The world in which the reader begins. -/
abbrev rdW (w : World) (v : Value) : World := (w.alloc (.cells #[.int .i64 0] 32)).alloc (.cells #[v] 108)
theorem rdW_size (w : World) (v : Value) : (rdW w v).heap.size = w.heap.size + 2 := by simp
theorem rdW_rd {w : World} {v : Value} {l : List UInt8} (h : Bts w v l) : Rd w.heap.size (rdW w v) (w.heap.size + 1) l := by
  refine ⟨v, ?_, (h.alloc _).alloc _, fun hne a n c hv => ?_⟩
  · have := heap_alloc_new (w.alloc (.cells #[.int .i64 0] 32)) (.cells #[v] 108)
    simpa using this
  · rcases h with ⟨_, h⟩ | ⟨a', cap, e1, e2, e3, e4⟩
    · exact absurd h hne
    · rw [hv] at e1
      cases e1
      obtain ⟨d, r, rfl⟩ := List.exists_cons_of_ne_nil hne
      have := World.block_lt_of_cell? w _ (e4 0 _ (by simp [bcells]; rfl))
      rwa [addr_block] at this
theorem rdW_cell {w w3 : World} {v : Value} (hg : (rdW w v).grownBy w3 (some (w.heap.size + 1))) : w3.cell? ⟨w.heap.size, 0, none⟩ = some (.int .i64 0) ∧ w3.frozen? ⟨w.heap.size, 0, none⟩ = false := by
  have e1 : (rdW w v).heap[w.heap.size]? = some (.cells #[.int .i64 0] 32 (0, 0)) :=
    (Below.heap_alloc (w.alloc (.cells #[.int .i64 0] 32)) _ _ (by simp)).trans (heap_alloc_new w _)
  have e2 : w3.heap[w.heap.size]? = some (.cells #[.int .i64 0] 32 (0, 0)) := (hg.block _ (by simp; omega) (by simp)).trans e1
  simp [World.cell?, World.frozen?, e2]
theorem rdW_below {w w3 : World} {v : Value} (hg : (rdW w v).grownBy w3 (some (w.heap.size + 1))) : Below w.heap.size w w3 :=
  (((Below.refl _ w).alloc (Nat.le_refl _) _).alloc (by simp) _).grown hg (by simp; omega) (by intro k hk; cases hk; omega)

theorem cell_set {w : World} {p : Addr} {x y : Value} (h : w.cell? p = some x) : (w.setCell p y).cell? p = some y := by
  exact World.cell?_setCell_same w p y h
theorem whole_end {w w3 : World} (h : w3.cell? ⟨w.heap.size, 0, none⟩ = some (.int .i64 0)) (hB : Below w.heap.size w w3) :
    ((w3.alloc (.cells #[] 104)).setCell ⟨w.heap.size, 0, none⟩ (.int .i64 12)).cell? ⟨w.heap.size, 0, none⟩ = some (.int .i64 12) ∧ Below w.heap.size w ((w3.alloc (.cells #[] 104)).setCell ⟨w.heap.size, 0, none⟩ (.int .i64 12)) :=
  ⟨cell_set ((World.cell?_of_block (Below.heap_alloc w3 _ _ (World.block_lt_of_cell? w3 _ h))).trans h), (hB.alloc hB.size _).setCell (Nat.le_refl _) _⟩
theorem whole_good {w w3 : World} (h : w3.cell? ⟨w.heap.size, 0, none⟩ = some (.int .i64 0)) (hB : Below w.heap.size w w3) {x : Value} {ns : List Int} (ho : OwnI (w.heap.size + 2) w3 x ns) :
    (w3.setCell ⟨w.heap.size, 0, none⟩ (.int .i64 0)).cell? ⟨w.heap.size, 0, none⟩ = some (.int .i64 0) ∧ Its (w3.setCell ⟨w.heap.size, 0, none⟩ (.int .i64 0)) x ns ∧ Below w.heap.size w (w3.setCell ⟨w.heap.size, 0, none⟩ (.int .i64 0)) := by
  refine ⟨cell_set h, ?_, hB.setCell (Nat.le_refl _) _⟩
  have : OwnI (w.heap.size + 2) (w3.setCell ⟨w.heap.size, 0, none⟩ (.int .i64 0)) x ns := ownsRow_of_block ho fun g hg => Below.heap_setCell w3 _ _ g (by have := (World.ownsRow.lt ho g hg).1; simp; omega)
  exact this.its

set_option maxHeartbeats 1000000 in
theorem whole_none {w : World} {v : Value} {l : List UInt8} (h : Bts w v l) (hl : l.length ≤ 1099511627776) (hno : readI l = none) :
    Calls Tryd.prog 41 #[v, .func (.func 42) #[] #[]] w fun e w' => e = .returned (.tuple #[.slice none 0 0, .int .i64 12]) ∧ Below w.heap.size w w' := by
  have hmf : ∀ (fn : Fn) (first cap : Array Value) (w : World), (Instr.makeFunc fn first cap).run Tryd.prog w = .ok (.func fn first cap) w := fun _ _ _ _ => rfl
  have C := takeInts_any (rdW_rd h) (by simp; omega) (by simp) hl
  obtain ⟨a, c, rfl, _, _⟩ := h.slice
  have C2 : Calls Tryd.prog 42 #[ptrOf (w.heap.size + 1)] (rdW w (.slice a l.length c)) fun e w' => (w'.cell? ⟨w.heap.size, 0, none⟩ = some (.int .i64 0) ∧ w'.frozen? ⟨w.heap.size, 0, none⟩ = false) ∧ Hid (Below w.heap.size w w') ∧
      (e = .panicked noneP ∨ ∃ x a2 n2 c2, e = .returned x ∧ w'.cell? ⟨w.heap.size + 1, 0, none⟩ = some (.slice a2 (n2 + 1) c2)) := by
    refine C.mono ?_
    rintro e w' ⟨hg, hc⟩
    refine ⟨rdW_cell hg, rdW_below hg, ?_⟩
    unfold readI at hno
    rcases hq : listR l with _ | ⟨ns, r⟩
    · rw [hq] at hc
      exact .inl hc
    · rw [hq] at hc hno
      obtain ⟨x, rfl, _, ⟨v3, h1, h2, _⟩, _⟩ := hc
      rcases r with _ | ⟨d, r⟩
      · cases hno
      · obtain ⟨a2, c2, rfl, _, _⟩ := h2.slice
        exact .inr ⟨x, a2, r.length, c2, rfl, (cell0 h1).1⟩
  clear C h hno
  go_enter_defers Tryd.func41, Tryd.ntmps41
  go_wp2_with fail
  refine C2.mono ?_
  rintro e w3 ⟨⟨c3, f3⟩, HB, rfl | ⟨x, a2, n2, c2, rfl, c4⟩⟩
  · have E := whole_end c3 HB.out
    go_wp2_with fail
    refine leaves_cons (f := 69) (args := #[.pointer (some ⟨w.heap.size, 0, none⟩)]) (by simp) (by simp [go_sem]) ?_
    refine (catch_none ⟨w.heap.size, 0, none⟩ 0 _ c3 f3).mono ?_
    rintro e u' w'' ⟨rfl, rfl, rfl⟩
    simp [Leaves, settle, results, Tryd.results41, go_sem, E.1]
    exact E.2
  · have E := whole_end c3 HB.out
    go_wp2_with fail
    refine leaves_cons (f := 69) (args := #[.pointer (some ⟨w.heap.size, 0, none⟩)]) (by simp) (by simp [go_sem]) ?_
    refine (catch_none ⟨w.heap.size, 0, none⟩ 0 _ c3 f3).mono ?_
    rintro e u' w'' ⟨rfl, rfl, rfl⟩
    simp [Leaves, settle, results, Tryd.results41, go_sem, E.1]
    exact E.2

set_option maxHeartbeats 1000000 in
theorem whole_some {w : World} {v : Value} {l : List UInt8} (h : Bts w v l) (hl : l.length ≤ 1099511627776) {ns : List Int} (hs : readI l = some ns) :
    Calls Tryd.prog 41 #[v, .func (.func 42) #[] #[]] w fun e w' => ∃ x, e = .returned (.tuple #[x, .int .i64 0]) ∧ Its w' x ns ∧ (∀ n ∈ ns, In64 n) ∧ Below w.heap.size w w' := by
  have hmf : ∀ (fn : Fn) (first cap : Array Value) (w : World), (Instr.makeFunc fn first cap).run Tryd.prog w = .ok (.func fn first cap) w := fun _ _ _ _ => rfl
  have C := takeInts_any (rdW_rd h) (by simp; omega) (by simp) hl
  obtain ⟨a, c, rfl, _, _⟩ := h.slice
  have C2 : Calls Tryd.prog 42 #[ptrOf (w.heap.size + 1)] (rdW w (.slice a l.length c)) fun e w' => (w'.cell? ⟨w.heap.size, 0, none⟩ = some (.int .i64 0) ∧ w'.frozen? ⟨w.heap.size, 0, none⟩ = false) ∧ Hid (Below w.heap.size w w') ∧
      ∃ x a2 c2, e = .returned x ∧ w'.cell? ⟨w.heap.size + 1, 0, none⟩ = some (.slice a2 0 c2) ∧ Hid (OwnI (w.heap.size + 2) w' x ns ∧ ∀ n ∈ ns, In64 n) := by
    refine C.mono ?_
    rintro e w' ⟨hg, hc⟩
    refine ⟨rdW_cell hg, rdW_below hg, ?_⟩
    unfold readI at hs
    rcases hq : listR l with _ | ⟨ns', r⟩
    · rw [hq] at hs; cases hs
    · rw [hq] at hc hs
      obtain ⟨x, rfl, ho, ⟨v3, h1, h2, _⟩, hI⟩ := hc
      rcases r with _ | ⟨d, r⟩
      · cases hs
        obtain ⟨a2, c2, rfl, _, _⟩ := h2.slice
        rw [rdW_size] at ho
        exact ⟨x, a2, c2, rfl, (cell0 h1).1, ho, hI⟩
      · cases hs
  clear C h hs
  go_enter_defers Tryd.func41, Tryd.ntmps41
  go_wp2_with fail
  refine C2.mono ?_
  rintro e w3 ⟨⟨c3, f3⟩, HB, x, a2, c2, rfl, c4, HO⟩
  have E : Hid _ := whole_good c3 HB.out HO.out.1
  go_wp2_with fail
  refine leaves_cons (f := 69) (args := #[.pointer (some ⟨w.heap.size, 0, none⟩)]) (by simp) (by simp [go_sem]) ?_
  refine (catch_idle ⟨w.heap.size, 0, none⟩ _).mono ?_
  rintro e u' w'' ⟨rfl, rfl, rfl⟩
  simp [Leaves, settle, results, Tryd.results41, go_sem, E.out.1]
  exact ⟨E.out.2.1, HO.out.2, E.out.2.2⟩

set_option maxHeartbeats 1000000 in
theorem readInts_none {w : World} {v : Value} {l : List UInt8} (h : Bts w v l) (hl : l.length ≤ 1099511627776) (hno : readI l = none) :
    Calls Tryd.prog 16 #[v] w fun e w' => e = .returned (.tuple #[.slice none 0 0, .int .i64 12]) ∧ Below w.heap.size w w' := by
  have C := whole_none h hl hno
  clear h hno
  go_enter Tryd.func16, Tryd.ntmps16
  go_wp2_with (go_at_call 41; refine C.mono ?_; rintro e w' ⟨rfl, hb⟩)
  go_ret2
  exact ⟨rfl, hb⟩
set_option maxHeartbeats 1000000 in
theorem readInts_some {w : World} {v : Value} {l : List UInt8} (h : Bts w v l) (hl : l.length ≤ 1099511627776) {ns : List Int} (hs : readI l = some ns) :
    Calls Tryd.prog 16 #[v] w fun e w' => ∃ x, e = .returned (.tuple #[x, .int .i64 0]) ∧ Its w' x ns ∧ (∀ n ∈ ns, In64 n) ∧ Below w.heap.size w w' := by
  have C := whole_some h hl hs
  clear h hs
  go_enter Tryd.func16, Tryd.ntmps16
  go_wp2_with (go_at_call 41; refine C.mono ?_; rintro e w' ⟨x, rfl, hr⟩)
  go_ret2
  exact ⟨x, rfl, hr⟩
end Go.Proofs.YtohndhmhgdelmaaDoor
