/- The reference's world as New leaves it: what its operations do there. -/
import Derived.Test.YtmeecjedikechaaPlace
namespace Go.Proofs.Ytmeecjedikechaa
open Go.RowKit Go.Maps
open Go.WideMaps
set_option linter.unusedVariables false
set_option maxRecDepth 100000

def rblk : Obj := .cells #[.slice none 0 0, .bool false, .int .i64 0, .int .i64 0, .int .i64 0, .int .i64 0] 28
theorem rcells {w : World} {rb : Nat} (h : w.heap[rb]? = some rblk) : w.cell? ⟨rb, 0, none⟩ = some (.slice none 0 0) ∧ w.cell? ⟨rb, 1, none⟩ = some (.bool false) ∧ w.cell? ⟨rb, 2, none⟩ = some (.int .i64 0) ∧ w.cell? ⟨rb, 4, none⟩ = some (.int .i64 0) ∧ w.frozen? ⟨rb, 0, none⟩ = false ∧ w.frozen? ⟨rb, 4, none⟩ = false := by
  simp [World.cell?, World.frozen?, h, rblk]
theorem inf70 : (Try.prog.info? 70).map (fun i => (i.zero, i.size, i.bytes)) = some (some (.agg #[.string ⟨#[]⟩, .slice none 0 0, .int .i64 0]), 3, 48) := by kernel_rfl

section
variable {w : World} {rb : Nat}
set_option maxHeartbeats 400000 in
theorem rfind0 (h : w.heap[rb]? = some rblk) (nm : ByteArray) : Calls Try.prog 56 #[ptrOf rb, .string nm] w fun e w' => e = .returned (.int .i64 (-1)) ∧ w' = w := by
  obtain ⟨c0, -⟩ := rcells h
  clear h
  go_enter Try.func56, Try.ntmps56
  go_wp2_with fail
  refine wp_loop_rounds 1 ?_; rw [rounds_succ]
  go_wp2
  go_ret
  exact ⟨rfl, rfl⟩
set_option maxHeartbeats 400000 in
theorem rcut0 (h : w.heap[rb]? = some rblk) : Calls Try.prog 57 #[ptrOf rb] w fun e w' => e = .returned (.bool false) ∧ w' = w.setCell ⟨rb, 4, none⟩ (.int .i64 1) := by
  obtain ⟨-, -, c2, c4, -, f4⟩ := rcells h
  have c2' : (w.setCell ⟨rb, 4, none⟩ (.int .i64 1)).cell? ⟨rb, 2, none⟩ = some (.int .i64 0) := by simp [World.setCell, World.cell?, Array.getElem?_modify, h, rblk]
  clear h
  go_enter Try.func57, Try.ntmps57
  go_wp2
  go_ret
  exact ⟨rfl, rfl⟩
/-- One file alone, in a list that was none. -/
theorem rapp (w : World) (nm : ByteArray) (ba : Option Addr) (bn bc : Nat) (z : Int) : ∃ va vn vc w3, (Builtin.append_ #[26, 26] 26 #[.slice none 0 0, .slice (some ⟨w.heap.size + 1, 0, none⟩) 1 1]).run Try.prog ((w.alloc (.cells #[.string nm, .slice ba bn bc, .int .i64 z] 70)).alloc (.cells #[.string nm, .slice ba bn bc, .int .i64 z] 70)) = .ok (.slice va vn vc) w3 ∧
    (∀ i, i < w.heap.size → w3.heap[i]? = w.heap[i]?) ∧ w.heap.size ≤ w3.heap.size ∧ w.grownBy w3 none := by
  obtain ⟨i0, hi, hz0, hz1, hz2⟩ := info_parts inf70
  have hbx := heap_new1 w (.cells #[.string nm, .slice ba bn bc, .int .i64 z] 70) (.cells #[.string nm, .slice ba bn bc, .int .i64 z] 70)
  have hadd : ∀ k, (⟨w.heap.size + 1, 0, none⟩ : Addr).add k = ⟨w.heap.size + 1, k, none⟩ := fun k => by unfold Addr.add; split <;> simp_all
  obtain ⟨v', w', r1, o1, g1, _, _⟩ := run_append_own_at ((w.alloc (.cells #[.string nm, .slice ba bn bc, .int .i64 z] 70)).alloc (.cells #[.string nm, .slice ba bn bc, .int .i64 z] 70)) w.heap.size 26 26 70 i0 (.agg #[.string ⟨#[]⟩, .slice none 0 0, .int .i64 0]) 3 48 Try.underlying26 hi hz0 hz1 hz2 rfl (by decide) (.slice none 0 0) 0 [] (World.ownsRow_nil _ _ _ _) ⟨w.heap.size + 1, 0, none⟩ 1 1 [.string nm, .slice ba bn bc, .int .i64 z] rfl
    (fun j u hj => by rw [hadd, cell_of_row _ _ j _ _ _ hbx, ← hj]; simp) (by intro u hu; simp at hu; rcases hu with rfl | rfl | rfl <;> rfl) (by simp [maxLen]) (by omega) (by simp; omega)
  obtain ⟨va, vc, rfl⟩ := ownsRow_slice o1
  have hk : ∀ i, i < w.heap.size → w'.heap[i]? = w.heap[i]? := fun i hi => by
    rw [g1.block i (by simp; omega) (by simp [Value.ownBlock]), Below.heap_alloc _ _ i (by simp; omega), Below.heap_alloc _ _ i hi]
  have hs : w.heap.size ≤ w'.heap.size := by have := g1.size; simp at this; omega
  exact ⟨va, _, vc, w', r1, hk, hs, ⟨g1.os, g1.tape, g1.output, hs, fun i hi _ => hk i hi⟩⟩
theorem rcells_after {w w' : World} {rb : Nat} (h : w.heap[rb]? = some rblk ∨ w.heap[rb]? = (w.setCell ⟨rb, 4, none⟩ (.int .i64 1)).heap[rb]?) : True := trivial
/-- The reference's block, its first cell an empty list; it may be written. -/
def R0 (w : World) (rb : Nat) : Prop := w.cell? ⟨rb, 0, none⟩ = some (.slice none 0 0) ∧ w.frozen? ⟨rb, 0, none⟩ = false
theorem R0.of {w : World} {rb : Nat} (h : w.heap[rb]? = some rblk) : R0 w rb := by
  obtain ⟨c0, -, -, -, f0, -⟩ := rcells h
  exact ⟨c0, f0⟩
theorem R0.cut {w : World} {rb : Nat} (h : w.heap[rb]? = some rblk) : R0 (w.setCell ⟨rb, 4, none⟩ (.int .i64 1)) rb := by
  simp [R0, World.setCell, World.cell?, World.frozen?, Array.getElem?_modify, h, rblk]
theorem R0.lt {w : World} {rb : Nat} (h : R0 w rb) : rb < w.heap.size := World.block_lt_of_cell? w _ h.1
theorem set_grown (w : World) (rb i : Nat) (v : Value) : w.grownBy (w.setCell ⟨rb, i, none⟩ v) (some rb) := ⟨rfl, rfl, rfl, by simp [World.setCell], fun k _ hk => heap_set_other _ _ (by simpa using hk)⟩
theorem grown_trans {w w1 w2 : World} {rb : Nat} (h : w.grownBy w1 (some rb)) (k : w1.grownBy w2 (some rb)) : w.grownBy w2 (some rb) :=
  ⟨k.os.trans h.os, k.tape.trans h.tape, k.output.trans h.output, Nat.le_trans h.size k.size, fun i hi hne => (k.block i (Nat.lt_of_lt_of_le hi h.size) hne).trans (h.block i hi hne)⟩
theorem grown_weak {w w1 : World} {rb : Nat} (h : w.grownBy w1 none) : w.grownBy w1 (some rb) := ⟨h.os, h.tape, h.output, h.size, fun i hi _ => h.block i hi (by simp)⟩
set_option maxHeartbeats 1000000 in
theorem rput0 (h : R0 w rb) (nm : ByteArray) (ba : Option Addr) (bn bc : Nat) (z : Int) :
    Calls Try.prog 59 #[ptrOf rb, .agg #[.string nm, .slice ba bn bc, .int .i64 z]] w fun e w' => e = .returned (.tuple #[]) ∧ w.grownBy w' (some rb) := by
  obtain ⟨va, vn, vc, w3, run, hk, hs, hg⟩ := rapp w nm ba bn bc z
  have c1 : (w.alloc (.cells #[.string nm, .slice ba bn bc, .int .i64 z] 70)).cell? ⟨rb, 0, none⟩ = some (.slice none 0 0) := cell_alloc h.1 _
  have c3 : w3.cell? ⟨rb, 0, none⟩ = some (.slice none 0 0) := (World.cell?_of_block (hk rb h.lt)).trans h.1
  have f3 : w3.frozen? ⟨rb, 0, none⟩ = false := (World.frozen?_of_block (hk rb h.lt)).trans h.2
  have HR : Hid _ := run
  have HE : Hid (w.grownBy (w3.setCell ⟨rb, 0, none⟩ (.slice va vn vc)) (some rb)) := grown_trans (grown_weak hg) (set_grown _ _ _ _)
  clear run hk hs hg h
  go_enter Try.func59, Try.ntmps59
  go_wp2_with fail
  refine wp_loop_rounds 1 ?_; rw [rounds_succ]
  go_wp2_with (at_builtin; refine wpList_append_run rfl _ _ 26 rfl _ _ _ _ rfl rfl HR.out ?_)
  go_end0
  exact ⟨rfl, HE.out⟩
set_option maxHeartbeats 1000000 in
theorem rcreate0 (h : w.heap[rb]? = some rblk) (nm : ByteArray) (hn : nm.size ≤ maxLen) :
    Calls Try.prog 30 #[ptrOf rb, .string nm] w fun e w' => ∃ z, e = .returned (.int .i64 z) ∧ w.grownBy w' (some rb) := by
  have G := refGood_any nm w hn
  have Fd := rfind0 h nm
  have Ct := rcut0 h
  have Pt := rput0 (R0.cut h) nm none 0 0 0
  obtain ⟨c0, c1, -⟩ := rcells h
  have HG : Hid (w.grownBy (w.setCell ⟨rb, 4, none⟩ (.int .i64 1)) (some rb)) := set_grown _ _ _ _
  clear h hn
  cases hg : goodB nm with
  | false =>
    rw [hg] at G
    clear hg
    go_enter Try.func30, Try.ntmps30
    go_wp2_with (go_at_call 14; refine G.mono ?_; rintro e w' ⟨rfl, rfl⟩)
    go_ret
    exact ⟨_, rfl, ⟨rfl, rfl, rfl, Nat.le_refl _, fun _ _ _ => rfl⟩⟩
  | true =>
    rw [hg] at G
    clear hg
    go_enter Try.func30, Try.ntmps30
    go_wp2_with (first
      | (go_at_call 14; refine G.mono ?_; rintro e w' ⟨rfl, rfl⟩)
      | (go_at_call 56; refine Fd.mono ?_; rintro e w' ⟨rfl, rfl⟩)
      | (go_at_call 57; refine Ct.mono ?_; rintro e w1 ⟨rfl, rfl⟩)
      | (go_at_call 59; refine Pt.mono ?_; rintro e w2 ⟨rfl, hg2⟩))
    go_ret
    exact ⟨_, rfl, grown_trans HG.out hg2⟩
end
end Go.Proofs.Ytmeecjedikechaa
