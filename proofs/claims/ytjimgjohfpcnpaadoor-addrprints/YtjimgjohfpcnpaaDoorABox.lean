/- Box of both. -/
import Derived.Test.YtjimgjohfpcnpaaDoorAMem
namespace Go.Proofs.YtjimgjohfpcnpaaDoor
open Go.RowKit
set_option maxRecDepth 100000
set_option linter.unusedVariables false
set_option linter.unusedSimpArgs false
theorem results_tmp4 {fn : Func} {t u v x : Tmp} (h : fn.results = #[.tmp t, .tmp u, .tmp v, .tmp x]) (tmps : Array Value) (P : Program) (w : World) :
    (results fn tmps).run P w = .ok (.tuple #[tmps.getD t undef, tmps.getD u undef, tmps.getD v undef, tmps.getD x undef]) w := by
  simp [results, h]
theorem drewN_bel (w : World) : ∀ n, Below w.heap.size w (w.drewN n)
  | 0 => by rw [World.drewN_zero]; exact Below.refl _ _
  | n + 1 => by
    have := drewN_bel w n
    exact ⟨this.os, this.tape, this.output, this.size, this.block⟩
def loI (a b : Int) : Int := if b < a then b else a
def hiI (a b : Int) : Int := if b < a then a else b
theorem lohi (a b : Int) : (b < a ∧ loI a b = b ∧ hiI a b = a) ∨ (a < b ∧ loI a b = a ∧ hiI a b = b) ∨ (a = b ∧ loI a b = a ∧ hiI a b = a) := by
  unfold loI hiI
  by_cases h : b < a
  · left; simp [h]
  · by_cases g : a < b
    · right; left; simp [h, g]
    · right; right; exact ⟨by omega, by simp [h], by simp [h]; omega⟩
abbrev boxV (a b c d : Int) : Value := .tuple #[.int .i64 a, .int .i64 b, .int .i64 c, .int .i64 d]
section
variable (b1 s1 : ByteArray) (r1 c1 : Int) (fr1 fc1 : Bool) (b2 s2 : ByteArray) (r2 c2 : Int) (fr2 fc2 : Bool) (w : World)
set_option maxHeartbeats 4000000 in
theorem box_any : Calls Tryd.prog 14 #[refV b1 s1 r1 c1 fr1 fc1, refV b2 s2 r2 c2 fr2 fc2] w fun e w' => e = .returned (boxV (loI r1 r2) (loI c1 c2) (hiI r1 r2) (hiI c1 c2)) ∧ Below w.heap.size w w' := by
  have HC : Hid (∀ u : World, Below ((w.alloc (refO b1 s1 r1 c1 fr1 fc1)).alloc (refO b2 s2 r2 c2 fr2 fc2)).heap.size ((w.alloc (refO b1 s1 r1 c1 fr1 fc1)).alloc (refO b2 s2 r2 c2 fr2 fc2)) u → (u.cell? ⟨w.heap.size, 2, none⟩ = some (.int .i64 r1) ∧ u.cell? ⟨w.heap.size, 3, none⟩ = some (.int .i64 c1)) ∧ (u.cell? ⟨w.heap.size + 1, 2, none⟩ = some (.int .i64 r2) ∧ u.cell? ⟨w.heap.size + 1, 3, none⟩ = some (.int .i64 c2))) :=
    fun u hu => ⟨⟨(r_cells (new2 hu).1).2.2.1, (r_cells (new2 hu).1).2.2.2.1⟩, (r_cells (new2 hu).2).2.2.1, (r_cells (new2 hu).2).2.2.2.1⟩
  have HB : Hid (Below ((w.alloc (refO b1 s1 r1 c1 fr1 fc1)).alloc (refO b2 s2 r2 c2 fr2 fc2)).heap.size ((w.alloc (refO b1 s1 r1 c1 fr1 fc1)).alloc (refO b2 s2 r2 c2 fr2 fc2)) ((w.alloc (refO b1 s1 r1 c1 fr1 fc1)).alloc (refO b2 s2 r2 c2 fr2 fc2)).drew) := (Below.refl _ _).drew
  have D := HC.out _ HB.out
  have E := HC.out _ (Below.refl _ _)
  obtain ⟨⟨d0, d1⟩, d2, d3⟩ := D
  obtain ⟨⟨f0, f1⟩, f2, f3⟩ := E
  rcases lohi r1 r2 with ⟨h1, e1, e2⟩ | ⟨h1, e1, e2⟩ | ⟨rfl, e1, e2⟩ <;> rcases lohi c1 c2 with ⟨h2, e3, e4⟩ | ⟨h2, e3, e4⟩ | ⟨rfl, e3, e4⟩
  all_goals
    rw [e1, e2, e3, e4]
    clear e1 e2 e3 e4
    go_enter Tryd.func14, Tryd.ntmps14
    go_wp2
    go_quiet ((fail))
    go_wp2
    (try simp only [Exit.inBlock, Exit.then])
    refine bodyPost_ret (results_tmp4 rfl _ _ _) rfl ?_
    exact ⟨rfl, bel2 (drewN_bel _ _)⟩
set_option maxHeartbeats 4000000 in
theorem rbox_any : Calls Tryd.prog 15 #[refV b1 s1 r1 c1 fr1 fc1, refV b2 s2 r2 c2 fr2 fc2] w fun e w' => e = .returned (boxV (loI r1 r2) (loI c1 c2) (hiI r1 r2) (hiI c1 c2)) ∧ Below w.heap.size w w' := by
  have HB : Hid (Below ((w.alloc (refO b1 s1 r1 c1 fr1 fc1)).alloc (refO b2 s2 r2 c2 fr2 fc2)).heap.size ((w.alloc (refO b1 s1 r1 c1 fr1 fc1)).alloc (refO b2 s2 r2 c2 fr2 fc2)) ((w.alloc (refO b1 s1 r1 c1 fr1 fc1)).alloc (refO b2 s2 r2 c2 fr2 fc2)).drew) := (Below.refl _ _).drew
  rcases lohi r1 r2 with ⟨h1, e1, e2⟩ | ⟨h1, e1, e2⟩ | ⟨rfl, e1, e2⟩ <;> rcases lohi c1 c2 with ⟨h2, e3, e4⟩ | ⟨h2, e3, e4⟩ | ⟨rfl, e3, e4⟩
  all_goals
    rw [e1, e2, e3, e4]
    clear e1 e2 e3 e4
    go_enter Tryd.func15, Tryd.ntmps15
    go_wp2
    go_quiet ((fail))
    go_wp2
    (try simp only [Exit.inBlock, Exit.then])
    refine bodyPost_ret (results_tmp4 rfl _ _ _) rfl ?_
    exact ⟨rfl, bel2 (drewN_bel _ _)⟩
end
end Go.Proofs.YtjimgjohfpcnpaaDoor
