/- PrintArea of the program. -/
import Derived.Test.YtjimgjohfpcnpaaDoorARPrint
import Derived.Test.YtjimgjohfpcnpaaDoorAEq
namespace Go.Proofs.YtjimgjohfpcnpaaDoor
open Go.RowKit
set_option maxRecDepth 100000
set_option linter.unusedVariables false
set_option linter.unusedSimpArgs false
theorem res_one {fn : Func} {i : Tmp} (hr : fn.results = #[.cell i 23]) {tmps : Array Value} {g : Nat} {wf : World} (hp : tmps.getD i undef = .pointer (some ⟨g, 0, none⟩)) {b s : ByteArray} {r c : Int} {fr fc : Bool}
    (h : wf.heap[g]? = some (refO b s r c fr fc)) : (results fn tmps).run Tryd.prog wf = .ok (refV b s r c fr fc) wf := by
  obtain ⟨c0, c1, c2, c3, c4, c5⟩ := r_cells h
  simp only [Array.getD_eq_getD_getElem?] at hp
  simp [results, hr, hp, go_sem, c0, c1, c2, c3, c4, c5]
set_option maxHeartbeats 2000000 in
theorem cellof_any (b s : ByteArray) (r c : Int) (fr fc : Bool) (w : World) :
    Calls Tryd.prog 46 #[refV b s r c fr fc] w fun e w' => e = .returned (refV ⟨#[]⟩ ⟨#[]⟩ r c fr fc) ∧ Below w.heap.size w w' := by
  go_enter Tryd.func46, Tryd.ntmps46
  go_wp2
  refine bodyPost_ret (v := refV ⟨#[]⟩ ⟨#[]⟩ r c fr fc) (by simp [results, Tryd.results46, go_sem]) rfl ?_
  refine ⟨rfl, ?_⟩
  repeat (first | exact Below.refl _ _ | refine Below.drew ?_ | refine bel_alloc ?_ _ | refine Below.setCell ?_ (by simp) _)
/-- The text of an area. -/
def paB (b1 s1 : ByteArray) (r1 c1 : Int) (fr1 fc1 : Bool) (b2 s2 : ByteArray) (r2 c2 : Int) (fr2 fc2 : Bool) : ByteArray :=
  if goodB b1 s1 r1 c1 = true ∧ goodB b2 s2 r2 c2 = true ∧ s2.toList = [] then refT b1 s1 r1.toNat c1.toNat fr1 fc1 ++ ⟨#[58]⟩ ++ cellB r2.toNat c2.toNat fr2 fc2 else ⟨#[]⟩
section
variable {b1 s1 b2 s2 X Y : ByteArray} {r1 c1 r2 c2 : Int} {fr1 fc1 fr2 fc2 : Bool} {w W : World}
set_option maxHeartbeats 4000000 in
theorem area_core (hW : W = (w.alloc (refO b1 s1 r1 c1 fr1 fc1)).alloc (refO b2 s2 r2 c2 fr2 fc2)) (P1 : RC W 18 #[.agg #[.string b1, .string s1, .int .i64 r1, .int .i64 c1, .bool fr1, .bool fc1]] (.string X)) (P2 : RC W 18 #[.agg #[.string b2, .string s2, .int .i64 r2, .int .i64 c2, .bool fr2, .bool fc2]] (.string Y))
    (CO : RC W 46 #[.agg #[.string b2, .string s2, .int .i64 r2, .int .i64 c2, .bool fr2, .bool fc2]] (.agg #[.string ⟨#[]⟩, .string ⟨#[]⟩, .int .i64 r2, .int .i64 c2, .bool fr2, .bool fc2])) (hX : (X.toList == []) = false) (hY : (Y.toList == []) = false) (zX : X.size ≤ 50) (zY : Y.size ≤ 50) {o : Bool}
    (NE : ∀ V, (binOp .neq 23 (.agg #[.string b2, .string s2, .int .i64 r2, .int .i64 c2, .bool fr2, .bool fc2]) (.agg #[.string ⟨#[]⟩, .string ⟨#[]⟩, .int .i64 r2, .int .i64 c2, .bool fr2, .bool fc2])).run Tryd.prog V = .ok (.bool o) V) :
    Calls Tryd.prog 20 #[.agg #[.string b1, .string s1, .int .i64 r1, .int .i64 c1, .bool fr1, .bool fc1], .agg #[.string b2, .string s2, .int .i64 r2, .int .i64 c2, .bool fr2, .bool fc2]] w fun e w' => e = .returned (.string (if o = true then ⟨#[]⟩ else X ++ ⟨#[58]⟩ ++ Y)) ∧ Below w.heap.size w w' := by
  have GU := guard23
  have HC : Hid (∀ u : World, Below W.heap.size W u → (u.cell? ⟨w.heap.size, 0, none⟩ = some (.string b1) ∧ u.cell? ⟨w.heap.size, 1, none⟩ = some (.string s1) ∧ u.cell? ⟨w.heap.size, 2, none⟩ = some (.int .i64 r1) ∧ u.cell? ⟨w.heap.size, 3, none⟩ = some (.int .i64 c1) ∧ u.cell? ⟨w.heap.size, 4, none⟩ = some (.bool fr1) ∧ u.cell? ⟨w.heap.size, 5, none⟩ = some (.bool fc1)) ∧ (u.cell? ⟨w.heap.size + 1, 0, none⟩ = some (.string b2) ∧ u.cell? ⟨w.heap.size + 1, 1, none⟩ = some (.string s2) ∧ u.cell? ⟨w.heap.size + 1, 2, none⟩ = some (.int .i64 r2) ∧ u.cell? ⟨w.heap.size + 1, 3, none⟩ = some (.int .i64 c2) ∧ u.cell? ⟨w.heap.size + 1, 4, none⟩ = some (.bool fr2) ∧ u.cell? ⟨w.heap.size + 1, 5, none⟩ = some (.bool fc2))) := by
    subst hW
    exact fun u hu => ⟨r_cells (new2 hu).1, r_cells (new2 hu).2⟩
  have HB : Hid (Below W.heap.size W W.drew) := (Below.refl _ _).drew
  have HF : Hid (∀ u, Below W.heap.size W u → Below w.heap.size w u) := by
    subst hW
    exact fun u hu => bel2 hu
  have z5 : ¬ 9223372036854775807 < X.size + 1 := by omega
  have z6 : ¬ 9223372036854775807 < X.size + 1 + Y.size := by omega
  have hW2 := hW.symm
  clear hW
  go_enter Tryd.func20, Tryd.ntmps20
  go_wp2_with fail
  try rw [hW2]
  go_region_held_law (fun u => (u.cell? ⟨w.heap.size, 0, none⟩ = some (.string b1) ∧ u.cell? ⟨w.heap.size, 1, none⟩ = some (.string s1) ∧ u.cell? ⟨w.heap.size, 2, none⟩ = some (.int .i64 r1) ∧ u.cell? ⟨w.heap.size, 3, none⟩ = some (.int .i64 c1) ∧ u.cell? ⟨w.heap.size, 4, none⟩ = some (.bool fr1) ∧ u.cell? ⟨w.heap.size, 5, none⟩ = some (.bool fc1)) ∧ (u.cell? ⟨w.heap.size + 1, 0, none⟩ = some (.string b2) ∧ u.cell? ⟨w.heap.size + 1, 1, none⟩ = some (.string s2) ∧ u.cell? ⟨w.heap.size + 1, 2, none⟩ = some (.int .i64 r2) ∧ u.cell? ⟨w.heap.size + 1, 3, none⟩ = some (.int .i64 c2) ∧ u.cell? ⟨w.heap.size + 1, 4, none⟩ = some (.bool fr2) ∧ u.cell? ⟨w.heap.size + 1, 5, none⟩ = some (.bool fc2)))
    (exact HC.out _ HB.out) (first
    | (go_at_call_of 18 b1; refine (P1 _ HB.out).mono ?_; rintro e w7 ⟨rfl, hb⟩; have HB : Hid (Below W.heap.size W w7) := hb; clear hb)
    | (go_at_call_of 18 b2; refine (P2 _ HB.out).mono ?_; rintro e w7 ⟨rfl, hb⟩; have HB : Hid (Below W.heap.size W w7) := hb; clear hb))
  go_wp2_with fail
  have HB : Hid (Below W.heap.size W (World.drew _)) := HB.out.drew
  go_region_held_law (fun u => (u.cell? ⟨w.heap.size, 0, none⟩ = some (.string b1) ∧ u.cell? ⟨w.heap.size, 1, none⟩ = some (.string s1) ∧ u.cell? ⟨w.heap.size, 2, none⟩ = some (.int .i64 r1) ∧ u.cell? ⟨w.heap.size, 3, none⟩ = some (.int .i64 c1) ∧ u.cell? ⟨w.heap.size, 4, none⟩ = some (.bool fr1) ∧ u.cell? ⟨w.heap.size, 5, none⟩ = some (.bool fc1)) ∧ (u.cell? ⟨w.heap.size + 1, 0, none⟩ = some (.string b2) ∧ u.cell? ⟨w.heap.size + 1, 1, none⟩ = some (.string s2) ∧ u.cell? ⟨w.heap.size + 1, 2, none⟩ = some (.int .i64 r2) ∧ u.cell? ⟨w.heap.size + 1, 3, none⟩ = some (.int .i64 c2) ∧ u.cell? ⟨w.heap.size + 1, 4, none⟩ = some (.bool fr2) ∧ u.cell? ⟨w.heap.size + 1, 5, none⟩ = some (.bool fc2)))
    (exact HC.out _ HB.out) (first
    | (go_at_call 46; refine (CO _ HB.out).mono ?_; rintro e w9 ⟨rfl, hb⟩; have HB : Hid (Below W.heap.size W w9) := hb; clear hb))
  cases o
  · go_wp2
    go_ret
    exact ⟨rfl, HF.out _ HB.out⟩
  · go_wp2
    go_ret
    exact ⟨rfl, HF.out _ HB.out⟩
end
end Go.Proofs.YtjimgjohfpcnpaaDoor
