/- The walk of the law AddrPlaces. -/
import Derived.Test.YtjimgjohfpcnpaaDoorALives
import Derived.Test.YtjimgjohfpcnpaaDoorAAt
import Derived.Test.YtjimgjohfpcnpaaDoorARCmp
namespace Go.Proofs.YtjimgjohfpcnpaaDoor
open Go.RowKit
set_option maxRecDepth 100000
set_option linter.unusedVariables false
set_option linter.unusedSimpArgs false
theorem cmpL_anti (a b : List UInt8) : cmpL a b = -cmpL b a ∧ -1 ≤ cmpL a b ∧ cmpL a b ≤ 1 := by
  rcases cmpL_ways a b with ⟨h, e⟩ | ⟨h, g, e⟩ | ⟨h, g, e⟩
  · subst h; rw [e]; decide
  · rcases cmpL_ways b a with ⟨h', e'⟩ | ⟨h', g', e'⟩ | ⟨h', g', e'⟩
    · subst h'; simp at h
    · have := less_tri a b
      rw [g, g'] at this; cases this
    · rw [e, e']; decide
  · rcases cmpL_ways b a with ⟨h', e'⟩ | ⟨h', g', e'⟩ | ⟨h', g', e'⟩
    · subst h'; simp at h
    · rw [e, e']; decide
    · have := less_tri a b
      rw [g, g', h] at this; cases this
theorem cmpN_anti (a b : Int) : cmpN a b = -cmpN b a ∧ -1 ≤ cmpN a b ∧ cmpN a b ≤ 1 := by
  unfold cmpN
  by_cases h1 : a < b
  · have : ¬ b < a := by omega
    simp [h1, this]
  · by_cases h2 : b < a <;> simp [h1, h2]
theorem or_anti {a b c d a' b' c' d' : Int} (h1 : a = -a') (h2 : b = -b') (h3 : c = -c') (h4 : d = -d') : orF a b c d = -orF a' b' c' d' := by
  unfold orF
  subst h1 h2 h3 h4
  by_cases e1 : a' = 0
  · by_cases e2 : b' = 0
    · by_cases e3 : c' = 0 <;> simp [e1, e2, e3]
    · simp [e1, e2]
  · simp [e1]
theorem or_bd {a b c d : Int} (h1 : -1 ≤ a ∧ a ≤ 1) (h2 : -1 ≤ b ∧ b ≤ 1) (h3 : -1 ≤ c ∧ c ≤ 1) (h4 : -1 ≤ d ∧ d ≤ 1) : -1 ≤ orF a b c d ∧ orF a b c d ≤ 1 := by
  unfold orF
  split
  · exact h1
  · split
    · exact h2
    · split
      · exact h3
      · exact h4
section
variable (b1 s1 : ByteArray) (r1 c1 : Int) (b2 s2 : ByteArray) (r2 c2 : Int)
theorem cmpP_anti : cmpP b1 s1 r1 c1 b2 s2 r2 c2 = -cmpP b2 s2 r2 c2 b1 s1 r1 c1 := or_anti (cmpL_anti _ _).1 (cmpL_anti _ _).1 (cmpN_anti _ _).1 (cmpN_anti _ _).1
theorem cmpP_bd : -1 ≤ cmpP b1 s1 r1 c1 b2 s2 r2 c2 ∧ cmpP b1 s1 r1 c1 b2 s2 r2 c2 ≤ 1 := or_bd (cmpL_anti _ _).2 (cmpL_anti _ _).2 (cmpN_anti _ _).2 (cmpN_anti _ _).2
theorem cmpP_same : cmpP b1 s1 r1 c1 b1 s1 r1 c1 = 0 := by
  have := cmpP_anti b1 s1 r1 c1 b1 s1 r1 c1
  omega
end
set_option maxHeartbeats 8000000 in
theorem places_core {b s b1 s1 b2 s2 x y : ByteArray} {r c r1 c1 r2 c2 X Z : Int} {fr fc : Bool} {w W : World} (hW : W = ((w.alloc (refO b s r c fr fc)).alloc (plcO b1 s1 r1 c1)).alloc (plcO b2 s2 r2 c2))
    (A1 : RC W 24 #[.agg #[.string b, .string s, .int .i64 r, .int .i64 c, .bool fr, .bool fc], .agg #[.string b1, .string s1, .int .i64 r1, .int .i64 c1]] (.agg #[.string x, .string y, .int .i64 r, .int .i64 c]))
    (A2 : RC W 25 #[.agg #[.string b, .string s, .int .i64 r, .int .i64 c, .bool fr, .bool fc], .agg #[.string b1, .string s1, .int .i64 r1, .int .i64 c1]] (.agg #[.string x, .string y, .int .i64 r, .int .i64 c]))
    (CP : ∀ b1 s1 r1 c1 b2 s2 r2 c2, RC W 26 #[.agg #[.string b1, .string s1, .int .i64 r1, .int .i64 c1], .agg #[.string b2, .string s2, .int .i64 r2, .int .i64 c2]] (.int .i64 (cmpP b1 s1 r1 c1 b2 s2 r2 c2)))
    (CR : RC W 27 #[.agg #[.string b1, .string s1, .int .i64 r1, .int .i64 c1], .agg #[.string b2, .string s2, .int .i64 r2, .int .i64 c2]] (.int .i64 X))
    (LV : RC W 13 #[] (.bool true)) (e1 : cmpP b1 s1 r1 c1 b2 s2 r2 c2 = X) (e2 : cmpP b2 s2 r2 c2 b1 s1 r1 c1 = Z) (e3 : -Z = X) (e4 : IntKind.i64.wrap X = X) :
    Calls Tryd.prog 5 #[.agg #[.string b, .string s, .int .i64 r, .int .i64 c, .bool fr, .bool fc], .agg #[.string b1, .string s1, .int .i64 r1, .int .i64 c1], .agg #[.string b2, .string s2, .int .i64 r2, .int .i64 c2]] w fun e w' => e = .returned (.bool true) ∧ Below w.heap.size w w' := by
  have EQ := fun V => run_eq_plc x y r c V
  have GU := guard36
  have e0 := cmpP_same b1 s1 r1 c1
  have HC : Hid (∀ u : World, Below W.heap.size W u → (u.cell? ⟨w.heap.size, 0, none⟩ = some (.string b) ∧ u.cell? ⟨w.heap.size, 1, none⟩ = some (.string s) ∧ u.cell? ⟨w.heap.size, 2, none⟩ = some (.int .i64 r) ∧ u.cell? ⟨w.heap.size, 3, none⟩ = some (.int .i64 c) ∧ u.cell? ⟨w.heap.size, 4, none⟩ = some (.bool fr) ∧ u.cell? ⟨w.heap.size, 5, none⟩ = some (.bool fc)) ∧ (u.cell? ⟨w.heap.size + 1, 0, none⟩ = some (.string b1) ∧ u.cell? ⟨w.heap.size + 1, 1, none⟩ = some (.string s1) ∧ u.cell? ⟨w.heap.size + 1, 2, none⟩ = some (.int .i64 r1) ∧ u.cell? ⟨w.heap.size + 1, 3, none⟩ = some (.int .i64 c1)) ∧ (u.cell? ⟨w.heap.size + 2, 0, none⟩ = some (.string b2) ∧ u.cell? ⟨w.heap.size + 2, 1, none⟩ = some (.string s2) ∧ u.cell? ⟨w.heap.size + 2, 2, none⟩ = some (.int .i64 r2) ∧ u.cell? ⟨w.heap.size + 2, 3, none⟩ = some (.int .i64 c2))) := by
    subst hW
    exact fun u hu => ⟨r_cells (new3 hu).1, p_cells (new3 hu).2.1, p_cells (new3 hu).2.2⟩
  have HB : Hid (Below W.heap.size W W.drew) := (Below.refl _ _).drew
  have HF : Hid (∀ u, Below W.heap.size W u → Below w.heap.size w u) := by
    subst hW
    exact fun u hu => bel3 hu
  have hW2 := hW.symm
  clear hW
  go_enter Tryd.func5, Tryd.ntmps5
  go_wp2_with fail
  try rw [hW2]
  go_region_held_law (fun u => (u.cell? ⟨w.heap.size, 0, none⟩ = some (.string b) ∧ u.cell? ⟨w.heap.size, 1, none⟩ = some (.string s) ∧ u.cell? ⟨w.heap.size, 2, none⟩ = some (.int .i64 r) ∧ u.cell? ⟨w.heap.size, 3, none⟩ = some (.int .i64 c) ∧ u.cell? ⟨w.heap.size, 4, none⟩ = some (.bool fr) ∧ u.cell? ⟨w.heap.size, 5, none⟩ = some (.bool fc)) ∧ (u.cell? ⟨w.heap.size + 1, 0, none⟩ = some (.string b1) ∧ u.cell? ⟨w.heap.size + 1, 1, none⟩ = some (.string s1) ∧ u.cell? ⟨w.heap.size + 1, 2, none⟩ = some (.int .i64 r1) ∧ u.cell? ⟨w.heap.size + 1, 3, none⟩ = some (.int .i64 c1)) ∧ (u.cell? ⟨w.heap.size + 2, 0, none⟩ = some (.string b2) ∧ u.cell? ⟨w.heap.size + 2, 1, none⟩ = some (.string s2) ∧ u.cell? ⟨w.heap.size + 2, 2, none⟩ = some (.int .i64 r2) ∧ u.cell? ⟨w.heap.size + 2, 3, none⟩ = some (.int .i64 c2)))
    (exact HC.out _ HB.out) (first
    | (go_at_call 24; refine (A1 _ HB.out).mono ?_; rintro e w7 ⟨rfl, hb⟩; have HB : Hid (Below W.heap.size W w7) := hb; clear hb)
    | (go_at_call 25; refine (A2 _ HB.out).mono ?_; rintro e w7 ⟨rfl, hb⟩; have HB : Hid (Below W.heap.size W w7) := hb; clear hb)
    | (go_at_call 26; refine (CP _ _ _ _ _ _ _ _ _ HB.out).mono ?_; rintro e w7 ⟨rfl, hb⟩; have HB : Hid (Below W.heap.size W w7) := hb; clear hb)
    | (go_at_call 27; refine (CR _ HB.out).mono ?_; rintro e w7 ⟨rfl, hb⟩; have HB : Hid (Below W.heap.size W w7) := hb; clear hb)
    | (go_at_call 13; refine (LV _ HB.out).mono ?_; rintro e w7 ⟨rfl, hb⟩; have HB : Hid (Below W.heap.size W w7) := hb; clear hb))
  go_wp2
  go_ret
  exact ⟨rfl, HF.out _ HB.out⟩
theorem places_walk (b s : ByteArray) (r c : Int) (fr fc : Bool) (b1 s1 : ByteArray) (r1 c1 : Int) (b2 s2 : ByteArray) (r2 c2 : Int) (w : World) (T : Tab8 w) :
    Calls Tryd.prog 5 #[refV b s r c fr fc, plcV b1 s1 r1 c1, plcV b2 s2 r2 c2] w fun e w' => e = .returned (.bool true) ∧ Below w.heap.size w w' := by
  have hX := cmpP_bd b1 s1 r1 c1 b2 s2 r2 c2
  exact places_core rfl (RC.of fun u _ => at_any b s r c fr fc b1 s1 r1 c1 u) (RC.of fun u _ => rat_any b s r c b1 s1 r1 c1 u fr fc) (fun _ _ _ _ _ _ _ _ => RC.of fun u _ => cmp_any _ _ _ _ _ _ _ _ u) (RC.of fun u _ => rcmp_any b1 s1 r1 c1 b2 s2 r2 c2 u)
    (RC.of fun u hu => lives_any u (T.below (bel3 hu))) rfl rfl (by rw [cmpP_anti b1 s1 r1 c1 b2 s2 r2 c2]) (wrap_i64 (by omega) (by omega))
end Go.Proofs.YtjimgjohfpcnpaaDoor
