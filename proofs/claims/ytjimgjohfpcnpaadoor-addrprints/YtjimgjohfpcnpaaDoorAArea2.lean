/- PrintArea of the program, for every two refs. -/
import Derived.Test.YtjimgjohfpcnpaaDoorAArea
import Derived.Test.YtjimgjohfpcnpaaDoorABox
import Derived.BigQuiet
namespace Go.Proofs.YtjimgjohfpcnpaaDoor
open Go.RowKit
set_option maxRecDepth 100000
set_option linter.unusedVariables false
set_option linter.unusedSimpArgs false
section
variable {b1 s1 b2 s2 X Y : ByteArray} {r1 c1 r2 c2 : Int} {fr1 fc1 fr2 fc2 : Bool} {w W : World}
set_option maxHeartbeats 4000000 in
theorem area_no (hW : W = (w.alloc (refO b1 s1 r1 c1 fr1 fc1)).alloc (refO b2 s2 r2 c2 fr2 fc2)) (P1 : RC W 18 #[.agg #[.string b1, .string s1, .int .i64 r1, .int .i64 c1, .bool fr1, .bool fc1]] (.string X)) (P2 : RC W 18 #[.agg #[.string b2, .string s2, .int .i64 r2, .int .i64 c2, .bool fr2, .bool fc2]] (.string Y))
    (hXY : X.toList = [] ∨ ((X.toList == []) = false ∧ Y.toList = [])) :
    Calls Tryd.prog 20 #[.agg #[.string b1, .string s1, .int .i64 r1, .int .i64 c1, .bool fr1, .bool fc1], .agg #[.string b2, .string s2, .int .i64 r2, .int .i64 c2, .bool fr2, .bool fc2]] w fun e w' => e = .returned (.string ⟨#[]⟩) ∧ Below w.heap.size w w' := by
  have GU := guard23
  have HC : Hid (∀ u : World, Below W.heap.size W u → (u.cell? ⟨w.heap.size, 0, none⟩ = some (.string b1) ∧ u.cell? ⟨w.heap.size, 1, none⟩ = some (.string s1) ∧ u.cell? ⟨w.heap.size, 2, none⟩ = some (.int .i64 r1) ∧ u.cell? ⟨w.heap.size, 3, none⟩ = some (.int .i64 c1) ∧ u.cell? ⟨w.heap.size, 4, none⟩ = some (.bool fr1) ∧ u.cell? ⟨w.heap.size, 5, none⟩ = some (.bool fc1)) ∧ (u.cell? ⟨w.heap.size + 1, 0, none⟩ = some (.string b2) ∧ u.cell? ⟨w.heap.size + 1, 1, none⟩ = some (.string s2) ∧ u.cell? ⟨w.heap.size + 1, 2, none⟩ = some (.int .i64 r2) ∧ u.cell? ⟨w.heap.size + 1, 3, none⟩ = some (.int .i64 c2) ∧ u.cell? ⟨w.heap.size + 1, 4, none⟩ = some (.bool fr2) ∧ u.cell? ⟨w.heap.size + 1, 5, none⟩ = some (.bool fc2))) := by
    subst hW
    exact fun u hu => ⟨r_cells (new2 hu).1, r_cells (new2 hu).2⟩
  have HB : Hid (Below W.heap.size W W.drew) := (Below.refl _ _).drew
  have HF : Hid (∀ u, Below W.heap.size W u → Below w.heap.size w u) := by
    subst hW
    exact fun u hu => bel2 hu
  have hW2 := hW.symm
  clear hW
  go_enter Tryd.func20, Tryd.ntmps20
  go_wp2_with fail
  try rw [hW2]
  go_region_held_law (fun u => (u.cell? ⟨w.heap.size, 0, none⟩ = some (.string b1) ∧ u.cell? ⟨w.heap.size, 1, none⟩ = some (.string s1) ∧ u.cell? ⟨w.heap.size, 2, none⟩ = some (.int .i64 r1) ∧ u.cell? ⟨w.heap.size, 3, none⟩ = some (.int .i64 c1) ∧ u.cell? ⟨w.heap.size, 4, none⟩ = some (.bool fr1) ∧ u.cell? ⟨w.heap.size, 5, none⟩ = some (.bool fc1)) ∧ (u.cell? ⟨w.heap.size + 1, 0, none⟩ = some (.string b2) ∧ u.cell? ⟨w.heap.size + 1, 1, none⟩ = some (.string s2) ∧ u.cell? ⟨w.heap.size + 1, 2, none⟩ = some (.int .i64 r2) ∧ u.cell? ⟨w.heap.size + 1, 3, none⟩ = some (.int .i64 c2) ∧ u.cell? ⟨w.heap.size + 1, 4, none⟩ = some (.bool fr2) ∧ u.cell? ⟨w.heap.size + 1, 5, none⟩ = some (.bool fc2)))
    (exact HC.out _ HB.out) (first
    | (go_at_call_of 18 b1; refine (P1 _ HB.out).mono ?_; rintro e w7 ⟨rfl, hb⟩; have HB : Hid (Below W.heap.size W w7) := hb; clear hb)
    | (go_at_call_of 18 b2; refine (P2 _ HB.out).mono ?_; rintro e w7 ⟨rfl, hb⟩; have HB : Hid (Below W.heap.size W w7) := hb; clear hb))
  go_wp2_with fail
  rcases hXY with h | ⟨h, h'⟩
  · go_quiet ((fail))
    go_wp2
    go_ret
    exact ⟨rfl, HF.out _ (HB.out.trans ((drewN_bel _ _).mono HB.out.size))⟩
  · go_quiet ((fail))
    go_wp2
    go_ret
    exact ⟨rfl, HF.out _ (HB.out.trans ((drewN_bel _ _).mono HB.out.size))⟩
end
theorem prB_no {b s : ByteArray} {r c : Int} {fr fc : Bool} (h : goodB b s r c = false) : (prB b s r c fr fc).toList = [] := by
  unfold prB
  rw [if_neg (by rw [h]; decide), ByteArray.toList_eq]
theorem prB_yes {b s : ByteArray} {r c : Int} {fr fc : Bool} (h : goodB b s r c = true) : prB b s r c fr fc = refT b s r.toNat c.toNat fr fc ∧ ((prB b s r c fr fc).toList == []) = false ∧ (prB b s r c fr fc).size ≤ 50 := by
  have e : prB b s r c fr fc = refT b s r.toNat c.toNat fr fc := by unfold prB; rw [if_pos h]
  obtain ⟨R, C, rfl, rfl, q1, q2, q3, q4, hw⟩ := good_yes h
  have ew := refT_ways (R := R) (C := C) (fr := fr) (fc := fc) hw
  have hc := cellB_size R C fr fc q1 q2
  simp only [Int.toNat_natCast] at e
  refine ⟨by simp only [Int.toNat_natCast]; exact e, ?_, ?_⟩
  · rw [e, ByteArray.toList_eq]
    unfold refT
    have : Ad.refW ⟨b.data.toList, s.data.toList, ⟨R, C, fr, fc⟩⟩ ≠ [] := by
      unfold Ad.refW
      simp only [ne_eq, List.append_eq_nil_iff, not_and]
      intro _ _
      exact Ad.cell_ne
    simpa using this
  · rw [e]
    rcases ew with ⟨_, _, e⟩ | ⟨_, z1, _, e⟩ | ⟨_, z1, _, z2, e⟩
    · rw [e]; omega
    · rw [e]
      simp only [ByteArray.size_append, ByteArray.size_mk']
      have : (#[33] : Array UInt8).size = 1 := rfl
      omega
    · rw [e]
      simp only [ByteArray.size_append, ByteArray.size_mk']
      have : (#[33] : Array UInt8).size = 1 := rfl
      have : (#[91] : Array UInt8).size = 1 := rfl
      have : (#[93] : Array UInt8).size = 1 := rfl
      omega
theorem area_any (b1 s1 : ByteArray) (r1 c1 : Int) (fr1 fc1 : Bool) (b2 s2 : ByteArray) (r2 c2 : Int) (fr2 fc2 : Bool) (z1 : b1.size ≤ 9223372036854775807) (z2 : s1.size ≤ 9223372036854775807) (z3 : b2.size ≤ 9223372036854775807) (z4 : s2.size ≤ 9223372036854775807) (w : World) (T : Tabs w) :
    Calls Tryd.prog 20 #[refV b1 s1 r1 c1 fr1 fc1, refV b2 s2 r2 c2 fr2 fc2] w fun e w' => e = .returned (.string (paB b1 s1 r1 c1 fr1 fc1 b2 s2 r2 c2 fr2 fc2)) ∧ Below w.heap.size w w' := by
  have P1 : RC ((w.alloc (refO b1 s1 r1 c1 fr1 fc1)).alloc (refO b2 s2 r2 c2 fr2 fc2)) 18 #[refV b1 s1 r1 c1 fr1 fc1] _ := RC.of fun u hu => aprint_any b1 s1 r1 c1 fr1 fc1 z1 z2 u (T.below (bel2 hu))
  have P2 : RC ((w.alloc (refO b1 s1 r1 c1 fr1 fc1)).alloc (refO b2 s2 r2 c2 fr2 fc2)) 18 #[refV b2 s2 r2 c2 fr2 fc2] _ := RC.of fun u hu => aprint_any b2 s2 r2 c2 fr2 fc2 z3 z4 u (T.below (bel2 hu))
  have CO : RC ((w.alloc (refO b1 s1 r1 c1 fr1 fc1)).alloc (refO b2 s2 r2 c2 fr2 fc2)) 46 #[refV b2 s2 r2 c2 fr2 fc2] _ := RC.of fun u hu => cellof_any b2 s2 r2 c2 fr2 fc2 u
  unfold paB
  cases g1 : goodB b1 s1 r1 c1
  · rw [if_neg (by simp)]
    exact area_no rfl P1 P2 (.inl (prB_no g1))
  obtain ⟨e1, n1, l1⟩ := prB_yes (fr := fr1) (fc := fc1) g1
  cases g2 : goodB b2 s2 r2 c2
  · rw [if_neg (by simp)]
    exact area_no rfl P1 P2 (.inr ⟨n1, prB_no g2⟩)
  obtain ⟨e2, n2, l2⟩ := prB_yes (fr := fr2) (fc := fc2) g2
  by_cases hs : s2.toList = []
  · rw [if_pos ⟨rfl, rfl, hs⟩]
    obtain ⟨R, C, rfl, rfl, q1, q2, q3, q4, hw⟩ := good_yes g2
    have hb : b2.toList = [] := by
      rcases hw with ⟨_, h⟩ | ⟨h, _⟩ | ⟨h, _⟩
      · exact h
      · rw [hs] at h; cases h
      · rw [hs] at h; cases h
    have eb : b2 = ⟨#[]⟩ := Go.WideShapes.bytes_inj (by rw [nil_data hb])
    have es : s2 = ⟨#[]⟩ := Go.WideShapes.bytes_inj (by rw [nil_data hs])
    have := area_core (o := false) rfl P1 P2 CO n1 n2 l1 l2 (fun V => by rw [eb, es]; exact run_ne_ref _ _ _ _ _ _ V)
    have ec : refT b2 s2 ((R : Int).toNat) ((C : Int).toNat) fr2 fc2 = cellB R C fr2 fc2 := by
      unfold refT Ad.refW cellB
      simp only [nil_data hs, nil_data hb, if_true, List.nil_append, Int.toNat_natCast]
    rw [e1, e2, ec] at this
    exact this
  · rw [if_neg (fun q => hs q.2.2)]
    have := area_core (o := true) rfl P1 P2 CO n1 n2 l1 l2 (fun V => run_ne_other _ _ _ _ _ _ _ _ _ _ _ _ V (.inr (by
      rw [show (⟨#[]⟩ : ByteArray).toList = [] by rw [ByteArray.toList_eq]]
      simpa using hs)))
    exact this
end Go.Proofs.YtjimgjohfpcnpaaDoor
