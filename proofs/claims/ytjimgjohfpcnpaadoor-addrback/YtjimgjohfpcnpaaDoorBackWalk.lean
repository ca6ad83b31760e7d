/- The law AddrBack, for every ref and text. -/
import Derived.Test.YtjimgjohfpcnpaaDoorBackWalk0
namespace Go.Proofs.YtjimgjohfpcnpaaDoor
open Go.RowKit
set_option maxRecDepth 100000
set_option linter.unusedVariables false
set_option linter.unusedSimpArgs false
theorem toList_mk (l : List UInt8) : (⟨l.toArray⟩ : ByteArray).toList = l := by rw [ByteArray.toList_eq]
theorem good_of_R {r : Ad.Ref} (h : Ad.goodR gnF r) : goodB ⟨r.book.toArray⟩ ⟨r.sheet.toArray⟩ r.cell.row r.cell.col = true := by
  obtain ⟨⟨h1, h2, h3, h4⟩, hs, hb⟩ := h
  unfold goodB
  rw [in_mk h1 h2 h3 h4, Bool.true_and, toList_mk, toList_mk]
  by_cases e : r.sheet = []
  · rw [if_pos e]
    rcases hb with hb | ⟨_, hb⟩
    · exact decide_eq_true hb
    · exact absurd e hb
  · rw [if_neg e]
    have g := hs.resolve_left e
    have g' : gnF (⟨r.sheet.toArray⟩ : ByteArray).data.toList = true := g
    rw [g', Bool.true_and]
    rcases hb with hb | ⟨hb, _⟩
    · rw [decide_eq_true hb]; rfl
    · have g2 : gnF (⟨r.book.toArray⟩ : ByteArray).data.toList = true := hb
      rw [g2]; simp
theorem R_of_good {b s : ByteArray} {r c : Int} (h : goodB b s r c = true) (fr fc : Bool) : Ad.goodR gnF ⟨b.data.toList, s.data.toList, ⟨r.toNat, c.toNat, fr, fc⟩⟩ := by
  obtain ⟨R, C, rfl, rfl, q1, q2, q3, q4, hw⟩ := good_yes h
  refine ⟨⟨q1, q2, q3, q4⟩, ?_, ?_⟩
  · rcases hw with ⟨h1, _⟩ | ⟨_, h1, _⟩ | ⟨_, h1, _⟩
    · exact .inl (nil_data h1)
    · exact .inr h1
    · exact .inr h1
  · rcases hw with ⟨_, h1⟩ | ⟨_, _, h1⟩ | ⟨h0, _, _, h1⟩
    · exact .inl (nil_data h1)
    · exact .inl (nil_data h1)
    · exact .inr ⟨h1, ne_data h0⟩
theorem back_walk (b s : ByteArray) (r c : Int) (fr fc : Bool) (S : ByteArray) (hb : b.size ≤ 9223372036854775807) (hs : s.size ≤ 9223372036854775807) (hS : S.size ≤ 140737488355328) (w : World) (T : Tab8 w) :
    Calls Tryd.prog 6 #[refV b s r c fr fc, .string S] w fun e w' => e = .returned (.bool true) ∧ Below w.heap.size w w' := by
  have GD := fun u (hu : Below w.heap.size w u) => agood_any b s r c fr fc (by omega) (by omega) u (T.below hu).t
  have PT := fun u (hu : Below w.heap.size w u) => aprint_any b s r c fr fc (by omega) (by omega) u (T.below hu).t
  have PS := fun u (hu : Below w.heap.size w u) => parseref_any S.data.toList (by rw [size_list]; exact hS) u (T.below hu)
  have LV := fun u (hu : Below w.heap.size w u) => lives_any u (T.below hu)
  rw [mk_list] at PS
  unfold prB at PT
  have ways : ∀ r' : Ad.Ref, Ad.refP gnF S.data.toList = some r' → (∀ u, Below w.heap.size w u → Calls Tryd.prog 18 #[refR (some r')] u fun e w' => e = .returned (.string ⟨(Ad.refW r').toArray⟩) ∧ Below u.heap.size u w') ∧ (∀ u, Below w.heap.size w u → Calls Tryd.prog 9 #[.string ⟨(Ad.refW r').toArray⟩] u fun e w' => e = .returned (.tuple #[refR (some r'), .bool true]) ∧ Below u.heap.size u w') ∧ (((⟨(Ad.refW r').toArray⟩ : ByteArray).size : Int) = S.size) := fun r' hr => by
    obtain ⟨g1, g2⟩ := Ad.ref_of gn_names hr
    have g3 := good_of_R g1
    have hn : r'.book.length ≤ 140737488355328 ∧ r'.sheet.length ≤ 140737488355328 := by
      rw [size_list] at g2
      obtain ⟨book, sheet, cell⟩ := r'
      unfold Ad.refW at g2
      simp only [List.length_append] at g2
      constructor
      · by_cases e : book = []
        · simp [e]
        · rw [if_neg e] at g2; simp only [List.length_cons, List.length_append] at g2; show book.length ≤ _; omega
      · by_cases e : sheet = []
        · simp [e]
        · rw [if_neg e] at g2; simp only [List.length_append] at g2; show sheet.length ≤ _; omega
    refine ⟨fun u hu => ?_, fun u hu => ?_, ?_⟩
    · have := aprint_any ⟨r'.book.toArray⟩ ⟨r'.sheet.toArray⟩ r'.cell.row r'.cell.col r'.cell.fr r'.cell.fc (by rw [size_mk]; omega) (by rw [size_mk]; omega) u (T.below hu).t
      unfold prB at this
      rw [if_pos g3] at this
      exact this
    · have := parseref_any (Ad.refW r') (by rw [g2, size_list]; exact hS) u (T.below hu)
      rw [Ad.ref_back gn_names g1] at this
      exact this
    · rw [size_mk, g2, size_list]
  cases hg : goodB b s r c
  · rw [hg] at GD PT
    cases hp : Ad.refP gnF S.data.toList with
    | none => rw [hp] at PS; exact back_ff GD PT PS LV
    | some r' =>
      rw [hp] at PS
      obtain ⟨w1, w2, w3⟩ := ways r' hp
      exact back_ft GD PT PS w1 w2 LV w3
  · rw [hg] at GD PT
    have hR := R_of_good hg fr fc
    have hz : (Ad.refW ⟨b.data.toList, s.data.toList, ⟨r.toNat, c.toNat, fr, fc⟩⟩).length ≤ 140737488355328 := by
      obtain ⟨R, C, rfl, rfl, q1, q2, q3, q4, hw⟩ := good_yes hg
      have e := refT_ways (R := R) (C := C) (fr := fr) (fc := fc) hw
      have hc := cellB_size R C fr fc q1 q2
      have hh : (refT b s R C fr fc).size ≤ 50 := by
        rcases e with ⟨_, _, e⟩ | ⟨_, z1, _, e⟩ | ⟨_, z1, _, z2, e⟩
        · rw [e]; omega
        · rw [e]
          simp only [ByteArray.size_append, ByteArray.size_mk']
          have : (#[33] : Array UInt8).size = 1 := rfl
          omega
        · rw [e]
          simp only [ByteArray.size_append, ByteArray.size_mk']
          have : (#[33] : Array UInt8).size = 1 := rfl
          have : (#[91] : Array UInt8).size = 1 := rfl
          have : (#[93] : Array UInt8).size = 1 := rfl
          omega
      unfold refT at hh
      rw [size_mk] at hh
      simp only [Int.toNat_natCast]
      omega
    have PR := fun u (hu : Below w.heap.size w u) => parseref_any _ hz u (T.below hu)
    rw [Ad.ref_back gn_names hR] at PR
    have PR' : ∀ u, Below w.heap.size w u → Calls Tryd.prog 9 #[.string (refT b s r.toNat c.toNat fr fc)] u fun e w' => e = .returned (.tuple #[refV b s r c fr fc, .bool true]) ∧ Below u.heap.size u w' := fun u hu => by
      have := PR u hu
      unfold refR at this
      simp only [mk_list, Option.isSome_some] at this
      obtain ⟨R, C, rfl, rfl, q1, q2, q3, q4, hw⟩ := good_yes hg
      exact this
    cases hp : Ad.refP gnF S.data.toList with
    | none => rw [hp] at PS; exact back_tf GD PT PR' PS LV
    | some r' =>
      rw [hp] at PS
      obtain ⟨w1, w2, w3⟩ := ways r' hp
      exact back_tt GD PT PR' PS w1 w2 LV w3
end Go.Proofs.YtjimgjohfpcnpaaDoor
