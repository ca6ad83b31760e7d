/- ParseRef of the reference, for every text. -/
import Derived.Test.YtjimgjohfpcnpaaDoorARParseRefB
import Derived.Test.YtjimgjohfpcnpaaDoorARParseRefP
import Derived.Test.YtjimgjohfpcnpaaDoorARParseRefQ
namespace Go.Proofs.YtjimgjohfpcnpaaDoor
open Go.RowKit
set_option maxRecDepth 100000
set_option linter.unusedVariables false
set_option linter.unusedSimpArgs false
theorem idx_list (l : List UInt8) (c : UInt8) (hl : l.length ≤ 140737488355328) : CS 39 #[.string ⟨l.toArray⟩, .int .u8 (c.toNat : Nat)] (.int .i64 (idxF c l)) := fun u => ridx_any ⟨l.toArray⟩ c (by rw [size_mk]; omega) u
theorem idx_none {c : UInt8} {l : List UInt8} (h : Ad.at_ c l = none) : idxF c l = -1 := by unfold idxF; rw [h]
theorem idx_some {c : UInt8} {l a b : List UInt8} (h : Ad.at_ c l = some (a, b)) : idxF c l = (a.length : Nat) := by unfold idxF; rw [h]
theorem ext_take (a b : List UInt8) (c : UInt8) : (⟨(a ++ c :: b).toArray⟩ : ByteArray).extract 0 a.length = ⟨a.toArray⟩ ∧ (⟨(a ++ c :: b).toArray⟩ : ByteArray).extract (a.length + 1) (⟨(a ++ c :: b).toArray⟩ : ByteArray).size = ⟨b.toArray⟩ := by
  constructor
  · apply ByteArray.ext
    simp
  · apply ByteArray.ext
    rw [size_mk]
    simp
    exact List.take_of_length_le (by omega)
theorem gn_cb (l : List UInt8) (hl : l.length ≤ 140737488355328) (w : World) : CB w 12 #[.string ⟨l.toArray⟩] (.bool (gnF l)) := fun u hu => rgoodname_any ⟨l.toArray⟩ (by rw [size_mk]; omega) u
theorem rparseref_any (l : List UInt8) (hl : l.length ≤ 140737488355328) (w : World) :
    Calls Tryd.prog 10 #[.string ⟨l.toArray⟩] w fun e w' => e = .returned (.tuple #[refR (Ad.refP gnF l), .bool (Ad.refP gnF l).isSome]) ∧ Below w.heap.size w w' := by
  have plain : ∀ (hq : ((⟨l.toArray⟩ : ByteArray).size = 0) ∨ ∃ hz : 0 < (⟨l.toArray⟩ : ByteArray).size, (((⟨l.toArray⟩ : ByteArray)[0].toNat : Int) == 91) = false), Calls Tryd.prog 10 #[.string ⟨l.toArray⟩] w fun e w' => e = .returned (.tuple #[refR (Ad.sheetP gnF [] l), .bool (Ad.sheetP gnF [] l).isSome]) ∧ Below w.heap.size w w' := fun hq => by
    have IY := idx_list l 33 hl
    unfold Ad.sheetP
    cases h : Ad.at_ 33 l with
    | none =>
      rw [idx_none h] at IY
      have PC : CB w 8 #[.string ⟨l.toArray⟩] _ := fun u hu => rparsecell_any l hl u
      simp only
      cases hc : Ad.cellP l with
      | none => rw [hc] at PC; exact rr_cell_no hq IY PC
      | some c => rw [hc] at PC; exact rr_cell_yes hq IY PC
    | some p =>
      obtain ⟨a, x⟩ := p
      have e := (Ad.at_some h).1
      have hlen := at_some_len h
      rw [idx_some h] at IY
      obtain ⟨x1, x2⟩ := ext_take a x 33
      rw [← e] at x1 x2
      have GS := gn_cb a (by omega) w
      have PC : CB w 8 #[.string ⟨x.toArray⟩] _ := fun u hu => rparsecell_any x (by omega) u
      have q1 : a.length ≤ (⟨l.toArray⟩ : ByteArray).size := by rw [size_mk]; omega
      have q2 : a.length + 1 ≤ (⟨l.toArray⟩ : ByteArray).size := by rw [size_mk]; omega
      have q3 : (⟨l.toArray⟩ : ByteArray).size ≤ 9223372036854775807 := by rw [size_mk]; omega
      simp only
      cases hg : gnF a
      · rw [hg] at GS
        simp only [Bool.false_eq_true, if_false]
        exact rr_sheet_bad hq IY q1 rfl q2 q3 x1 x2 GS
      · rw [hg] at GS
        simp only [if_true]
        cases hc : Ad.cellP x with
        | none => rw [hc] at PC; exact rr_sheet_no hq IY q1 rfl q2 q3 x1 x2 GS PC
        | some c => rw [hc] at PC; exact rr_sheet_yes hq IY q1 rfl q2 q3 x1 x2 GS PC
  cases l with
  | nil => exact plain (.inl rfl)
  | cons c m =>
    have e0 : (⟨(c :: m).toArray⟩ : ByteArray)[0]'(by rw [size_mk]; simp) = c := rfl
    have hz : 0 < (⟨(c :: m).toArray⟩ : ByteArray).size := by rw [size_mk]; simp
    rcases ch_facts c 91 with ⟨h1, h2⟩ | ⟨h1, h2⟩
    · subst h1
      clear plain
      simp only [List.length_cons] at hl
      have IX := idx_list (91 :: m) 93 (by simp; omega)
      have e1 : Ad.refP gnF (91 :: m) = match Ad.at_ 93 m with
        | none => none
        | some (a, r) => if gnF a = true ∧ (Ad.at_ 33 r).isSome = true then Ad.sheetP gnF a r else none := rfl
      rw [e1]
      have e9 := at_cons_ne (c := 93) (x := 91) (r := m) (by decide)
      cases h9 : Ad.at_ 93 m with
      | none =>
        rw [h9] at e9
        rw [idx_none e9] at IX
        exact rr_noclose hz h2 IX
      | some p =>
        obtain ⟨a, r⟩ := p
        rw [h9] at e9
        rw [idx_some (a := 91 :: a) (b := r) e9] at IX
        have e := (Ad.at_some h9).1
        have hlen := at_some_len h9
        obtain ⟨x1, x2⟩ := ext_take (91 :: a) r 93
        have ex : (91 : UInt8) :: m = (91 :: a) ++ 93 :: r := by rw [e]; rfl
        rw [← ex] at x1 x2
        have q1 : (91 :: a).length ≤ (⟨(91 :: m).toArray⟩ : ByteArray).size := by rw [size_mk]; simp; omega
        have q2 : (91 :: a).length + 1 ≤ (⟨(91 :: m).toArray⟩ : ByteArray).size := by rw [size_mk]; simp; omega
        have q3 : (⟨(91 :: m).toArray⟩ : ByteArray).size ≤ 9223372036854775807 := by rw [size_mk]; simp; omega
        have hB : (⟨(91 :: m).toArray⟩ : ByteArray).extract 1 (91 :: a).length = ⟨a.toArray⟩ := by
          apply ByteArray.ext
          rw [e]
          simp
        have GB := gn_cb a (by omega) w
        simp only
        cases hg : gnF a
        · rw [hg] at GB
          simp only [Bool.false_eq_true, false_and, if_false]
          exact rr_badbook hz h2 IX (by simp) q1 hB GB
        · rw [hg] at GB
          simp only [true_and]
          have IY := idx_list r 33 (by omega)
          cases h3 : Ad.at_ 33 r with
          | none =>
            rw [idx_none h3] at IY
            rw [if_neg (by simp)]
            exact rr_nosheet hz h2 IX (by simp) q1 rfl q2 q3 hB x2 GB IY
          | some p =>
            obtain ⟨s, x⟩ := p
            rw [if_pos (by simp)]
            unfold Ad.sheetP
            rw [h3]
            have e3 := (Ad.at_some h3).1
            have hlen3 := at_some_len h3
            rw [idx_some h3] at IY
            obtain ⟨y1, y2⟩ := ext_take s x 33
            rw [← e3] at y1 y2
            have GS := gn_cb s (by omega) w
            have PC : CB w 8 #[.string ⟨x.toArray⟩] _ := fun u hu => rparsecell_any x (by omega) u
            have j1 : s.length ≤ (⟨r.toArray⟩ : ByteArray).size := by rw [size_mk]; omega
            have j2 : s.length + 1 ≤ (⟨r.toArray⟩ : ByteArray).size := by rw [size_mk]; omega
            have j3 : (⟨r.toArray⟩ : ByteArray).size ≤ 9223372036854775807 := by rw [size_mk]; omega
            simp only
            cases hg2 : gnF s
            · rw [hg2] at GS
              simp only [Bool.false_eq_true, if_false]
              exact rr_book_bad hz h2 IX (by simp) q1 rfl q2 q3 hB x2 GB IY j1 rfl j2 j3 y1 y2 GS
            · rw [hg2] at GS
              simp only [if_true]
              cases hc : Ad.cellP x with
              | none => rw [hc] at PC; exact rr_book_no hz h2 IX (by simp) q1 rfl q2 q3 hB x2 GB IY j1 rfl j2 j3 y1 y2 GS PC
              | some c => rw [hc] at PC; exact rr_book_yes hz h2 IX (by simp) q1 rfl q2 q3 hB x2 GB IY j1 rfl j2 j3 y1 y2 GS PC
    · rw [Ad.refP_plain (by simpa using h1)]
      exact plain (.inr ⟨hz, h2⟩)
end Go.Proofs.YtjimgjohfpcnpaaDoor
