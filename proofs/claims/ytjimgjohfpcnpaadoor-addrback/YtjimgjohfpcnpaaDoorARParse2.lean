/- ParseCell of the reference, for every text. -/
import Derived.Test.YtjimgjohfpcnpaaDoorARParseB
import Derived.Test.YtjimgjohfpcnpaaDoorARParseDt
import Derived.Test.YtjimgjohfpcnpaaDoorARParseDf
namespace Go.Proofs.YtjimgjohfpcnpaaDoor
open Go.RowKit
set_option maxRecDepth 100000
set_option linter.unusedVariables false
set_option linter.unusedSimpArgs false
theorem cut36_of (l : List UInt8) (hz : 0 < (⟨l.toArray⟩ : ByteArray).size) : Cut36 (Ad.strip 36 l).1 ⟨l.toArray⟩ ⟨(Ad.strip 36 l).2.toArray⟩ hz := by
  cases l with
  | nil => exact absurd hz (by simp [ByteArray.size])
  | cons c r =>
    obtain ⟨k1, k2, k3, k4⟩ := cons_facts c r
    have e0 : (⟨(c :: r).toArray⟩ : ByteArray)[0] = c := rfl
    unfold Cut36
    rw [Ad.strip_cons, e0]
    rcases ch_facts c 36 with ⟨h1, h2⟩ | ⟨h1, h2⟩
    · rw [if_pos h1]; left; exact ⟨rfl, h2, k2⟩
    · rw [if_neg h1]; right; exact ⟨rfl, h2, rfl⟩
theorem not_d (a : UInt8) (h : Ad.isD a = true) : 48 ≤ (a.toNat : Int) ∧ (a.toNat : Int) ≤ 57 := by
  unfold Ad.isD at h
  simp only [Bool.and_eq_true, decide_eq_true_eq] at h
  omega
theorem rparsecell_any (l : List UInt8) (hl : l.length ≤ 140737488355328) (w : World) :
    Calls Tryd.prog 8 #[.string ⟨l.toArray⟩] w fun e w' => e = .returned (.tuple #[cellR (Ad.cellP l), .bool (Ad.cellP l).isSome]) ∧ Below w.heap.size w w' := by
  by_cases hn : l = []
  · subst hn
    exact rp_nil rfl
  have hz : 0 < (⟨l.toArray⟩ : ByteArray).size := by
    rw [size_mk]
    rcases Nat.eq_zero_or_pos l.length with e | e
    · exact absurd (List.eq_nil_of_length_eq_zero e) hn
    · exact e
  have hA := cut36_of l hz
  unfold Ad.cellP
  generalize (Ad.strip 36 l).1 = fc at *
  cases hs : (Ad.strip 36 l).2 with
  | nil =>
    rw [hs] at hA
    exact rp_short hz hA (by rw [size_mk]; decide)
  | cons c r =>
    rw [hs] at hA
    obtain ⟨k1, k2, k3, k4⟩ := cons_facts c r
    simp only
    by_cases hr : r = []
    · subst hr
      have : Ad.restF fc c [] = none := by unfold Ad.restF; rw [if_neg (by simp [Ad.strip, Ad.rowF])]
      rw [this]
      exact rp_short hz hA (by rw [size_mk]; simp)
    have hrz : 0 < (⟨r.toArray⟩ : ByteArray).size := by
      rw [size_mk]
      rcases Nat.eq_zero_or_pos r.length with e | e
      · exact absurd (List.eq_nil_of_length_eq_zero e) hr
      · exact e
    have h2 : 2 ≤ (⟨(c :: r).toArray⟩ : ByteArray).size := by rw [size_mk] at hrz ⊢; simp; omega
    unfold Ad.restF
    have LT := fun u => rletter_any c u
    cases hL : Ad.isL c
    · rw [hL] at LT
      rw [if_neg (by simp)]
      exact rp_other hz hA h2 k4 LT
    rw [hL] at LT
    obtain ⟨b1, b2, _⟩ := Ad.colF_bd hL
    obtain ⟨y1, y2, y3⟩ := one_up c hL
    have UP := fun u => rup_one c u
    have hW := cut36_of r hrz
    generalize (Ad.strip 36 r).1 = fr at *
    have no : ∀ m, ¬ (1 ≤ Ad.rowF m ∧ Ad.rowF m ≤ 64) → (if true = true ∧ 1 ≤ Ad.rowF m ∧ Ad.rowF m ≤ 64 then some (⟨Ad.rowF m, Ad.colF c, fr, fc⟩ : Ad.Cell) else none) = none := fun m h => if_neg fun q => h q.2
    have yes : ∀ m, (1 ≤ Ad.rowF m ∧ Ad.rowF m ≤ 64) → (if true = true ∧ 1 ≤ Ad.rowF m ∧ Ad.rowF m ≤ 64 then some (⟨Ad.rowF m, Ad.colF c, fr, fc⟩ : Ad.Cell) else none) = some ⟨Ad.rowF m, Ad.colF c, fr, fc⟩ := fun m h => if_pos ⟨rfl, h⟩
    have inF : ∀ (m : List UInt8) (n : Int), n = (Ad.rowF m : Nat) → ∀ ok, inB n (Ad.colF c : Nat) = ok → (ok = true → 1 ≤ Ad.rowF m ∧ Ad.rowF m ≤ 64) ∧ (ok = false → ¬ (1 ≤ Ad.rowF m ∧ Ad.rowF m ≤ 64)) := fun m n e ok hok => by
      have := inB_row n (Ad.colF c) b1 b2
      rw [hok] at this
      unfold Ad.rowIn at this
      constructor
      · intro h; have := this.1 h; omega
      · intro h q; have := this.2 (by omega); rw [h] at this; cases this
    generalize hm : (Ad.strip 36 r).2 = m at *
    match m with
    | [] =>
      rw [no _ (by simp [Ad.rowF])]
      exact rp_bad hz hA h2 k4 LT k1 k2 UP (show 0 < 1 by decide) y1 y2 y3 hrz hW (.inl rfl)
    | x :: y :: z :: q =>
      rw [no _ (by simp [Ad.rowF])]
      exact rp_bad hz hA h2 k4 LT k1 k2 UP (show 0 < 1 by decide) y1 y2 y3 hrz hW (.inr (.inl (by rw [size_mk]; simp)))
    | [x] =>
      rcases ch_facts x 48 with ⟨e1, e2⟩ | ⟨e1, e2⟩
      · rw [no _ (by rw [Ad.rowF_one, if_neg (by simp [e1])]; omega)]
        exact rp_bad hz hA h2 k4 LT k1 k2 UP (show 0 < 1 by decide) y1 y2 y3 hrz hW (.inr (.inr ⟨show 0 < 1 by decide, show 1 ≤ 2 by decide, e2⟩))
      · have G0 := fun u => rdigit_any x u
        cases hd : Ad.isD x
        · rw [hd] at G0
          rw [no _ (by rw [Ad.rowF_one, if_neg (by simp [hd])]; omega)]
          rcases hW with ⟨rfl, h5, h6⟩ | ⟨rfl, h5, h6⟩
          · exact rp_one_no_t hz hA h2 k4 LT k1 k2 UP (show 0 < 1 by decide) y1 y2 y3 hrz h5 h6 rfl (show 0 < 1 by decide) e2 G0
          · obtain rfl : r = [x] := by simpa using congrArg (fun b : ByteArray => b.data.toList) h6
            exact rp_one_no_f hz hA h2 k4 LT k1 k2 UP (show 0 < 1 by decide) y1 y2 y3 hrz h5 rfl (show 0 < 1 by decide) e2 G0
        · rw [hd] at G0
          obtain ⟨g1, g2⟩ := not_d x hd
          have en : (x.toNat : Int) - 48 = (Ad.rowF [x] : Nat) := by rw [Ad.rowF_one, if_pos ⟨hd, e1⟩]; omega
          have W : ∀ ok, inB ((Ad.rowF [x] : Nat) : Int) (Ad.colF c : Nat) = ok → Calls Tryd.prog 8 #[.string ⟨l.toArray⟩] w fun e w' => e = .returned (.tuple #[if ok = true then refV ⟨#[]⟩ ⟨#[]⟩ (Ad.rowF [x] : Nat) (Ad.colF c : Nat) fr fc else ref0, .bool ok]) ∧ Below w.heap.size w w' := fun ok hok => by
            have IN := fun u => rin_any ((Ad.rowF [x] : Nat) : Int) (Ad.colF c : Nat) u
            rw [hok] at IN
            rcases hW with ⟨rfl, h5, h6⟩ | ⟨rfl, h5, h6⟩
            · exact rp_one_t hz hA h2 k4 LT k1 k2 UP (show 0 < 1 by decide) y1 y2 y3 hrz h5 h6 rfl (show 0 < 1 by decide) e2 G0 g1 g2 en IN
            · obtain rfl : r = [x] := by simpa using congrArg (fun b : ByteArray => b.data.toList) h6
              exact rp_one_f hz hA h2 k4 LT k1 k2 UP (show 0 < 1 by decide) y1 y2 y3 hrz h5 rfl (show 0 < 1 by decide) e2 G0 g1 g2 en IN
          cases hok : inB ((Ad.rowF [x] : Nat) : Int) (Ad.colF c : Nat)
          · rw [no _ ((inF _ _ rfl _ hok).2 rfl)]
            exact W false hok
          · rw [yes _ ((inF _ _ rfl _ hok).1 rfl)]
            exact W true hok
    | [x, y] =>
      rcases ch_facts x 48 with ⟨e1, e2⟩ | ⟨e1, e2⟩
      · rw [no _ (by rw [Ad.rowF_two, if_neg (by simp [e1])]; omega)]
        exact rp_bad hz hA h2 k4 LT k1 k2 UP (show 0 < 1 by decide) y1 y2 y3 hrz hW (.inr (.inr ⟨show 0 < 2 by decide, show 2 ≤ 2 by decide, e2⟩))
      · have G0 := fun u => rdigit_any x u
        have G1 := fun u => rdigit_any y u
        cases hd : Ad.isD x
        · rw [hd] at G0
          rw [no _ (by rw [Ad.rowF_two, if_neg (by simp [hd])]; omega)]
          rcases hW with ⟨rfl, h5, h6⟩ | ⟨rfl, h5, h6⟩
          · exact rp_two_no_t hz hA h2 k4 LT k1 k2 UP (show 0 < 1 by decide) y1 y2 y3 hrz h5 h6 rfl (show 0 < 2 by decide) e2 G0
          · obtain rfl : r = [x, y] := by simpa using congrArg (fun b : ByteArray => b.data.toList) h6
            exact rp_two_no_f hz hA h2 k4 LT k1 k2 UP (show 0 < 1 by decide) y1 y2 y3 hrz h5 rfl (show 0 < 2 by decide) e2 G0
        · rw [hd] at G0
          obtain ⟨g1, g2⟩ := not_d x hd
          cases hd2 : Ad.isD y
          · rw [hd2] at G1
            rw [no _ (by rw [Ad.rowF_two, if_neg (by simp [hd2])]; omega)]
            rcases hW with ⟨rfl, h5, h6⟩ | ⟨rfl, h5, h6⟩
            · exact rp_two_nn_t hz hA h2 k4 LT k1 k2 UP (show 0 < 1 by decide) y1 y2 y3 hrz h5 h6 rfl (show 0 < 2 by decide) (show 1 < 2 by decide) e2 G0 G1 g1 g2 rfl
            · obtain rfl : r = [x, y] := by simpa using congrArg (fun b : ByteArray => b.data.toList) h6
              exact rp_two_nn_f hz hA h2 k4 LT k1 k2 UP (show 0 < 1 by decide) y1 y2 y3 hrz h5 rfl (show 0 < 2 by decide) (show 1 < 2 by decide) e2 G0 G1 g1 g2 rfl
          · rw [hd2] at G1
            obtain ⟨g3, g4⟩ := not_d y hd2
            have en : 10 * ((x.toNat : Int) - 48) + ((y.toNat : Int) - 48) = (Ad.rowF [x, y] : Nat) := by rw [Ad.rowF_two, if_pos ⟨hd, hd2, e1⟩]; omega
            have W : ∀ ok, inB ((Ad.rowF [x, y] : Nat) : Int) (Ad.colF c : Nat) = ok → Calls Tryd.prog 8 #[.string ⟨l.toArray⟩] w fun e w' => e = .returned (.tuple #[if ok = true then refV ⟨#[]⟩ ⟨#[]⟩ (Ad.rowF [x, y] : Nat) (Ad.colF c : Nat) fr fc else ref0, .bool ok]) ∧ Below w.heap.size w w' := fun ok hok => by
              have IN := fun u => rin_any ((Ad.rowF [x, y] : Nat) : Int) (Ad.colF c : Nat) u
              rw [hok] at IN
              rcases hW with ⟨rfl, h5, h6⟩ | ⟨rfl, h5, h6⟩
              · exact rp_two_t hz hA h2 k4 LT k1 k2 UP (show 0 < 1 by decide) y1 y2 y3 hrz h5 h6 rfl (show 0 < 2 by decide) (show 1 < 2 by decide) e2 G0 G1 g1 g2 g3 g4 rfl rfl rfl en IN
              · obtain rfl : r = [x, y] := by simpa using congrArg (fun b : ByteArray => b.data.toList) h6
                exact rp_two_f hz hA h2 k4 LT k1 k2 UP (show 0 < 1 by decide) y1 y2 y3 hrz h5 rfl (show 0 < 2 by decide) (show 1 < 2 by decide) e2 G0 G1 g1 g2 g3 g4 rfl rfl rfl en IN
            cases hok : inB ((Ad.rowF [x, y] : Nat) : Int) (Ad.colF c : Nat)
            · rw [no _ ((inF _ _ rfl _ hok).2 rfl)]
              exact W false hok
            · rw [yes _ ((inF _ _ rfl _ hok).1 rfl)]
              exact W true hok
end Go.Proofs.YtjimgjohfpcnpaaDoor
