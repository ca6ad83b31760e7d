/- GoodName of the reference. -/
import Derived.Test.YtjimgjohfpcnpaaDoorAGood
namespace Go.Proofs.YtjimgjohfpcnpaaDoor
open Go.RowKit
set_option maxRecDepth 100000
set_option linter.unusedVariables false
set_option linter.unusedSimpArgs false
theorem tru_ways (s : ByteArray) : ((truF s).2 = true ∧ 0 ≤ truN (szF 97 65 s.data.toList)) ∨ ((truF s).2 = false ∧ truN (szF 97 65 s.data.toList) < 0) := by
  rcases truth_ways s with ⟨a, _, c⟩ | ⟨a, _, c⟩ | ⟨a, c⟩
  · left; rw [c]; exact ⟨a, by decide⟩
  · left; rw [c]; exact ⟨a, by decide⟩
  · right; rw [c]; exact ⟨a, by decide⟩
/-- What has been seen that is no digit, up to k. -/
def oth (s : ByteArray) (k : Nat) : Bool := decide (s.size = 1) || !((s.data.toList.take k).drop 1).all Ad.isD
theorem oth_one (s : ByteArray) : oth s 1 = decide (s.size = 1) := by
  unfold oth
  have : (s.data.toList.take 1).drop 1 = [] := by cases s.data.toList <;> simp
  rw [this]
  simp
theorem oth_step (s : ByteArray) (k : Nat) (h1 : 1 ≤ k) (h : k < s.size) : oth s (k + 1) = (oth s k || !Ad.isD s[k]) := by
  unfold oth
  have hl := size_list s
  rw [take_snoc _ _ (by omega), List.drop_append_of_le_length (by simp; omega), List.all_append, ← byte_at s k h (by omega)]
  simp only [List.all_cons, List.all_nil, Bool.and_true, Bool.not_and, Bool.or_assoc]
theorem oth_end (s : ByteArray) (h : 0 < s.size) : oth s s.size = !lcF s.data.toList := by
  unfold oth lcF
  have hl := size_list s
  rw [List.take_of_length_le (by omega), hl]
  by_cases e : s.size = 1
  · simp [e]
  · have : 1 < s.size := by omega
    simp [e, this]
set_option maxHeartbeats 4000000 in
theorem rgoodname_any (s : ByteArray) (hs : s.size ≤ 9223372036854775807) (w : World) :
    Calls Tryd.prog 12 #[.string s] w fun e w' => e = .returned (.bool (gnF s.data.toList)) ∧ Below w.heap.size w w' := by
  have hl := size_list s
  generalize hr : gnF s.data.toList = r
  have HR : Hid (gnF s.data.toList = r) := hr
  clear hr
  have HN : Hid (spF s.data.toList = false → r = false) := fun h => by
    rw [← HR.out]; unfold gnF; rw [h]; rfl
  by_cases h0 : s.size = 0
  · have h1 : (s.size : Int) < 1 := by omega
    have HE : Hid (r = false) := by
      apply HN.out
      have : s.data.toList = [] := List.eq_nil_of_length_eq_zero (by omega)
      rw [this]
      rfl
    go_enter Tryd.func12, Tryd.ntmps12
    go_wp2
    go_ret
    exact ⟨by rw [HE.out]; rfl, Below.refl _ _⟩
  have h1 : ¬ (s.size : Int) < 1 := by omega
  by_cases h16 : 16 < s.size
  · have h2 : (16 : Int) < s.size := by omega
    have HE : Hid (r = false) := by
      apply HN.out
      unfold spF
      rw [decide_eq_false (show ¬ s.data.toList.length ≤ 16 by omega)]
      rfl
    go_enter Tryd.func12, Tryd.ntmps12
    go_wp2
    go_ret
    exact ⟨by rw [HE.out]; rfl, Below.refl _ _⟩
  have h2 : ¬ (16 : Int) < s.size := by omega
  have hz : 0 < s.size := by omega
  have L0 := fun u => rletter_any s[0] u
  have hh := head_at s hz
  cases hL : Ad.isL s[0]
  · rw [hL] at L0 hh
    have HE : Hid (r = false) := by
      apply HN.out
      unfold spF
      rw [hh]
      simp
    go_enter Tryd.func12, Tryd.ntmps12
    go_wp2_with (go_at_call 33; refine (L0 _).mono ?_; rintro e w' ⟨rfl, hw⟩; obtain rfl := hw.symm; clear hw)
    go_ret
    exact ⟨by rw [HE.out]; rfl, Below.refl _ _⟩
  rw [hL] at L0 hh
  have RT := fun u => rtruth_any s hs u
  have HT := tru_ways s
  generalize truN (szF 97 65 s.data.toList) = tn at *
  rcases HT with ⟨t1, t2⟩ | ⟨t1, t2⟩
  · have HE : Hid (r = false) := by
      show _ = _
      rw [← HR.out]; unfold gnF; rw [mk_list, t1]; simp
    go_enter Tryd.func12, Tryd.ntmps12
    go_wp2_with (first | (go_at_call 33; refine (L0 _).mono ?_; rintro e w' ⟨rfl, hw⟩; obtain rfl := hw.symm; clear hw) | (go_at_call 43; refine (RT _).mono ?_; rintro e w1 ⟨rfl, hb⟩; have HB : Hid (Below w.heap.size w w1) := hb; clear hb))
    go_ret
    exact ⟨by rw [HE.out]; rfl, HB.out⟩
  have HE : Hid (r = (s.data.toList.all okC && !lcF s.data.toList)) := by
    show _ = _
    rw [← HR.out]
    unfold gnF spF
    rw [mk_list, t1, hh, decide_eq_true (show s.data.toList.length ≤ 16 by omega)]
    simp
  have HK0 : Hid ((s.data.toList.take 1).all okC = true) := by
    have e := alls_step okC s 0 hz (by simp) (by unfold okC; rw [hL]; rfl)
    exact e
  clear hh HR HN t1 hL
  go_enter Tryd.func12, Tryd.ntmps12
  go_wp2_with (first | (go_at_call 33; refine (L0 _).mono ?_; rintro e w' ⟨rfl, hw⟩; obtain rfl := hw.symm; clear hw) | (go_at_call 43; refine (RT _).mono ?_; rintro e w1 ⟨rfl, hb⟩; have HB : Hid (Below w.heap.size w w1) := hb; clear hb))
  clear L0 RT
  go_loop [3, 4] (fun v i => ∃ (k : Nat) (o : Bool), 1 ≤ k ∧ k ≤ s.size ∧ i = .int .i64 k ∧ v = .bool o ∧ Hid ((s.data.toList.take k).all okC = true ∧ o = oth s k)) (fun _ i => s.size - (intOf i).toNat)
  case atStart => exact ⟨1, _, Nat.le_refl _, by omega, rfl, rfl, HK0.out, by rw [oth_one, Bool.eq_iff_iff]; simp; omega⟩
  case round =>
    obtain ⟨k, o, hk1, hk, rfl, rfl, ha⟩ := hrel
    by_cases hlt : k < s.size
    · have Lk := fun u => rletter_any s[k] u
      have Dk := fun u => rdigit_any s[k] u
      have HS : Hid (okC s[k] = true → (s.data.toList.take (k + 1)).all okC = true) := fun h => alls_step okC s k hlt ha.out.1 h
      have HN : Hid (okC s[k] = false → r = false) := fun h => by
        rw [HE.out]
        cases hh : s.data.toList.all okC
        · rfl
        · rw [alls_at okC s k hlt hh] at h; cases h
      have HO : Hid (okC s[k] = (Ad.isL s[k] || Ad.isD s[k] || (s[k] == 95))) := rfl
      have HP : Hid (oth s (k + 1) = (o || !Ad.isD s[k])) := by
        show _ = _
        rw [oth_step s k hk1 hlt, ← ha.out.2]
      cases h1 : Ad.isL s[k]
      · rw [h1] at Lk HO
        cases h2 : Ad.isD s[k]
        · rw [h2] at Dk HO HP
          rcases ch_facts s[k] 95 with ⟨h3, h4⟩ | ⟨h3, h4⟩
          · have HA : Hid ((s.data.toList.take (k + 1)).all okC = true) := HS.out (by rw [HO.out, h3]; rfl)
            have h5 : ((s[k].toNat : Int) != 95) = false := by rw [h3]; rfl
            clear h1 h2 h3 h4 HN HS
            cases o
            all_goals
              go_wp2_with (first | (go_at_call 33; refine (Lk _).mono ?_; rintro e w' ⟨rfl, hw⟩; obtain rfl := hw.symm; clear hw) | (go_at_call 35; refine (Dk _).mono ?_; rintro e w' ⟨rfl, hw⟩; obtain rfl := hw.symm; clear hw))
              go_round
              case rel => exact ⟨k + 1, _, by omega, by omega, by go_num, rfl, HA.out, HP.out.symm⟩
              case measure => simp [intOf]; omega
          · have HF : Hid (r = false) := HN.out (by rw [HO.out]; simpa using h3)
            have h5 : ((s[k].toNat : Int) != 95) = true := by rw [bne, show ((s[k].toNat : Int) == 95) = false from h4]; rfl
            clear h1 h2 h3 h4 HN HS
            go_wp2_with (first | (go_at_call 33; refine (Lk _).mono ?_; rintro e w' ⟨rfl, hw⟩; obtain rfl := hw.symm; clear hw) | (go_at_call 35; refine (Dk _).mono ?_; rintro e w' ⟨rfl, hw⟩; obtain rfl := hw.symm; clear hw))
            go_ret
            exact ⟨by rw [HF.out]; rfl, HB.out⟩
        · rw [h2] at Dk HO HP
          have HA : Hid ((s.data.toList.take (k + 1)).all okC = true) := HS.out (by rw [HO.out]; rfl)
          clear h1 h2 HN HS
          cases o
          all_goals
            go_wp2_with (first | (go_at_call 33; refine (Lk _).mono ?_; rintro e w' ⟨rfl, hw⟩; obtain rfl := hw.symm; clear hw) | (go_at_call 35; refine (Dk _).mono ?_; rintro e w' ⟨rfl, hw⟩; obtain rfl := hw.symm; clear hw))
            go_round
            case rel => exact ⟨k + 1, _, by omega, by omega, by go_num, rfl, HA.out, HP.out.symm⟩
            case measure => simp [intOf]; omega
      · rw [h1] at Lk HO
        have HA : Hid ((s.data.toList.take (k + 1)).all okC = true) := HS.out (by rw [HO.out]; rfl)
        clear HN HS
        generalize Ad.isD s[k] = dk at *
        clear h1
        cases o <;> cases dk
        all_goals
          go_wp2_with (first | (go_at_call 33; refine (Lk _).mono ?_; rintro e w' ⟨rfl, hw⟩; obtain rfl := hw.symm; clear hw) | (go_at_call 35; refine (Dk _).mono ?_; rintro e w' ⟨rfl, hw⟩; obtain rfl := hw.symm; clear hw))
          go_round
          case rel => exact ⟨k + 1, _, by omega, by omega, by go_num, rfl, HA.out, HP.out.symm⟩
          case measure => simp [intOf]; omega
    · have HT : Hid (r = o) := by
        show _ = _
        have hh := ha.out
        obtain rfl : k = s.size := by omega
        rw [List.take_of_length_le (by omega)] at hh
        rw [HE.out, hh.1, hh.2, oth_end s hz]
        rfl
      go_wp2
      go_ret
      exact ⟨by rw [HT.out]; rfl, HB.out⟩
end Go.Proofs.YtjimgjohfpcnpaaDoor
