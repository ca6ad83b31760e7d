/- Names of books, sheets and others: the program's GoodName. -/
import Derived.Test.YtjimgjohfpcnpaaDoorACut
import Derived.Test.YtjimgjohfpcnpaaDoorVJoin
namespace Go.Proofs.YtjimgjohfpcnpaaDoor
open Go.RowKit
set_option maxRecDepth 100000
set_option linter.unusedVariables false
set_option linter.unusedSimpArgs false
def okC (c : UInt8) : Bool := Ad.isL c || Ad.isD c || (c == 95)
def headL (l : List UInt8) : Bool := match l with
  | [] => false
  | c :: _ => Ad.isL c
def spF (l : List UInt8) : Bool := decide (l.length ≤ 16) && headL l && l.all okC
def lcF (l : List UInt8) : Bool := (l.drop 1).all Ad.isD && decide (1 < l.length)
/-- May a book, a sheet, a name be called so? -/
def gnF (l : List UInt8) : Bool := spF l && !lcF l && !(truF ⟨l.toArray⟩).2
theorem alls_at (p : UInt8 → Bool) (s : ByteArray) (k : Nat) (h : k < s.size) (hall : s.data.toList.all p = true) : p s[k] = true := by
  rw [byte_at s k h (by rw [size_list]; exact h)]
  exact List.all_eq_true.1 hall _ (List.getElem_mem _)
theorem alls_step (p : UInt8 → Bool) (s : ByteArray) (k : Nat) (h : k < s.size) (ha : (s.data.toList.take k).all p = true) (hb : p s[k] = true) : (s.data.toList.take (k + 1)).all p = true := by
  rw [take_snoc _ _ (by rw [size_list]; exact h), List.all_append, ha, ← byte_at s k h (by rw [size_list]; exact h)]
  simp [hb]
theorem head_list : ∀ (l : List UInt8) (h : 0 < l.length), headL l = Ad.isL l[0]
  | [], h => by simp at h
  | a :: r, h => rfl
theorem head_at (s : ByteArray) (h : 0 < s.size) : headL s.data.toList = Ad.isL s[0] := by
  rw [byte_at s 0 h (by rw [size_list]; exact h)]
  exact head_list _ _
theorem ch_facts (c d : UInt8) : (c = d ∧ ((c.toNat : Int) == (d.toNat : Int)) = true) ∨ (c ≠ d ∧ ((c.toNat : Int) == (d.toNat : Int)) = false) := by
  by_cases h : c = d
  · subst h; left; exact ⟨rfl, by simp⟩
  · right
    refine ⟨h, ?_⟩
    rw [beq_eq_false_iff_ne]
    intro e
    exact h (UInt8.toNat_inj.1 (by omega))
set_option maxHeartbeats 2000000 in
theorem spelled_any (s : ByteArray) (hs : s.size ≤ 9223372036854775807) (w : World) :
    Calls Tryd.prog 40 #[.string s] w fun e w' => e = .returned (.bool (spF s.data.toList)) ∧ Below w.heap.size w w' := by
  have hl := size_list s
  generalize hr : spF s.data.toList = r
  have HR : Hid (spF s.data.toList = r) := hr
  clear hr
  by_cases h0 : s.size = 0
  · have h1 : (s.size : Int) < 1 := by omega
    have HE : Hid (r = false) := by
      show _ = _
      have : s.data.toList = [] := List.eq_nil_of_length_eq_zero (by omega)
      rw [← HR.out, this]
      rfl
    go_enter Tryd.func40, Tryd.ntmps40
    go_wp2
    go_ret
    exact ⟨by rw [HE.out]; rfl, Below.refl _ _⟩
  have h1 : ¬ (s.size : Int) < 1 := by omega
  by_cases h16 : 16 < s.size
  · have h2 : (16 : Int) < s.size := by omega
    have HE : Hid (r = false) := by
      show _ = _
      rw [← HR.out]
      unfold spF
      rw [decide_eq_false (show ¬ s.data.toList.length ≤ 16 by omega)]
      rfl
    go_enter Tryd.func40, Tryd.ntmps40
    go_wp2
    go_ret
    exact ⟨by rw [HE.out]; rfl, Below.refl _ _⟩
  have h2 : ¬ (16 : Int) < s.size := by omega
  have hz : 0 < s.size := by omega
  have L0 := fun u => letter_any s[0] u
  have hh := head_at s hz
  cases hL : Ad.isL s[0]
  · rw [hL] at L0 hh
    have HE : Hid (r = false) := by
      show _ = _
      rw [← HR.out]
      unfold spF
      rw [hh]
      simp
    go_enter Tryd.func40, Tryd.ntmps40
    go_wp2_with (go_at_call 29; refine (L0 _).mono ?_; rintro e w' ⟨rfl, hw⟩; obtain rfl := hw.symm; clear hw)
    go_ret
    exact ⟨by rw [HE.out]; rfl, Below.refl _ _⟩
  rw [hL] at L0 hh
  have HE : Hid (r = s.data.toList.all okC) := by
    show _ = _
    rw [← HR.out]
    unfold spF
    rw [hh, decide_eq_true (show s.data.toList.length ≤ 16 by omega)]
    rfl
  clear hh HR
  obtain ⟨c, wb, hrun, hcell, hbel⟩ := run_bytes_row w s
  have HB : Hid (Below w.heap.size w wb) := hbel
  have HC : Hid (∀ (k : Nat) (h : k < s.size), wb.cell? ⟨w.heap.size, k, none⟩ = some (.int .u8 (s[k].toNat : Int))) := hcell
  clear hbel hcell
  go_enter Tryd.func40, Tryd.ntmps40
  go_wp2_with (go_at_call 29; refine (L0 _).mono ?_; rintro e w' ⟨rfl, hw⟩; obtain rfl := hw.symm; clear hw)
  go_loop [4, 22] (fun _ i => ∃ k : Nat, k ≤ s.size ∧ i = .int .i64 k ∧ Hid ((s.data.toList.take k).all okC = true)) (fun _ i => s.size - (intOf i).toNat)
  case atStart => exact ⟨0, Nat.zero_le _, rfl, by simp [Hid]⟩
  case round =>
    obtain ⟨k, hk, rfl, ha⟩ := hrel
    clear L0
    by_cases hlt : k < s.size
    · have hck := HC.out k hlt
      have Lk := fun u => letter_any s[k] u
      have Dk := fun u => digit_any s[k] u
      have HS : Hid (okC s[k] = true → (s.data.toList.take (k + 1)).all okC = true) := fun h => alls_step okC s k hlt ha.out h
      have HN : Hid (okC s[k] = false → r = false) := fun h => by
        rw [HE.out]
        cases hh : s.data.toList.all okC
        · rfl
        · rw [alls_at okC s k hlt hh] at h; cases h
      have HO : Hid (okC s[k] = (Ad.isL s[k] || Ad.isD s[k] || (s[k] == 95))) := rfl
      cases h1 : Ad.isL s[k]
      · rw [h1] at Lk HO
        cases h2 : Ad.isD s[k]
        · rw [h2] at Dk HO
          rcases ch_facts s[k] 95 with ⟨h3, h4⟩ | ⟨h3, h4⟩
          · have HA : Hid ((s.data.toList.take (k + 1)).all okC = true) := HS.out (by rw [HO.out, h3]; rfl)
            have h5 : ((s[k].toNat : Int) != 95) = false := by rw [h3]; rfl
            clear h1 h2 h3 h4 HN HS
            go_wp2_with (first | (go_at_call 29; refine (Lk _).mono ?_; rintro e w' ⟨rfl, hw⟩; obtain rfl := hw.symm; clear hw) | (go_at_call 58; refine (Dk _).mono ?_; rintro e w' ⟨rfl, hw⟩; obtain rfl := hw.symm; clear hw))
            go_round
            case rel => exact ⟨k + 1, by omega, by go_num, HA.out⟩
            case measure => simp [intOf]; omega
          · have HF : Hid (r = false) := HN.out (by rw [HO.out]; simpa using h3)
            have h5 : ((s[k].toNat : Int) != 95) = true := by rw [bne, show ((s[k].toNat : Int) == 95) = false from h4]; rfl
            clear h1 h2 h3 h4 HN HS
            go_wp2_with (first | (go_at_call 29; refine (Lk _).mono ?_; rintro e w' ⟨rfl, hw⟩; obtain rfl := hw.symm; clear hw) | (go_at_call 58; refine (Dk _).mono ?_; rintro e w' ⟨rfl, hw⟩; obtain rfl := hw.symm; clear hw))
            go_ret
            exact ⟨by rw [HF.out]; rfl, HB.out⟩
        · rw [h2] at Dk HO
          have HA : Hid ((s.data.toList.take (k + 1)).all okC = true) := HS.out (by rw [HO.out]; rfl)
          clear h1 h2 HN HS
          go_wp2_with (first | (go_at_call 29; refine (Lk _).mono ?_; rintro e w' ⟨rfl, hw⟩; obtain rfl := hw.symm; clear hw) | (go_at_call 58; refine (Dk _).mono ?_; rintro e w' ⟨rfl, hw⟩; obtain rfl := hw.symm; clear hw))
          go_round
          case rel => exact ⟨k + 1, by omega, by go_num, HA.out⟩
          case measure => simp [intOf]; omega
      · rw [h1] at Lk HO
        have HA : Hid ((s.data.toList.take (k + 1)).all okC = true) := HS.out (by rw [HO.out]; rfl)
        clear h1 HN HS
        go_wp2_with (first | (go_at_call 29; refine (Lk _).mono ?_; rintro e w' ⟨rfl, hw⟩; obtain rfl := hw.symm; clear hw))
        go_round
        case rel => exact ⟨k + 1, by omega, by go_num, HA.out⟩
        case measure => simp [intOf]; omega
    · have HT : Hid (r = true) := by
        show _ = _
        have hh := ha.out
        rw [List.take_of_length_le (by omega)] at hh
        rw [HE.out, hh]
      go_wp2
      go_ret
      exact ⟨by rw [HT.out]; rfl, HB.out⟩
theorem tail_bytes (s : ByteArray) : (s.extract 1 s.size).data.toList = s.data.toList.drop 1 := by
  have := drop_mk s.data.toList
  rw [mk_list] at this
  rw [this]
set_option maxHeartbeats 2000000 in
theorem likecell_any (s : ByteArray) (hz : 0 < s.size) (hs : s.size ≤ 9223372036854775807) (w : World) :
    Calls Tryd.prog 41 #[.string s] w fun e w' => e = .returned (.bool (lcF s.data.toList)) ∧ Below w.heap.size w w' := by
  have hl := size_list s
  generalize hr : lcF s.data.toList = r
  have HR : Hid (lcF s.data.toList = r) := hr
  clear hr
  have hx := tail_bytes s
  have hxs : (s.extract 1 s.size).size = s.size - 1 := by simp
  have HE : Hid (r = ((s.extract 1 s.size).data.toList.all Ad.isD && decide (1 < s.size))) := by
    show _ = _
    rw [← HR.out]
    unfold lcF
    rw [hx, hl]
  obtain ⟨t, ht⟩ : ∃ t, s.extract 1 s.size = t := ⟨_, rfl⟩
  rw [ht] at hx hxs HE
  have hlt := size_list t
  clear HR hx
  obtain ⟨c, wb, hrun, hcell, hbel⟩ := run_bytes_row w t
  have HB : Hid (Below w.heap.size w wb) := hbel
  have HC : Hid (∀ (k : Nat) (h : k < t.size), wb.cell? ⟨w.heap.size, k, none⟩ = some (.int .u8 (t[k].toNat : Int))) := hcell
  clear hbel hcell
  rw [← ht] at hrun
  clear ht
  have c1 : (1 : Int) ≤ s.size := by omega
  go_enter Tryd.func41, Tryd.ntmps41
  go_wp2
  go_loop [4, 9] (fun _ i => ∃ k : Nat, k ≤ t.size ∧ i = .int .i64 k ∧ Hid ((t.data.toList.take k).all Ad.isD = true)) (fun _ i => t.size - (intOf i).toNat)
  case atStart => exact ⟨0, Nat.zero_le _, rfl, by simp [Hid]⟩
  case round =>
    obtain ⟨k, hk, rfl, ha⟩ := hrel
    by_cases hlt2 : k < t.size
    · have hck := HC.out k hlt2
      have Dk := fun u => digit_any t[k] u
      cases h2 : Ad.isD t[k]
      · rw [h2] at Dk
        have HF : Hid (r = false) := by
          show _ = _
          rw [HE.out]
          cases hh : t.data.toList.all Ad.isD
          · rfl
          · rw [alls_at Ad.isD t k hlt2 hh] at h2; cases h2
        clear h2
        go_wp2_with (go_at_call 58; refine (Dk _).mono ?_; rintro e w' ⟨rfl, hw⟩; obtain rfl := hw.symm; clear hw)
        go_ret
        exact ⟨by rw [HF.out]; rfl, HB.out⟩
      · rw [h2] at Dk
        have HA : Hid ((t.data.toList.take (k + 1)).all Ad.isD = true) := alls_step Ad.isD t k hlt2 ha.out h2
        clear h2
        go_wp2_with (go_at_call 58; refine (Dk _).mono ?_; rintro e w' ⟨rfl, hw⟩; obtain rfl := hw.symm; clear hw)
        go_round
        case rel => exact ⟨k + 1, by omega, by go_num, HA.out⟩
        case measure => simp [intOf]; omega
    · have HT : Hid (r = decide ((1 : Int) < s.size)) := by
        show _ = _
        have hh := ha.out
        rw [List.take_of_length_le (by omega)] at hh
        rw [HE.out, hh, Bool.true_and, decide_eq_decide]
        omega
      go_wp2
      go_ret
      exact ⟨by rw [HT.out]; rfl, HB.out⟩
end Go.Proofs.YtjimgjohfpcnpaaDoor
