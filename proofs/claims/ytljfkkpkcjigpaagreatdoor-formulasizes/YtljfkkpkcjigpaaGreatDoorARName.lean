import Derived.Test.YtljfkkpkcjigpaaGreatDoorNRPrint
import Derived.Test.YtljfkkpkcjigpaaGreatDoorVJoin
set_option linter.unusedVariables false
set_option linter.unusedSimpArgs false
/- Names of books, sheets and others: the program's GoodName. -/
namespace Go.Proofs.YtljfkkpkcjigpaaGreatDoor
open Go.RowKit
set_option maxRecDepth 100000
set_option linter.unusedVariables false
set_option linter.unusedSimpArgs false
def okC (c : UInt8) : Bool := Ad.isL c || Ad.isD c || (c == 95)
def headL (l : List UInt8) : Bool := match l with
  | [] => false
  | c :: _ => Ad.isL c
def spF (l : List UInt8) : Bool := decide (l.length ≤ 16) && headL l && l.all okC
def lcF (l : List UInt8) : Bool := (l.drop 1).all Ad.isD && decide (1 < l.length)
/-- May a book, a sheet, a name be called so? -/
def gnF (l : List UInt8) : Bool := spF l && !lcF l && !(truF ⟨l.toArray⟩).2
theorem alls_at (p : UInt8 → Bool) (s : ByteArray) (k : Nat) (h : k < s.size) (hall : s.data.toList.all p = true) : p s[k] = true := by
  rw [byte_at s k h (by rw [size_list]; exact h)]
  exact List.all_eq_true.1 hall _ (List.getElem_mem _)
theorem alls_step (p : UInt8 → Bool) (s : ByteArray) (k : Nat) (h : k < s.size) (ha : (s.data.toList.take k).all p = true) (hb : p s[k] = true) : (s.data.toList.take (k + 1)).all p = true := by
  rw [take_snoc _ _ (by rw [size_list]; exact h), List.all_append, ha, ← byte_at s k h (by rw [size_list]; exact h)]
  simp [hb]
theorem head_list : ∀ (l : List UInt8) (h : 0 < l.length), headL l = Ad.isL l[0]
  | [], h => by simp at h
  | a :: r, h => rfl
theorem head_at (s : ByteArray) (h : 0 < s.size) : headL s.data.toList = Ad.isL s[0] := by
  rw [byte_at s 0 h (by rw [size_list]; exact h)]
  exact head_list _ _
theorem ch_facts (c d : UInt8) : (c = d ∧ ((c.toNat : Int) == (d.toNat : Int)) = true) ∨ (c ≠ d ∧ ((c.toNat : Int) == (d.toNat : Int)) = false) := by
  by_cases h : c = d
  · subst h; left; exact ⟨rfl, by simp⟩
  · right
    refine ⟨h, ?_⟩
    rw [beq_eq_false_iff_ne]
    intro e
    exact h (UInt8.toNat_inj.1 (by omega))
set_option maxHeartbeats 2000000 in
theorem spelled_any (s : ByteArray) (hs : s.size ≤ 9223372036854775807) (w : World) :
    Calls Tryz.prog 138 #[.string s] w fun e w' => e = .returned (.bool (spF s.data.toList)) ∧ Below w.heap.size w w' := by
  have hl := size_list s
  generalize hr : spF s.data.toList = r
  have HR : Hid (spF s.data.toList = r) := hr
  clear hr
  by_cases h0 : s.size = 0
  · have h1 : (s.size : Int) < 1 := by omega
    have HE : Hid (r = false) := by
      show _ = _
      have : s.data.toList = [] := List.eq_nil_of_length_eq_zero (by omega)
      rw [← HR.out, this]
      rfl
    go_enter Tryz.func138, Tryz.ntmps138
    go_wp2
    go_ret
    exact ⟨by rw [HE.out]; rfl, Below.refl _ _⟩
  have h1 : ¬ (s.size : Int) < 1 := by omega
  by_cases h16 : 16 < s.size
  · have h2 : (16 : Int) < s.size := by omega
    have HE : Hid (r = false) := by
      show _ = _
      rw [← HR.out]
      unfold spF
      rw [decide_eq_false (show ¬ s.data.toList.length ≤ 16 by omega)]
      rfl
    go_enter Tryz.func138, Tryz.ntmps138
    go_wp2
    go_ret
    exact ⟨by rw [HE.out]; rfl, Below.refl _ _⟩
  have h2 : ¬ (16 : Int) < s.size := by omega
  have hz : 0 < s.size := by omega
  have L0 := fun u => letter_any s[0] u
  have hh := head_at s hz
  cases hL : Ad.isL s[0]
  · rw [hL] at L0 hh
    have HE : Hid (r = false) := by
      show _ = _
      rw [← HR.out]
      unfold spF
      rw [hh]
      simp
    go_enter Tryz.func138, Tryz.ntmps138
    go_wp2_with (go_at_call 165; refine (L0 _).mono ?_; rintro e w' ⟨rfl, hw⟩; obtain rfl := hw.symm; clear hw)
    go_ret
    exact ⟨by rw [HE.out]; rfl, Below.refl _ _⟩
  rw [hL] at L0 hh
  have HE : Hid (r = s.data.toList.all okC) := by
    show _ = _
    rw [← HR.out]
    unfold spF
    rw [hh, decide_eq_true (show s.data.toList.length ≤ 16 by omega)]
    rfl
  clear hh HR
  obtain ⟨c, wb, hrun, hcell, hbel⟩ := run_bytes_row w s
  have HB : Hid (Below w.heap.size w wb) := hbel
  have HC : Hid (∀ (k : Nat) (h : k < s.size), wb.cell? ⟨w.heap.size, k, none⟩ = some (.int .u8 (s[k].toNat : Int))) := hcell
  clear hbel hcell
  go_enter Tryz.func138, Tryz.ntmps138
  go_wp2_with (go_at_call 165; refine (L0 _).mono ?_; rintro e w' ⟨rfl, hw⟩; obtain rfl := hw.symm; clear hw)
  go_loop [4, 22] (fun _ i => ∃ k : Nat, k ≤ s.size ∧ i = .int .i64 k ∧ Hid ((s.data.toList.take k).all okC = true)) (fun _ i => s.size - (intOf i).toNat)
  case atStart => exact ⟨0, Nat.zero_le _, rfl, by simp [Hid]⟩
  case round =>
    obtain ⟨k, hk, rfl, ha⟩ := hrel
    clear L0
    by_cases hlt : k < s.size
    · have hck := HC.out k hlt
      have Lk := fun u => letter_any s[k] u
      have Dk := fun u => digit_any s[k] u
      have HS : Hid (okC s[k] = true → (s.data.toList.take (k + 1)).all okC = true) := fun h => alls_step okC s k hlt ha.out h
      have HN : Hid (okC s[k] = false → r = false) := fun h => by
        rw [HE.out]
        cases hh : s.data.toList.all okC
        · rfl
        · rw [alls_at okC s k hlt hh] at h; cases h
      have HO : Hid (okC s[k] = (Ad.isL s[k] || Ad.isD s[k] || (s[k] == 95))) := rfl
      cases h1 : Ad.isL s[k]
      · rw [h1] at Lk HO
        cases h2 : Ad.isD s[k]
        · rw [h2] at Dk HO
          rcases ch_facts s[k] 95 with ⟨h3, h4⟩ | ⟨h3, h4⟩
          · have HA : Hid ((s.data.toList.take (k + 1)).all okC = true) := HS.out (by rw [HO.out, h3]; rfl)
            have h5 : ((s[k].toNat : Int) != 95) = false := by rw [h3]; rfl
            clear h1 h2 h3 h4 HN HS
            go_wp2_with (first | (go_at_call 165; refine (Lk _).mono ?_; rintro e w' ⟨rfl, hw⟩; obtain rfl := hw.symm; clear hw) | (go_at_call 171; refine (Dk _).mono ?_; rintro e w' ⟨rfl, hw⟩; obtain rfl := hw.symm; clear hw))
            go_round
            case rel => exact ⟨k + 1, by omega, by go_num, HA.out⟩
            case measure => simp [intOf]; omega
          · have HF : Hid (r = false) := HN.out (by rw [HO.out]; simpa using h3)
            have h5 : ((s[k].toNat : Int) != 95) = true := by rw [bne, show ((s[k].toNat : Int) == 95) = false from h4]; rfl
            clear h1 h2 h3 h4 HN HS
            go_wp2_with (first | (go_at_call 165; refine (Lk _).mono ?_; rintro e w' ⟨rfl, hw⟩; obtain rfl := hw.symm; clear hw) | (go_at_call 171; refine (Dk _).mono ?_; rintro e w' ⟨rfl, hw⟩; obtain rfl := hw.symm; clear hw))
            go_ret
            exact ⟨by rw [HF.out]; rfl, HB.out⟩
        · rw [h2] at Dk HO
          have HA : Hid ((s.data.toList.take (k + 1)).all okC = true) := HS.out (by rw [HO.out]; rfl)
          clear h1 h2 HN HS
          go_wp2_with (first | (go_at_call 165; refine (Lk _).mono ?_; rintro e w' ⟨rfl, hw⟩; obtain rfl := hw.symm; clear hw) | (go_at_call 171; refine (Dk _).mono ?_; rintro e w' ⟨rfl, hw⟩; obtain rfl := hw.symm; clear hw))
          go_round
          case rel => exact ⟨k + 1, by omega, by go_num, HA.out⟩
          case measure => simp [intOf]; omega
      · rw [h1] at Lk HO
        have HA : Hid ((s.data.toList.take (k + 1)).all okC = true) := HS.out (by rw [HO.out]; rfl)
        clear h1 HN HS
        go_wp2_with (first | (go_at_call 165; refine (Lk _).mono ?_; rintro e w' ⟨rfl, hw⟩; obtain rfl := hw.symm; clear hw))
        go_round
        case rel => exact ⟨k + 1, by omega, by go_num, HA.out⟩
        case measure => simp [intOf]; omega
    · have HT : Hid (r = true) := by
        show _ = _
        have hh := ha.out
        rw [List.take_of_length_le (by omega)] at hh
        rw [HE.out, hh]
      go_wp2
      go_ret
      exact ⟨by rw [HT.out]; rfl, HB.out⟩
theorem tail_bytes (s : ByteArray) : (s.extract 1 s.size).data.toList = s.data.toList.drop 1 := by
  have := drop_mk s.data.toList
  rw [mk_list] at this
  rw [this]
set_option maxHeartbeats 2000000 in
theorem likecell_any (s : ByteArray) (hz : 0 < s.size) (hs : s.size ≤ 9223372036854775807) (w : World) :
    Calls Tryz.prog 139 #[.string s] w fun e w' => e = .returned (.bool (lcF s.data.toList)) ∧ Below w.heap.size w w' := by
  have hl := size_list s
  generalize hr : lcF s.data.toList = r
  have HR : Hid (lcF s.data.toList = r) := hr
  clear hr
  have hx := tail_bytes s
  have hxs : (s.extract 1 s.size).size = s.size - 1 := by simp
  have HE : Hid (r = ((s.extract 1 s.size).data.toList.all Ad.isD && decide (1 < s.size))) := by
    show _ = _
    rw [← HR.out]
    unfold lcF
    rw [hx, hl]
  obtain ⟨t, ht⟩ : ∃ t, s.extract 1 s.size = t := ⟨_, rfl⟩
  rw [ht] at hx hxs HE
  have hlt := size_list t
  clear HR hx
  obtain ⟨c, wb, hrun, hcell, hbel⟩ := run_bytes_row w t
  have HB : Hid (Below w.heap.size w wb) := hbel
  have HC : Hid (∀ (k : Nat) (h : k < t.size), wb.cell? ⟨w.heap.size, k, none⟩ = some (.int .u8 (t[k].toNat : Int))) := hcell
  clear hbel hcell
  rw [← ht] at hrun
  clear ht
  have c1 : (1 : Int) ≤ s.size := by omega
  go_enter Tryz.func139, Tryz.ntmps139
  go_wp2
  go_loop [4, 9] (fun _ i => ∃ k : Nat, k ≤ t.size ∧ i = .int .i64 k ∧ Hid ((t.data.toList.take k).all Ad.isD = true)) (fun _ i => t.size - (intOf i).toNat)
  case atStart => exact ⟨0, Nat.zero_le _, rfl, by simp [Hid]⟩
  case round =>
    obtain ⟨k, hk, rfl, ha⟩ := hrel
    by_cases hlt2 : k < t.size
    · have hck := HC.out k hlt2
      have Dk := fun u => digit_any t[k] u
      cases h2 : Ad.isD t[k]
      · rw [h2] at Dk
        have HF : Hid (r = false) := by
          show _ = _
          rw [HE.out]
          cases hh : t.data.toList.all Ad.isD
          · rfl
          · rw [alls_at Ad.isD t k hlt2 hh] at h2; cases h2
        clear h2
        go_wp2_with (go_at_call 171; refine (Dk _).mono ?_; rintro e w' ⟨rfl, hw⟩; obtain rfl := hw.symm; clear hw)
        go_ret
        exact ⟨by rw [HF.out]; rfl, HB.out⟩
      · rw [h2] at Dk
        have HA : Hid ((t.data.toList.take (k + 1)).all Ad.isD = true) := alls_step Ad.isD t k hlt2 ha.out h2
        clear h2
        go_wp2_with (go_at_call 171; refine (Dk _).mono ?_; rintro e w' ⟨rfl, hw⟩; obtain rfl := hw.symm; clear hw)
        go_round
        case rel => exact ⟨k + 1, by omega, by go_num, HA.out⟩
        case measure => simp [intOf]; omega
    · have HT : Hid (r = decide ((1 : Int) < s.size)) := by
        show _ = _
        have hh := ha.out
        rw [List.take_of_length_le (by omega)] at hh
        rw [HE.out, hh, Bool.true_and, decide_eq_decide]
        omega
      go_wp2
      go_ret
      exact ⟨by rw [HT.out]; rfl, HB.out⟩
end Go.Proofs.YtljfkkpkcjigpaaGreatDoor

/- GoodName of both. -/
namespace Go.Proofs.YtljfkkpkcjigpaaGreatDoor
open Go.RowKit
set_option maxRecDepth 100000
set_option linter.unusedVariables false
set_option linter.unusedSimpArgs false
theorem sp_parts {l : List UInt8} (h : spF l = true) : l.length ≤ 16 ∧ headL l = true ∧ l.all okC = true := by
  unfold spF at h
  simp only [Bool.and_eq_true, decide_eq_true_eq] at h
  exact ⟨h.1.1, h.1.2, h.2⟩
theorem isL_facts {c : UInt8} (h : Ad.isL c = true) : c ≠ 39 ∧ c ≠ 45 ∧ c ≠ 46 ∧ isD c = false := by
  unfold Ad.isL at h
  simp only [Bool.or_eq_true, Bool.and_eq_true, decide_eq_true_eq] at h
  refine ⟨?_, ?_, ?_, ?_⟩
  · rintro rfl; revert h; decide
  · rintro rfl; revert h; decide
  · rintro rfl; revert h; decide
  · unfold isD; rw [Bool.and_eq_false_iff, decide_eq_false_iff_not, decide_eq_false_iff_not]; omega
/-- A text that begins with a letter is no number. -/
theorem letter_parse {l : List UInt8} (h : headL l = true) : (parseF l).2 = false := by
  cases l with
  | nil => cases h
  | cons c r =>
    obtain ⟨_, h2, h3, h4⟩ := isL_facts h
    have e1 : dash (c :: r) = false := by unfold dash; simpa using h2
    have e2 : body (c :: r) = c :: r := by unfold body; rw [e1]; rfl
    have e3 : fstP (c :: r) = c :: fstP r := by unfold fstP; rw [List.takeWhile_cons, if_pos (by simpa using h3)]
    unfold parseF
    rw [e2, e3]
    have e4 : digs (c :: fstP r) 1 12 = false := by unfold digs; rw [List.all_cons, h4]; rfl
    rw [if_neg (by rw [e4]; simp)]
theorem typed_kind {s : ByteArray} (h : headL s.data.toList = true) : ((typedF s).1 == 3) = (truF s).2 := by
  have hp := letter_parse h
  have h0 : ¬ s.toList = [] := by
    rw [ByteArray.toList_eq]
    intro e
    rw [e] at h
    cases h
  have h1 : ¬ s.data.toList.head? = some 39 := by
    intro e
    cases hl : s.data.toList with
    | nil => rw [hl] at h; cases h
    | cons c r =>
      rw [hl] at h e
      simp only [List.head?_cons, Option.some.injEq] at e
      exact (isL_facts h).1 e
  unfold typedF
  rw [if_neg h0, if_neg h1, if_neg (by rw [hp]; decide)]
  cases ht : (truF s).2
  · rw [if_neg (by decide)]
    split <;> rfl
  · rw [if_pos rfl]
    rfl
theorem run_fld (W : World) (k n : Int) (x : ByteArray) : (Instr.field 23 (.agg #[.int .i64 k, .int .i64 n, .string x]) 0).run Tryz.prog W = .ok (.int .i64 k) W := by kernel_rfl
set_option maxHeartbeats 2000000 in
theorem liketruth_any (s : ByteArray) (hs : s.size ≤ 9223372036854775807) (w : World) (T : Tabs w) :
    Calls Tryz.prog 140 #[.string s] w fun e w' => e = .returned (.bool ((typedF s).1 == 3)) ∧ Below w.heap.size w w' := by
  have Y := typed_any s hs w T
  generalize (typedF s).1 = k at *
  generalize (typedF s).2.1 = n at *
  generalize (typedF s).2.2 = x at *
  have FL := fun W => run_fld W k n x
  go_enter Tryz.func140, Tryz.ntmps140
  go_wp2_with (go_at_call 142; refine Y.mono ?_; rintro e w1 ⟨rfl, hb⟩; have HB : Hid (Below w.heap.size w w1) := hb; clear hb)
  go_ret
  exact ⟨rfl, HB.out⟩
theorem gn_cases (s : ByteArray) : (spF s.data.toList = false ∧ gnF s.data.toList = false) ∨ (spF s.data.toList = true ∧ 0 < s.size ∧ ((lcF s.data.toList = true ∧ gnF s.data.toList = false) ∨ (lcF s.data.toList = false ∧ gnF s.data.toList = !((typedF s).1 == 3)))) := by
  unfold gnF
  rw [mk_list]
  cases h : spF s.data.toList
  · left; exact ⟨rfl, rfl⟩
  · right
    obtain ⟨h1, h2, h3⟩ := sp_parts h
    refine ⟨rfl, ?_, ?_⟩
    · rw [← size_list]
      cases hl : s.data.toList with
      | nil => rw [hl] at h2; cases h2
      | cons a r => simp
    · cases hc : lcF s.data.toList
      · right; rw [typed_kind h2]; exact ⟨rfl, rfl⟩
      · left; exact ⟨rfl, rfl⟩
set_option maxHeartbeats 2000000 in
theorem goodname_any (s : ByteArray) (hs : s.size ≤ 9223372036854775807) (w : World) (T : Tabs w) :
    Calls Tryz.prog 94 #[.string s] w fun e w' => e = .returned (.bool (gnF s.data.toList)) ∧ Below w.heap.size w w' := by
  have SP := spelled_any s hs w
  rcases gn_cases s with ⟨h1, h2⟩ | ⟨h1, hz, ⟨h3, h2⟩ | ⟨h3, h2⟩⟩
  · rw [h1] at SP
    rw [h2]
    go_enter Tryz.func94, Tryz.ntmps94
    go_wp2_with (go_at_call 138; refine SP.mono ?_; rintro e w1 ⟨rfl, hb⟩; have HB : Hid (Below w.heap.size w w1) := hb; clear hb)
    go_ret
    exact ⟨rfl, HB.out⟩
  · rw [h1] at SP
    rw [h2]
    have LC := fun u => likecell_any s hz hs u
    rw [h3] at LC
    go_enter Tryz.func94, Tryz.ntmps94
    go_wp2_with (first | (go_at_call 138; refine SP.mono ?_; rintro e w1 ⟨rfl, hb⟩; have HB : Hid (Below w.heap.size w w1) := hb; clear hb) | (go_at_call 139; refine (LC _).mono ?_; rintro e w2 ⟨rfl, hb⟩; have HB2 : Hid (Below w.heap.size w w2) := bel_step HB.out hb; clear hb))
    go_ret
    exact ⟨rfl, HB2.out⟩
  · rw [h1] at SP
    rw [h2]
    have LC := fun u => likecell_any s hz hs u
    have LT := fun u hu => liketruth_any s hs u hu
    rw [h3] at LC
    generalize ((typedF s).1 == 3) = k at *
    go_enter Tryz.func94, Tryz.ntmps94
    go_wp2_with (first | (go_at_call 138; refine SP.mono ?_; rintro e w1 ⟨rfl, hb⟩; have HB : Hid (Below w.heap.size w w1) := hb; clear hb) | (go_at_call 139; refine (LC _).mono ?_; rintro e w2 ⟨rfl, hb⟩; have HB2 : Hid (Below w.heap.size w w2) := bel_step HB.out hb; clear hb) | (go_at_call 140; refine (LT _ (T.below HB2.out)).mono ?_; rintro e w3 ⟨rfl, hb⟩; have HB3 : Hid (Below w.heap.size w w3) := bel_step HB2.out hb; clear hb))
    go_ret
    exact ⟨rfl, HB3.out⟩
/-- The names that there are have no sign of a ref. -/
theorem gn_names : Ad.Names gnF := fun l h => by
  unfold gnF at h
  simp only [Bool.and_eq_true] at h
  obtain ⟨_, h2, h3⟩ := sp_parts h.1.1
  refine ⟨fun e => ?_, fun x hx => ?_⟩
  · rw [e] at h2; cases h2
  · have hk := List.all_eq_true.1 h3 x hx
    refine ⟨?_, ?_, ?_⟩ <;> (rintro rfl; revert hk; decide)
end Go.Proofs.YtljfkkpkcjigpaaGreatDoor

/- GoodName of the reference. -/
namespace Go.Proofs.YtljfkkpkcjigpaaGreatDoor
open Go.RowKit
set_option maxRecDepth 100000
set_option linter.unusedVariables false
set_option linter.unusedSimpArgs false
theorem tru_ways (s : ByteArray) : ((truF s).2 = true ∧ 0 ≤ truN (szF 97 65 s.data.toList)) ∨ ((truF s).2 = false ∧ truN (szF 97 65 s.data.toList) < 0) := by
  rcases truth_ways s with ⟨a, _, c⟩ | ⟨a, _, c⟩ | ⟨a, c⟩
  · left; rw [c]; exact ⟨a, by decide⟩
  · left; rw [c]; exact ⟨a, by decide⟩
  · right; rw [c]; exact ⟨a, by decide⟩
/-- What has been seen that is no digit, up to k. -/
def oth (s : ByteArray) (k : Nat) : Bool := decide (s.size = 1) || !((s.data.toList.take k).drop 1).all Ad.isD
theorem oth_one (s : ByteArray) : oth s 1 = decide (s.size = 1) := by
  unfold oth
  have : (s.data.toList.take 1).drop 1 = [] := by cases s.data.toList <;> simp
  rw [this]
  simp
theorem oth_step (s : ByteArray) (k : Nat) (h1 : 1 ≤ k) (h : k < s.size) : oth s (k + 1) = (oth s k || !Ad.isD s[k]) := by
  unfold oth
  have hl := size_list s
  rw [take_snoc _ _ (by omega), List.drop_append_of_le_length (by simp; omega), List.all_append, ← byte_at s k h (by omega)]
  simp only [List.all_cons, List.all_nil, Bool.and_true, Bool.not_and, Bool.or_assoc]
theorem oth_end (s : ByteArray) (h : 0 < s.size) : oth s s.size = !lcF s.data.toList := by
  unfold oth lcF
  have hl := size_list s
  rw [List.take_of_length_le (by omega), hl]
  by_cases e : s.size = 1
  · simp [e]
  · have : 1 < s.size := by omega
    simp [e, this]
set_option maxHeartbeats 4000000 in
theorem rgoodname_any (s : ByteArray) (hs : s.size ≤ 9223372036854775807) (w : World) :
    Calls Tryz.prog 100 #[.string s] w fun e w' => e = .returned (.bool (gnF s.data.toList)) ∧ Below w.heap.size w w' := by
  have hl := size_list s
  generalize hr : gnF s.data.toList = r
  have HR : Hid (gnF s.data.toList = r) := hr
  clear hr
  have HN : Hid (spF s.data.toList = false → r = false) := fun h => by
    rw [← HR.out]; unfold gnF; rw [h]; rfl
  by_cases h0 : s.size = 0
  · have h1 : (s.size : Int) < 1 := by omega
    have HE : Hid (r = false) := by
      apply HN.out
      have : s.data.toList = [] := List.eq_nil_of_length_eq_zero (by omega)
      rw [this]
      rfl
    go_enter Tryz.func100, Tryz.ntmps100
    go_wp2
    go_ret
    exact ⟨by rw [HE.out]; rfl, Below.refl _ _⟩
  have h1 : ¬ (s.size : Int) < 1 := by omega
  by_cases h16 : 16 < s.size
  · have h2 : (16 : Int) < s.size := by omega
    have HE : Hid (r = false) := by
      apply HN.out
      unfold spF
      rw [decide_eq_false (show ¬ s.data.toList.length ≤ 16 by omega)]
      rfl
    go_enter Tryz.func100, Tryz.ntmps100
    go_wp2
    go_ret
    exact ⟨by rw [HE.out]; rfl, Below.refl _ _⟩
  have h2 : ¬ (16 : Int) < s.size := by omega
  have hz : 0 < s.size := by omega
  have L0 := fun u => rletter_any s[0] u
  have hh := head_at s hz
  cases hL : Ad.isL s[0]
  · rw [hL] at L0 hh
    have HE : Hid (r = false) := by
      apply HN.out
      unfold spF
      rw [hh]
      simp
    go_enter Tryz.func100, Tryz.ntmps100
    go_wp2_with (go_at_call 87; refine (L0 _).mono ?_; rintro e w' ⟨rfl, hw⟩; obtain rfl := hw.symm; clear hw)
    go_ret
    exact ⟨by rw [HE.out]; rfl, Below.refl _ _⟩
  rw [hL] at L0 hh
  have RT := fun u => rtruth_any s hs u
  have HT := tru_ways s
  generalize truN (szF 97 65 s.data.toList) = tn at *
  rcases HT with ⟨t1, t2⟩ | ⟨t1, t2⟩
  · have HE : Hid (r = false) := by
      show _ = _
      rw [← HR.out]; unfold gnF; rw [mk_list, t1]; simp
    go_enter Tryz.func100, Tryz.ntmps100
    go_wp2_with (first | (go_at_call 87; refine (L0 _).mono ?_; rintro e w' ⟨rfl, hw⟩; obtain rfl := hw.symm; clear hw) | (go_at_call 102; refine (RT _).mono ?_; rintro e w1 ⟨rfl, hb⟩; have HB : Hid (Below w.heap.size w w1) := hb; clear hb))
    go_ret
    exact ⟨by rw [HE.out]; rfl, HB.out⟩
  have HE : Hid (r = (s.data.toList.all okC && !lcF s.data.toList)) := by
    show _ = _
    rw [← HR.out]
    unfold gnF spF
    rw [mk_list, t1, hh, decide_eq_true (show s.data.toList.length ≤ 16 by omega)]
    simp
  have HK0 : Hid ((s.data.toList.take 1).all okC = true) := by
    have e := alls_step okC s 0 hz (by simp) (by unfold okC; rw [hL]; rfl)
    exact e
  clear hh HR HN t1 hL
  go_enter Tryz.func100, Tryz.ntmps100
  go_wp2_with (first | (go_at_call 87; refine (L0 _).mono ?_; rintro e w' ⟨rfl, hw⟩; obtain rfl := hw.symm; clear hw) | (go_at_call 102; refine (RT _).mono ?_; rintro e w1 ⟨rfl, hb⟩; have HB : Hid (Below w.heap.size w w1) := hb; clear hb))
  clear L0 RT
  go_loop [3, 4] (fun v i => ∃ (k : Nat) (o : Bool), 1 ≤ k ∧ k ≤ s.size ∧ i = .int .i64 k ∧ v = .bool o ∧ Hid ((s.data.toList.take k).all okC = true ∧ o = oth s k)) (fun _ i => s.size - (intOf i).toNat)
  case atStart => exact ⟨1, _, Nat.le_refl _, by omega, rfl, rfl, HK0.out, by rw [oth_one, Bool.eq_iff_iff]; simp; omega⟩
  case round =>
    obtain ⟨k, o, hk1, hk, rfl, rfl, ha⟩ := hrel
    by_cases hlt : k < s.size
    · have Lk := fun u => rletter_any s[k] u
      have Dk := fun u => rdigit_any s[k] u
      have HS : Hid (okC s[k] = true → (s.data.toList.take (k + 1)).all okC = true) := fun h => alls_step okC s k hlt ha.out.1 h
      have HN : Hid (okC s[k] = false → r = false) := fun h => by
        rw [HE.out]
        cases hh : s.data.toList.all okC
        · rfl
        · rw [alls_at okC s k hlt hh] at h; cases h
      have HO : Hid (okC s[k] = (Ad.isL s[k] || Ad.isD s[k] || (s[k] == 95))) := rfl
      have HP : Hid (oth s (k + 1) = (o || !Ad.isD s[k])) := by
        show _ = _
        rw [oth_step s k hk1 hlt, ← ha.out.2]
      cases h1 : Ad.isL s[k]
      · rw [h1] at Lk HO
        cases h2 : Ad.isD s[k]
        · rw [h2] at Dk HO HP
          rcases ch_facts s[k] 95 with ⟨h3, h4⟩ | ⟨h3, h4⟩
          · have HA : Hid ((s.data.toList.take (k + 1)).all okC = true) := HS.out (by rw [HO.out, h3]; rfl)
            have h5 : ((s[k].toNat : Int) != 95) = false := by rw [h3]; rfl
            clear h1 h2 h3 h4 HN HS
            cases o
            all_goals
              go_wp2_with (first | (go_at_call 87; refine (Lk _).mono ?_; rintro e w' ⟨rfl, hw⟩; obtain rfl := hw.symm; clear hw) | (go_at_call 83; refine (Dk _).mono ?_; rintro e w' ⟨rfl, hw⟩; obtain rfl := hw.symm; clear hw))
              go_round
              case rel => exact ⟨k + 1, _, by omega, by omega, by go_num, rfl, HA.out, HP.out.symm⟩
              case measure => simp [intOf]; omega
          · have HF : Hid (r = false) := HN.out (by rw [HO.out]; simpa using h3)
            have h5 : ((s[k].toNat : Int) != 95) = true := by rw [bne, show ((s[k].toNat : Int) == 95) = false from h4]; rfl
            clear h1 h2 h3 h4 HN HS
            go_wp2_with (first | (go_at_call 87; refine (Lk _).mono ?_; rintro e w' ⟨rfl, hw⟩; obtain rfl := hw.symm; clear hw) | (go_at_call 83; refine (Dk _).mono ?_; rintro e w' ⟨rfl, hw⟩; obtain rfl := hw.symm; clear hw))
            go_ret
            exact ⟨by rw [HF.out]; rfl, HB.out⟩
        · rw [h2] at Dk HO HP
          have HA : Hid ((s.data.toList.take (k + 1)).all okC = true) := HS.out (by rw [HO.out]; rfl)
          clear h1 h2 HN HS
          cases o
          all_goals
            go_wp2_with (first | (go_at_call 87; refine (Lk _).mono ?_; rintro e w' ⟨rfl, hw⟩; obtain rfl := hw.symm; clear hw) | (go_at_call 83; refine (Dk _).mono ?_; rintro e w' ⟨rfl, hw⟩; obtain rfl := hw.symm; clear hw))
            go_round
            case rel => exact ⟨k + 1, _, by omega, by omega, by go_num, rfl, HA.out, HP.out.symm⟩
            case measure => simp [intOf]; omega
      · rw [h1] at Lk HO
        have HA : Hid ((s.data.toList.take (k + 1)).all okC = true) := HS.out (by rw [HO.out]; rfl)
        clear HN HS
        generalize Ad.isD s[k] = dk at *
        clear h1
        cases o <;> cases dk
        all_goals
          go_wp2_with (first | (go_at_call 87; refine (Lk _).mono ?_; rintro e w' ⟨rfl, hw⟩; obtain rfl := hw.symm; clear hw) | (go_at_call 83; refine (Dk _).mono ?_; rintro e w' ⟨rfl, hw⟩; obtain rfl := hw.symm; clear hw))
          go_round
          case rel => exact ⟨k + 1, _, by omega, by omega, by go_num, rfl, HA.out, HP.out.symm⟩
          case measure => simp [intOf]; omega
    · have HT : Hid (r = o) := by
        show _ = _
        have hh := ha.out
        obtain rfl : k = s.size := by omega
        rw [List.take_of_length_le (by omega)] at hh
        rw [HE.out, hh.1, hh.2, oth_end s hz]
        rfl
      go_wp2
      go_ret
      exact ⟨by rw [HT.out]; rfl, HB.out⟩
end Go.Proofs.YtljfkkpkcjigpaaGreatDoor
