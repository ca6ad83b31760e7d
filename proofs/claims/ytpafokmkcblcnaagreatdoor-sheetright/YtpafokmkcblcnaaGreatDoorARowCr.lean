/- AName, AGood, ARName, AGoodR, APrint, ADig, ARCell, APrint2, ARow. -/
import Derived.Test.YtpafokmkcblcnaaGreatDoorVKindCr
import Derived.Test.YtpafokmkcblcnaaGreatDoorVJoinCr
set_option linter.unusedVariables false
set_option linter.unusedSimpArgs false
namespace Go.Proofs.YtpafokmkcblcnaaGreatDoor
open Go.RowKit
set_option maxRecDepth 100000
def okC (c : UInt8) : Bool := Ad.isL c || Ad.isD c || (c == 95)
def headL (l : List UInt8) : Bool := match l with
  | [] => false
  | c :: _ => Ad.isL c
def spF (l : List UInt8) : Bool := decide (l.length ≤ 16) && headL l && l.all okC
def lcF (l : List UInt8) : Bool := (l.drop 1).all Ad.isD && decide (1 < l.length)
def gnF (l : List UInt8) : Bool := spF l && !lcF l && !(truF ⟨l.toArray⟩).2
theorem alls_at (p : UInt8 → Bool) (s : ByteArray) (k : Nat) (h : k < s.size) (hall : s.data.toList.all p = true) : p s[k] = true := by
  rw [byte_at s k h (by rw [size_list]; exact h)]
  exact List.all_eq_true.1 hall _ (List.getElem_mem _)
theorem alls_step (p : UInt8 → Bool) (s : ByteArray) (k : Nat) (h : k < s.size) (ha : (s.data.toList.take k).all p = true) (hb : p s[k] = true) : (s.data.toList.take (k + 1)).all p = true := by
  rw [take_snoc _ _ (by rw [size_list]; exact h), List.all_append, ha, ← byte_at s k h (by rw [size_list]; exact h)]
  simp [hb]
theorem head_list : ∀ (l : List UInt8) (h : 0 < l.length), headL l = Ad.isL l[0]
  | [], h => by simp at h
  | a :: r, h => rfl
theorem head_at (s : ByteArray) (h : 0 < s.size) : headL s.data.toList = Ad.isL s[0] := by
  rw [byte_at s 0 h (by rw [size_list]; exact h)]
  exact head_list _ _
theorem ch_facts (c d : UInt8) : (c = d ∧ ((c.toNat : Int) == (d.toNat : Int)) = true) ∨ (c ≠ d ∧ ((c.toNat : Int) == (d.toNat : Int)) = false) := by
  by_cases h : c = d
  · subst h; left; exact ⟨rfl, by simp⟩
  · right
    refine ⟨h, ?_⟩
    rw [beq_eq_false_iff_ne]
    intro e
    exact h (UInt8.toNat_inj.1 (by omega))
set_option maxHeartbeats 2000000 in
theorem spelled_any (s : ByteArray) (hs : s.size ≤ 9223372036854775807) (w : World) :
    Calls Tryz.prog 110 #[.string s] w fun e w' => e = .returned (.bool (spF s.data.toList)) ∧ Below w.heap.size w w' := by
  have hl := size_list s
  generalize hr : spF s.data.toList = r
  have HR : Hid (spF s.data.toList = r) := hr
  clear hr
  by_cases h0 : s.size = 0
  · have h1 : (s.size : Int) < 1 := by omega
    have HE : Hid (r = false) := by
      show _ = _
      have : s.data.toList = [] := List.eq_nil_of_length_eq_zero (by omega)
      rw [← HR.out, this]
      rfl
    go_enter Tryz.func110, Tryz.ntmps110
    go_wp2
    go_ret
    exact ⟨by rw [HE.out]; rfl, Below.refl _ _⟩
  have h1 : ¬ (s.size : Int) < 1 := by omega
  by_cases h16 : 16 < s.size
  · have h2 : (16 : Int) < s.size := by omega
    have HE : Hid (r = false) := by
      show _ = _
      rw [← HR.out]
      unfold spF
      rw [decide_eq_false (show ¬ s.data.toList.length ≤ 16 by omega)]
      rfl
    go_enter Tryz.func110, Tryz.ntmps110
    go_wp2
    go_ret
    exact ⟨by rw [HE.out]; rfl, Below.refl _ _⟩
  have h2 : ¬ (16 : Int) < s.size := by omega
  have hz : 0 < s.size := by omega
  have L0 := fun u => letter_any s[0] u
  have hh := head_at s hz
  cases hL : Ad.isL s[0]
  · rw [hL] at L0 hh
    have HE : Hid (r = false) := by
      show _ = _
      rw [← HR.out]
      unfold spF
      rw [hh]
      simp
    go_enter Tryz.func110, Tryz.ntmps110
    go_wp2_with (go_at_call 158; refine (L0 _).mono ?_; rintro e w' ⟨rfl, hw⟩; obtain rfl := hw.symm; clear hw)
    go_ret
    exact ⟨by rw [HE.out]; rfl, Below.refl _ _⟩
  rw [hL] at L0 hh
  have HE : Hid (r = s.data.toList.all okC) := by
    show _ = _
    rw [← HR.out]
    unfold spF
    rw [hh, decide_eq_true (show s.data.toList.length ≤ 16 by omega)]
    rfl
  clear hh HR
  obtain ⟨c, wb, hrun, hcell, hbel⟩ := run_bytes_row w s
  have HB : Hid (Below w.heap.size w wb) := hbel
  have HC : Hid (∀ (k : Nat) (h : k < s.size), wb.cell? ⟨w.heap.size, k, none⟩ = some (.int .u8 (s[k].toNat : Int))) := hcell
  clear hbel hcell
  go_enter Tryz.func110, Tryz.ntmps110
  go_wp2_with (go_at_call 158; refine (L0 _).mono ?_; rintro e w' ⟨rfl, hw⟩; obtain rfl := hw.symm; clear hw)
  go_loop [4, 22] (fun _ i => ∃ k : Nat, k ≤ s.size ∧ i = .int .i64 k ∧ Hid ((s.data.toList.take k).all okC = true)) (fun _ i => s.size - (intOf i).toNat)
  case atStart => exact ⟨0, Nat.zero_le _, rfl, by simp [Hid]⟩
  case round =>
    obtain ⟨k, hk, rfl, ha⟩ := hrel
    clear L0
    by_cases hlt : k < s.size
    · have hck := HC.out k hlt
      have Lk := fun u => letter_any s[k] u
      have Dk := fun u => digit_any s[k] u
      have HS : Hid (okC s[k] = true → (s.data.toList.take (k + 1)).all okC = true) := fun h => alls_step okC s k hlt ha.out h
      have HN : Hid (okC s[k] = false → r = false) := fun h => by
        rw [HE.out]
        cases hh : s.data.toList.all okC
        · rfl
        · rw [alls_at okC s k hlt hh] at h; cases h
      have HO : Hid (okC s[k] = (Ad.isL s[k] || Ad.isD s[k] || (s[k] == 95))) := rfl
      cases h1 : Ad.isL s[k]
      · rw [h1] at Lk HO
        cases h2 : Ad.isD s[k]
        · rw [h2] at Dk HO
          rcases ch_facts s[k] 95 with ⟨h3, h4⟩ | ⟨h3, h4⟩
          · have HA : Hid ((s.data.toList.take (k + 1)).all okC = true) := HS.out (by rw [HO.out, h3]; rfl)
            have h5 : ((s[k].toNat : Int) != 95) = false := by rw [h3]; rfl
            clear h1 h2 h3 h4 HN HS
            go_wp2_with (first | (go_at_call 158; refine (Lk _).mono ?_; rintro e w' ⟨rfl, hw⟩; obtain rfl := hw.symm; clear hw) | (go_at_call 159; refine (Dk _).mono ?_; rintro e w' ⟨rfl, hw⟩; obtain rfl := hw.symm; clear hw))
            go_round
            case rel => exact ⟨k + 1, by omega, by go_num, HA.out⟩
            case measure => simp [intOf]; omega
          · have HF : Hid (r = false) := HN.out (by rw [HO.out]; simpa using h3)
            have h5 : ((s[k].toNat : Int) != 95) = true := by rw [bne, show ((s[k].toNat : Int) == 95) = false from h4]; rfl
            clear h1 h2 h3 h4 HN HS
            go_wp2_with (first | (go_at_call 158; refine (Lk _).mono ?_; rintro e w' ⟨rfl, hw⟩; obtain rfl := hw.symm; clear hw) | (go_at_call 159; refine (Dk _).mono ?_; rintro e w' ⟨rfl, hw⟩; obtain rfl := hw.symm; clear hw))
            go_ret
            exact ⟨by rw [HF.out]; rfl, HB.out⟩
        · rw [h2] at Dk HO
          have HA : Hid ((s.data.toList.take (k + 1)).all okC = true) := HS.out (by rw [HO.out]; rfl)
          clear h1 h2 HN HS
          go_wp2_with (first | (go_at_call 158; refine (Lk _).mono ?_; rintro e w' ⟨rfl, hw⟩; obtain rfl := hw.symm; clear hw) | (go_at_call 159; refine (Dk _).mono ?_; rintro e w' ⟨rfl, hw⟩; obtain rfl := hw.symm; clear hw))
          go_round
          case rel => exact ⟨k + 1, by omega, by go_num, HA.out⟩
          case measure => simp [intOf]; omega
      · rw [h1] at Lk HO
        have HA : Hid ((s.data.toList.take (k + 1)).all okC = true) := HS.out (by rw [HO.out]; rfl)
        clear h1 HN HS
        go_wp2_with (first | (go_at_call 158; refine (Lk _).mono ?_; rintro e w' ⟨rfl, hw⟩; obtain rfl := hw.symm; clear hw))
        go_round
        case rel => exact ⟨k + 1, by omega, by go_num, HA.out⟩
        case measure => simp [intOf]; omega
    · have HT : Hid (r = true) := by
        show _ = _
        have hh := ha.out
        rw [List.take_of_length_le (by omega)] at hh
        rw [HE.out, hh]
      go_wp2
      go_ret
      exact ⟨by rw [HT.out]; rfl, HB.out⟩
theorem tail_bytes (s : ByteArray) : (s.extract 1 s.size).data.toList = s.data.toList.drop 1 := by
  have := drop_mk s.data.toList
  rw [mk_list] at this
  rw [this]
set_option maxHeartbeats 2000000 in
theorem likecell_any (s : ByteArray) (hz : 0 < s.size) (hs : s.size ≤ 9223372036854775807) (w : World) :
    Calls Tryz.prog 111 #[.string s] w fun e w' => e = .returned (.bool (lcF s.data.toList)) ∧ Below w.heap.size w w' := by
  have hl := size_list s
  generalize hr : lcF s.data.toList = r
  have HR : Hid (lcF s.data.toList = r) := hr
  clear hr
  have hx := tail_bytes s
  have hxs : (s.extract 1 s.size).size = s.size - 1 := by simp
  have HE : Hid (r = ((s.extract 1 s.size).data.toList.all Ad.isD && decide (1 < s.size))) := by
    show _ = _
    rw [← HR.out]
    unfold lcF
    rw [hx, hl]
  obtain ⟨t, ht⟩ : ∃ t, s.extract 1 s.size = t := ⟨_, rfl⟩
  rw [ht] at hx hxs HE
  have hlt := size_list t
  clear HR hx
  obtain ⟨c, wb, hrun, hcell, hbel⟩ := run_bytes_row w t
  have HB : Hid (Below w.heap.size w wb) := hbel
  have HC : Hid (∀ (k : Nat) (h : k < t.size), wb.cell? ⟨w.heap.size, k, none⟩ = some (.int .u8 (t[k].toNat : Int))) := hcell
  clear hbel hcell
  rw [← ht] at hrun
  clear ht
  have c1 : (1 : Int) ≤ s.size := by omega
  go_enter Tryz.func111, Tryz.ntmps111
  go_wp2
  go_loop [4, 9] (fun _ i => ∃ k : Nat, k ≤ t.size ∧ i = .int .i64 k ∧ Hid ((t.data.toList.take k).all Ad.isD = true)) (fun _ i => t.size - (intOf i).toNat)
  case atStart => exact ⟨0, Nat.zero_le _, rfl, by simp [Hid]⟩
  case round =>
    obtain ⟨k, hk, rfl, ha⟩ := hrel
    by_cases hlt2 : k < t.size
    · have hck := HC.out k hlt2
      have Dk := fun u => digit_any t[k] u
      cases h2 : Ad.isD t[k]
      · rw [h2] at Dk
        have HF : Hid (r = false) := by
          show _ = _
          rw [HE.out]
          cases hh : t.data.toList.all Ad.isD
          · rfl
          · rw [alls_at Ad.isD t k hlt2 hh] at h2; cases h2
        clear h2
        go_wp2_with (go_at_call 159; refine (Dk _).mono ?_; rintro e w' ⟨rfl, hw⟩; obtain rfl := hw.symm; clear hw)
        go_ret
        exact ⟨by rw [HF.out]; rfl, HB.out⟩
      · rw [h2] at Dk
        have HA : Hid ((t.data.toList.take (k + 1)).all Ad.isD = true) := alls_step Ad.isD t k hlt2 ha.out h2
        clear h2
        go_wp2_with (go_at_call 159; refine (Dk _).mono ?_; rintro e w' ⟨rfl, hw⟩; obtain rfl := hw.symm; clear hw)
        go_round
        case rel => exact ⟨k + 1, by omega, by go_num, HA.out⟩
        case measure => simp [intOf]; omega
    · have HT : Hid (r = decide ((1 : Int) < s.size)) := by
        show _ = _
        have hh := ha.out
        rw [List.take_of_length_le (by omega)] at hh
        rw [HE.out, hh, Bool.true_and, decide_eq_decide]
        omega
      go_wp2
      go_ret
      exact ⟨by rw [HT.out]; rfl, HB.out⟩
end Go.Proofs.YtpafokmkcblcnaaGreatDoor

namespace Go.Proofs.YtpafokmkcblcnaaGreatDoor
open Go.RowKit
set_option maxRecDepth 100000
theorem sp_parts {l : List UInt8} (h : spF l = true) : l.length ≤ 16 ∧ headL l = true ∧ l.all okC = true := by
  unfold spF at h
  simp only [Bool.and_eq_true, decide_eq_true_eq] at h
  exact ⟨h.1.1, h.1.2, h.2⟩
theorem isL_facts {c : UInt8} (h : Ad.isL c = true) : c ≠ 39 ∧ c ≠ 45 ∧ c ≠ 46 ∧ isD c = false := by
  unfold Ad.isL at h
  simp only [Bool.or_eq_true, Bool.and_eq_true, decide_eq_true_eq] at h
  refine ⟨?_, ?_, ?_, ?_⟩
  · rintro rfl; revert h; decide
  · rintro rfl; revert h; decide
  · rintro rfl; revert h; decide
  · unfold isD; rw [Bool.and_eq_false_iff, decide_eq_false_iff_not, decide_eq_false_iff_not]; omega
theorem letter_parse {l : List UInt8} (h : headL l = true) : (parseF l).2 = false := by
  cases l with
  | nil => cases h
  | cons c r =>
    obtain ⟨_, h2, h3, h4⟩ := isL_facts h
    have e1 : dash (c :: r) = false := by unfold dash; simpa using h2
    have e2 : body (c :: r) = c :: r := by unfold body; rw [e1]; rfl
    have e3 : fstP (c :: r) = c :: fstP r := by unfold fstP; rw [List.takeWhile_cons, if_pos (by simpa using h3)]
    unfold parseF
    rw [e2, e3]
    have e4 : digs (c :: fstP r) 1 12 = false := by unfold digs; rw [List.all_cons, h4]; rfl
    rw [if_neg (by rw [e4]; simp)]
theorem typed_kind {s : ByteArray} (h : headL s.data.toList = true) : ((typedF s).1 == 3) = (truF s).2 := by
  have hp := letter_parse h
  have h0 : ¬ s.toList = [] := by
    rw [ByteArray.toList_eq]
    intro e
    rw [e] at h
    cases h
  have h1 : ¬ s.data.toList.head? = some 39 := by
    intro e
    cases hl : s.data.toList with
    | nil => rw [hl] at h; cases h
    | cons c r =>
      rw [hl] at h e
      simp only [List.head?_cons, Option.some.injEq] at e
      exact (isL_facts h).1 e
  unfold typedF
  rw [if_neg h0, if_neg h1, if_neg (by rw [hp]; decide)]
  cases ht : (truF s).2
  · rw [if_neg (by decide)]
    split <;> rfl
  · rw [if_pos rfl]
    rfl
theorem run_fld (W : World) (k n : Int) (x : ByteArray) : (Instr.field 62 (.agg #[.int .i64 k, .int .i64 n, .string x]) 0).run Tryz.prog W = .ok (.int .i64 k) W := by kernel_rfl
set_option maxHeartbeats 2000000 in
theorem liketruth_any (s : ByteArray) (hs : s.size ≤ 9223372036854775807) (w : World) (T : Tabs w) :
    Calls Tryz.prog 112 #[.string s] w fun e w' => e = .returned (.bool ((typedF s).1 == 3)) ∧ Below w.heap.size w w' := by
  have Y := typed_any s hs w T
  generalize (typedF s).1 = k at *
  generalize (typedF s).2.1 = n at *
  generalize (typedF s).2.2 = x at *
  have FL := fun W => run_fld W k n x
  go_enter Tryz.func112, Tryz.ntmps112
  go_wp2_with (go_at_call 160; refine Y.mono ?_; rintro e w1 ⟨rfl, hb⟩; have HB : Hid (Below w.heap.size w w1) := hb; clear hb)
  go_ret
  exact ⟨rfl, HB.out⟩
theorem gn_cases (s : ByteArray) : (spF s.data.toList = false ∧ gnF s.data.toList = false) ∨ (spF s.data.toList = true ∧ 0 < s.size ∧ ((lcF s.data.toList = true ∧ gnF s.data.toList = false) ∨ (lcF s.data.toList = false ∧ gnF s.data.toList = !((typedF s).1 == 3)))) := by
  unfold gnF
  rw [mk_list]
  cases h : spF s.data.toList
  · left; exact ⟨rfl, rfl⟩
  · right
    obtain ⟨h1, h2, h3⟩ := sp_parts h
    refine ⟨rfl, ?_, ?_⟩
    · rw [← size_list]
      cases hl : s.data.toList with
      | nil => rw [hl] at h2; cases h2
      | cons a r => simp
    · cases hc : lcF s.data.toList
      · right; rw [typed_kind h2]; exact ⟨rfl, rfl⟩
      · left; exact ⟨rfl, rfl⟩
set_option maxHeartbeats 2000000 in
theorem goodname_any (s : ByteArray) (hs : s.size ≤ 9223372036854775807) (w : World) (T : Tabs w) :
    Calls Tryz.prog 76 #[.string s] w fun e w' => e = .returned (.bool (gnF s.data.toList)) ∧ Below w.heap.size w w' := by
  have SP := spelled_any s hs w
  rcases gn_cases s with ⟨h1, h2⟩ | ⟨h1, hz, ⟨h3, h2⟩ | ⟨h3, h2⟩⟩
  · rw [h1] at SP
    rw [h2]
    go_enter Tryz.func76, Tryz.ntmps76
    go_wp2_with (go_at_call 110; refine SP.mono ?_; rintro e w1 ⟨rfl, hb⟩; have HB : Hid (Below w.heap.size w w1) := hb; clear hb)
    go_ret
    exact ⟨rfl, HB.out⟩
  · rw [h1] at SP
    rw [h2]
    have LC := fun u => likecell_any s hz hs u
    rw [h3] at LC
    go_enter Tryz.func76, Tryz.ntmps76
    go_wp2_with (first | (go_at_call 110; refine SP.mono ?_; rintro e w1 ⟨rfl, hb⟩; have HB : Hid (Below w.heap.size w w1) := hb; clear hb) | (go_at_call 111; refine (LC _).mono ?_; rintro e w2 ⟨rfl, hb⟩; have HB2 : Hid (Below w.heap.size w w2) := bel_step HB.out hb; clear hb))
    go_ret
    exact ⟨rfl, HB2.out⟩
  · rw [h1] at SP
    rw [h2]
    have LC := fun u => likecell_any s hz hs u
    have LT := fun u hu => liketruth_any s hs u hu
    rw [h3] at LC
    generalize ((typedF s).1 == 3) = k at *
    go_enter Tryz.func76, Tryz.ntmps76
    go_wp2_with (first | (go_at_call 110; refine SP.mono ?_; rintro e w1 ⟨rfl, hb⟩; have HB : Hid (Below w.heap.size w w1) := hb; clear hb) | (go_at_call 111; refine (LC _).mono ?_; rintro e w2 ⟨rfl, hb⟩; have HB2 : Hid (Below w.heap.size w w2) := bel_step HB.out hb; clear hb) | (go_at_call 112; refine (LT _ (T.below HB2.out)).mono ?_; rintro e w3 ⟨rfl, hb⟩; have HB3 : Hid (Below w.heap.size w w3) := bel_step HB2.out hb; clear hb))
    go_ret
    exact ⟨rfl, HB3.out⟩
theorem gn_names : Ad.Names gnF := fun l h => by
  unfold gnF at h
  simp only [Bool.and_eq_true] at h
  obtain ⟨_, h2, h3⟩ := sp_parts h.1.1
  refine ⟨fun e => ?_, fun x hx => ?_⟩
  · rw [e] at h2; cases h2
  · have hk := List.all_eq_true.1 h3 x hx
    refine ⟨?_, ?_, ?_⟩ <;> (rintro rfl; revert hk; decide)
end Go.Proofs.YtpafokmkcblcnaaGreatDoor

namespace Go.Proofs.YtpafokmkcblcnaaGreatDoor
open Go.RowKit
set_option maxRecDepth 100000
end Go.Proofs.YtpafokmkcblcnaaGreatDoor

namespace Go.Proofs.YtpafokmkcblcnaaGreatDoor
open Go.RowKit
set_option maxRecDepth 100000
end Go.Proofs.YtpafokmkcblcnaaGreatDoor

namespace Go.Proofs.YtpafokmkcblcnaaGreatDoor
open Go.RowKit
set_option maxRecDepth 100000
theorem wrap_i64 {n : Int} (h1 : -9223372036854775808 ≤ n) (h2 : n ≤ 9223372036854775807) : IntKind.i64.wrap n = n := by
  rw [IntKind.wrap_i64]; omega
end Go.Proofs.YtpafokmkcblcnaaGreatDoor

namespace Go.Proofs.YtpafokmkcblcnaaGreatDoor.Dg
open Go.RowKit
set_option maxRecDepth 100000

theorem conv96 (w : World) (z : Int) : (convert 96 9 (.slice (some ⟨w.heap.size, 0, none⟩) 1 1)).run Tryz.prog (w.alloc (.cells #[.int .u8 z] 5)) = .ok (.string ⟨#[UInt8.ofNat z.toNat]⟩) (w.alloc (.cells #[.int .u8 z] 5)) := by
  have hl : (loadCells ⟨w.heap.size, 0, none⟩ 1).run Tryz.prog (w.alloc (.cells #[.int .u8 z] 5)) = .ok (([z] : List Int).map (Value.int .u8)).toArray (w.alloc (.cells #[.int .u8 z] 5)) := by
    refine run_loadCells_list (P := Tryz.prog) _ ⟨w.heap.size, 0, none⟩ [.int .u8 z] fun j u hj => ?_
    match j, hj with
    | 0, hj =>
      cases hj
      simp only [World.cell?]
      rw [show ((⟨w.heap.size, 0, none⟩ : Addr).add 0) = ⟨w.heap.size, 0, none⟩ from rfl, heap_alloc_new]
      rfl
  rw [run_convert_bytes_string _ 96 9 5 _ 1 1 Tryz.underlying96 Tryz.underlying5 Tryz.underlying9, run_bytesToString _ _ 1 1 _ hl, foldl_push_bytes]
  rfl
theorem dec_two (m : Nat) (h : ¬ m / 10 = 0) : Lib.decDigits m = Lib.decDigits (m / 10) ++ [UInt8.ofNat (48 + m % 10)] := by
  rw [Lib.decDigits, dif_neg (by omega)]
set_option maxHeartbeats 1000000 in
theorem rDigits_any (n : Nat) (hn : n < 18446744073459551616) (w : World) :
    Calls Tryz.prog 186 #[.int .u64 n] w fun e w' => e = .returned (.string ⟨(Lib.decDigits n).toArray⟩) ∧ Below w.heap.size w w' := by
  have hlen := (dec_len 20 n (by decide) (by omega)).2
  generalize hr : (⟨(Lib.decDigits n).toArray⟩ : ByteArray) = r
  have HR : Hid ((⟨(Lib.decDigits n).toArray⟩ : ByteArray) = r) := hr
  clear hr
  go_enter Tryz.func186, Tryz.ntmps186
  go_wp2
  go_loopw [0, 3] (fun u0 u3 wr => ∃ (m : Nat) (t : ByteArray), u0 = .int .u64 m ∧ u3 = .string t ∧ m < 18446744073459551616 ∧ t.size ≤ 20 ∧ Hid (Below w.heap.size w wr ∧ ∃ L : List UInt8, t = ⟨L.toArray⟩ ∧ Lib.decDigits n = Lib.decDigits m ++ L)) (fun u0 _ _ => (intOf u0).toNat)
  case atStart => exact ⟨n, ⟨#[]⟩, rfl, rfl, hn, by decide, Below.refl _ _, [], rfl, by simp⟩
  case round =>
    obtain ⟨m, t, rfl, rfl, hm, ht, hH⟩ := hrel
    have hcv := conv96 wr (48 + (m : Int) % 10)
    have hne : Hid ((⟨#[UInt8.ofNat (48 + (m : Int) % 10).toNat]⟩ : ByteArray) ++ t = ⟨([UInt8.ofNat (48 + m % 10)] ++ (t.data.toList)).toArray⟩) := by
      show _ = _
      rw [show (48 + (m : Int) % 10).toNat = 48 + m % 10 by omega]
      exact app_mk [UInt8.ofNat (48 + m % 10)] t.data.toList
    generalize hX : (⟨#[UInt8.ofNat (48 + (m : Int) % 10).toNat]⟩ : ByteArray) = X at *
    have hXs : X.size = 1 := by rw [← hX]; rfl
    clear hX
    have hsz : (X ++ t).size ≤ 21 := by rw [ByteArray.size_append]; omega
    by_cases hz : m / 10 = 0
    · have hz' : (m : Int) / 10 = 0 := by omega
      have HE : Hid (r = X ++ t) := by
        obtain ⟨_, L, rfl, e⟩ := hH.out
        show _ = _
        rw [← HR.out, hne.out, e, Lib.decDigits_one (by omega)]
        rw [show m % 10 = m by omega]
      go_wp2
      go_ret
      exact ⟨by rw [HE.out]; rfl, hH.out.1.alloc (hH.out.1.size) _⟩
    · have hz' : ((m : Int) / 10 == 0) = false := by simp; omega
      have HL : Hid (∃ L : List UInt8, X ++ t = ⟨L.toArray⟩ ∧ Lib.decDigits n = Lib.decDigits (m / 10) ++ L) := by
        obtain ⟨_, L, rfl, e⟩ := hH.out
        refine ⟨_, hne.out, ?_⟩
        rw [e, dec_two m hz]
        simp
      have hs2 : (X ++ t).size ≤ 20 := by
        obtain ⟨L, e1, e2⟩ := HL.out
        rw [e1, size_mk]
        have := congrArg List.length e2
        simp at this
        have := (dec_len 20 (m / 10) (by decide) (by omega)).1
        omega
      go_wp2
      go_roundw
      case rel => exact ⟨m / 10, X ++ t, by go_num, rfl, by omega, hs2, hH.out.1.alloc (hH.out.1.size) _, HL.out⟩
      case measure => simp [intOf]; omega
theorem all_at (s : ByteArray) (k : Nat) (h : k < s.size) (hall : s.data.toList.all isD = true) : isD s[k] = true := by
  rw [byte_at s k h (by rw [size_list]; exact h)]
  exact List.all_eq_true.1 hall _ (List.getElem_mem _)
theorem all_step (s : ByteArray) (k : Nat) (h : k < s.size) (ha : (s.data.toList.take k).all isD = true) (hb : isD s[k] = true) : (s.data.toList.take (k + 1)).all isD = true := by
  rw [take_snoc _ _ (by rw [size_list]; exact h), List.all_append, ha, ← byte_at s k h (by rw [size_list]; exact h)]
  simp [hb]
theorem mk_list (t : ByteArray) : (⟨t.data.toList.toArray⟩ : ByteArray) = t := by
  cases t
  simp

end Go.Proofs.YtpafokmkcblcnaaGreatDoor.Dg

namespace Go.Proofs.YtpafokmkcblcnaaGreatDoor
open Go.RowKit
set_option maxRecDepth 100000
end Go.Proofs.YtpafokmkcblcnaaGreatDoor

namespace Go.Proofs.YtpafokmkcblcnaaGreatDoor
open Go.RowKit
set_option maxRecDepth 100000
end Go.Proofs.YtpafokmkcblcnaaGreatDoor

namespace Go.Proofs.YtpafokmkcblcnaaGreatDoor
open Go.RowKit
set_option maxRecDepth 100000
def Errs (w : World) : Prop := ∃ t1 p1 t2 p2, w.cell? ⟨6, 0, none⟩ = some (.iface t1 p1) ∧ w.cell? ⟨7, 0, none⟩ = some (.iface t2 p2)
theorem Errs.below {w w' : World} (h : Errs w) (hb : Below w.heap.size w w') : Errs w' := by
  obtain ⟨t1, p1, t2, p2, h1, h2⟩ := h
  exact ⟨t1, p1, t2, p2, (hb.cell (World.block_lt_of_cell? w _ h1)).trans h1, (hb.cell (World.block_lt_of_cell? w _ h2)).trans h2⟩
structure Tab8 (w : World) : Prop where
  t : Tabs w
  e : Errs w
theorem Tab8.below {w w' : World} (h : Tab8 w) (hb : Below w.heap.size w w') : Tab8 w' := ⟨h.t.below hb, h.e.below hb⟩
theorem itoaI_any (n : Int) (hn : In64 n) (w : World) (T : PTab w) :
    Calls Tryz.prog 221 #[.int .i64 n] w fun e w' => e = .returned (.string ⟨(Lib.itoa n).toArray⟩) ∧ Below w.heap.size w w' := by
  refine (Tryz.strconv_Itoa n hn.1 hn.2 w T).mono ?_
  rintro e w' ⟨rfl, k, os, rfl⟩
  exact ⟨rfl, grow_below w k os⟩
set_option maxHeartbeats 2000000 in
theorem prow_ok {s X : ByteArray} {v : Int} {w : World} (AT : Calls Tryz.prog 281 #[.string s] w fun e w' => e = .returned (.tuple #[.int .i64 v, .nilIface]) ∧ Below w.heap.size w w')
    (IT : RC w 221 #[.int .i64 v] (.string X)) {b : Bool} (hx : (X.toList == s.toList) = b) :
    Calls Tryz.prog 267 #[.string s] w fun e w' => e = .returned (.int .i64 (if b = true then v else 0)) ∧ Below w.heap.size w w' := by
  cases b
  all_goals
    go_enter Tryz.func267, Tryz.ntmps267
    go_wp2_with (first | (go_at_call 281; refine AT.mono ?_; rintro e w1 ⟨rfl, hb⟩; have HB : Hid (Below w.heap.size w w1) := hb; clear hb) | (go_at_call 221; refine (IT _ HB.out).mono ?_; rintro e w2 ⟨rfl, hb⟩; have HB2 : Hid (Below w.heap.size w w2) := hb; clear hb))
    go_ret
    exact ⟨rfl, HB2.out⟩
set_option maxHeartbeats 2000000 in
theorem prow_no {s : ByteArray} {v : Int} {w : World} (AT : Calls Tryz.prog 281 #[.string s] w fun e w' => ∃ N, e = .returned (.tuple #[.int .i64 v, .iface 290 (.pointer (some ⟨N, 0, none⟩))]) ∧ Below w.heap.size w w') :
    Calls Tryz.prog 267 #[.string s] w fun e w' => e = .returned (.int .i64 0) ∧ Below w.heap.size w w' := by
  go_enter Tryz.func267, Tryz.ntmps267
  go_wp2_with (go_at_call 281; refine AT.mono ?_; rintro e w1 ⟨N, rfl, hb⟩; have HB : Hid (Below w.heap.size w w1) := hb; clear hb)
  go_ret
  exact ⟨rfl, HB.out⟩
theorem bytesL (a b : ByteArray) : (a.toList == b.toList) = decide (a.data.toList = b.data.toList) := by
  rw [ByteArray.toList_eq, ByteArray.toList_eq, Bool.eq_iff_iff]
  simp
theorem parserow_any (l : List UInt8) (hl : l.length ≤ 140737488355328) (w : World) (T : Tab8 w) :
    Calls Tryz.prog 267 #[.string ⟨l.toArray⟩] w fun e w' => e = .returned (.int .i64 (Ad.rowA l)) ∧ Below w.heap.size w w' := by
  obtain ⟨t1, p1, t2, p2, h1, h2⟩ := T.e
  have hz : (⟨l.toArray⟩ : ByteArray).size ≤ 140737488355328 := by rw [size_mk]; exact hl
  unfold Ad.rowA
  cases ha : Lib.atoiAll l with
  | ok v =>
    have AT := Tryz.strconv_Atoi_ok ⟨l.toArray⟩ (by omega) v ha w
    have hv := Lib.atoiAll_bounds ha
    have := prow_ok (s := ⟨l.toArray⟩) (v := v) (w := w) (AT.mono fun e w' ⟨q1, q2⟩ => ⟨q1, by
      rcases q2 with rfl | ⟨t, rfl⟩
      · exact Below.refl _ _
      · exact Lib.bytesWorld_below _ _ _⟩) (RC.of fun u hu => itoaI_any v hv u (T.t.p.below hu)) (bytesL _ _)
    simp only [List.toList_toArray, decide_eq_true_eq] at this
    exact this
  | «syntax» =>
    exact prow_no ((Tryz.strconv_Atoi_syntax ⟨l.toArray⟩ (by omega) ha _ w h1 (.inr ⟨_, _, rfl⟩)).mono fun e w' ⟨N, q1, _, _, q2⟩ => ⟨N, q1, q2⟩)
  | range =>
    exact prow_no ((Tryz.strconv_Atoi_range ⟨l.toArray⟩ (by omega) ha _ w h2 (.inr ⟨_, _, rfl⟩)).mono fun e w' ⟨N, q1, _, _, q2⟩ => ⟨N, q1, q2⟩)
end Go.Proofs.YtpafokmkcblcnaaGreatDoor
