import Derived.Test.YtdgnodijmbeajaaGreatDoorTLex
/- The reference: blank, run, word. -/
namespace Go.Proofs.YtdgnodijmbeajaaGreatDoor
open Go.RowKit
set_option maxRecDepth 100000
set_option linter.unusedVariables false
set_option linter.unusedSimpArgs false
set_option maxHeartbeats 1000000 in
theorem rblank_any (c : UInt8) (w : World) : Calls Tryz.prog 16 #[.int .u8 (c.toNat : Nat)] w fun e w' => e = .returned (.bool (Tk.blank c)) ∧ w' = w := by
  rw [show Tk.blank c = (decide (c.toNat = 32) || decide (c.toNat = 9)) by unfold Tk.blank; rw [u8_eq, u8_eq]; rfl]
  generalize c.toNat = n
  go_enter Tryz.func16, Tryz.ntmps16
  go_wp2
  all_goals (go_ret; refine ⟨ret_bool ?_, rfl⟩; rw [Bool.eq_iff_iff]; simp; omega)
/-- A byte of a text, by its four tests. -/
theorem run_ways (c : UInt8) : (Ad.isL c = true ∧ Tk.runC c = true) ∨ (Ad.isL c = false ∧ Ad.isD c = true ∧ Tk.runC c = true) ∨
    (Ad.isL c = false ∧ Ad.isD c = false ∧ ((c.toNat : Int) == 95) = true ∧ Tk.runC c = true) ∨ (Ad.isL c = false ∧ Ad.isD c = false ∧ ((c.toNat : Int) == 95) = false ∧ ((c.toNat : Int) == 36) = true ∧ Tk.runC c = true) ∨
    (Ad.isL c = false ∧ Ad.isD c = false ∧ ((c.toNat : Int) == 95) = false ∧ ((c.toNat : Int) == 36) = false ∧ Tk.runC c = false) := by
  have e95 : ((c.toNat : Int) == 95) = (c == 95) := by
    rcases ch_facts c 95 with ⟨h1, h2⟩ | ⟨h1, h2⟩
    · subst h1; rfl
    · rw [show ((c.toNat : Int) == 95) = false from h2]; exact (beq_eq_false_iff_ne.2 h1).symm
  have e36 : ((c.toNat : Int) == 36) = (c == 36) := by
    rcases ch_facts c 36 with ⟨h1, h2⟩ | ⟨h1, h2⟩
    · subst h1; rfl
    · rw [show ((c.toNat : Int) == 36) = false from h2]; exact (beq_eq_false_iff_ne.2 h1).symm
  unfold Tk.runC
  rw [e95, e36]
  cases Ad.isL c <;> cases Ad.isD c <;> cases (c == 95) <;> cases (c == 36) <;> simp
set_option maxHeartbeats 4000000 in
theorem rrun_core (l : List UInt8) (S : ByteArray) (hs : S.size = l.length) (HG : Hid (∀ k (h : k < l.length) (h2 : k < S.size), S[k] = l[k])) (hl : l.length ≤ 255) (w : World) : Calls Tryz.prog 64 #[.string S] w fun e w' => e = .returned (.int .i64 ((l.takeWhile Tk.runC).length : Nat)) ∧ w' = w := by
  generalize hr : (l.takeWhile Tk.runC).length = r
  have HR : Hid ((l.takeWhile Tk.runC).length = r) := hr
  clear hr
  go_enter Tryz.func64, Tryz.ntmps64
  go_wp2
  go_loop [3] (fun i => ∃ k : Nat, k ≤ l.length ∧ i = .int .i64 k ∧ Hid ((l.take k).all Tk.runC = true)) (fun i => l.length - (intOf i).toNat)
  case atStart => exact ⟨0, Nat.zero_le _, rfl, by simp [Hid]⟩
  case round =>
    obtain ⟨k, hk, rfl, ha⟩ := hrel
    by_cases hlt : k < l.length
    · have hki : (k : Int) < l.length := by omega
      have hks : k < S.size := by rw [hs]; exact hlt
      have hg := HG.out k hlt hks
      have L := fun u => rletter_any l[k] u
      have D := fun u => rdigit_any l[k] u
      have HE : Hid (Tk.runC l[k] = false → r = k) := fun h => by
        rw [← HR.out, (while_at hlt ha.out h).1, List.length_take]; omega
      have HN : Hid (Tk.runC l[k] = true → (l.take (k + 1)).all Tk.runC = true) := fun h => all_more l k 1 ha.out (fun j hj h2 => by
        obtain rfl : j = 0 := by omega
        exact h)
      have hw := run_ways l[k]
      rw [← hg] at L D HE HN hw
      clear hg HR HG
      rcases hw with ⟨h1, h2⟩ | ⟨h1, h2, h3⟩ | ⟨h1, h2, h3, h4⟩ | ⟨h1, h2, h3, h4, h5⟩ | ⟨h1, h2, h3, h4, h5⟩
      · rw [h1] at L
        have HN2 := HN.out h2
        clear HE HN h1 h2
        go_wp2_with (first | (go_at_call 37; refine (L _).mono ?_; rintro e w' ⟨rfl, hw⟩; obtain rfl := hw.symm; clear hw) | (go_at_call 33; refine (D _).mono ?_; rintro e w' ⟨rfl, hw⟩; obtain rfl := hw.symm; clear hw))
        go_round
        case rel => exact ⟨k + 1, by omega, by go_num, HN2⟩
        case measure => simp [intOf]; omega
      · rw [h1] at L
        rw [h2] at D
        have HN2 := HN.out h3
        clear HE HN h1 h2 h3
        go_wp2_with (first | (go_at_call 37; refine (L _).mono ?_; rintro e w' ⟨rfl, hw⟩; obtain rfl := hw.symm; clear hw) | (go_at_call 33; refine (D _).mono ?_; rintro e w' ⟨rfl, hw⟩; obtain rfl := hw.symm; clear hw))
        go_round
        case rel => exact ⟨k + 1, by omega, by go_num, HN2⟩
        case measure => simp [intOf]; omega
      · rw [h1] at L
        rw [h2] at D
        have HN2 := HN.out h4
        clear HE HN h1 h2 h4
        go_wp2_with (first | (go_at_call 37; refine (L _).mono ?_; rintro e w' ⟨rfl, hw⟩; obtain rfl := hw.symm; clear hw) | (go_at_call 33; refine (D _).mono ?_; rintro e w' ⟨rfl, hw⟩; obtain rfl := hw.symm; clear hw))
        go_round
        case rel => exact ⟨k + 1, by omega, by go_num, HN2⟩
        case measure => simp [intOf]; omega
      · rw [h1] at L
        rw [h2] at D
        have HN2 := HN.out h5
        clear HE HN h1 h2 h5
        go_wp2_with (first | (go_at_call 37; refine (L _).mono ?_; rintro e w' ⟨rfl, hw⟩; obtain rfl := hw.symm; clear hw) | (go_at_call 33; refine (D _).mono ?_; rintro e w' ⟨rfl, hw⟩; obtain rfl := hw.symm; clear hw))
        go_round
        case rel => exact ⟨k + 1, by omega, by go_num, HN2⟩
        case measure => simp [intOf]; omega
      · rw [h1] at L
        rw [h2] at D
        have HE2 : Hid (r = k) := HE.out h5
        clear HE HN h1 h2 h5
        go_wp2_with (first | (go_at_call 37; refine (L _).mono ?_; rintro e w' ⟨rfl, hw⟩; obtain rfl := hw.symm; clear hw) | (go_at_call 33; refine (D _).mono ?_; rintro e w' ⟨rfl, hw⟩; obtain rfl := hw.symm; clear hw))
        go_ret
        exact ⟨by rw [HE2.out]; rfl, rfl⟩
    · have hki : ¬ (k : Int) < l.length := by omega
      have HE : Hid (r = k) := by
        show _ = _
        have := ha.out
        rw [List.take_of_length_le (by omega)] at this
        rw [← HR.out, (while_all this).1]; omega
      clear HR HG
      go_wp2
      go_ret
      exact ⟨by rw [HE.out]; rfl, rfl⟩
theorem rrun_any (l : List UInt8) (hl : l.length ≤ 255) (w : World) : Calls Tryz.prog 64 #[.string (ba l)] w fun e w' => e = .returned (.int .i64 ((l.takeWhile Tk.runC).length : Nat)) ∧ w' = w :=
  rrun_core l (ba l) (size_mk l) (fun k h h2 => ba_get l k h h2) hl w
end Go.Proofs.YtdgnodijmbeajaaGreatDoor

/- The reference: word. -/
namespace Go.Proofs.YtdgnodijmbeajaaGreatDoor
open Go.RowKit
set_option maxRecDepth 100000
set_option linter.unusedVariables false
set_option linter.unusedSimpArgs false
set_option maxHeartbeats 2000000 in
theorem rword_any (l : List UInt8) (hl : l.length ≤ 255) (b : Bool) (w : World) : Calls Tryz.prog 67 #[.string (ba l), .bool b] w fun e w' => e = .returned (.bool (gnF l || (!b && trB l))) ∧ Below w.heap.size w w' := by
  have G : Calls Tryz.prog 63 #[.string (ba l)] w fun e w' => e = .returned (.bool (gnF l)) ∧ Below w.heap.size w w' := rgoodname_any (ba l) (by rw [size_mk]; omega) w
  have R := fun u => rtruth_any (ba l) (by rw [size_mk]; omega) u
  have hw := tru_ways (ba l)
  have ht : trB l = (truF (ba l)).2 := rfl
  rw [ht]
  generalize (truF (ba l)).2 = t at *
  generalize truN (szF 97 65 (ba l).data.toList) = n at *
  generalize ba l = A at *
  clear ht
  generalize gnF l = g at *
  cases g <;> cases b
  · rcases hw with ⟨rfl, h⟩ | ⟨rfl, h⟩
    · go_enter Tryz.func67, Tryz.ntmps67
      go_wp2_with (first | (go_at_call 63; refine G.mono ?_; rintro e w1 ⟨rfl, hb⟩; have HB : Hid (Below w.heap.size w w1) := hb; clear hb) | (go_at_call 98; refine (R _).mono ?_; rintro e w2 ⟨rfl, hb⟩; have HB2 : Hid (Below w.heap.size w w2) := bel_step HB.out hb; clear hb))
      go_ret
      exact ⟨rfl, HB2.out⟩
    · have h' : ¬ 0 ≤ n := by omega
      go_enter Tryz.func67, Tryz.ntmps67
      go_wp2_with (first | (go_at_call 63; refine G.mono ?_; rintro e w1 ⟨rfl, hb⟩; have HB : Hid (Below w.heap.size w w1) := hb; clear hb) | (go_at_call 98; refine (R _).mono ?_; rintro e w2 ⟨rfl, hb⟩; have HB2 : Hid (Below w.heap.size w w2) := bel_step HB.out hb; clear hb))
      go_ret
      refine ⟨ret_bool ?_, HB2.out⟩
      simpa using h
  all_goals
    clear hw R
    go_enter Tryz.func67, Tryz.ntmps67
    go_wp2_with (go_at_call 63; refine G.mono ?_; rintro e w1 ⟨rfl, hb⟩; have HB : Hid (Below w.heap.size w w1) := hb; clear hb)
    go_ret
    exact ⟨rfl, HB.out⟩
end Go.Proofs.YtdgnodijmbeajaaGreatDoor
