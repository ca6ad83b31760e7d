/- The reference: one, of a number. -/
import Derived.Test.YtdgnodijmbeajaaGreatDoorRQuo
namespace Go.Proofs.YtdgnodijmbeajaaGreatDoor
open Go.RowKit
set_option maxRecDepth 100000
set_option linter.unusedVariables false
set_option linter.unusedSimpArgs false
theorem num_ways (c : UInt8) : (Ad.isD c = true ∧ Tk.numC c = true) ∨ (Ad.isD c = false ∧ ((c.toNat : Int) == 46) = true ∧ Tk.numC c = true) ∨ (Ad.isD c = false ∧ ((c.toNat : Int) == 46) = false ∧ Tk.numC c = false) := by
  have e46 : ((c.toNat : Int) == 46) = (c == 46) := by
    rcases ch_facts c 46 with ⟨h1, h2⟩ | ⟨h1, h2⟩
    · subst h1; rfl
    · rw [show ((c.toNat : Int) == 46) = false from h2]; exact (beq_eq_false_iff_ne.2 h1).symm
  unfold Tk.numC
  rw [e46]
  cases Ad.isD c <;> cases (c == 46) <;> simp
set_option maxHeartbeats 4000000 in
theorem one_num (l : List UInt8) (S : ByteArray) (hs : S.size = l.length) (HG : Hid (∀ k (h : k < l.length) (h2 : k < S.size), S[k] = l[k])) (hl : l.length ≤ 255) (h0 : 0 < S.size) (w : World)
    (DG : ∀ u, Calls Tryz.prog 33 #[.int .u8 (S[0].toNat : Nat)] u fun e w' => e = .returned (.bool true) ∧ w' = u)
    (hW : S.extract 0 (l.takeWhile Tk.numC).length = ba (l.takeWhile Tk.numC)) (hdl : (l.dropWhile Tk.numC).length = l.length - (l.takeWhile Tk.numC).length)
    (PA : ∀ u, Calls Tryz.prog 34 #[.string (ba (l.takeWhile Tk.numC))] u fun e w' => e = .returned (.tuple #[.int .i64 (parseF (l.takeWhile Tk.numC)).1, .bool (parseF (l.takeWhile Tk.numC)).2]) ∧ Below u.heap.size u w') :
    Calls Tryz.prog 17 #[.string S] w (AnsR w l ((pnF (l.takeWhile Tk.numC)).map fun n => (.num n, l.dropWhile Tk.numC))) := by
  have HZ0 : Hid (RZ w (w.alloc tkR)) := RZ.begin w
  have hle := (List.takeWhile_sublist (p := Tk.numC) (l := l)).length_le
  generalize ho : (pnF (l.takeWhile Tk.numC)).map (fun n => ((.num n, l.dropWhile Tk.numC) : Tk.Tok × List UInt8)) = o
  have HO : Hid (o = if (parseF (l.takeWhile Tk.numC)).2 = true then some (.num (parseF (l.takeWhile Tk.numC)).1, l.dropWhile Tk.numC) else none) := by
    show _ = _
    rw [← ho]; unfold pnF; split <;> rfl
  have HDL : Hid ((l.dropWhile Tk.numC).length = l.length - (l.takeWhile Tk.numC).length) := hdl
  clear ho hdl
  generalize hN : (l.takeWhile Tk.numC).length = N at *
  have HN : Hid ((l.takeWhile Tk.numC).length = N) := hN
  clear hN
  generalize ba (l.takeWhile Tk.numC) = A at *
  generalize (parseF (l.takeWhile Tk.numC)).1 = v at *
  generalize (parseF (l.takeWhile Tk.numC)).2 = ok at *
  go_enter Tryz.func17, Tryz.ntmps17
  go_wp2_with (go_at_call 33; refine (DG _).mono ?_; rintro e w' ⟨rfl, hw⟩; obtain rfl := hw.symm; clear hw)
  clear DG
  go_loop [5] (fun i => ∃ k : Nat, k ≤ l.length ∧ i = .int .i64 k ∧ Hid ((l.take k).all Tk.numC = true)) (fun i => l.length - (intOf i).toNat)
  case atStart => exact ⟨0, Nat.zero_le _, rfl, by simp [Hid]⟩
  case round =>
    obtain ⟨k, hk, rfl, ha⟩ := hrel
    by_cases hlt : k < l.length
    · have hki : (k : Int) < l.length := by omega
      have hks : k < S.size := by rw [hs]; exact hlt
      have hg := HG.out k hlt hks
      have D := fun u => rdigit_any l[k] u
      have HE : Hid (Tk.numC l[k] = false → k = N) := fun h => by
        rw [← HN.out, (while_at hlt ha.out h).1, List.length_take]; omega
      have HM : Hid (Tk.numC l[k] = true → (l.take (k + 1)).all Tk.numC = true) := fun h => all_more l k 1 ha.out (fun j hj h2 => by
        obtain rfl : j = 0 := by omega
        exact h)
      have hw := num_ways l[k]
      rw [← hg] at D HE HM hw
      clear hg HG
      rcases hw with ⟨h1, h2⟩ | ⟨h1, h2, h3⟩ | ⟨h1, h2, h3⟩
      · rw [h1] at D
        have HM2 := HM.out h2
        clear HE HM h1 h2 hW PA HO
        go_wp2_with (go_at_call 33; refine (D _).mono ?_; rintro e w' ⟨rfl, hw⟩; obtain rfl := hw.symm; clear hw)
        go_round
        case rel => exact ⟨k + 1, by omega, by go_num, HM2⟩
        case measure => simp [intOf]; omega
      · rw [h1] at D
        have HM2 := HM.out h3
        clear HE HM h1 h3 hW PA HO
        go_wp2_with (go_at_call 33; refine (D _).mono ?_; rintro e w' ⟨rfl, hw⟩; obtain rfl := hw.symm; clear hw)
        go_round
        case rel => exact ⟨k + 1, by omega, by go_num, HM2⟩
        case measure => simp [intOf]; omega
      · rw [h1] at D
        obtain rfl := HE.out h3
        clear HE HM h1 h3
        cases ok
        · go_wp2_with (first
            | (go_at_call 33; refine (D _).mono ?_; rintro e w' ⟨rfl, hw⟩; obtain rfl := hw.symm; clear hw)
            | (go_at_call 34; refine (PA _).mono ?_; rintro e w2 ⟨rfl, hb⟩; have HZ2 : Hid (RZ w w2) := HZ0.out.below hb; have RR := HZ2.out.put 0 0 noB noB noB 0 0 false false; clear hb)
            | (refine wpList_store_run rfl 46 _ _ rfl _ _ _ rfl rfl RR.out ?_))
          refine bodyPost_ret (v := .tuple #[.agg tk0, .int .i64 0]) (HZ2.out.ans tk0 rfl rfl rfl rfl) rfl ?_
          rw [HO.out]
          exact ⟨HZ2.out.fin _, rfl⟩
        · go_wp2_with (first
            | (go_at_call 33; refine (D _).mono ?_; rintro e w' ⟨rfl, hw⟩; obtain rfl := hw.symm; clear hw)
            | (go_at_call 34; refine (PA _).mono ?_; rintro e w2 ⟨rfl, hb⟩; have HZ2 : Hid (RZ w w2) := HZ0.out.below hb; have RR := HZ2.out.put 1 v noB noB noB 0 0 false false; clear hb)
            | (refine wpList_store_run rfl 46 _ _ rfl _ _ _ rfl rfl RR.out ?_))
          refine bodyPost_ret (v := .tuple #[.agg (tcs 1 v noB noB noB 0 0 false false), .int .i64 (k : Int)]) (HZ2.out.ans (tcs 1 v noB noB noB 0 0 false false) rfl rfl rfl rfl) rfl ?_
          rw [HO.out]
          refine ⟨HZ2.out.fin _, ?_⟩
          show _ = Ending.returned _
          rw [HDL.out, show l.length - (l.length - k) = k by omega]
          rfl
    · have hki : ¬ (k : Int) < l.length := by omega
      obtain rfl : k = N := by
        have := ha.out
        rw [List.take_of_length_le (by omega)] at this
        rw [← HN.out, (while_all this).1]; omega
      clear HG
      cases ok
      · go_wp2_with (first
          | (go_at_call 34; refine (PA _).mono ?_; rintro e w2 ⟨rfl, hb⟩; have HZ2 : Hid (RZ w w2) := HZ0.out.below hb; have RR := HZ2.out.put 0 0 noB noB noB 0 0 false false; clear hb)
          | (refine wpList_store_run rfl 46 _ _ rfl _ _ _ rfl rfl RR.out ?_))
        refine bodyPost_ret (v := .tuple #[.agg tk0, .int .i64 0]) (HZ2.out.ans tk0 rfl rfl rfl rfl) rfl ?_
        rw [HO.out]
        exact ⟨HZ2.out.fin _, rfl⟩
      · go_wp2_with (first
          | (go_at_call 34; refine (PA _).mono ?_; rintro e w2 ⟨rfl, hb⟩; have HZ2 : Hid (RZ w w2) := HZ0.out.below hb; have RR := HZ2.out.put 1 v noB noB noB 0 0 false false; clear hb)
          | (refine wpList_store_run rfl 46 _ _ rfl _ _ _ rfl rfl RR.out ?_))
        refine bodyPost_ret (v := .tuple #[.agg (tcs 1 v noB noB noB 0 0 false false), .int .i64 (k : Int)]) (HZ2.out.ans (tcs 1 v noB noB noB 0 0 false false) rfl rfl rfl rfl) rfl ?_
        rw [HO.out]
        refine ⟨HZ2.out.fin _, ?_⟩
        show _ = Ending.returned _
        rw [HDL.out, show l.length - (l.length - k) = k by omega]
        rfl
end Go.Proofs.YtdgnodijmbeajaaGreatDoor
