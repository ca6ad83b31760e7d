/- The contracts of the reference's num and Ints, and of the comparison of ints. -/
import Derived.Test.YtohndhmhgdelmaaDoorLives
import Derived.Lib.Zigzag
namespace Go.Proofs.YtohndhmhgdelmaaDoor
open Go.RowKit
set_option maxRecDepth 100000

theorem fold_xor {n : Int} (h : In64 n) (h0 : n < 0) : bits .xor .u64 (IntKind.u64.wrap (IntKind.u64.wrap n * 2)) 18446744073709551615 = (foldN n : Int) := by
  unfold In64 at h
  have e1 : IntKind.u64.wrap (IntKind.u64.wrap n * 2) = (((2 * n + 18446744073709551616).toNat : Nat) : Int) := by
    rw [IntKind.wrap_u64, IntKind.wrap_u64]; omega
  have e2 : (18446744073709551615 : Int) = ((2 ^ 64 - 1 : Nat) : Int) := by decide
  rw [e1, e2, bits_xor_u64_nat _ _ (by omega) (by decide), Nat.xor_comm, Lib.xor_ones64 _ (by omega)]
  unfold foldN
  rw [if_pos h0]
  omega

set_option maxHeartbeats 1000000 in
theorem num_any {base : Nat} {w : World} {v : Value} {l : List UInt8} (h : Own base w v l) (hb : base ≤ w.heap.size) (n : Int) (hn : In64 n) (hl : l.length + 10 ≤ 140737488355328) :
    Calls Tryd.prog 24 #[v, .int .i64 n] w fun e w' => ∃ v', e = .returned v' ∧ Apd base w v w' v' (l ++ numB n) := by
  have hlt := foldN_lt hn
  have HL : Hid ((numB n).length ≤ 10) := numB_length hn
  have HN : Hid (numB n = digits (foldN n)) := rfl
  have H : Hid (Own base w v l) := h
  by_cases h0 : n < 0
  · have FX := fold_xor hn h0
    unfold In64 at hn
    clear h
    go_enter Tryd.func24, Tryd.ntmps24
    go_wp2_with fail
    go_loopw [0, 5] (fun v5 u5 wr => ∃ m : Nat, u5 = .int .u64 m ∧ m < 18446744073709551616 ∧ Hid (∃ done, numB n = done ++ digits m ∧ Apd base w v wr v5 (l ++ done))) (fun _ u5 _ => (intOf u5).toNat)
    case atStart => exact ⟨foldN n, by rfl, hlt, [], HN.out, by simpa using Apd.refl H.out⟩
    case round =>
      obtain ⟨m, rfl, hm, HD⟩ := hrel
      clear HN hlt hn h0 FX
      have fo : bits .or .u8 ((m : Int) % 256) 128 = (m : Int) % 128 + 128 := by
        rw [Lib.u8_or128_any _ (by omega) (by omega)]; omega
      by_cases hbig : 128 ≤ m
      · have E : Hid (∃ v' w', (Builtin.append_ #[29, 29] 29 #[u0, .slice (some ⟨wr.heap.size, 0, none⟩) 1 1]).run Tryd.prog (wr.alloc (.cells #[.int .u8 ((m : Int) % 128 + 128)] 5)) = .ok v' w' ∧ ∃ done, numB n = done ++ digits (m / 128) ∧ Apd base w v w' v' (l ++ done)) := by
          obtain ⟨done, hd, ap⟩ := HD.out
          rw [digits_big hbig] at hd
          have hlen := HL.out
          rw [hd] at hlen
          simp only [List.length_append, List.length_cons] at hlen
          obtain ⟨v', w', h1, h2⟩ := own_byte ap.own (Nat.le_trans hb ap.gr.size) (m % 128 + 128) (by omega) (by simp only [List.length_append]; omega)
          refine ⟨v', w', by exact h1, done ++ [UInt8.ofNat (m % 128 + 128)], by rw [hd]; simp, ?_⟩
          have := ap.trans h2
          rw [List.append_assoc] at this
          exact this
        obtain ⟨v', w', run, E2⟩ := E.out
        have R : Hid _ := run
        have E3 : Hid _ := E2
        clear E run E2 HD
        go_wp2_with (at_builtin; refine wpList_append_run rfl _ _ 29 rfl _ _ _ _ rfl rfl R.out ?_)
        go_roundw
        case rel => exact ⟨m / 128, by go_num, by omega, E3.out⟩
        case measure => simp [intOf]; omega
      · have E : Hid (∃ v' w', (Builtin.append_ #[29, 29] 29 #[u0, .slice (some ⟨wr.heap.size, 0, none⟩) 1 1]).run Tryd.prog (wr.alloc (.cells #[.int .u8 (m : Int)] 5)) = .ok v' w' ∧ Apd base w v w' v' (l ++ numB n)) := by
          obtain ⟨done, hd, ap⟩ := HD.out
          rw [digits_small (by omega)] at hd
          have hlen := HL.out
          rw [hd] at hlen
          simp only [List.length_append, List.length_cons] at hlen
          obtain ⟨v', w', h1, h2⟩ := own_byte ap.own (Nat.le_trans hb ap.gr.size) m (by omega) (by simp only [List.length_append]; omega)
          refine ⟨v', w', h1, ?_⟩
          have := ap.trans h2
          rw [List.append_assoc, ← hd] at this
          exact this
        obtain ⟨v', w', run, E2⟩ := E.out
        have R : Hid _ := run
        have E3 : Hid _ := E2
        clear E run E2 HD fo
        go_wp2_with (at_builtin; refine wpList_append_run rfl _ _ 29 rfl _ _ _ _ rfl rfl R.out ?_)
        go_ret
        exact ⟨v', rfl, E3.out⟩
  · have FX : Hid (n * 2 = (foldN n : Int)) := by show _ = _; unfold foldN; rw [if_neg h0]; omega
    unfold In64 at hn
    clear h
    go_enter Tryd.func24, Tryd.ntmps24
    go_wp2_with fail
    go_loopw [0, 5] (fun v5 u5 wr => ∃ m : Nat, u5 = .int .u64 m ∧ m < 18446744073709551616 ∧ Hid (∃ done, numB n = done ++ digits m ∧ Apd base w v wr v5 (l ++ done))) (fun _ u5 _ => (intOf u5).toNat)
    case atStart => exact ⟨foldN n, by rw [← FX.out], hlt, [], HN.out, by simpa using Apd.refl H.out⟩
    case round =>
      obtain ⟨m, rfl, hm, HD⟩ := hrel
      clear HN hlt hn h0 FX
      have fo : bits .or .u8 ((m : Int) % 256) 128 = (m : Int) % 128 + 128 := by
        rw [Lib.u8_or128_any _ (by omega) (by omega)]; omega
      by_cases hbig : 128 ≤ m
      · have E : Hid (∃ v' w', (Builtin.append_ #[29, 29] 29 #[u0, .slice (some ⟨wr.heap.size, 0, none⟩) 1 1]).run Tryd.prog (wr.alloc (.cells #[.int .u8 ((m : Int) % 128 + 128)] 5)) = .ok v' w' ∧ ∃ done, numB n = done ++ digits (m / 128) ∧ Apd base w v w' v' (l ++ done)) := by
          obtain ⟨done, hd, ap⟩ := HD.out
          rw [digits_big hbig] at hd
          have hlen := HL.out
          rw [hd] at hlen
          simp only [List.length_append, List.length_cons] at hlen
          obtain ⟨v', w', h1, h2⟩ := own_byte ap.own (Nat.le_trans hb ap.gr.size) (m % 128 + 128) (by omega) (by simp only [List.length_append]; omega)
          refine ⟨v', w', by exact h1, done ++ [UInt8.ofNat (m % 128 + 128)], by rw [hd]; simp, ?_⟩
          have := ap.trans h2
          rw [List.append_assoc] at this
          exact this
        obtain ⟨v', w', run, E2⟩ := E.out
        have R : Hid _ := run
        have E3 : Hid _ := E2
        clear E run E2 HD
        go_wp2_with (at_builtin; refine wpList_append_run rfl _ _ 29 rfl _ _ _ _ rfl rfl R.out ?_)
        go_roundw
        case rel => exact ⟨m / 128, by go_num, by omega, E3.out⟩
        case measure => simp [intOf]; omega
      · have E : Hid (∃ v' w', (Builtin.append_ #[29, 29] 29 #[u0, .slice (some ⟨wr.heap.size, 0, none⟩) 1 1]).run Tryd.prog (wr.alloc (.cells #[.int .u8 (m : Int)] 5)) = .ok v' w' ∧ Apd base w v w' v' (l ++ numB n)) := by
          obtain ⟨done, hd, ap⟩ := HD.out
          rw [digits_small (by omega)] at hd
          have hlen := HL.out
          rw [hd] at hlen
          simp only [List.length_append, List.length_cons] at hlen
          obtain ⟨v', w', h1, h2⟩ := own_byte ap.own (Nat.le_trans hb ap.gr.size) m (by omega) (by simp only [List.length_append]; omega)
          refine ⟨v', w', h1, ?_⟩
          have := ap.trans h2
          rw [List.append_assoc, ← hd] at this
          exact this
        obtain ⟨v', w', run, E2⟩ := E.out
        have R : Hid _ := run
        have E3 : Hid _ := E2
        clear E run E2 HD fo
        go_wp2_with (at_builtin; refine wpList_append_run rfl _ _ 29 rfl _ _ _ _ rfl rfl R.out ?_)
        go_ret
        exact ⟨v', rfl, E3.out⟩

end Go.Proofs.YtohndhmhgdelmaaDoor
