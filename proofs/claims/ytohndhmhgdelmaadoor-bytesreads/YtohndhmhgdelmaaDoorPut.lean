/- The contracts of fold, putNumber, putList of ints and bytes.Ints. -/
import Derived.Test.YtohndhmhgdelmaaDoorUnframe
namespace Go.Proofs.YtohndhmhgdelmaaDoor
open Go.RowKit
set_option maxRecDepth 100000

def foldN (n : Int) : Nat := if n < 0 then (-2 * n - 1).toNat else (2 * n).toNat
def digits (u : Nat) : List UInt8 := if u < 128 then [UInt8.ofNat u] else UInt8.ofNat (u % 128 + 128) :: digits (u / 128)
def numB (n : Int) : List UInt8 := digits (foldN n)
def In64 (n : Int) : Prop := -9223372036854775808 ≤ n ∧ n ≤ 9223372036854775807

theorem foldN_lt {n : Int} (h : In64 n) : foldN n < 18446744073709551616 := by
  unfold foldN; unfold In64 at h; split <;> omega
theorem digits_length (u : Nat) : ∀ k, u < 128 ^ (k + 1) → (digits u).length ≤ k + 1 := by
  intro k
  induction k generalizing u with
  | zero => intro h; unfold digits; rw [if_pos (by omega)]; simp
  | succ k ih =>
    intro h
    unfold digits
    split
    · simp
    · have := ih (u / 128) (by rw [Nat.pow_succ] at h; omega)
      simp; omega
theorem numB_length {n : Int} (h : In64 n) : (numB n).length ≤ 10 := digits_length _ 9 (by have := foldN_lt h; omega)

set_option maxHeartbeats 1000000 in
theorem fold_any (n : Int) (h : In64 n) (w : World) : Calls Tryd.prog 72 #[.int .i64 n] w fun e w' => e = .returned (.int .u64 (foldN n)) ∧ w' = w := by
  unfold In64 at h
  by_cases hn : n < 0
  · have hE : Hid ((foldN n : Int) = -2 * n - 1) := by show _ = _; unfold foldN; rw [if_pos hn]; omega
    go_enter Tryd.func72, Tryd.ntmps72
    go_wp2
    go_ret
    exact ⟨by rw [hE.out]; go_num, rfl⟩
  · have hE : Hid ((foldN n : Int) = 2 * n) := by show _ = _; unfold foldN; rw [if_neg hn]; omega
    go_enter Tryd.func72, Tryd.ntmps72
    go_wp2
    go_ret
    exact ⟨by rw [hE.out]; go_num, rfl⟩

theorem digits_big {u : Nat} (h : 128 ≤ u) : digits u = UInt8.ofNat (u % 128 + 128) :: digits (u / 128) := by rw [digits, if_neg (by omega)]
theorem digits_small {u : Nat} (h : u < 128) : digits u = [UInt8.ofNat u] := by rw [digits, if_pos h]

/-- One byte more. -/
theorem own_byte {base : Nat} {w : World} {v : Value} {l : List UInt8} (h : Own base w v l) (hb : base ≤ w.heap.size) (x : Nat) (hx : x < 256) (hl : l.length + 1 ≤ 140737488355328) :
    ∃ v' w', (Builtin.append_ #[29, 29] 29 #[v, .slice (some ⟨w.heap.size, 0, none⟩) 1 1]).run Tryd.prog (w.alloc (.cells #[.int .u8 x] 5)) = .ok v' w' ∧ Apd base w v w' v' (l ++ [UInt8.ofNat x]) := by
  have bt := lit_bts w [UInt8.ofNat x] (0, 0) (by simp [maxLen])
  have e : bcells [UInt8.ofNat x] = [.int .u8 x] := by simp [bcells]; omega
  rw [e] at bt
  obtain ⟨v', w', h1, h2⟩ := own_app 29 (h.alloc _) bt (by simpa using hl) (by simp; omega)
  exact ⟨v', w', h1, h2.of_alloc⟩

set_option maxHeartbeats 1000000 in
theorem putNumber_any {base : Nat} {w : World} {v : Value} {l : List UInt8} (h : Own base w v l) (hb : base ≤ w.heap.size) (n : Int) (hn : In64 n) (hl : l.length + 10 ≤ 140737488355328) :
    Calls Tryd.prog 46 #[v, .int .i64 n] w fun e w' => ∃ v', e = .returned v' ∧ Apd base w v w' v' (l ++ numB n) := by
  have F := fold_any n hn w
  have hlt := foldN_lt hn
  have HL : Hid ((numB n).length ≤ 10) := numB_length hn
  have HN : Hid (numB n = digits (foldN n)) := rfl
  have H : Hid (Own base w v l) := h
  generalize foldN n = u at F hlt HN
  clear h
  go_enter Tryd.func46, Tryd.ntmps46
  go_wp2_with (go_at_call 72; refine F.mono ?_; rintro e w' ⟨rfl, hw⟩; obtain rfl := hw.symm; clear hw)
  go_loopw [0, 5] (fun v5 u5 wr => ∃ m : Nat, u5 = .int .u64 m ∧ m < 18446744073709551616 ∧ Hid (∃ done, numB n = done ++ digits m ∧ Apd base w v wr v5 (l ++ done))) (fun _ u5 _ => (intOf u5).toNat)
  case atStart => exact ⟨u, rfl, hlt, [], HN.out, by simpa using Apd.refl H.out⟩
  case round =>
    obtain ⟨m, rfl, hm, HD⟩ := hrel
    clear F HN hlt
    by_cases hbig : 128 ≤ m
    · have E : Hid (∃ v' w', (Builtin.append_ #[29, 29] 29 #[u0, .slice (some ⟨wr.heap.size, 0, none⟩) 1 1]).run Tryd.prog (wr.alloc (.cells #[.int .u8 ((m : Int) % 128 + 128)] 5)) = .ok v' w' ∧ ∃ done, numB n = done ++ digits (m / 128) ∧ Apd base w v w' v' (l ++ done)) := by
        obtain ⟨done, hd, ap⟩ := HD.out
        rw [digits_big hbig] at hd
        have hlen := HL.out
        rw [hd] at hlen
        simp only [List.length_append, List.length_cons] at hlen
        obtain ⟨v', w', h1, h2⟩ := own_byte ap.own (Nat.le_trans hb ap.gr.size) (m % 128 + 128) (by omega) (by simp only [List.length_append]; omega)
        refine ⟨v', w', by exact h1, done ++ [UInt8.ofNat (m % 128 + 128)], by rw [hd]; simp, ?_⟩
        have := ap.trans h2
        rw [List.append_assoc] at this
        exact this
      obtain ⟨v', w', run, E2⟩ := E.out
      have R : Hid _ := run
      have E3 : Hid _ := E2
      clear E run E2 HD
      go_wp2_with (at_builtin; refine wpList_append_run rfl _ _ 29 rfl _ _ _ _ rfl rfl R.out ?_)
      go_roundw
      case rel => exact ⟨m / 128, by go_num, by omega, E3.out⟩
      case measure => simp [intOf]; omega
    · have E : Hid (∃ v' w', (Builtin.append_ #[29, 29] 29 #[u0, .slice (some ⟨wr.heap.size, 0, none⟩) 1 1]).run Tryd.prog (wr.alloc (.cells #[.int .u8 (m : Int)] 5)) = .ok v' w' ∧ Apd base w v w' v' (l ++ numB n)) := by
        obtain ⟨done, hd, ap⟩ := HD.out
        rw [digits_small (by omega)] at hd
        have hlen := HL.out
        rw [hd] at hlen
        simp only [List.length_append, List.length_cons] at hlen
        obtain ⟨v', w', h1, h2⟩ := own_byte ap.own (Nat.le_trans hb ap.gr.size) m (by omega) (by simp only [List.length_append]; omega)
        refine ⟨v', w', h1, ?_⟩
        have := ap.trans h2
        rw [List.append_assoc, ← hd] at this
        exact this
      obtain ⟨v', w', run, E2⟩ := E.out
      have R : Hid _ := run
      have E3 : Hid _ := E2
      clear E run E2 HD
      go_wp2_with (at_builtin; refine wpList_append_run rfl _ _ 29 rfl _ _ _ _ rfl rfl R.out ?_)
      go_ret
      exact ⟨v', rfl, E3.out⟩
end Go.Proofs.YtohndhmhgdelmaaDoor
