/- Frames tell what was cut or turned: facts on sums and frames. No walk. -/
import Derived.Test.YtcheikpmhdliiaaDoorUnframe
namespace Go.Proofs.YtcheikpmhdliiaaDoor

theorem xor_rc {a b c : Nat} (h : a ^^^ c = b ^^^ c) : a = b := by
  have h1 : (a ^^^ c) ^^^ c = (b ^^^ c) ^^^ c := by rw [h]
  rwa [Nat.xor_assoc, Nat.xor_assoc, Nat.xor_self, Nat.xor_zero, Nat.xor_zero] at h1
theorem xor_lc {a b c : Nat} (h : c ^^^ a = c ^^^ b) : a = b := by
  rw [Nat.xor_comm c a, Nat.xor_comm c b] at h
  exact xor_rc h
theorem xor_div28 {a b : Nat} (ha : a < 2 ^ 28) : (a ^^^ b) / 2 ^ 28 = b / 2 ^ 28 := by
  apply Nat.eq_of_testBit_eq
  intro i
  rw [Nat.testBit_div_two_pow, Nat.testBit_div_two_pow, Nat.testBit_xor]
  have : a.testBit (28 + i) = false := Nat.testBit_lt_two_pow (Nat.lt_of_lt_of_le ha (Nat.pow_le_pow_right (by decide) (by omega)))
  rw [Nat.add_comm i 28, this]
  simp
theorem tab_top : ∀ i, i < 16 → ∀ j, j < 16 → tab.getD i 0 / 2 ^ 28 = tab.getD j 0 / 2 ^ 28 → i = j := by decide
theorem half_inj {a b : Nat} (ha : a < 2 ^ 32) (hb : b < 2 ^ 32) (h : half a = half b) : a = b := by
  unfold half at h
  have h1 : ((a / 16) ^^^ tab.getD (a % 16) 0) / 2 ^ 28 = ((b / 16) ^^^ tab.getD (b % 16) 0) / 2 ^ 28 := by rw [h]
  rw [xor_div28 (by omega), xor_div28 (by omega)] at h1
  have h2 := tab_top _ (Nat.mod_lt a (by decide)) _ (Nat.mod_lt b (by decide)) h1
  rw [h2] at h
  have h3 : a / 16 = b / 16 := xor_rc h
  omega
theorem byteStep_inj {r s : Nat} {x y : UInt8} (hr : r < 2 ^ 32) (hs : s < 2 ^ 32) (h : byteStep r x = byteStep s y) : r ^^^ x.toNat = s ^^^ y.toNat := by
  have e1 : r ^^^ x.toNat < 2 ^ 32 := Nat.xor_lt_two_pow hr (by have := x.toNat_lt; omega)
  have e2 : s ^^^ y.toNat < 2 ^ 32 := Nat.xor_lt_two_pow hs (by have := y.toNat_lt; omega)
  exact half_inj e1 e2 (half_inj (half_lt e1) (half_lt e2) h)
theorem fold_inj (l : List UInt8) : ∀ {r s : Nat}, r < 2 ^ 32 → s < 2 ^ 32 → l.foldl byteStep r = l.foldl byteStep s → r = s := by
  induction l with
  | nil => intro r s _ _ h; exact h
  | cons x l ih =>
    intro r s hr hs h
    have := byteStep_inj hr hs (ih (byteStep_lt x hr) (byteStep_lt x hs) h)
    exact xor_rc this
theorem fold_set (l : List UInt8) : ∀ {r : Nat} (p : Nat) (y : UInt8) (hp : p < l.length), r < 2 ^ 32 → y ≠ l[p] → (l.set p y).foldl byteStep r ≠ l.foldl byteStep r := by
  induction l with
  | nil => intro r p y hp; simp at hp
  | cons x l ih =>
    intro r p y hp hr hy h
    cases p with
    | zero =>
      have h1 := fold_inj l (byteStep_lt y hr) (byteStep_lt x hr) h
      have h2 := xor_lc (byteStep_inj hr hr h1)
      exact hy (UInt8.toNat_inj.1 h2)
    | succ p => exact ih p y (by simpa using hp) (byteStep_lt x hr) (by simpa using hy) h
theorem sum_set {l : List UInt8} {p : Nat} {y : UInt8} (hp : p < l.length) (hy : y ≠ l[p]) : sumB (l.set p y) ≠ sumB l := by
  intro h
  exact fold_set l (r := 4294967295) p y hp (by decide) hy (xor_lc h)

theorem word4_length (n : Nat) : (word4 n).length = 4 := rfl
theorem wordOf_word4 (l r : List UInt8) (n : Nat) (h : n < 4294967296) : wordOf (l ++ (word4 n ++ r)) l.length = n := by
  have e : ∀ k, k < 4 → (l ++ (word4 n ++ r)).getD (l.length + k) 0 = (word4 n).getD k 0 := by
    intro k hk
    rw [List.getD_eq_getElem?_getD, List.getD_eq_getElem?_getD, List.getElem?_append_right (by omega), Nat.add_sub_cancel_left, List.getElem?_append_left (by rw [word4_length]; exact hk)]
  have e0 := e 0 (by omega)
  rw [Nat.add_zero] at e0
  unfold wordOf
  rw [e0, e 1 (by omega), e 2 (by omega), e 3 (by omega)]
  simp [word4]
  omega
theorem frameB_length (b : List UInt8) : (frameB b).length = b.length + 8 := by
  simp only [frameB, List.length_append, word4_length]; omega
theorem frame_count (b r : List UInt8) (h : b.length ≤ 131072) : wordOf (frameB b ++ r) 0 = b.length := by
  have := wordOf_word4 [] (b ++ (word4 (sumB (word4 b.length ++ b)) ++ r)) b.length (by omega)
  simpa [frameB] using this
theorem frame_sum (b r : List UInt8) (_h : b.length ≤ 131072) : wordOf (frameB b ++ r) (b.length + 4) = sumB (word4 b.length ++ b) := by
  have := wordOf_word4 (word4 b.length ++ b) r (sumB (word4 b.length ++ b)) (sumB_lt _)
  rw [List.length_append, word4_length, Nat.add_comm] at this
  simpa [frameB] using this
theorem frame_take (b r : List UInt8) : (frameB b ++ r).take (b.length + 4) = word4 b.length ++ b := by
  unfold frameB
  rw [List.append_assoc, List.take_append_of_le_length (by rw [List.length_append, word4_length]; omega)]
  exact List.take_of_length_le (by rw [List.length_append, word4_length]; omega)

theorem wordOf_take {l : List UInt8} {k m : Nat} (h : k + 4 ≤ m) : wordOf (l.take m) k = wordOf l k := by
  unfold wordOf
  have e : ∀ j, j < m → (l.take m).getD j 0 = l.getD j 0 := by
    intro j hj
    rw [List.getD_eq_getElem?_getD, List.getD_eq_getElem?_getD, List.getElem?_take, if_pos hj]
  rw [e _ (by omega), e _ (by omega), e _ (by omega), e _ (by omega)]

/-- Each beginning of a frame that is shorter is too short. -/
theorem unframe_cut {b : List UInt8} (h : b.length ≤ 131072) {k : Nat} (hk : k < b.length + 8) : unframeB ((frameB b).take k) = ([], 0, 16) := by
  have hl : ((frameB b).take k).length = k := by rw [List.length_take, frameB_length]; omega
  unfold unframeB
  rw [hl]
  by_cases h4 : k < 4
  · rw [if_pos h4]
  · have hw : wordOf ((frameB b).take k) 0 = b.length := by
      rw [wordOf_take (by omega)]
      simpa using frame_count b [] h
    rw [if_neg h4, hw, if_neg (by omega), if_pos (by omega)]
/-- A frame, whatever stands behind it. -/
theorem unframe_frame {b : List UInt8} (h : b.length ≤ 131072) (r : List UInt8) : unframeB (frameB b ++ r) = (b, b.length + 8, 0) := by
  have hl : (frameB b ++ r).length = b.length + 8 + r.length := by rw [List.length_append, frameB_length]
  unfold unframeB
  rw [hl, frame_count b r h, frame_sum b r h, frame_take]
  rw [if_neg (by omega), if_neg (by omega), if_neg (by omega), if_neg (by simp)]
  congr 1
  have : (frameB b ++ r).drop 4 = b ++ (word4 (sumB (word4 b.length ++ b)) ++ r) := by
    unfold frameB
    rw [List.append_assoc, List.append_assoc, List.drop_append_of_le_length (by rw [word4_length]; omega)]
    rfl
  rw [this, List.take_left]
theorem getD_set {l : List UInt8} {p j : Nat} {y : UInt8} (h : p ≠ j) : (l.set p y).getD j 0 = l.getD j 0 := by
  rw [List.getD_eq_getElem?_getD, List.getD_eq_getElem?_getD, List.getElem?_set_ne h]
/-- A frame of whose content one byte was turned. -/
theorem unframe_turned {b : List UInt8} (h : b.length ≤ 131072) {p : Nat} (hp : p < b.length) {y : UInt8} (hy : y ≠ b[p]) : unframeB ((frameB b).set (4 + p) y) = ([], 0, 12) := by
  have hl : ((frameB b).set (4 + p) y).length = b.length + 8 := by rw [List.length_set, frameB_length]
  have hw : wordOf ((frameB b).set (4 + p) y) 0 = b.length := by
    have := frame_count b [] h
    rw [List.append_nil] at this
    rw [← this]
    unfold wordOf
    rw [getD_set (by omega), getD_set (by omega), getD_set (by omega), getD_set (by omega)]
  have hs : wordOf ((frameB b).set (4 + p) y) (b.length + 4) = sumB (word4 b.length ++ b) := by
    have := frame_sum b [] h
    rw [List.append_nil] at this
    rw [← this]
    unfold wordOf
    rw [getD_set (by omega), getD_set (by omega), getD_set (by omega), getD_set (by omega)]
  have ht : ((frameB b).set (4 + p) y).take (b.length + 4) = (word4 b.length ++ b).set (4 + p) y := by
    have := frame_take b []
    rw [List.append_nil] at this
    rw [List.take_set, this]
  unfold unframeB
  rw [hl, hw, hs, ht, if_neg (by omega), if_neg (by omega), if_neg (by omega), if_pos]
  intro e
  refine sum_set (l := word4 b.length ++ b) (p := 4 + p) (y := y) (by rw [List.length_append, word4_length]; omega) ?_ e.symm
  rw [List.getElem_append_right (by rw [word4_length]; omega)]
  simpa [word4_length] using hy
theorem frame_at {b : List UInt8} {p : Nat} (hp : p < b.length) : (frameB b)[4 + p]? = some b[p] := by
  unfold frameB
  rw [List.append_assoc, List.getElem?_append_right (by rw [word4_length]; omega), word4_length, Nat.add_sub_cancel_left, List.getElem?_append_left hp]
  exact List.getElem?_eq_getElem hp
end Go.Proofs.YtcheikpmhdliiaaDoor
