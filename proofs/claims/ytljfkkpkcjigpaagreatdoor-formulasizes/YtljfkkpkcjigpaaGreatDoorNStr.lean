import Derived.Test.YtljfkkpkcjigpaaGreatDoorRows
import Derived.WalkKit
import Derived.Below
import Derived.Lib.ItoaNum
import Derived.Lib.IndexMore
import Derived.Lib.TrimByte
set_option linter.unusedVariables false
set_option linter.unusedSimpArgs false
/- What the numbers' functions tell, as Lean functions of ints; no walk. -/
namespace Go.Proofs.YtljfkkpkcjigpaaGreatDoor

/-- Is n one of the numbers? -/
def gd (n : Int) : Bool := decide (-100000000000 ≤ n) && decide (n ≤ 100000000000)
/-- A number as a call tells it. -/
def ans (n : Int) : Int × Bool := if gd n = true then (n, true) else (0, false)
def absI (n : Int) : Int := if n < 0 then -n else n
def sgnI (n : Int) (b : Bool) : Int := if b = true then -n else n
/-- a / b as the nearest whole number, a half upwards. -/
def nearI (a b : Int) : Int := if b ≤ a % b * 2 then a / b + 1 else a / b
/-- Are the signs of two numbers unlike? -/
def unl (a b : Int) : Bool := decide (a < 0) != decide (b < 0)

def addF (a b : Int) : Int × Bool := if (gd a && gd b) = true then ans (a + b) else (0, false)
def subF (a b : Int) : Int × Bool := if (gd a && gd b) = true then ans (a - b) else (0, false)
def mulF (a b : Int) : Int × Bool := if (gd a && gd b) = true then ans (sgnI (absI a / 10000 * absI b + nearI (absI a % 10000 * absI b) 10000) (unl a b)) else (0, false)
def divF (a b : Int) : Int × Bool := if (gd a && gd b) = true ∧ b ≠ 0 then ans (sgnI (nearI (absI a * 10000) (absI b)) (unl a b)) else (0, false)
def modF (a b : Int) : Int × Bool := if (gd a && gd b) = true ∧ b ≠ 0 then (if a.tmod b ≠ 0 ∧ unl (a.tmod b) b = true then (a.tmod b + b, true) else (a.tmod b, true)) else (0, false)
def quoF (a b : Int) : Int × Bool := if (gd a && gd b) = true ∧ b ≠ 0 then ans (a.tdiv b * 10000) else (0, false)
def wholeF (n : Int) : Int × Bool := if gd n = true ∧ n.tmod 10000 = 0 then (n.tdiv 10000, true) else (0, false)
def powL (a : Int) : Nat → Int × Bool
  | 0 => (10000, true)
  | k + 1 => if (powL a k).2 = true then mulF (powL a k).1 a else (0, false)
def powF (a b : Int) : Int × Bool :=
  if (wholeF b).2 = true ∧ gd a = true ∧ absI (wholeF b).1 ≤ 64 ∧ ¬ (a = 0 ∧ (wholeF b).1 = 0) then
    (if (powL a (absI (wholeF b).1).toNat).2 = true then
      (if (wholeF b).1 < 0 then divF 10000 (powL a (absI (wholeF b).1).toNat).1 else ((powL a (absI (wholeF b).1).toNat).1, true)) else (0, false))
  else (0, false)
def gcdF (a b : Int) : Int := if (gd a && gd b) = true then (Int.gcd a b : Int) else 0

theorem unl_iff (a b : Int) : unl a b = true ↔ (a < 0 ∧ 0 ≤ b) ∨ (0 ≤ a ∧ b < 0) := by
  unfold unl
  by_cases h : a < 0 <;> by_cases g : b < 0 <;> simp [h, g] <;> omega
theorem gd_iff (n : Int) : gd n = true ↔ -100000000000 ≤ n ∧ n ≤ 100000000000 := by simp [gd]
theorem gd_not (n : Int) : gd n = false ↔ n < -100000000000 ∨ 100000000000 < n := by simp [gd]; omega
theorem gd2_iff (a b : Int) : (gd a && gd b) = true ↔ (-100000000000 ≤ a ∧ a ≤ 100000000000) ∧ (-100000000000 ≤ b ∧ b ≤ 100000000000) := by simp [gd_iff]
theorem ans_good (n : Int) : (ans n).2 = true → (ans n).1 = n ∧ gd n = true := by unfold ans; split <;> simp_all
theorem ans_gd (n : Int) : gd (ans n).1 = true := by unfold ans; split <;> simp_all [gd]
theorem mulF_gd (a b : Int) : gd (mulF a b).1 = true := by unfold mulF; split <;> first | exact ans_gd _ | rfl
theorem powL_gd (a : Int) : ∀ k, gd (powL a k).1 = true
  | 0 => rfl
  | k + 1 => by unfold powL; split; exact mulF_gd _ _; rfl

theorem near_half (l : Int) (_h : 0 ≤ l) : nearI l 10000 = (l + 5000) / 10000 := by unfold nearI; split <;> omega
theorem near_nonneg (a b : Int) (ha : 0 ≤ a) (hb : 0 < b) : 0 ≤ nearI a b := by
  have := Int.ediv_nonneg ha (Int.le_of_lt hb)
  unfold nearI; split <;> omega
theorem abs_bounds (a : Int) (h : gd a = true) : 0 ≤ absI a ∧ absI a ≤ 100000000000 := by rw [gd_iff] at h; unfold absI; split <;> omega

/-- The products of Mul lie within an int. -/
theorem mul_bounds (x y : Int) (h0 : 0 ≤ x) (h1 : x ≤ 100000000000) (h2 : 0 ≤ y) (h3 : y ≤ 100000000000) :
    0 ≤ x / 10000 * y ∧ x / 10000 * y ≤ 1000000000000000000 ∧ 0 ≤ x % 10000 * y ∧ x % 10000 * y ≤ 999900000000000 := by
  have a0 : 0 ≤ x / 10000 := by omega
  have a1 : x / 10000 ≤ 10000000 := by omega
  have b0 : 0 ≤ x % 10000 := by omega
  have b1 : x % 10000 ≤ 9999 := by omega
  have m1 := Int.mul_nonneg a0 h2
  have m2 := Int.mul_nonneg b0 h2
  have n1 : x / 10000 * y ≤ 10000000 * 100000000000 := Int.mul_le_mul a1 h3 h2 (by omega)
  have n2 : x % 10000 * y ≤ 9999 * 100000000000 := Int.mul_le_mul b1 h3 h2 (by omega)
  omega

/-- Mul, as the reference reckons it. -/
theorem mul_ref_big (h l : Int) (s : Bool) (hh : 200000000000 < h) (hl : 0 ≤ l) : ans (sgnI (h + nearI l 10000) s) = (0, false) := by
  have := near_nonneg l 10000 hl (by decide)
  have e : gd (sgnI (h + nearI l 10000) s) = false := by rw [gd_not]; unfold sgnI; split <;> omega
  simp [ans, e]

/-- Mod, as the reference reckons it. -/
def floorI (a b : Int) : Int := if a.tmod b ≠ 0 ∧ unl a b = true then a.tdiv b - 1 else a.tdiv b
theorem tmod_sign (a b : Int) (h : a.tmod b ≠ 0) : (a.tmod b < 0) ↔ (a < 0) := by
  constructor
  · intro hm
    by_cases ha : a < 0
    · exact ha
    · have := Int.tmod_nonneg (a := a) b (by omega); omega
  · intro ha
    have e : (-a).tmod b = -(a.tmod b) := Int.neg_tmod a b
    have := Int.tmod_nonneg (a := -a) b (by omega)
    omega
theorem tmod_between (a b : Int) (hb : b ≠ 0) : a.tmod b < absI b ∧ -absI b < a.tmod b := by
  unfold absI
  split
  · have h1 := Int.tmod_lt_of_pos a (b := -b) (by omega)
    have h2 := Int.lt_tmod_of_pos a (b := -b) (by omega)
    rw [Int.tmod_neg] at h1 h2
    omega
  · have h1 := Int.tmod_lt_of_pos a (b := b) (by omega)
    have h2 := Int.lt_tmod_of_pos a (b := b) (by omega)
    omega
theorem mod_ref (a b : Int) (h : (gd a && gd b) = true) (hb : b ≠ 0) : ans (a - b * floorI a b) = modF a b := by
  have h' := (gd2_iff a b).1 h
  have dm := Int.mul_tdiv_add_tmod a b
  have hlt := tmod_between a b hb
  have ab : absI b = b ∧ 0 < b ∨ absI b = -b ∧ b < 0 := by unfold absI; split <;> omega
  have key : a - b * floorI a b = if a.tmod b ≠ 0 ∧ unl (a.tmod b) b = true then a.tmod b + b else a.tmod b := by
    unfold floorI
    by_cases h0 : a.tmod b = 0
    · simp [h0]; omega
    · have hs := tmod_sign a b h0
      have hu : unl (a.tmod b) b = unl a b := by unfold unl; simp [hs]
      rw [hu]
      by_cases u : unl a b = true
      · simp only [h0, u, ne_eq, not_false_eq_true, and_self, if_true, Int.mul_sub]; omega
      · rw [if_neg (fun h => u h.2), if_neg (fun h => u h.2)]; omega
  rw [key]
  have em : modF a b = if a.tmod b ≠ 0 ∧ unl (a.tmod b) b = true then (a.tmod b + b, true) else (a.tmod b, true) := by
    unfold modF
    exact if_pos ⟨h, hb⟩
  rw [em]
  by_cases c : a.tmod b ≠ 0 ∧ unl (a.tmod b) b = true
  · rw [if_pos c, if_pos c]
    have g : gd (a.tmod b + b) = true := by
      rw [gd_iff]
      obtain ⟨c1, c2⟩ := c
      rw [unl_iff] at c2
      rcases ab with ⟨e, p⟩ | ⟨e, p⟩ <;> rw [e] at hlt <;> omega
    simp [ans, g]
  · rw [if_neg c, if_neg c]
    have g : gd (a.tmod b) = true := by
      rw [gd_iff]
      rcases ab with ⟨e, p⟩ | ⟨e, p⟩ <;> rw [e] at hlt <;> omega
    simp [ans, g]
/-- b times a quotient lies within an int. -/
theorem floor_bounds (a b : Int) (h : (gd a && gd b) = true) (hb : b ≠ 0) :
    (-200000000001 ≤ floorI a b ∧ floorI a b ≤ 200000000001) ∧ (-300000000000 ≤ b * floorI a b ∧ b * floorI a b ≤ 300000000000) := by
  have h' := (gd2_iff a b).1 h
  have dm := Int.mul_tdiv_add_tmod a b
  have hq : a.tdiv b ≤ 100000000000 ∧ -100000000000 ≤ a.tdiv b := by
    have := Int.natAbs_tdiv_le_natAbs a b
    omega
  have hlt := tmod_between a b hb
  have ab : absI b = b ∧ 0 < b ∨ absI b = -b ∧ b < 0 := by unfold absI; split <;> omega
  unfold floorI
  split
  · rw [Int.mul_sub]; omega
  · omega

/-! Round -/
def awayI (n r s how : Int) : Bool :=
  if how = 0 then decide (s ≤ absI r * 2) else if how = 1 then decide (r ≠ 0) else if how = 2 then false
  else if how = 3 then decide (r ≠ 0) && decide (0 < n) else decide (r ≠ 0) && decide (n < 0)
def stepI (d : Int) : Int := 10 ^ (4 - d).toNat
def roundS (n s how : Int) : Int × Bool := if awayI n (n.tmod s) s how = true then ans (n - n.tmod s + sgnI s (decide (n < 0))) else (n - n.tmod s, true)
def roundF (n d how : Int) : Int × Bool :=
  if gd n = true ∧ (-8 ≤ d ∧ d ≤ 4) ∧ (0 ≤ how ∧ how ≤ 4) then roundS n (stepI d) how else (0, false)
theorem step_bounds (d : Int) (h : -8 ≤ d ∧ d ≤ 4) : 1 ≤ stepI d ∧ stepI d ≤ 1000000000000 := by
  obtain ⟨k, hk, e⟩ : ∃ k : Nat, k ≤ 12 ∧ stepI d = 10 ^ k := ⟨(4 - d).toNat, by omega, rfl⟩
  rw [e]
  have : k = 0 ∨ k = 1 ∨ k = 2 ∨ k = 3 ∨ k = 4 ∨ k = 5 ∨ k = 6 ∨ k = 7 ∨ k = 8 ∨ k = 9 ∨ k = 10 ∨ k = 11 ∨ k = 12 := by omega
  rcases this with rfl | rfl | rfl | rfl | rfl | rfl | rfl | rfl | rfl | rfl | rfl | rfl | rfl <;> decide
theorem floor_mul (n s : Int) : floorI n s * s = if n.tmod s ≠ 0 ∧ unl n s = true then n - n.tmod s - s else n - n.tmod s := by
  have dm := Int.mul_tdiv_add_tmod n s
  have cm := Int.mul_comm s (n.tdiv s)
  unfold floorI
  split
  · rw [Int.sub_mul]; omega
  · omega
/-- What is up, in the reference's words. -/
def upI (n l h how : Int) : Bool :=
  if how = 0 then decide (h - n < n - l) || (decide (n - l = h - n) && decide (0 < n)) else if how = 1 then decide (0 < n) else if how = 2 then decide (n < 0)
  else if how = 3 then true else false
def roundR (n s how : Int) : Int × Bool :=
  if floorI n s * s = n then (n, true) else if upI n (floorI n s * s) (floorI n s * s + s) how = true then ans (floorI n s * s + s) else ans (floorI n s * s)
theorem emod_le_own (n s : Int) (h : 0 ≤ n) (hs : 1 ≤ s) : n % s ≤ n := by
  have h1 := Int.mul_ediv_add_emod n s
  have h2 := Int.mul_nonneg (by omega : 0 ≤ s) (Int.ediv_nonneg h (by omega : 0 ≤ s))
  omega
theorem round_facts (n s : Int) (hs : 1 ≤ s) : (n.tmod s < s ∧ -s < n.tmod s) ∧ (0 ≤ n → 0 ≤ n.tmod s ∧ n.tmod s ≤ n) ∧ (n < 0 → n.tmod s ≤ 0 ∧ n ≤ n.tmod s) := by
  have hb := tmod_between n s (by omega)
  have e : absI s = s := by unfold absI; split <;> omega
  rw [e] at hb
  refine ⟨hb, ?_, ?_⟩
  · intro h
    rw [Int.tmod_eq_emod_of_nonneg h]
    have := Int.emod_nonneg n (b := s) (by omega)
    have := emod_le_own n s h hs
    omega
  · intro h
    have e2 := Int.neg_tmod n s
    rw [Int.tmod_eq_emod_of_nonneg (by omega : 0 ≤ -n)] at e2
    have := Int.emod_nonneg (-n) (b := s) (by omega)
    have := emod_le_own (-n) s (by omega) hs
    omega
theorem ans_of (n : Int) (h : -100000000000 ≤ n ∧ n ≤ 100000000000) : ans n = (n, true) := by
  have := (gd_iff n).2 h
  simp [ans, this]
theorem round_ref (n s how : Int) (hn : gd n = true) (hs : 1 ≤ s) (hh : 0 ≤ how ∧ how ≤ 4) : roundR n s how = roundS n s how := by
  have hn' := (gd_iff n).1 hn
  obtain ⟨h1, h2, h3⟩ := round_facts n s hs
  have hf := floor_mul n s
  have hu := unl_iff n s
  have ha : absI (n.tmod s) = n.tmod s ∧ 0 ≤ n.tmod s ∨ absI (n.tmod s) = - n.tmod s ∧ n.tmod s < 0 := by unfold absI; split <;> omega
  unfold roundR roundS
  generalize n.tmod s = r at *
  generalize hl : floorI n s * s = l at *
  by_cases r0 : r = 0
  · subst r0
    have : l = n := by rw [hf]; simp
    rw [if_pos this]
    have e : awayI n 0 s how = false := by unfold awayI absI; (repeat' split) <;> simp <;> omega
    simp [e]
  · have hl' : (n < 0 ∧ l = n - r - s) ∨ (0 < n ∧ l = n - r) := by
      by_cases nn : n < 0
      · have u : unl n s = true := by rw [hu]; omega
        rw [if_pos ⟨r0, u⟩] at hf
        omega
      · have u : unl n s ≠ true := by rw [ne_eq, hu]; omega
        rw [if_neg (fun h => u h.2)] at hf
        omega
    clear hu hf hl
    rw [if_neg (by omega)]
    rcases hl' with ⟨nn, rfl⟩ | ⟨nn, rfl⟩
    · have g : sgnI s (decide (n < 0)) = -s := by simp [sgnI, nn]
      rw [g]
      have key : upI n (n - r - s) (n - r - s + s) how = !awayI n r s how := by
        have : how = 0 ∨ how = 1 ∨ how = 2 ∨ how = 3 ∨ how = 4 := by omega
        rcases this with rfl | rfl | rfl | rfl | rfl <;> simp [upI, awayI, r0, nn] <;> first | omega | skip
        rw [Bool.eq_iff_iff]
        simp
        omega
      cases ha' : awayI n r s how <;> rw [ha'] at key <;> simp only [key, Bool.not_true, Bool.not_false, if_true, if_false, Bool.false_eq_true]
      · rw [ans_of _ (by omega)]
        congr 1; omega
      · congr 1
    · have g : sgnI s (decide (n < 0)) = s := by simp [sgnI, show ¬ n < 0 by omega]
      rw [g]
      have key : upI n (n - r) (n - r + s) how = awayI n r s how := by
        have : how = 0 ∨ how = 1 ∨ how = 2 ∨ how = 3 ∨ how = 4 := by omega
        rcases this with rfl | rfl | rfl | rfl | rfl <;> simp [upI, awayI, r0, nn] <;> first | omega | skip
        rw [Bool.eq_iff_iff]
        simp
        omega
      rw [key]
      cases ha' : awayI n r s how <;> simp only [if_true, if_false, Bool.false_eq_true]
      rw [ans_of _ (by omega)]

/-! Sqrt -/
def sqrtL (N : Int) : Nat → Int → Int
  | 0, r => r
  | k + 1, r => sqrtL N k (if (r + 2 ^ k) * (r + 2 ^ k) ≤ N then r + 2 ^ k else r)
theorem sqrt_spec (N : Int) : ∀ (k : Nat) (r : Int), 0 ≤ r → r * r ≤ N → N < (r + 2 ^ k) * (r + 2 ^ k) →
    0 ≤ sqrtL N k r ∧ sqrtL N k r * sqrtL N k r ≤ N ∧ N < (sqrtL N k r + 1) * (sqrtL N k r + 1)
  | 0, r, h0, h1, h2 => ⟨h0, h1, by simpa [sqrtL] using h2⟩
  | k + 1, r, h0, h1, h2 => by
    have p : (0 : Int) < 2 ^ k := Int.pow_pos (by decide)
    have e : (2 : Int) ^ (k + 1) = 2 ^ k + 2 ^ k := by rw [Int.pow_succ]; omega
    unfold sqrtL
    split
    · rename_i h
      refine sqrt_spec N k _ (by omega) h ?_
      rw [e, ← Int.add_assoc] at h2
      exact h2
    · rename_i h
      exact sqrt_spec N k r h0 h1 (by omega)
def sqrtF (n : Int) : Int × Bool := if gd n = true ∧ 0 ≤ n then (sqrtL (n * 10000) 25 0, true) else (0, false)

/-! Fact -/
def fc : Nat → Int
  | 0 => 1
  | n + 1 => fc n * ((n : Int) + 1)
def factF (k : Int) : Int × Bool := if k < 0 then (0, false) else ans (fc (min k.toNat 11) * 10000)

/-! Gcd -/
theorem gcd_step (a b : Int) : Int.gcd b (a.tmod b) = Int.gcd a b := by
  have h : a.tmod b = a - b * a.tdiv b := Int.tmod_def a b
  rw [h, Int.gcd_sub_mul_left_right, Int.gcd_comm]
theorem gcd_abs (a b : Int) : Int.gcd (absI a) (absI b) = Int.gcd a b := by
  unfold absI
  split <;> split <;> simp

/-! Comb -/
def combL (m : Int) : Nat → Int → Int → Int
  | 0, _, c => c
  | f + 1, i, c => if c ≤ 10000000 then combL m f (i + 1) (c * (m + i) / i) else c
def minI (a b : Int) : Int := if a ≤ b then a else b
def combF (n k : Int) : Int × Bool :=
  if n < 0 ∨ k < 0 then (0, false) else if n < k then (0, true) else if minI k (n - k) = 0 then (10000, true)
  else if 10000000 < n then (0, false) else ans (combL (n - minI k (n - k)) (minI k (n - k)).toNat 1 1 * 10000)
theorem comb_big (m : Int) (f : Nat) (i c : Int) (h : 10000000 < c) : combL m f i c = c := by
  cases f with
  | zero => rfl
  | succ f => unfold combL; rw [if_neg (by omega)]
theorem comb_prod (c m : Int) (h0 : 0 ≤ c) (h1 : c ≤ 10000000) (h2 : 0 ≤ m) (h3 : m ≤ 10000000) : 0 ≤ c * m ∧ c * m ≤ 100000000000000 := by
  have := Int.mul_nonneg h0 h2
  have : c * m ≤ 10000000 * 10000000 := Int.mul_le_mul h1 h3 h2 (by omega)
  omega
theorem ediv_own (x i : Int) (h : 0 ≤ x) (hi : 1 ≤ i) : 0 ≤ x / i ∧ x / i ≤ x :=
  ⟨Int.ediv_nonneg h (by omega), Int.ediv_le_self i h⟩
theorem ans_out (n : Int) (h : 100000000000 < n ∨ n < -100000000000) : ans n = (0, false) := by
  have : gd n = false := by rw [gd_not]; omega
  simp [ans, this]

/-! Fact -/
theorem fc_tab : fc 0 = 1 ∧ fc 1 = 1 ∧ fc 2 = 2 ∧ fc 3 = 6 ∧ fc 4 = 24 ∧ fc 5 = 120 ∧ fc 6 = 720 ∧ fc 7 = 5040 ∧ fc 8 = 40320 ∧ fc 9 = 362880 ∧ fc 10 = 3628800 ∧ fc 11 = 39916800 := by decide
theorem lives_fact : factF 5 = (1200000, true) := by decide
theorem lives_div : divF 10000 30000 = (3333, true) := by decide
end Go.Proofs.YtljfkkpkcjigpaaGreatDoor

/- The contracts of the small functions of num and of the reference. -/
namespace Go.Proofs.YtljfkkpkcjigpaaGreatDoor
open Go.RowKit
set_option maxRecDepth 100000

/-- What a call of two results tells. -/
def two (r : Int × Bool) : Value := .tuple #[.int .i64 r.1, .bool r.2]

set_option maxHeartbeats 1000000 in
theorem good_any (n : Int) (w : World) : Calls Tryz.prog 170 #[.int .i64 n] w fun e w' => e = .returned (.bool (gd n)) ∧ w' = w := by
  go_enter Tryz.func170, Tryz.ntmps170
  go_wp2
  all_goals (go_ret; rename_i h; refine ⟨?_, rfl⟩; congr 2; simp [gd]; try omega)
set_option maxHeartbeats 1000000 in
theorem rgood_any (n : Int) (w : World) : Calls Tryz.prog 143 #[.int .i64 n] w fun e w' => e = .returned (.bool (gd n)) ∧ w' = w := by
  go_enter Tryz.func143, Tryz.ntmps143
  go_wp2
  all_goals (go_ret; rename_i h; refine ⟨?_, rfl⟩; congr 2; simp [gd]; try omega)
set_option maxHeartbeats 1000000 in
theorem answer_any (n : Int) (w : World) : Calls Tryz.prog 161 #[.int .i64 n] w fun e w' => e = .returned (two (ans n)) ∧ w' = w := by
  cases hg : gd n
  all_goals
    go_enter Tryz.func161, Tryz.ntmps161
    go_wp2_with (go_at_call 170; refine (good_any _ _).mono ?_; rintro e w' ⟨rfl, hw⟩; obtain rfl := hw.symm; clear hw; rw [hg])
    go_ret2
    exact ⟨by simp [two, ans, hg], rfl⟩
set_option maxHeartbeats 1000000 in
theorem out_any (n : Int) (w : World) : Calls Tryz.prog 127 #[.int .i64 n] w fun e w' => e = .returned (two (ans n)) ∧ w' = w := by
  cases hg : gd n
  all_goals
    go_enter Tryz.func127, Tryz.ntmps127
    go_wp2_with (go_at_call 143; refine (rgood_any _ _).mono ?_; rintro e w' ⟨rfl, hw⟩; obtain rfl := hw.symm; clear hw; rw [hg])
    go_ret2
    exact ⟨by simp [two, ans, hg], rfl⟩
set_option maxHeartbeats 1000000 in
theorem size_any (n : Int) (h0 : -9223372036854775807 ≤ n) (h1 : n ≤ 9223372036854775807) (w : World) : Calls Tryz.prog 151 #[.int .i64 n] w fun e w' => e = .returned (.int .i64 (absI n)) ∧ w' = w := by
  by_cases h : n < 0
  · rw [show absI n = -n from if_pos h]
    go_enter Tryz.func151, Tryz.ntmps151
    go_wp2
    go_ret
    exact ⟨rfl, rfl⟩
  · rw [show absI n = n from if_neg h]
    go_enter Tryz.func151, Tryz.ntmps151
    go_wp2
    go_ret
    exact ⟨rfl, rfl⟩
set_option maxHeartbeats 1000000 in
theorem signed_any (n : Int) (b : Bool) (h0 : -9223372036854775807 ≤ n) (h1 : n ≤ 9223372036854775807) (w : World) : Calls Tryz.prog 162 #[.int .i64 n, .bool b] w fun e w' => e = .returned (.int .i64 (sgnI n b)) ∧ w' = w := by
  unfold sgnI
  cases b
  all_goals
    go_enter Tryz.func162, Tryz.ntmps162
    go_wp2
    go_ret
    exact ⟨rfl, rfl⟩
theorem tdiv_own (a b : Int) (ha : gd a = true) : -100000000000 ≤ a.tdiv b ∧ a.tdiv b ≤ 100000000000 := by
  have h' := (gd_iff a).1 ha
  have := Int.natAbs_tdiv_le_natAbs a b
  omega
end Go.Proofs.YtljfkkpkcjigpaaGreatDoor

/- The contracts of the loops: tens, Gcd. -/
namespace Go.Proofs.YtljfkkpkcjigpaaGreatDoor
open Go.RowKit
set_option maxRecDepth 100000

theorem ten_le : ∀ j : Nat, j ≤ 11 → (10 : Int) ^ j ≤ 100000000000 ∧ 1 ≤ (10 : Int) ^ j := by decide
set_option maxHeartbeats 2000000 in
theorem tens_any (k : Nat) (hk : k ≤ 12) (w : World) : Calls Tryz.prog 160 #[.int .i64 k] w fun e w' => e = .returned (.int .i64 (10 ^ k)) ∧ w' = w := by
  go_enter Tryz.func160, Tryz.ntmps160
  go_wp2
  go_loop [3, 5] (fun p i => ∃ (j : Nat) (P : Int), j ≤ k ∧ i = .int .i64 j ∧ p = .int .i64 P ∧ Hid (P = 10 ^ j)) (fun _ i => k - (intOf i).toNat)
  case atStart => exact ⟨0, 1, Nat.zero_le _, rfl, rfl, rfl⟩
  case round =>
    obtain ⟨j, P, hj, rfl, rfl, hP⟩ := hrel
    by_cases hlt : j < k
    · have hb := ten_le j (by omega)
      have hE : Hid (P * 10 = 10 ^ (j + 1)) := by
        show _ = _
        rw [hP.out, Int.pow_succ]
      rw [← hP.out] at hb
      go_wp2
      go_round
      case rel => exact ⟨j + 1, P * 10, by omega, by go_num, rfl, hE.out⟩
      case measure => simp [intOf]; omega
    · obtain rfl : j = k := by omega
      go_wp2
      go_ret
      exact ⟨by rw [← hP.out]; rfl, rfl⟩

end Go.Proofs.YtljfkkpkcjigpaaGreatDoor

/- Texts of numbers, as Lean functions of lists of bytes; no walk. -/
namespace Go.Proofs.YtljfkkpkcjigpaaGreatDoor
open Go.Lib

def isD (b : UInt8) : Bool := decide (48 ≤ b.toNat) && decide (b.toNat ≤ 57)
def numG (n : Nat) (l : List UInt8) : Nat := l.foldl (fun n b => n * 10 + (b.toNat - 48)) n
def numD (l : List UInt8) : Nat := numG 0 l
def digs (l : List UInt8) (least most : Nat) : Bool := l.all isD && decide (least ≤ l.length) && decide (l.length ≤ most)
def countF (l : List UInt8) (most : Nat) : Int × Bool := if digs l 1 most = true then ((numD l : Nat), true) else (0, false)
def dash (l : List UInt8) : Bool := l.head? == some 45
def body (l : List UInt8) : List UInt8 := if dash l = true then l.drop 1 else l
def fstP (l : List UInt8) : List UInt8 := l.takeWhile (· != 46)
def sndP (l : List UInt8) : List UInt8 := (l.dropWhile (· != 46)).drop 1
def hasP (l : List UInt8) : Bool := !(l.dropWhile (· != 46)).isEmpty
def restN (s : List UInt8) : Nat := if hasP s = true then numD (sndP s) * 10 ^ (4 - (sndP s).length) else 0
def parseF (l : List UInt8) : Int × Bool :=
  if digs (fstP (body l)) 1 12 = true ∧ (hasP (body l) = true → digs (sndP (body l)) 1 4 = true)
  then ans (sgnI ((numD (fstP (body l)) * 10000 + restN (body l) : Nat) : Int) (dash l)) else (0, false)
def tailP (r : Nat) : List UInt8 := trimRightB ((decDigits (10000 + r)).drop 1) 48
def printF (n : Int) : List UInt8 := (if n < 0 then [45] else []) ++ decDigits (n.natAbs / 10000) ++ (if n.natAbs % 10000 = 0 then [] else 46 :: tailP (n.natAbs % 10000))

theorem numG_cons (n : Nat) (b : UInt8) (l : List UInt8) : numG n (b :: l) = numG (n * 10 + (b.toNat - 48)) l := by unfold numG; rw [List.foldl_cons]
theorem numG_append (n : Nat) (l m : List UInt8) : numG n (l ++ m) = numG (numG n l) m := by simp [numG]
set_option maxRecDepth 10000 in
theorem numG_eq : ∀ (l : List UInt8) (n : Nat), numG n l = n * 10 ^ l.length + numD l
  | [], n => by simp [numG, numD]
  | b :: l, n => by
    have e1 := numG_eq l (n * 10 + (b.toNat - 48))
    have e2 := numG_eq l (0 * 10 + (b.toNat - 48))
    have e3 : numD (b :: l) = numG (0 * 10 + (b.toNat - 48)) l := numG_cons 0 b l
    rw [numG_cons, e1, e3, e2]
    generalize numD l = d
    generalize b.toNat - 48 = c
    simp only [List.length_cons, Nat.pow_succ, Nat.add_mul, Nat.zero_mul, Nat.zero_add]
    rw [Nat.mul_assoc, Nat.mul_comm 10 (10 ^ l.length)]
    generalize n * (10 ^ l.length * 10) = x
    generalize c * 10 ^ l.length = y
    omega
theorem numD_append (l m : List UInt8) : numD (l ++ m) = numD l * 10 ^ m.length + numD m := by
  unfold numD
  rw [numG_append, numG_eq]
  rfl
theorem numD_zeros : ∀ k, numD (List.replicate k 48) = 0
  | 0 => rfl
  | k + 1 => by
    rw [List.replicate_succ']
    rw [numD_append, numD_zeros k]
    rfl
theorem numD_lt : ∀ (l : List UInt8), l.all isD = true → numD l < 10 ^ l.length
  | [], _ => by decide
  | b :: l, h => by
    simp [isD] at h
    have := numD_lt l (by simpa [isD] using h.2)
    unfold numD
    rw [numG_cons, numG_eq]
    simp only [List.length_cons, Nat.pow_succ]
    have h2 : (0 * 10 + (b.toNat - 48)) * 10 ^ l.length ≤ 9 * 10 ^ l.length := Nat.mul_le_mul_right _ (by omega)
    omega

theorem ofNat_digit (d : Nat) (h : d < 10) : (UInt8.ofNat (48 + d)).toNat = 48 + d := by simp; omega
theorem dec_all (u : Nat) : (decDigits u).all isD = true := by
  induction u using Nat.strongRecOn with
  | _ u ih =>
    by_cases h : u < 10
    · rw [decDigits_one h]
      simp [isD]
      omega
    · rw [decDigits, dif_neg h, List.all_append, ih (u / 10) (by omega)]
      simp [isD]
      omega
theorem dec_num (u : Nat) : numD (decDigits u) = u := by
  induction u using Nat.strongRecOn with
  | _ u ih =>
    by_cases h : u < 10
    · rw [decDigits_one h]
      simp only [numD, numG, List.foldl_cons, List.foldl_nil]
      rw [ofNat_digit u h]
      omega
    · rw [decDigits, dif_neg h, numD_append, ih (u / 10) (by omega)]
      simp only [numD, numG, List.foldl_cons, List.foldl_nil, List.length_cons, List.length_nil]
      rw [ofNat_digit (u % 10) (by omega)]
      omega
theorem dec_len (k u : Nat) (hk : 1 ≤ k) (h : u < 10 ^ k) : 1 ≤ (decDigits u).length ∧ (decDigits u).length ≤ k := by
  rw [decDigits_length]
  refine ⟨nDigits_pos u, ?_⟩
  induction k generalizing u with
  | zero => omega
  | succ k ih =>
    by_cases hu : u < 10
    · rw [nDigits_small hu]; omega
    · rw [nDigits_big hu]
      have : 1 ≤ k := by
        rcases k with _ | k
        · simp at h; omega
        · omega
      have := ih (u / 10) this (by rw [Nat.pow_succ] at h; omega)
      omega
theorem dec_five (r : Nat) (h : r < 10000) : decDigits (10000 + r) = [49, UInt8.ofNat (48 + r / 1000), UInt8.ofNat (48 + r / 100 % 10), UInt8.ofNat (48 + r / 10 % 10), UInt8.ofNat (48 + r % 10)] := by
  rw [decDigits, dif_neg (by omega), decDigits, dif_neg (by omega), decDigits, dif_neg (by omega), decDigits, dif_neg (by omega), decDigits_one (by omega)]
  have e1 : (10000 + r) / 10 / 10 / 10 / 10 = 1 := by omega
  have e2 : (10000 + r) / 10 / 10 / 10 % 10 = r / 1000 := by omega
  have e3 : (10000 + r) / 10 / 10 % 10 = r / 100 % 10 := by omega
  have e4 : (10000 + r) / 10 % 10 = r / 10 % 10 := by omega
  have e5 : (10000 + r) % 10 = r % 10 := by omega
  rw [e1, e2, e3, e4, e5]
  rfl
theorem trim_cons_end (l : List UInt8) (c : UInt8) : trimRightB (l ++ [c]) 48 = if c = 48 then trimRightB l 48 else l ++ [c] := by
  unfold trimRightB
  simp only [List.reverse_append, List.reverse_cons, List.reverse_nil, List.nil_append, List.singleton_append, List.dropWhile_cons]
  by_cases h : c = 48
  · simp [h]
  · simp [h]
theorem trim_nil : trimRightB [] 48 = [] := rfl
theorem trim_four (a b c d : UInt8) : trimRightB [a, b, c, d] 48 = if d = 48 then (if c = 48 then (if b = 48 then (if a = 48 then [] else [a]) else [a, b]) else [a, b, c]) else [a, b, c, d] := by
  rw [show [a, b, c, d] = [a, b, c] ++ [d] from rfl, trim_cons_end, show [a, b, c] = [a, b] ++ [c] from rfl, trim_cons_end, show [a, b] = [a] ++ [b] from rfl, trim_cons_end, show [a] = [] ++ [a] from rfl, trim_cons_end, trim_nil]
theorem digit_zero (d : Nat) (h : d < 10) : UInt8.ofNat (48 + d) = 48 ↔ d = 0 := by
  constructor
  · intro e
    have := congrArg UInt8.toNat e
    rw [ofNat_digit d h] at this
    simp at this
    exact this
  · rintro rfl; rfl
theorem tail_facts (r : Nat) (h : r < 10000) (h0 : r ≠ 0) : digs (tailP r) 1 4 = true ∧ numD (tailP r) * 10 ^ (4 - (tailP r).length) = r := by
  unfold tailP
  rw [dec_five r h]
  simp only [List.drop_succ_cons, List.drop_zero, trim_four]
  have ea := ofNat_digit (r / 1000) (by omega); have eb := ofNat_digit (r / 100 % 10) (by omega); have ec := ofNat_digit (r / 10 % 10) (by omega); have ed := ofNat_digit (r % 10) (by omega)
  have za := digit_zero (r / 1000) (by omega); have zb := digit_zero (r / 100 % 10) (by omega); have zc := digit_zero (r / 10 % 10) (by omega); have zd := digit_zero (r % 10) (by omega)
  generalize UInt8.ofNat (48 + r / 1000) = a at *
  generalize UInt8.ofNat (48 + r / 100 % 10) = b at *
  generalize UInt8.ofNat (48 + r / 10 % 10) = c at *
  generalize UInt8.ofNat (48 + r % 10) = d at *
  repeat' split
  all_goals simp_all only [true_iff, false_iff]
  all_goals simp [digs, isD, numD, numG, *]
  all_goals omega
theorem tail_zero : tailP 0 = [] := by
  unfold tailP
  rw [dec_five 0 (by decide)]
  simp only [List.drop_succ_cons, List.drop_zero, trim_four]
  decide

theorem dash_not (l : List UInt8) (h : l.all isD = true) : dash l = false := by
  cases l with
  | nil => rfl
  | cons b l =>
    simp [isD] at h
    simp only [dash, List.head?_cons]
    rw [beq_eq_false_iff_ne]
    intro e
    injection e with e
    subst e
    simp at h
theorem isD_ne (b : UInt8) (h : isD b = true) : (b != 46) = true := by
  rw [bne_iff_ne]
  rintro rfl
  simp [isD] at h
theorem tw_all : ∀ (l m : List UInt8), l.all isD = true → (l ++ m).takeWhile (· != 46) = l ++ m.takeWhile (· != 46) ∧ (l ++ m).dropWhile (· != 46) = m.dropWhile (· != 46)
  | [], _, _ => ⟨rfl, rfl⟩
  | b :: l, m, h => by
    rw [List.all_cons, Bool.and_eq_true] at h
    have hb := isD_ne b h.1
    have ih := tw_all l m h.2
    simp only [List.cons_append, List.takeWhile_cons, List.dropWhile_cons, hb, if_true, ih.1, ih.2]
    trivial

/-- A number's text leads back to it. -/
theorem parse_print (a : Int) (h : -100000000000 ≤ a ∧ a ≤ 100000000000) : parseF (printF a) = (a, true) := by
  have hw : a.natAbs / 10000 < 10 ^ 8 := by omega
  have len := dec_len 8 _ (by decide) hw
  have all := dec_all (a.natAbs / 10000)
  have num := dec_num (a.natAbs / 10000)
  have hb : body (printF a) = decDigits (a.natAbs / 10000) ++ (if a.natAbs % 10000 = 0 then [] else 46 :: tailP (a.natAbs % 10000)) ∧ dash (printF a) = decide (a < 0) := by
    unfold printF
    by_cases hn : a < 0
    · simp only [hn, if_true, decide_true]
      exact ⟨rfl, rfl⟩
    · simp only [hn, if_false, List.nil_append, decide_false]
      have hd : dash (decDigits (a.natAbs / 10000) ++ (if a.natAbs % 10000 = 0 then [] else 46 :: tailP (a.natAbs % 10000))) = false := by
        have := dash_not _ all
        generalize decDigits (a.natAbs / 10000) = l at *
        cases l with
        | nil => simp at len
        | cons b l => exact this
      refine ⟨?_, hd⟩
      unfold body
      rw [hd]
      rfl
  have key : digs (fstP (body (printF a))) 1 12 = true ∧ (hasP (body (printF a)) = true → digs (sndP (body (printF a))) 1 4 = true) ∧ numD (fstP (body (printF a))) * 10000 + restN (body (printF a)) = a.natAbs := by
    rw [hb.1]
    unfold restN fstP sndP hasP
    rw [(tw_all _ _ all).1, (tw_all _ _ all).2]
    generalize decDigits (a.natAbs / 10000) = l at *
    by_cases h0 : a.natAbs % 10000 = 0
    · simp [h0, digs, all]
      omega
    · simp only [h0, if_false]
      have tf := tail_facts (a.natAbs % 10000) (by omega) h0
      generalize tailP (a.natAbs % 10000) = t at *
      simp [digs, all] at tf ⊢
      refine ⟨by omega, tf.1, ?_⟩
      rw [tf.2]
      omega
  unfold parseF
  rw [hb.2]
  rw [if_pos ⟨key.1, key.2.1⟩, key.2.2]
  clear key hb num len all hw
  have e : sgnI (a.natAbs : Int) (decide (a < 0)) = a := by
    unfold sgnI
    split
    · rename_i hn; simp at hn; omega
    · rename_i hn; simp at hn; omega
  rw [e]
  exact ans_of a h
end Go.Proofs.YtljfkkpkcjigpaaGreatDoor
