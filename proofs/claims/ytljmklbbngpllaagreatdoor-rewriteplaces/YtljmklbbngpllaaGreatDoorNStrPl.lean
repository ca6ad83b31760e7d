/- NStr. -/
import Derived.Lib.IndexMore
import Derived.Lib.TrimByte
import Derived.Test.YtljmklbbngpllaaGreatDoorNLoopPl
set_option linter.unusedVariables false
set_option linter.unusedSimpArgs false
set_option maxHeartbeats 16000000
set_option maxRecDepth 100000
namespace Go.Proofs.YtljmklbbngpllaaGreatDoor
open Go.Lib
def isD (b : UInt8) : Bool := decide (48 ≤ b.toNat) && decide (b.toNat ≤ 57)
def numG (n : Nat) (l : List UInt8) : Nat := l.foldl (fun n b => n * 10 + (b.toNat - 48)) n
def numD (l : List UInt8) : Nat := numG 0 l
def digs (l : List UInt8) (least most : Nat) : Bool := l.all isD && decide (least ≤ l.length) && decide (l.length ≤ most)
def countF (l : List UInt8) (most : Nat) : Int × Bool := if digs l 1 most = true then ((numD l : Nat), true) else (0, false)
def dash (l : List UInt8) : Bool := l.head? == some 45
def body (l : List UInt8) : List UInt8 := if dash l = true then l.drop 1 else l
def fstP (l : List UInt8) : List UInt8 := l.takeWhile (· != 46)
def sndP (l : List UInt8) : List UInt8 := (l.dropWhile (· != 46)).drop 1
def hasP (l : List UInt8) : Bool := !(l.dropWhile (· != 46)).isEmpty
def restN (s : List UInt8) : Nat := if hasP s = true then numD (sndP s) * 10 ^ (4 - (sndP s).length) else 0
def parseF (l : List UInt8) : Int × Bool :=
 if digs (fstP (body l)) 1 12 = true ∧ (hasP (body l) = true → digs (sndP (body l)) 1 4 = true)
 then ans (sgnI ((numD (fstP (body l)) * 10000 + restN (body l) : Nat) : Int) (dash l)) else (0, false)
def tailP (r : Nat) : List UInt8 := trimRightB ((decDigits (10000 + r)).drop 1) 48
def printF (n : Int) : List UInt8 := (if n < 0 then [45] else []) ++ decDigits (n.natAbs / 10000) ++ (if n.natAbs % 10000 = 0 then [] else 46 :: tailP (n.natAbs % 10000))
theorem numG_cons (n : Nat) (b : UInt8) (l : List UInt8) : numG n (b :: l) = numG (n * 10 + (b.toNat - 48)) l := by unfold numG; rw [List.foldl_cons]
theorem numG_append (n : Nat) (l m : List UInt8) : numG n (l ++ m) = numG (numG n l) m := by simp [numG]
theorem numG_eq : ∀ (l : List UInt8) (n : Nat), numG n l = n * 10 ^ l.length + numD l
 | [], n => by simp [numG, numD]
 | b :: l, n => by
  have e1 := numG_eq l (n * 10 + (b.toNat - 48))
  have e2 := numG_eq l (0 * 10 + (b.toNat - 48))
  have e3 : numD (b :: l) = numG (0 * 10 + (b.toNat - 48)) l := numG_cons 0 b l
  rw [numG_cons, e1, e3, e2]
  generalize numD l = d
  generalize b.toNat - 48 = c
  simp only [List.length_cons, Nat.pow_succ, Nat.add_mul, Nat.zero_mul, Nat.zero_add]
  rw [Nat.mul_assoc, Nat.mul_comm 10 (10 ^ l.length)]
  generalize n * (10 ^ l.length * 10) = x
  generalize c * 10 ^ l.length = y
  omega
theorem numD_append (l m : List UInt8) : numD (l ++ m) = numD l * 10 ^ m.length + numD m := by
 unfold numD
 rw [numG_append, numG_eq]
 rfl
theorem numD_lt : ∀ (l : List UInt8), l.all isD = true → numD l < 10 ^ l.length
 | [], _ => by decide
 | b :: l, h => by
  simp [isD] at h
  have := numD_lt l (by simpa [isD] using h.2)
  unfold numD
  rw [numG_cons, numG_eq]
  simp only [List.length_cons, Nat.pow_succ]
  have h2 : (0 * 10 + (b.toNat - 48)) * 10 ^ l.length ≤ 9 * 10 ^ l.length := Nat.mul_le_mul_right _ (by omega)
  omega
theorem ofNat_digit (d : Nat) (h : d < 10) : (UInt8.ofNat (48 + d)).toNat = 48 + d := by simp; omega
theorem dec_all (u : Nat) : (decDigits u).all isD = true := by
 induction u using Nat.strongRecOn with
 | _ u ih =>
  by_cases h : u < 10
  ·rw [decDigits_one h]
   simp [isD]
   omega
  ·rw [decDigits, dif_neg h, List.all_append, ih (u / 10) (by omega)]
   simp [isD]
   omega
theorem dec_num (u : Nat) : numD (decDigits u) = u := by
 induction u using Nat.strongRecOn with
 | _ u ih =>
  by_cases h : u < 10
  ·rw [decDigits_one h]
   simp only [numD, numG, List.foldl_cons, List.foldl_nil]
   rw [ofNat_digit u h]
   omega
  ·rw [decDigits, dif_neg h, numD_append, ih (u / 10) (by omega)]
   simp only [numD, numG, List.foldl_cons, List.foldl_nil, List.length_cons, List.length_nil]
   rw [ofNat_digit (u % 10) (by omega)]
   omega
theorem dec_len (k u : Nat) (hk : 1 ≤ k) (h : u < 10 ^ k) : 1 ≤ (decDigits u).length ∧ (decDigits u).length ≤ k := by
 rw [decDigits_length]
 refine ⟨nDigits_pos u, ?_⟩
 induction k generalizing u with
 | zero => omega
 | succ k ih =>
  by_cases hu : u < 10
  ·rw [nDigits_small hu]; omega
  ·rw [nDigits_big hu]
   have : 1 ≤ k := by
    rcases k with _ | k
    ·simp at h; omega
    ·omega
   have := ih (u / 10) this (by rw [Nat.pow_succ] at h; omega)
   omega
theorem dec_five (r : Nat) (h : r < 10000) : decDigits (10000 + r) = [49, UInt8.ofNat (48 + r / 1000), UInt8.ofNat (48 + r / 100 % 10), UInt8.ofNat (48 + r / 10 % 10), UInt8.ofNat (48 + r % 10)] := by
 rw [decDigits, dif_neg (by omega), decDigits, dif_neg (by omega), decDigits, dif_neg (by omega), decDigits, dif_neg (by omega), decDigits_one (by omega)]
 have e1 : (10000 + r) / 10 / 10 / 10 / 10 = 1 := by omega
 have e2 : (10000 + r) / 10 / 10 / 10 % 10 = r / 1000 := by omega
 have e3 : (10000 + r) / 10 / 10 % 10 = r / 100 % 10 := by omega
 have e4 : (10000 + r) / 10 % 10 = r / 10 % 10 := by omega
 have e5 : (10000 + r) % 10 = r % 10 := by omega
 rw [e1, e2, e3, e4, e5]
 rfl
theorem trim_cons_end (l : List UInt8) (c : UInt8) : trimRightB (l ++ [c]) 48 = if c = 48 then trimRightB l 48 else l ++ [c] := by
 unfold trimRightB
 simp only [List.reverse_append, List.reverse_cons, List.reverse_nil, List.nil_append, List.singleton_append, List.dropWhile_cons]
 by_cases h : c = 48
 ·simp [h]
 ·simp [h]
theorem trim_nil : trimRightB [] 48 = [] := rfl
theorem trim_four (a b c d : UInt8) : trimRightB [a, b, c, d] 48 = if d = 48 then (if c = 48 then (if b = 48 then (if a = 48 then [] else [a]) else [a, b]) else [a, b, c]) else [a, b, c, d] := by
 rw [show [a, b, c, d] = [a, b, c] ++ [d] from rfl, trim_cons_end, show [a, b, c] = [a, b] ++ [c] from rfl, trim_cons_end, show [a, b] = [a] ++ [b] from rfl, trim_cons_end, show [a] = [] ++ [a] from rfl, trim_cons_end, trim_nil]
theorem digit_zero (d : Nat) (h : d < 10) : UInt8.ofNat (48 + d) = 48 ↔ d = 0 := by
 constructor
 ·intro e
  have := congrArg UInt8.toNat e
  rw [ofNat_digit d h] at this
  simp at this
  exact this
 ·rintro rfl; rfl
theorem tail_facts (r : Nat) (h : r < 10000) (h0 : r ≠ 0) : digs (tailP r) 1 4 = true ∧ numD (tailP r) * 10 ^ (4 - (tailP r).length) = r := by
 unfold tailP
 rw [dec_five r h]
 simp only [List.drop_succ_cons, List.drop_zero, trim_four]
 have ea := ofNat_digit (r / 1000) (by omega); have eb := ofNat_digit (r / 100 % 10) (by omega); have ec := ofNat_digit (r / 10 % 10) (by omega); have ed := ofNat_digit (r % 10) (by omega)
 have za := digit_zero (r / 1000) (by omega); have zb := digit_zero (r / 100 % 10) (by omega); have zc := digit_zero (r / 10 % 10) (by omega); have zd := digit_zero (r % 10) (by omega)
 generalize UInt8.ofNat (48 + r / 1000) = a at *
 generalize UInt8.ofNat (48 + r / 100 % 10) = b at *
 generalize UInt8.ofNat (48 + r / 10 % 10) = c at *
 generalize UInt8.ofNat (48 + r % 10) = d at *
 repeat' split
 all_goals simp_all only [true_iff, false_iff]
 all_goals simp [digs, isD, numD, numG, *]
 all_goals omega
theorem tail_zero : tailP 0 = [] := by
 unfold tailP
 rw [dec_five 0 (by decide)]
 simp only [List.drop_succ_cons, List.drop_zero, trim_four]
 decide
end Go.Proofs.YtljmklbbngpllaaGreatDoor
