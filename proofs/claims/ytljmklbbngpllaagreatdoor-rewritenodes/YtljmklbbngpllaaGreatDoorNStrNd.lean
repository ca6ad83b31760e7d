/- NStr. -/
import Derived.Lib.IndexMore
import Derived.Lib.TrimByte
import Derived.Test.YtljmklbbngpllaaGreatDoorNLoopNd
set_option linter.unusedVariables false
set_option linter.unusedSimpArgs false
set_option maxHeartbeats 16000000
set_option maxRecDepth 100000
namespace Go.Proofs.YtljmklbbngpllaaGreatDoor
open Go.Lib
def isD (b : UInt8) : Bool := decide (48 ≤ b.toNat) && decide (b.toNat ≤ 57)
def lQ (n : Nat) (l : List UInt8) : Nat := l.foldl (fun n b => n * 10 + (b.toNat - 48)) n
def fM (l : List UInt8) : Nat := lQ 0 l
def jS (l : List UInt8) (least most : Nat) : Bool := l.all isD && decide (least ≤ l.length) && decide (l.length ≤ most)
def fP (l : List UInt8) (most : Nat) : Int × Bool := if jS l 1 most = true then ((fM l : Nat), true) else (0, false)
def dash (l : List UInt8) : Bool := l.head? == some 45
def body (l : List UInt8) : List UInt8 := if dash l = true then l.drop 1 else l
def jT (l : List UInt8) : List UInt8 := l.takeWhile (· != 46)
def fO (l : List UInt8) : List UInt8 := (l.dropWhile (· != 46)).drop 1
def sV (l : List UInt8) : Bool := !(l.dropWhile (· != 46)).isEmpty
def aIl (s : List UInt8) : Nat := if sV s = true then fM (fO s) * 10 ^ (4 - (fO s).length) else 0
def bZ (l : List UInt8) : Int × Bool :=
 if jS (jT (body l)) 1 12 = true ∧ (sV (body l) = true → jS (fO (body l)) 1 4 = true)
 then ans (aCx ((fM (jT (body l)) * 10000 + aIl (body l) : Nat) : Int) (dash l)) else (0, false)
def jU (r : Nat) : List UInt8 := trimRightB ((decDigits (10000 + r)).drop 1) 48
def iE (n : Int) : List UInt8 := (if n < 0 then [45] else []) ++ decDigits (n.natAbs / 10000) ++ (if n.natAbs % 10000 = 0 then [] else 46 :: jU (n.natAbs % 10000))
theorem nV (n : Nat) (b : UInt8) (l : List UInt8) : lQ n (b :: l) = lQ (n * 10 + (b.toNat - 48)) l := by unfold lQ; rw [List.foldl_cons]
theorem xH (n : Nat) (l m : List UInt8) : lQ n (l ++ m) = lQ (lQ n l) m := by simp [lQ]
theorem pX : ∀ (l : List UInt8) (n : Nat), lQ n l = n * 10 ^ l.length + fM l
 | [], n => by simp [lQ, fM]
 | b :: l, n => by
  have e1 := pX l (n * 10 + (b.toNat - 48))
  have e2 := pX l (0 * 10 + (b.toNat - 48))
  have e3 : fM (b :: l) = lQ (0 * 10 + (b.toNat - 48)) l := nV 0 b l
  rw [nV, e1, e3, e2]
  generalize fM l = d
  generalize b.toNat - 48 = c
  simp only [List.length_cons, Nat.pow_succ, Nat.add_mul, Nat.zero_mul, Nat.zero_add]
  rw [Nat.mul_assoc, Nat.mul_comm 10 (10 ^ l.length)]
  generalize n * (10 ^ l.length * 10) = x
  generalize c * 10 ^ l.length = y
  omega
theorem oV (l m : List UInt8) : fM (l ++ m) = fM l * 10 ^ m.length + fM m := by
 unfold fM
 rw [xH, pX]
 rfl
theorem vF : ∀ (l : List UInt8), l.all isD = true → fM l < 10 ^ l.length
 | [], _ => by decide
 | b :: l, h => by
  simp [isD] at h
  have := vF l (by simpa [isD] using h.2)
  unfold fM
  rw [nV, pX]
  simp only [List.length_cons, Nat.pow_succ]
  have h2 : (0 * 10 + (b.toNat - 48)) * 10 ^ l.length ≤ 9 * 10 ^ l.length := Nat.mul_le_mul_right _ (by omega)
  omega
theorem dX (d : Nat) (h : d < 10) : (UInt8.ofNat (48 + d)).toNat = 48 + d := by simp; omega
theorem aGy (u : Nat) : (decDigits u).all isD = true := by
 induction u using Nat.strongRecOn with
 | _ u ih =>
  by_cases h : u < 10
  ·rw [decDigits_one h]
   simp [isD]
   omega
  ·rw [decDigits, dif_neg h, List.all_append, ih (u / 10) (by omega)]
   simp [isD]
   omega
theorem aKl (u : Nat) : fM (decDigits u) = u := by
 induction u using Nat.strongRecOn with
 | _ u ih =>
  by_cases h : u < 10
  ·rw [decDigits_one h]
   simp only [fM, lQ, List.foldl_cons, List.foldl_nil]
   rw [dX u h]
   omega
  ·rw [decDigits, dif_neg h, oV, ih (u / 10) (by omega)]
   simp only [fM, lQ, List.foldl_cons, List.foldl_nil, List.length_cons, List.length_nil]
   rw [dX (u % 10) (by omega)]
   omega
theorem vG (k u : Nat) (hk : 1 ≤ k) (h : u < 10 ^ k) : 1 ≤ (decDigits u).length ∧ (decDigits u).length ≤ k := by
 rw [decDigits_length]
 refine ⟨nDigits_pos u, ?_⟩
 induction k generalizing u with
 | zero => omega
 | succ k ih =>
  by_cases hu : u < 10
  ·rw [nDigits_small hu]; omega
  ·rw [nDigits_big hu]
   have : 1 ≤ k := by
    rcases k with _ | k
    ·simp at h; omega
    ·omega
   have := ih (u / 10) this (by rw [Nat.pow_succ] at h; omega)
   omega
theorem qI (r : Nat) (h : r < 10000) : decDigits (10000 + r) = [49, UInt8.ofNat (48 + r / 1000), UInt8.ofNat (48 + r / 100 % 10), UInt8.ofNat (48 + r / 10 % 10), UInt8.ofNat (48 + r % 10)] := by
 rw [decDigits, dif_neg (by omega), decDigits, dif_neg (by omega), decDigits, dif_neg (by omega), decDigits, dif_neg (by omega), decDigits_one (by omega)]
 have e1 : (10000 + r) / 10 / 10 / 10 / 10 = 1 := by omega
 have e2 : (10000 + r) / 10 / 10 / 10 % 10 = r / 1000 := by omega
 have e3 : (10000 + r) / 10 / 10 % 10 = r / 100 % 10 := by omega
 have e4 : (10000 + r) / 10 % 10 = r / 10 % 10 := by omega
 have e5 : (10000 + r) % 10 = r % 10 := by omega
 rw [e1, e2, e3, e4, e5]
 rfl
theorem fZ (l : List UInt8) (c : UInt8) : trimRightB (l ++ [c]) 48 = if c = 48 then trimRightB l 48 else l ++ [c] := by
 unfold trimRightB
 simp only [List.reverse_append, List.reverse_cons, List.reverse_nil, List.nil_append, List.singleton_append, List.dropWhile_cons]
 by_cases h : c = 48
 ·simp [h]
 ·simp [h]
theorem aEd : trimRightB [] 48 = [] := rfl
theorem tK (a b c d : UInt8) : trimRightB [a, b, c, d] 48 = if d = 48 then (if c = 48 then (if b = 48 then (if a = 48 then [] else [a]) else [a, b]) else [a, b, c]) else [a, b, c, d] := by
 rw [show [a, b, c, d] = [a, b, c] ++ [d] from rfl, fZ, show [a, b, c] = [a, b] ++ [c] from rfl, fZ, show [a, b] = [a] ++ [b] from rfl, fZ, show [a] = [] ++ [a] from rfl, fZ, aEd]
theorem iV (d : Nat) (h : d < 10) : UInt8.ofNat (48 + d) = 48 ↔ d = 0 := by
 constructor
 ·intro e
  have := congrArg UInt8.toNat e
  rw [dX d h] at this
  simp at this
  exact this
 ·rintro rfl; rfl
theorem qJ (r : Nat) (h : r < 10000) (h0 : r ≠ 0) : jS (jU r) 1 4 = true ∧ fM (jU r) * 10 ^ (4 - (jU r).length) = r := by
 unfold jU
 rw [qI r h]
 simp only [List.drop_succ_cons, List.drop_zero, tK]
 have ea := dX (r / 1000) (by omega); have eb := dX (r / 100 % 10) (by omega); have ec := dX (r / 10 % 10) (by omega); have ed := dX (r % 10) (by omega)
 have za := iV (r / 1000) (by omega); have zb := iV (r / 100 % 10) (by omega); have zc := iV (r / 10 % 10) (by omega); have zd := iV (r % 10) (by omega)
 generalize UInt8.ofNat (48 + r / 1000) = a at *
 generalize UInt8.ofNat (48 + r / 100 % 10) = b at *
 generalize UInt8.ofNat (48 + r / 10 % 10) = c at *
 generalize UInt8.ofNat (48 + r % 10) = d at *
 repeat' split
 all_goals simp_all only [true_iff, false_iff]
 all_goals simp [jS, isD, fM, lQ, *]
 all_goals omega
theorem aCy : jU 0 = [] := by
 unfold jU
 rw [qI 0 (by decide)]
 simp only [List.drop_succ_cons, List.drop_zero, tK]
 decide
end Go.Proofs.YtljmklbbngpllaaGreatDoor
