/- Texts of days, as Lean functions of lists of bytes; the library's Itoa. -/
import Derived.Test.YtnjkckkcepkaoaaDoorDWeek
import Derived.Test.YtnjkckkcepkaoaaDoorShelf
import Derived.Lib.ItoaNum
import Derived.Lib.AppendIntMem
import Derived.Lib.LaidTab
import Derived.Laws.IdiomStrings
namespace Go.Proofs.YtnjkckkcepkaoaaDoor
set_option linter.unusedVariables false
section
open Go.Lib
def isD (b : UInt8) : Bool := decide (48 ≤ b.toNat) && decide (b.toNat ≤ 57)
def numG (n : Nat) (l : List UInt8) : Nat := l.foldl (fun n b => n * 10 + (b.toNat - 48)) n
def numD (l : List UInt8) : Nat := numG 0 l
theorem numG_cons (n : Nat) (b : UInt8) (l : List UInt8) : numG n (b :: l) = numG (n * 10 + (b.toNat - 48)) l := by unfold numG; rw [List.foldl_cons]
theorem numG_append (n : Nat) (l m : List UInt8) : numG n (l ++ m) = numG (numG n l) m := by simp [numG]
set_option maxRecDepth 10000 in
theorem numG_eq : ∀ (l : List UInt8) (n : Nat), numG n l = n * 10 ^ l.length + numD l
  | [], n => by simp [numG, numD]
  | b :: l, n => by
    have e1 := numG_eq l (n * 10 + (b.toNat - 48))
    have e2 := numG_eq l (0 * 10 + (b.toNat - 48))
    have e3 : numD (b :: l) = numG (0 * 10 + (b.toNat - 48)) l := numG_cons 0 b l
    rw [numG_cons, e1, e3, e2]
    generalize numD l = d
    generalize b.toNat - 48 = c
    simp only [List.length_cons, Nat.pow_succ, Nat.add_mul, Nat.zero_mul, Nat.zero_add]
    rw [Nat.mul_assoc, Nat.mul_comm 10 (10 ^ l.length)]
    generalize n * (10 ^ l.length * 10) = x
    generalize c * 10 ^ l.length = y
    omega
theorem numD_append (l m : List UInt8) : numD (l ++ m) = numD l * 10 ^ m.length + numD m := by
  unfold numD
  rw [numG_append, numG_eq]
  rfl
theorem numD_zeros : ∀ k, numD (List.replicate k 48) = 0
  | 0 => rfl
  | k + 1 => by
    rw [List.replicate_succ']
    rw [numD_append, numD_zeros k]
    rfl
theorem numD_lt : ∀ (l : List UInt8), l.all isD = true → numD l < 10 ^ l.length
  | [], _ => by decide
  | b :: l, h => by
    simp [isD] at h
    have := numD_lt l (by simpa [isD] using h.2)
    unfold numD
    rw [numG_cons, numG_eq]
    simp only [List.length_cons, Nat.pow_succ]
    have h2 : (0 * 10 + (b.toNat - 48)) * 10 ^ l.length ≤ 9 * 10 ^ l.length := Nat.mul_le_mul_right _ (by omega)
    omega

theorem ofNat_digit (d : Nat) (h : d < 10) : (UInt8.ofNat (48 + d)).toNat = 48 + d := by simp; omega
theorem dec_all (u : Nat) : (decDigits u).all isD = true := by
  induction u using Nat.strongRecOn with
  | _ u ih =>
    by_cases h : u < 10
    · rw [decDigits_one h]
      simp [isD]
      omega
    · rw [decDigits, dif_neg h, List.all_append, ih (u / 10) (by omega)]
      simp [isD]
      omega
theorem dec_num (u : Nat) : numD (decDigits u) = u := by
  induction u using Nat.strongRecOn with
  | _ u ih =>
    by_cases h : u < 10
    · rw [decDigits_one h]
      simp only [numD, numG, List.foldl_cons, List.foldl_nil]
      rw [ofNat_digit u h]
      omega
    · rw [decDigits, dif_neg h, numD_append, ih (u / 10) (by omega)]
      simp only [numD, numG, List.foldl_cons, List.foldl_nil, List.length_cons, List.length_nil]
      rw [ofNat_digit (u % 10) (by omega)]
      omega
theorem dec_len (k u : Nat) (hk : 1 ≤ k) (h : u < 10 ^ k) : 1 ≤ (decDigits u).length ∧ (decDigits u).length ≤ k := by
  rw [decDigits_length]
  refine ⟨nDigits_pos u, ?_⟩
  induction k generalizing u with
  | zero => omega
  | succ k ih =>
    by_cases hu : u < 10
    · rw [nDigits_small hu]; omega
    · rw [nDigits_big hu]
      have : 1 ≤ k := by
        rcases k with _ | k
        · simp at h; omega
        · omega
      have := ih (u / 10) this (by rw [Nat.pow_succ] at h; omega)
      omega
theorem take_snoc (l : List UInt8) (pos : Nat) (h : pos < l.length) : l.take (pos + 1) = l.take pos ++ [l[pos]] := by
  rw [List.take_add_one, List.getElem?_eq_getElem h]
  rfl
theorem byte_at (s : ByteArray) (pos : Nat) (h : pos < s.size) (h2 : pos < s.data.toList.length) : s[pos] = s.data.toList[pos] := by
  simp
  rfl
theorem size_list (s : ByteArray) : s.data.toList.length = s.size := by
  simp only [Array.length_toList]
  rfl
theorem size_mk (l : List UInt8) : (⟨l.toArray⟩ : ByteArray).size = l.length := by
  show l.toArray.size = _
  simp

/-- The number of a text of digits; -1 of any other. -/
def numT (l : List UInt8) : Int := if l.all isD = true then ((numD l : Nat) : Int) else -1
theorem numT_yes {l : List UInt8} (h : l.all isD = true) : numT l = ((numD l : Nat) : Int) := if_pos h
theorem numT_no {l : List UInt8} (h : l.all isD = false) : numT l = -1 := by unfold numT; rw [h]; rfl
theorem numT_dec (n : Nat) : numT (decDigits n) = n := by rw [numT_yes (dec_all n), dec_num]
/-- A number in two digits. -/
def pad2 (n : Nat) : List UInt8 := if n < 10 then 48 :: decDigits n else decDigits n
theorem pad2_num (n : Nat) : numT (pad2 n) = n := by
  unfold pad2
  split
  · have ha : (48 :: decDigits n).all isD = true := by rw [List.all_cons, dec_all]; decide
    rw [numT_yes ha]
    have : numD (48 :: decDigits n) = numD (decDigits n) := by
      unfold numD
      rw [numG_cons]
      rfl
    rw [this, dec_num]
  · exact numT_dec n
theorem dec_len4 (y : Nat) (h1 : 1000 ≤ y) (h2 : y ≤ 9999) : (decDigits y).length = 4 := by
  rw [decDigits, dif_neg (by omega), decDigits, dif_neg (by omega), decDigits, dif_neg (by omega), decDigits_one (by omega)]
  rfl
theorem pad2_len (n : Nat) (h : n < 100) : (pad2 n).length = 2 := by
  unfold pad2
  split
  · rw [decDigits_one (by omega)]; rfl
  · rw [decDigits, dif_neg (by omega), decDigits_one (by omega)]; rfl
def printD (y m d : Nat) : List UInt8 := decDigits y ++ [45] ++ pad2 m ++ [45] ++ pad2 d
end
open Go.RowKit
theorem drewN_below (w : World) : ∀ n, Below w.heap.size w (w.drewN n)
  | 0 => by rw [World.drewN_zero]; exact Below.refl _ _
  | n + 1 => by
    have := drewN_below w n
    exact ⟨this.os, this.tape, this.output, this.size, this.block⟩
/-- The table of the powers of ten lies in the library's variable. -/
def PTab (w : World) : Prop := Lib.TabIs Tryd.prog w "internal/strconv.uint64pow10" .u64 Lib.pow10Tab
theorem PTab.below {w w' : World} (h : PTab w) (hb : Below w.heap.size w w') : PTab w' := Lib.tabBelow_of_tabIs h w' hb
theorem PTab.below2 {w w' : World} {B : Nat} (h : PTab w) (hb : Below B w w') (hB : w.heap.size ≤ B) : PTab w' := h.below (hb.mono hB)
theorem grow_below (w : World) (k : Nat) (os : Array Obj) : Below w.heap.size w (Sort.grow (w.drewN k) os) := by
  have h := drewN_below w k
  have hk : (w.drewN k).heap.size = w.heap.size ∧ ∀ i, i < w.heap.size → (w.drewN k).heap[i]? = w.heap[i]? := by
    refine ⟨?_, h.block⟩
    clear h
    induction k with
    | zero => rw [World.drewN_zero]
    | succ n ih => exact ih
  refine ⟨h.os, h.tape, h.output, ?_, fun i hi => ?_⟩
  · show w.heap.size ≤ ((w.drewN k).heap ++ os).size
    simp only [Array.size_append]; omega
  · show ((w.drewN k).heap ++ os)[i]? = _
    rw [Array.getElem?_append_left (by omega)]
    exact hk.2 i hi
theorem itoa_any (n : Nat) (hn : n ≤ 9223372036854775807) (w : World) (T : PTab w) :
    Calls Tryd.prog 38 #[.int .i64 n] w fun e w' => e = .returned (.string ⟨(Lib.decDigits n).toArray⟩) ∧ Below w.heap.size w w' := by
  have h := Tryd.strconv_Itoa n (by omega) (by omega) w T
  refine h.mono ?_
  rintro e w' ⟨rfl, k, os, rfl⟩
  refine ⟨?_, grow_below w k os⟩
  unfold Lib.itoa
  rw [if_neg (by omega), Int.toNat_natCast]
theorem app_mk (a b : List UInt8) : (⟨a.toArray⟩ : ByteArray) ++ ⟨b.toArray⟩ = ⟨(a ++ b).toArray⟩ := by
  apply ByteArray.ext
  simp
theorem drop_mk (a : List UInt8) : (⟨a.toArray⟩ : ByteArray).extract 1 (⟨a.toArray⟩ : ByteArray).size = ⟨(a.drop 1).toArray⟩ := by
  apply ByteArray.ext
  simp only [size_mk]
  simp
  exact List.take_of_length_le (by simp)

end Go.Proofs.YtnjkckkcepkaoaaDoor
