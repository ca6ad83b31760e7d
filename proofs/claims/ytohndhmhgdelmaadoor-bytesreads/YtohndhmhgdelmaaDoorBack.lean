/- What is written is read: numbers, and lists of them. No walk. -/
import Derived.Test.YtohndhmhgdelmaaDoorTake
import Derived.Test.YtohndhmhgdelmaaDoorWhole
namespace Go.Proofs.YtohndhmhgdelmaaDoor

theorem numAux_digits (r : List UInt8) : ∀ (u i acc : Nat), i ≤ 9 → u * 128 ^ i < 18446744073709551616 → (0 < i → 0 < u) → numAux i acc (digits u ++ r) = some (acc + u * 128 ^ i, r) := by
  intro u
  induction u using Nat.strongRecOn with
  | _ u ih =>
    intro i acc hi hu h0
    have e9 : (128 : Nat) ^ 9 = 9223372036854775808 := by decide
    by_cases hs : u < 128
    · rw [digits_small hs]
      have ht : (UInt8.ofNat u).toNat = u := by simp; omega
      have h9 : ¬ (i = 9 ∧ 1 < u) := by
        rintro ⟨rfl, h⟩
        have : 2 * 128 ^ 9 ≤ u * 128 ^ 9 := Nat.mul_le_mul_right _ h
        omega
      show numAux i acc (UInt8.ofNat u :: r) = _
      rw [numAux_end (by rw [ht]; exact h9) (by rw [ht]; exact hs) (by rw [ht]; omega), ht, Nat.mod_eq_of_lt hs]
    · rw [digits_big (by omega)]
      have ht : (UInt8.ofNat (u % 128 + 128)).toNat = u % 128 + 128 := by simp; omega
      have h9 : i < 9 := by
        rcases Nat.lt_or_ge i 9 with h | h
        · exact h
        · have : i = 9 := by omega
          subst this
          have : 128 * 128 ^ 9 ≤ u * 128 ^ 9 := Nat.mul_le_mul_right _ (by omega)
          omega
      have hp : u = 128 * (u / 128) + u % 128 := by omega
      have hm : u * 128 ^ i = u % 128 * 128 ^ i + u / 128 * 128 ^ (i + 1) := by
        rw [Nat.pow_succ]
        generalize 128 ^ i = p
        conv => lhs; rw [hp, Nat.add_mul]
        rw [Nat.add_comm, Nat.mul_comm p 128, Nat.mul_comm 128 (u / 128), Nat.mul_assoc]
      show numAux i acc (UInt8.ofNat (u % 128 + 128) :: (digits (u / 128) ++ r)) = _
      rw [numAux, ht, if_neg (by omega), if_pos (by omega), ih (u / 128) (by omega) (i + 1) _ (by omega) (by omega) (by omega), hm]
      congr 2
      have : (u % 128 + 128) % 128 = u % 128 := by omega
      rw [this]
      omega

theorem numAux_numB {n : Int} (h : In64 n) (r : List UInt8) : numAux 0 0 (numB n ++ r) = some (foldN n, r) := by
  have := numAux_digits r (foldN n) 0 0 (by omega) (by have := foldN_lt h; simpa using this) (by omega)
  simpa [numB] using this
theorem unfold_fold (n : Int) : unfoldI (foldN n) = n := by
  unfold unfoldI foldN
  split <;> split <;> omega
theorem digits_pos (u : Nat) : 1 ≤ (digits u).length := by
  rw [digits]
  split <;> simp
theorem flat_ge (ns : List Int) : ns.length ≤ (ns.flatMap numB).length := by
  induction ns with
  | nil => simp
  | cons n r ih =>
    have := digits_pos (foldN n)
    simp only [List.flatMap_cons, List.length_append, List.length_cons, numB]
    omega
theorem takeN_flat (ns : List Int) (h : ∀ n ∈ ns, In64 n) (r : List UInt8) : takeN ns.length (ns.flatMap numB ++ r) = some (ns, r) := by
  induction ns with
  | nil => rfl
  | cons n t ih =>
    have h1 := ih fun m hm => h m (by simp [hm])
    have h2 := numAux_numB (h n (by simp)) (t.flatMap numB ++ r)
    rw [List.flatMap_cons, List.append_assoc, List.length_cons, takeN_cons h2, h1, unfold_fold]
    rfl
theorem read_list (ns : List Int) (h : ∀ n ∈ ns, In64 n) (hl : ns.length ≤ 9223372036854775807) : readI (listB ns) = some ns := by
  have e : listR (listB ns) = some (ns, []) := by
    unfold listR countR listB
    rw [numAux_numB (by constructor <;> omega)]
    dsimp only
    rw [unfold_fold, if_neg (by have := flat_ge ns; omega)]
    dsimp only
    have := takeN_flat ns h []
    simpa using this
  unfold readI
  rw [e]
end Go.Proofs.YtohndhmhgdelmaaDoor
