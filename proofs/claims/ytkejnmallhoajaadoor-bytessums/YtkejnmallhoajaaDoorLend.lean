/- The contracts of Lend and Kept: bytes in the middle of greater memory. -/
import Derived.Test.YtkejnmallhoajaaDoorRefFrame
import Derived.Test.YtkejnmallhoajaaDoorTellsWalk
namespace Go.Proofs.YtkejnmallhoajaaDoor
open Go.RowKit
set_option maxRecDepth 100000

theorem own_made (w : World) (n : Nat) (hn : n ≤ maxLen) : Own w.heap.size (w.alloc (.cells (madeCells #[.int .u8 0] n) 5)) (.slice (some ⟨w.heap.size, 0, none⟩) n n) (List.replicate n 0) := by
  refine ⟨by simp [bcells], .inr ⟨w.heap.size, n, madeCells #[.int .u8 0] n, by simp, Nat.le_refl _, heap_alloc_new w _, by simp, hn, by rw [size_madeCells, Nat.mul_one], ?_⟩⟩
  rw [List.length_replicate, Nat.mul_one, List.take_of_length_le (by simp [size_madeCells])]
  apply List.ext_getElem?
  intro i
  by_cases h : i < n
  · simp [madeCells, bcells, h, Nat.mod_one]
  · rw [List.getElem?_eq_none (by simp [size_madeCells]; omega), List.getElem?_eq_none (by simp [bcells]; omega)]

/-- What lies there behind k bytes. -/
def lent (l : List UInt8) (k : Nat) : List UInt8 := 165 :: (l.take k ++ (List.replicate (l.length - k) 0 ++ [90]))
theorem lent_zero (l : List UInt8) : ((List.replicate (l.length + 2) (0 : UInt8)).set 0 165).set (l.length + 1) 90 = lent l 0 := by
  unfold lent
  rw [List.replicate_succ, List.set_cons_zero, List.set_cons_succ, Nat.sub_zero, List.take_zero, List.nil_append, List.replicate_succ']
  congr 1
  rw [List.set_append, if_neg (by simp)]
  simp
theorem lent_succ {l : List UInt8} {k : Nat} (h : k < l.length) : (lent l k).set (k + 1) l[k] = lent l (k + 1) := by
  unfold lent
  rw [List.set_cons_succ]
  congr 1
  have hk : (l.take k).length = k := by simp; omega
  obtain ⟨m, hm⟩ : ∃ m, l.length - k = m + 1 := ⟨l.length - k - 1, by omega⟩
  rw [List.set_append, if_neg (by omega), hk, Nat.sub_self, hm, List.replicate_succ, List.cons_append, List.set_cons_zero, List.take_add_one, List.getElem?_eq_getElem h, show l.length - (k + 1) = m by omega, List.append_assoc]
  rfl
theorem lent_length (l : List UInt8) (k : Nat) (h : k ≤ l.length) : (lent l k).length = l.length + 2 := by
  unfold lent
  simp
  omega
theorem lent_all (l : List UInt8) : lent l l.length = 165 :: (l ++ [90]) := by
  unfold lent
  simp

set_option maxHeartbeats 2000000 in
theorem lend_any {w : World} {x : Value} {l : List UInt8} (h : Bts w x l) (hl : l.length ≤ 150000) :
    Calls Tryd.prog 8 #[x] w fun e w' => e = .returned (.tuple #[.slice (some ⟨w.heap.size, 0, none⟩) (l.length + 2) (l.length + 2), .slice (some ⟨w.heap.size, 1, none⟩) l.length (l.length + 1)]) ∧
      Own w.heap.size w' (.slice (some ⟨w.heap.size, 0, none⟩) (l.length + 2) (l.length + 2)) (165 :: (l ++ [90])) ∧ Below w.heap.size w w' := by
  obtain ⟨i0, hi, hz0, hz1, hz2⟩ := info_parts info5
  have H : Hid (Bts w x l) := h
  obtain ⟨a, c, rfl, _, _⟩ := h.slice
  clear h
  obtain ⟨W0, mk, o0, b0⟩ : ∃ W0, (Instr.makeSlice 22 (.int .i64 ((l.length : Int) + 2)) (.int .i64 ((l.length : Int) + 2))).run Tryd.prog w = .ok (.slice (some ⟨w.heap.size, 0, none⟩) (l.length + 2) (l.length + 2)) W0 ∧
      Own w.heap.size W0 (.slice (some ⟨w.heap.size, 0, none⟩) (l.length + 2) (l.length + 2)) (List.replicate (l.length + 2) 0) ∧ Below w.heap.size w W0 :=
    ⟨_, by simpa using run_make_row (P := Tryd.prog) 22 5 i0 (.int .u8 0) Tryd.underlying22 hi hz0 hz1 rfl .i64 .i64 (l.length + 2) (by rw [hz2]; omega) (by omega) w, own_made w _ (by simp only [maxLen]; omega), (Below.refl _ w).alloc (Nat.le_refl _) _⟩
  obtain ⟨g1, k1, e1, hg1, c1, f1, o1⟩ := own_store o0 (p := 0) (by simp) 165
  simp only [Value.slice.injEq, Option.some.injEq, Addr.mk.injEq] at e1
  obtain ⟨⟨rfl, -, -⟩, -, -⟩ := e1
  obtain ⟨g2, k2, e2, hg2, c2, f2, o2⟩ := own_store o1 (p := l.length + 1) (by simp) 90
  simp only [Value.slice.injEq, Option.some.injEq, Addr.mk.injEq] at e2
  obtain ⟨⟨rfl, -, -⟩, -, -⟩ := e2
  rw [lent_zero] at o2
  have B2 : Hid (Below w.heap.size w ((W0.setCell ⟨w.heap.size, 0, none⟩ (.int .u8 165)).setCell ⟨w.heap.size, l.length + 1, none⟩ (.int .u8 90))) := (b0.setCell hg1 _).setCell hg2 _
  have O2 : Hid (Own w.heap.size ((W0.setCell ⟨w.heap.size, 0, none⟩ (.int .u8 165)).setCell ⟨w.heap.size, l.length + 1, none⟩ (.int .u8 90)) (.slice (some ⟨w.heap.size, 0, none⟩) (l.length + 2) (l.length + 2)) (lent l 0)) := o2
  generalize (List.replicate (l.length + 2) (0 : UInt8))[0].toNat = z1 at c1
  generalize (((List.replicate (l.length + 2) (0 : UInt8)).set 0 165)[l.length + 1]).toNat = z2 at c2
  have c1' : W0.cell? ⟨w.heap.size, 0, none⟩ = some (.int .u8 z1) := c1
  have c2' : (W0.setCell ⟨w.heap.size, 0, none⟩ (.int .u8 165)).cell? ⟨w.heap.size, l.length + 1, none⟩ = some (.int .u8 z2) := c2
  have f2' : (W0.setCell ⟨w.heap.size, 0, none⟩ (.int .u8 165)).frozen? ⟨w.heap.size, l.length + 1, none⟩ = false := f2
  clear o0 o1 o2 b0 c1 c2 f2
  go_enter Tryd.func8, Tryd.ntmps8
  go_wp2_with fail
  generalize (W0.setCell ⟨w.heap.size, 0, none⟩ (.int .u8 165)).setCell ⟨w.heap.size, l.length + 1, none⟩ (.int .u8 90) = W2 at *
  clear c1' c2' f2' mk f1
  go_loopw [20] (fun u20 wr => ∃ k : Nat, u20 = .int .i64 k ∧ k ≤ l.length ∧ Hid (Own w.heap.size wr (.slice (some ⟨w.heap.size, 0, none⟩) (l.length + 2) (l.length + 2)) (lent l k) ∧ Below w.heap.size w wr)) (fun u20 _ => l.length - (intOf u20).toNat)
  case atStart => exact ⟨0, rfl, by omega, O2.out, B2.out⟩
  case round =>
    obtain ⟨k, rfl, hk, HD⟩ := hrel
    clear O2 B2
    by_cases hlt : k < l.length
    · obtain ⟨oD, bD⟩ := HD.out
      obtain ⟨a', rfl, cx⟩ : ∃ a', a = some a' ∧ wr.cell? (a'.add k) = some (.int .u8 l[k].toNat) := by
        rcases H.out.below bD with ⟨_, h1⟩ | ⟨a', cap, h1, _, _, h4⟩
        · rw [h1] at hlt; simp at hlt
        · simp only [Value.slice.injEq] at h1
          exact ⟨a', h1.1, h4 k _ (bcells_get hlt)⟩
      have hp1 : k + 1 < (lent l k).length := by rw [lent_length l k hk]; omega
      obtain ⟨g1, k1, e1, hg1, c1, f1, o1⟩ := own_store oD (p := k + 1) hp1 l[k]
      simp only [Value.slice.injEq, Option.some.injEq, Addr.mk.injEq] at e1
      obtain ⟨⟨rfl, -, -⟩, -, -⟩ := e1
      rw [lent_succ hlt] at o1
      have HE : Hid (Own w.heap.size (wr.setCell ⟨w.heap.size, k + 1, none⟩ (.int .u8 l[k].toNat)) (.slice (some ⟨w.heap.size, 0, none⟩) (l.length + 2) (l.length + 2)) (lent l (k + 1)) ∧ Below w.heap.size w (wr.setCell ⟨w.heap.size, k + 1, none⟩ (.int .u8 l[k].toNat))) := ⟨o1, bD.setCell hg1 _⟩
      generalize (lent l k)[k + 1].toNat = z at c1
      generalize l[k].toNat = y at *
      clear HD oD bD o1
      go_wp2
      go_roundw
      case rel => exact ⟨k + 1, by go_num, by omega, HE⟩
      case measure => simp [intOf]; omega
    · have HE : Hid (Own w.heap.size wr (.slice (some ⟨w.heap.size, 0, none⟩) (l.length + 2) (l.length + 2)) (165 :: (l ++ [90])) ∧ Below w.heap.size w wr) := by
        have h1 := HD.out
        rw [show k = l.length by omega, lent_all] at h1
        exact h1
      clear HD
      have j1 : (l.length : Int) + 1 ≤ (l.length : Int) + 2 := by omega
      have j2 : (1 : Int) ≤ (l.length : Int) + 1 := by omega
      have j3 : l.length + 1 ≤ l.length + 2 := by omega
      have j4 : (0 : Int) ≤ (l.length : Int) + 1 := by omega
      have q1 : IntKind.i64.wrap ((l.length : Int) + 1) = (l.length : Int) + 1 := by rw [IntKind.wrap_i64]; omega
      go_wp2
      go_region
      go_wp2
      go_ret2
      exact ⟨rfl, HE.out.1, HE.out.2.drew⟩
end Go.Proofs.YtkejnmallhoajaaDoor
