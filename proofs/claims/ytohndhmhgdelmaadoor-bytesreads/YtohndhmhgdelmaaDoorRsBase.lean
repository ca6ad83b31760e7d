/- The reference's reader: its state, and the contract of its num. -/
import Derived.Test.YtohndhmhgdelmaaDoorWholeO
import Derived.Test.YtohndhmhgdelmaaDoorRefOps
import Derived.Lib.Zigzag
namespace Go.Proofs.YtohndhmhgdelmaaDoor
open Go.RowKit
set_option maxRecDepth 100000

theorem add_zero_addr (a : Addr) : a.add 0 = a := by unfold Addr.add; rfl
/-- The reader's block: the bytes that are left, and whether they are wrong. -/
def RS (B : Nat) (w : World) (rb : Nat) (l : List UInt8) (wr : Bool) : Prop := B ≤ rb ∧ ∃ v, w.heap[rb]? = some (.cells #[v, .bool wr] 75 (0, 0)) ∧ Bts w v l ∧ Low B v l
theorem Bts.low_kept {B : Nat} {w w' : World} {v : Value} {l : List UInt8} (h : Bts w v l) (hlow : Low B v l) (hk : ∀ i, i < B → w'.heap[i]? = w.heap[i]?) : Bts w' v l := by
  rcases h with h | ⟨a, cap, e1, e2, e3, e4⟩
  · exact .inl h
  · refine .inr ⟨a, cap, e1, e2, e3, fun j u hj => ?_⟩
    rw [← e4 j u hj]
    refine World.cell?_of_block (hk _ ?_)
    rw [addr_block]
    exact hlow (by rintro rfl; simp [bcells] at hj) a _ _ e1
theorem RS.kept {B base : Nat} {w w' : World} {rb : Nat} {l : List UInt8} {wr : Bool} (h : RS B w rb l wr) (hrb : rb < base) (hk : Below base w w') : RS B w' rb l wr := by
  obtain ⟨h0, v, h1, h2, h3⟩ := h
  exact ⟨h0, v, (hk.block rb hrb).trans h1, h2.low_kept h3 fun i hi => hk.block i (by omega), h3⟩
theorem rs_set {B : Nat} {w : World} {rb : Nat} {v0 : Value} {wr : Bool} (hB : B ≤ rb) (h1 : w.heap[rb]? = some (.cells #[v0, .bool wr] 75 (0, 0))) {x : Value} {l : List UInt8} (h : Bts w x l) (hlow : Low B x l) :
    RS B (w.setCell ⟨rb, 0, none⟩ x) rb l wr ∧ w.grownBy (w.setCell ⟨rb, 0, none⟩ x) (some rb) := by
  have hk : ∀ k, k ≠ rb → (w.setCell ⟨rb, 0, none⟩ x).heap[k]? = w.heap[k]? := fun k hk => Below.heap_setCell w _ x k (by simpa using hk)
  refine ⟨⟨hB, x, ?_, h.low_kept hlow fun i hi => hk i (by omega), hlow⟩, ⟨rfl, rfl, rfl, by simp [World.setCell], fun k _ hne => hk k fun e => hne (by rw [e])⟩⟩
  simp [World.setCell, Array.getElem?_modify, h1]
theorem rs_wrong {B : Nat} {w : World} {rb : Nat} {v0 : Value} {wr : Bool} (hB : B ≤ rb) (h1 : w.heap[rb]? = some (.cells #[v0, .bool wr] 75 (0, 0))) {l : List UInt8} (h : Bts w v0 l) (hlow : Low B v0 l) :
    RS B (w.setCell ⟨rb, 1, none⟩ (.bool true)) rb l true ∧ w.grownBy (w.setCell ⟨rb, 1, none⟩ (.bool true)) (some rb) := by
  have hk : ∀ k, k ≠ rb → (w.setCell ⟨rb, 1, none⟩ (.bool true)).heap[k]? = w.heap[k]? := fun k hk => Below.heap_setCell w _ _ k (by simpa using hk)
  refine ⟨⟨hB, v0, ?_, h.low_kept hlow fun i hi => hk i (by omega), hlow⟩, ⟨rfl, rfl, rfl, by simp [World.setCell], fun k _ hne => hk k fun e => hne (by rw [e])⟩⟩
  simp [World.setCell, Array.getElem?_modify, h1]
theorem rs_gone {B : Nat} {w : World} {rb : Nat} {v0 : Value} {wr : Bool} (hB : B ≤ rb) (h1 : w.heap[rb]? = some (.cells #[v0, .bool wr] 75 (0, 0))) :
    RS B ((w.setCell ⟨rb, 1, none⟩ (.bool true)).setCell ⟨rb, 0, none⟩ (.slice none 0 0)) rb [] true ∧ w.grownBy ((w.setCell ⟨rb, 1, none⟩ (.bool true)).setCell ⟨rb, 0, none⟩ (.slice none 0 0)) (some rb) := by
  have h2 : (w.setCell ⟨rb, 1, none⟩ (.bool true)).heap[rb]? = some (.cells #[v0, .bool true] 75 (0, 0)) := by simp [World.setCell, Array.getElem?_modify, h1]
  obtain ⟨q1, q2⟩ := rs_set (x := .slice none 0 0) (l := []) hB h2 (.inl ⟨rfl, rfl⟩) (fun h => absurd rfl h)
  have g1 : w.grownBy (w.setCell ⟨rb, 1, none⟩ (.bool true)) (some rb) := ⟨rfl, rfl, rfl, by simp [World.setCell], fun k _ hne => Below.heap_setCell w ⟨rb, 1, none⟩ (.bool true) k (fun e => hne (by rw [e]))⟩
  exact ⟨q1, grown_trans g1 q2⟩
theorem cells75 {w : World} {rb : Nat} {v : Value} {wr : Bool} (h : w.heap[rb]? = some (.cells #[v, .bool wr] 75 (0, 0))) : w.cell? ⟨rb, 0, none⟩ = some v ∧ w.frozen? ⟨rb, 0, none⟩ = false ∧ w.cell? ⟨rb, 1, none⟩ = some (.bool wr) ∧ w.frozen? ⟨rb, 1, none⟩ = false := by
  simp [World.cell?, World.frozen?, h]

/-- What is read, or that it is wrong. -/
def Sp {α : Type} (wr : Bool) (o : Option (α × List UInt8)) (x : α) (l' : List UInt8) (wr' : Bool) : Prop := (wr' = false ∧ wr = false ∧ o = some (x, l')) ∨ (wr' = true ∧ (wr = true ∨ o = none))
theorem Sp.pure {α : Type} (wr : Bool) (x : α) (l : List UInt8) : Sp wr (some (x, l)) x l wr := by
  cases wr
  · exact .inl ⟨rfl, rfl, rfl⟩
  · exact .inr ⟨rfl, .inl rfl⟩
theorem Sp.bindK {α γ : Type} {wr wr1 wr2 : Bool} {o : Option (α × List UInt8)} {K : α × List UInt8 → Option (γ × List UInt8)} {x : α} {y : γ} {l1 l2 : List UInt8} (s1 : Sp wr o x l1 wr1) (s2 : Sp wr1 (K (x, l1)) y l2 wr2) : Sp wr (o.bind K) y l2 wr2 := by
  rcases s1 with ⟨rfl, rfl, rfl⟩ | ⟨rfl, h⟩
  · exact s2
  · rcases s2 with ⟨_, h2, _⟩ | ⟨rfl, _⟩
    · cases h2
    · refine .inr ⟨rfl, ?_⟩
      rcases h with h | rfl
      · exact .inl h
      · exact .inr rfl
/-- What a call of the reference's reader ends in: what is read, or a reader that is wrong. -/
def TkR {α : Type} (B : Nat) (w : World) (rb : Nat) (val : α → Value) (o : Option (α × List UInt8)) (wr : Bool) (e : Ending) (w' : World) : Prop :=
  ∃ x l' wr', e = .returned (val x) ∧ RS B w' rb l' wr' ∧ w.grownBy w' (some rb) ∧ Sp wr o x l' wr' ∧ l'.length ≤ 1099511627776

theorem u8_and127 (x : Nat) (h : x < 256) : bits .and .u8 (x : Int) 127 = (x : Int) % 128 := by
  have : ∀ y : Fin 256, bits .and .u8 ((y.val : Nat) : Int) 127 = ((y.val : Nat) : Int) % 128 := by decide
  exact this ⟨x, h⟩
theorem xor_top {u : Nat} (h : u < 18446744073709551616) : bits .xor .u64 ((u / 2 : Nat) : Int) 18446744073709551615 = 18446744073709551615 - ((u / 2 : Nat) : Int) := by
  have e2 : (18446744073709551615 : Int) = ((2 ^ 64 - 1 : Nat) : Int) := by decide
  rw [e2, bits_xor_u64_nat _ _ (by omega) (by decide), Nat.xor_comm, Lib.xor_ones64 _ (by omega)]
  omega
theorem unf_odd {u : Nat} (hu : u % 2 = 1) (h : u < 18446744073709551616) : IntKind.i64.wrap (18446744073709551615 - ((u / 2 : Nat) : Int)) = unfoldI u := by
  unfold unfoldI
  rw [if_pos hu, IntKind.wrap_i64]
  omega
theorem unf_even {u : Nat} (hu : ¬ u % 2 = 1) : ((u / 2 : Nat) : Int) = unfoldI u := by unfold unfoldI; rw [if_neg hu]

end Go.Proofs.YtohndhmhgdelmaaDoor
