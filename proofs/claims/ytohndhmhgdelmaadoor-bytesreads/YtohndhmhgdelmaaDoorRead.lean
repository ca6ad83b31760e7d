/- The contracts of the reader: cut, number, count. -/
import Derived.Test.YtohndhmhgdelmaaDoorPutInts
import Derived.WalkLawsBesides
namespace Go.Proofs.YtohndhmhgdelmaaDoor
open Go.RowKit
set_option maxRecDepth 100000

abbrev ptrOf (b : Nat) : Value := .pointer (some ⟨b, 0, none⟩)
def noneP : List PanicEntry := [{ v := .iface 104 (.agg #[]), recovered := false }]

/-- The reader's block, and the bytes that it has left. -/
def Low (B : Nat) (v : Value) (l : List UInt8) : Prop := l ≠ [] → ∀ a n c, v = .slice (some a) n c → a.block < B
def Rd (B : Nat) (w : World) (rb : Nat) (l : List UInt8) : Prop := ∃ v, w.heap[rb]? = some (.cells #[v] 108 (0, 0)) ∧ Bts w v l ∧ Low B v l

theorem cell0 {w : World} {x : Nat} {v : Value} {t : TypeId} (h : w.heap[x]? = some (.cells #[v] t (0, 0))) : w.cell? ⟨x, 0, none⟩ = some v ∧ w.frozen? ⟨x, 0, none⟩ = false := by simp [World.cell?, World.frozen?, h]

/-- Bytes lie in no reader's block. -/
theorem Bts.set {w : World} {rb : Nat} {p : Option Addr} {q r : Nat} (h1 : w.heap[rb]? = some (.cells #[.slice p q r] 108 (0, 0))) {v x : Value} {l : List UInt8} (h : Bts w v l) : Bts (w.setCell ⟨rb, 0, none⟩ x) v l := by
  rcases h with h | ⟨a, cap, e1, e2, e3, e4⟩
  · exact .inl h
  · refine .inr ⟨a, cap, e1, e2, e3, fun j u hj => ?_⟩
    have hc := e4 j u hj
    rw [← hc]
    refine World.cell?_of_block (Below.heap_setCell w _ x _ ?_)
    intro e
    obtain ⟨n, rfl⟩ : ∃ n, u = .int .u8 n := by
      have := List.mem_of_getElem? hj
      simp [bcells] at this
      obtain ⟨y, _, rfl⟩ := this
      exact ⟨_, rfl⟩
    have e' : (a.add j).block = rb := e
    unfold World.cell? at hc
    rw [e', h1] at hc
    rcases Nat.eq_zero_or_pos (a.add j).off with z | z
    · simp [z] at hc
    · obtain ⟨k, hk⟩ : ∃ k, (a.add j).off = k + 1 := ⟨(a.add j).off - 1, by omega⟩
      rw [hk] at hc
      simp at hc

theorem rd_set {w : World} {rb : Nat} {p : Option Addr} {q r : Nat} (h1 : w.heap[rb]? = some (.cells #[.slice p q r] 108 (0, 0))) {x : Value} {l : List UInt8} (h : Bts w x l) {B : Nat} (hlow : Low B x l) : Rd B (w.setCell ⟨rb, 0, none⟩ x) rb l ∧ w.grownBy (w.setCell ⟨rb, 0, none⟩ x) (some rb) := by
  refine ⟨⟨x, ?_, h.set h1, hlow⟩, ⟨rfl, rfl, rfl, by simp [World.setCell], fun k _ hk => Below.heap_setCell w _ x k (by intro e; exact hk (by rw [e]))⟩⟩
  simp [World.setCell, Array.getElem?_modify, h1]

set_option maxHeartbeats 1000000 in
theorem cut_none {B : Nat} {w : World} {rb : Nat} {l : List UInt8} (h : Rd B w rb l) (n : Nat) (hn : l.length < n) (_h63 : n ≤ 9223372036854775807) :
    Calls Tryd.prog 79 #[ptrOf rb, .int .i64 n] w fun e w' => e = .panicked noneP ∧ w' = w := by
  obtain ⟨v, h1, h2, -⟩ := h
  obtain ⟨a, c, rfl, _, _⟩ := h2.slice
  obtain ⟨c0, f0⟩ := cell0 h1
  clear h1 h2
  go_enter Tryd.func79, Tryd.ntmps79
  go_wp2
  exact ⟨rfl, rfl, rfl⟩

set_option maxHeartbeats 1000000 in
theorem cut_some {B : Nat} {w : World} {rb : Nat} {l : List UInt8} (h : Rd B w rb l) (n : Nat) (hn : n ≤ l.length) :
    Calls Tryd.prog 79 #[ptrOf rb, .int .i64 n] w fun e w' => ∃ v, e = .returned v ∧ Bts w' v (l.take n) ∧ Rd B w' rb (l.drop n) ∧ w.grownBy w' (some rb) := by
  obtain ⟨v, h1, h2, hlow⟩ := h
  obtain ⟨c0, f0⟩ := cell0 h1
  rcases h2 with ⟨rfl, rfl⟩ | ⟨a, cap, rfl, h3, h4, h5⟩
  · have hn0 : n = 0 := by simpa using hn
    subst hn0
    have HE : Hid _ := rd_set h1 (x := .slice none 0 0) (l := []) (.inl ⟨rfl, rfl⟩) hlow
    clear h1 hlow
    go_enter Tryd.func79, Tryd.ntmps79
    go_wp2
    go_ret
    exact ⟨_, rfl, .inl ⟨rfl, rfl⟩, HE.out⟩
  · have h4' : cap ≤ 9223372036854775807 := h4
    have n1 : (n : Int) ≤ (l.length : Int) := by omega
    have n2 : (n : Int) ≤ (cap : Int) := by omega
    have HB : Hid (∀ x, Bts (w.setCell ⟨rb, 0, none⟩ x) (.slice (some a) n cap) (l.take n)) := fun x => (Bts.part hn (by omega) h4 h5).set h1
    by_cases hc : cap = n
    · have HE : Hid (Rd B (w.setCell ⟨rb, 0, none⟩ (.slice (some a) (l.length - n) 0)) rb (l.drop n) ∧ w.grownBy (w.setCell ⟨rb, 0, none⟩ (.slice (some a) (l.length - n) 0)) (some rb)) := by
        refine rd_set h1 (.inr ⟨a, 0, by simp, by simp; omega, by simp [maxLen], fun j u hj => ?_⟩) (fun hne => absurd (List.drop_of_length_le (by omega)) hne)
        rw [List.drop_of_length_le (by omega)] at hj
        simp [bcells] at hj
      clear h1 h5 hlow
      subst hc
      rw [show l.length - cap = 0 by omega] at HE
      go_enter Tryd.func79, Tryd.ntmps79
      go_wp2
      go_ret
      exact ⟨_, rfl, HB.out _, HE.out⟩
    · have HE : Hid (Rd B (w.setCell ⟨rb, 0, none⟩ (.slice (some (a.add n)) (l.length - n) (cap - n))) rb (l.drop n) ∧ w.grownBy (w.setCell ⟨rb, 0, none⟩ (.slice (some (a.add n)) (l.length - n) (cap - n))) (some rb)) := by
        refine rd_set h1 ?_ (fun hne a' n' c' e => by
          cases e
          rw [addr_block]
          exact hlow (by rintro rfl; simp at hne) _ _ _ rfl)
        rcases Nat.eq_zero_or_pos n with z | z
        · subst z
          exact .inr ⟨a, cap, by simp [Addr.add], h3, h4, h5⟩
        · have := Bts.later (m := n) (n := l.length - n) (by omega) (by omega) (by omega) h4 h5
          rwa [List.take_of_length_le (by simp)] at this
      clear h1 h5 hlow
      go_enter Tryd.func79, Tryd.ntmps79
      go_wp2
      go_ret
      exact ⟨_, rfl, HB.out _, HE.out⟩

/-- A number's digits, lowest first, behind i digits that make u. -/
def numAux : Nat → Nat → List UInt8 → Option (Nat × List UInt8)
  | _, _, [] => none
  | i, u, d :: r => if i = 9 ∧ 1 < d.toNat then none else
      if 128 ≤ d.toNat then numAux (i + 1) (u + d.toNat % 128 * 128 ^ i) r else if d.toNat = 0 ∧ 0 < i then none else some (u + d.toNat % 128 * 128 ^ i, r)
def unfoldI (u : Nat) : Int := if u % 2 = 1 then -((u / 2 : Nat) : Int) - 1 else ((u / 2 : Nat) : Int)

set_option maxHeartbeats 1000000 in
theorem unfold_any (u : Nat) (h : u < 18446744073709551616) (w : World) : Calls Tryd.prog 80 #[.int .u64 u] w fun e w' => e = .returned (.int .i64 (unfoldI u)) ∧ w' = w := by
  by_cases hu : u % 2 = 1
  · have hE : Hid (unfoldI u = -((u / 2 : Nat) : Int) - 1) := by show _ = _; unfold unfoldI; rw [if_pos hu]
    go_enter Tryd.func80, Tryd.ntmps80
    go_wp2
    go_ret
    exact ⟨by rw [hE.out]; go_num, rfl⟩
  · have hE : Hid (unfoldI u = ((u / 2 : Nat) : Int)) := by show _ = _; unfold unfoldI; rw [if_neg hu]
    go_enter Tryd.func80, Tryd.ntmps80
    go_wp2
    go_ret
    exact ⟨by rw [hE.out]; go_num, rfl⟩
end Go.Proofs.YtohndhmhgdelmaaDoor
