/- NmPure, NmMem, NmCmp. -/
import GoSem.Op.String
import Derived.Test.YtlndkjcincflpaaGreatDoorNLoopX
import Derived.Maps.AppendAt
import Derived.Lib.AppendZeros
import Derived.Laws.OwnMore
import Derived.Deep.MidRow
import Derived.Deep.Slices
import Derived.Deep.RegionHeldLaw
set_option linter.unusedVariables false
set_option linter.unusedSimpArgs false
namespace Go.Nm
structure NM where
  s : ByteArray
  n : ByteArray
  t : ByteArray
theorem less_irr : ∀ a : List UInt8, Op.bytesLess a a = false
  | [] => rfl
  | a :: x => by unfold Op.bytesLess; simp [less_irr x]
theorem less_tri : ∀ a b : List UInt8, Op.bytesLess b a = (!Op.bytesLess a b && !(a == b))
  | [], [] => rfl
  | [], b :: y => by simp [Op.bytesLess]
  | a :: x, [] => by simp [Op.bytesLess]
  | a :: x, b :: y => by
    have ih := less_tri x y
    unfold Op.bytesLess
    by_cases e : a = b
    · subst e
      simp [ih]
    · have e2 : ¬ b = a := fun h => e h.symm
      have h1 : (a == b) = false := by simpa using e
      have h2 : (b == a) = false := by simpa using e2
      have h3 : (decide (b < a)) = !(decide (a < b)) := by
        rw [Bool.eq_iff_iff]
        simp only [decide_eq_true_eq, Bool.not_eq_true', decide_eq_false_iff_not, UInt8.lt_iff_toNat_lt]
        have : a.toNat ≠ b.toNat := fun h => e (UInt8.toNat_inj.1 h)
        omega
      simp only [h1, h2, h3, Bool.false_and, Bool.or_false]
      have h4 : (a :: x == b :: y) = false := by simp [e]
      rw [h4]
      simp
theorem less_trans : ∀ a b c : List UInt8, Op.bytesLess a b = true → Op.bytesLess b c = true → Op.bytesLess a c = true
  | a, b, [], _, h => by simp [Op.bytesLess] at h
  | a, [], c :: z, h, _ => by simp [Op.bytesLess] at h
  | [], b :: y, c :: z, _, _ => by simp [Op.bytesLess]
  | a :: x, b :: y, c :: z, h, k => by
    have ih := less_trans x y z
    simp only [Op.bytesLess, Bool.or_eq_true, Bool.and_eq_true, decide_eq_true_eq, beq_iff_eq, UInt8.lt_iff_toNat_lt] at h k ⊢
    rcases h with h | ⟨rfl, h⟩
    · rcases k with k | ⟨rfl, k⟩
      · exact .inl (by omega)
      · exact .inl h
    · rcases k with k | ⟨rfl, k⟩
      · exact .inl k
      · exact .inr ⟨rfl, ih h k⟩
def cmpT (a b : List UInt8) : Int := if Op.bytesLess a b = true then -1 else if Op.bytesLess b a = true then 1 else 0
theorem cmpT_zero {a b : List UInt8} : cmpT a b = 0 ↔ a = b := by
  unfold cmpT
  by_cases h : Op.bytesLess a b = true
  · rw [if_pos h]
    refine ⟨fun e => absurd e (by decide), fun e => ?_⟩
    subst e
    rw [less_irr] at h
    cases h
  · rw [if_neg h]
    by_cases k : Op.bytesLess b a = true
    · rw [if_pos k]
      refine ⟨fun e => absurd e (by decide), fun e => ?_⟩
      subst e
      rw [less_irr] at k
      cases k
    · rw [if_neg k]
      refine ⟨fun _ => ?_, fun _ => rfl⟩
      have t := less_tri a b
      have h' : Op.bytesLess a b = false := by simpa using h
      have k' : Op.bytesLess b a = false := by simpa using k
      rw [h', k'] at t
      simpa using t
theorem cmpT_neg (a b : List UInt8) : cmpT b a = - cmpT a b := by
  unfold cmpT
  by_cases h : Op.bytesLess a b = true <;> by_cases k : Op.bytesLess b a = true
  · have := less_trans _ _ _ h k
    rw [less_irr] at this
    cases this
  · rw [if_neg k, if_pos h, if_pos h]; rfl
  · rw [if_pos k, if_neg h, if_pos k]
  · rw [if_neg k, if_neg h, if_neg h, if_neg k]; rfl
theorem cmpT_lt {a b : List UInt8} : cmpT a b < 0 ↔ Op.bytesLess a b = true := by
  unfold cmpT
  by_cases h : Op.bytesLess a b = true
  · simp [h]
  · rw [if_neg h]
    split <;> simp [h]
theorem cmpT_trans {a b c : List UInt8} (h : cmpT a b < 0) (k : cmpT b c < 0) : cmpT a c < 0 := cmpT_lt.2 (less_trans _ _ _ (cmpT_lt.1 h) (cmpT_lt.1 k))
theorem cmpT_ways (a b : List UInt8) : cmpT a b = -1 ∨ cmpT a b = 0 ∨ cmpT a b = 1 := by
  unfold cmpT; split
  · simp
  · split <;> simp
def cmpK (a b : NM) : Int := if cmpT a.s.toList b.s.toList ≠ 0 then cmpT a.s.toList b.s.toList else cmpT a.n.toList b.n.toList
theorem cmpK_zero {a b : NM} : cmpK a b = 0 ↔ a.s.toList = b.s.toList ∧ a.n.toList = b.n.toList := by
  unfold cmpK
  by_cases h : cmpT a.s.toList b.s.toList = 0
  · rw [if_neg (by simpa using h), cmpT_zero]
    exact ⟨fun e => ⟨cmpT_zero.1 h, e⟩, fun e => e.2⟩
  · rw [if_pos h]
    exact ⟨fun e => absurd e h, fun e => cmpT_zero.2 e.1⟩
theorem cmpK_neg (a b : NM) : cmpK b a = - cmpK a b := by
  unfold cmpK
  rw [cmpT_neg a.s.toList b.s.toList, cmpT_neg a.n.toList b.n.toList]
  by_cases h : cmpT a.s.toList b.s.toList = 0
  · rw [if_neg (by omega), if_neg (by omega)]
  · rw [if_pos (by omega), if_pos h]
theorem cmpK_trans {a b c : NM} (h : cmpK a b < 0) (k : cmpK b c < 0) : cmpK a c < 0 := by
  unfold cmpK at *
  by_cases h0 : cmpT a.s.toList b.s.toList = 0
  · rw [if_neg (by omega)] at h
    have e0 := cmpT_zero.1 h0
    by_cases k0 : cmpT b.s.toList c.s.toList = 0
    · rw [if_neg (by omega)] at k
      rw [e0, if_neg (by omega)]
      exact cmpT_trans h k
    · rw [if_pos k0] at k
      rw [e0, if_pos k0]
      exact k
  · rw [if_pos h0] at h
    by_cases k0 : cmpT b.s.toList c.s.toList = 0
    · rw [← cmpT_zero.1 k0, if_pos h0]
      exact h
    · rw [if_pos k0] at k
      have := cmpT_trans h k
      rw [if_pos (by omega)]
      exact this
theorem cmpK_ways (a b : NM) : cmpK a b = -1 ∨ cmpK a b = 0 ∨ cmpK a b = 1 := by
  unfold cmpK; split
  · exact cmpT_ways _ _
  · exact cmpT_ways _ _
theorem cmpK_congr {a b c : NM} (h : cmpK a b = 0) : cmpK a c = cmpK b c := by
  have := cmpK_zero.1 h
  unfold cmpK
  rw [this.1, this.2]
theorem cmpK_congr2 {a b c : NM} (h : cmpK a b = 0) : cmpK c a = cmpK c b := by
  have := cmpK_zero.1 h
  unfold cmpK
  rw [this.1, this.2]
def PlaceR (l : List NM) (x : NM) (k : Nat) : Bool → Prop
  | true => ∃ (p q : List NM) (y : NM), l = p ++ y :: q ∧ p.length = k ∧ cmpK y x = 0 ∧ ∀ z ∈ p, cmpK z x ≠ 0
  | false => ∃ p q : List NM, l = p ++ q ∧ p.length = k ∧ (∀ z ∈ l, cmpK z x ≠ 0) ∧ (∀ z ∈ p, ¬ 0 < cmpK z x) ∧ ∀ z r, q = z :: r → 0 < cmpK z x
def findK (x : NM) : List NM → Option NM
  | [] => none
  | y :: l => if cmpK y x = 0 then some y else findK x l
theorem find_none {x : NM} : ∀ {l : List NM}, (∀ z ∈ l, cmpK z x ≠ 0) → findK x l = none
  | [], _ => rfl
  | y :: l, h => by
    unfold findK
    rw [if_neg (h y (by simp))]
    exact find_none fun z hz => h z (by simp [hz])
theorem find_some {x y : NM} {q : List NM} : ∀ {p : List NM}, (∀ z ∈ p, cmpK z x ≠ 0) → cmpK y x = 0 → findK x (p ++ y :: q) = some y
  | [], _, hy => by rw [List.nil_append]; unfold findK; rw [if_pos hy]
  | z :: p, h, hy => by
    rw [List.cons_append]
    unfold findK
    rw [if_neg (h z (by simp))]
    exact find_some (fun z hz => h z (by simp [hz])) hy
theorem find_place {l : List NM} {x : NM} {k : Nat} {b : Bool} (h : PlaceR l x k b) : (b = false ∧ findK x l = none) ∨ ∃ y, b = true ∧ l[k]? = some y ∧ findK x l = some y := by
  cases b with
  | false => obtain ⟨p, q, _, _, h1, _⟩ := h; exact .inl ⟨rfl, find_none h1⟩
  | true =>
    obtain ⟨p, q, y, rfl, rfl, hy, hp⟩ := h
    exact .inr ⟨y, rfl, by simp, find_some hp hy⟩
def Rise (l : List NM) : Prop := l.Pairwise fun a b => cmpK a b < 0
def insR (x : NM) : List NM → Bool → List NM
  | [], d => if d = true then [] else [x]
  | y :: l, d => (if 0 ≤ cmpK y x ∧ d = false then [x] else []) ++ (if cmpK y x ≠ 0 then [y] else []) ++ insR x l (d || decide (0 ≤ cmpK y x))
theorem ins_done {x : NM} : ∀ {l : List NM}, (∀ z ∈ l, cmpK z x ≠ 0) → insR x l true = l
  | [], _ => rfl
  | y :: l, h => by
    unfold insR
    rw [if_neg (by simp), if_pos (h y (by simp)), Bool.true_or, ins_done fun z hz => h z (by simp [hz])]
    rfl
theorem ins_ahead {x : NM} {r : List NM} : ∀ {p : List NM}, (∀ z ∈ p, cmpK z x < 0) → insR x (p ++ r) false = p ++ insR x r false
  | [], _ => rfl
  | y :: p, h => by
    have hy := h y (by simp)
    rw [List.cons_append]
    conv => lhs; unfold insR
    rw [if_neg (by omega), if_pos (by omega), Bool.false_or, decide_eq_false (by omega), ins_ahead fun z hz => h z (by simp [hz])]
    rfl
theorem rise_parts {p q : List NM} {y : NM} (h : Rise (p ++ y :: q)) : (∀ z ∈ p, cmpK z y < 0) ∧ (∀ z ∈ q, cmpK y z < 0) ∧ Rise (p ++ q) := by
  unfold Rise at h
  rw [List.pairwise_append] at h
  obtain ⟨h1, h2, h3⟩ := h
  rw [List.pairwise_cons] at h2
  refine ⟨fun z hz => h3 z hz y (by simp), h2.1, ?_⟩
  unfold Rise
  rw [List.pairwise_append]
  exact ⟨h1, h2.2, fun a ha b hb => h3 a ha b (by simp [hb])⟩
theorem rise_ins {p q : List NM} {x : NM} (h : Rise (p ++ q)) (hp : ∀ z ∈ p, cmpK z x < 0) (hq : ∀ z ∈ q, cmpK x z < 0) : Rise (p ++ x :: q) := by
  unfold Rise at *
  rw [List.pairwise_append] at h ⊢
  obtain ⟨h1, h2, h3⟩ := h
  refine ⟨h1, List.pairwise_cons.2 ⟨hq, h2⟩, fun a ha b hb => ?_⟩
  rcases List.mem_cons.1 hb with rfl | hb
  · exact hp a ha
  · exact h3 a ha b hb
theorem place_rise {l : List NM} {x : NM} {k : Nat} {b : Bool} (hr : Rise l) (h : PlaceR l x k b) :
    ∃ p q : List NM, p.length = k ∧ l.take k = p ∧ (∀ z ∈ p, cmpK z x < 0) ∧ (∀ z ∈ q, cmpK x z < 0) ∧ Rise (p ++ q) ∧ ((b = false ∧ l = p ++ q) ∨ ∃ y, b = true ∧ l = p ++ y :: q ∧ cmpK y x = 0) := by
  cases b with
  | false =>
    obtain ⟨p, q, rfl, hk, h1, h2, h3⟩ := h
    refine ⟨p, q, hk, by rw [← hk]; simp, fun z hz => ?_, fun z hz => ?_, hr, .inl ⟨rfl, rfl⟩⟩
    · have a := h1 z (by simp [hz])
      have b := h2 z hz
      omega
    · cases q with
      | nil => cases hz
      | cons y q =>
        have a := h3 y q rfl
        have n := cmpK_neg y x
        rcases List.mem_cons.1 hz with rfl | hz
        · omega
        · exact cmpK_trans (by omega) ((rise_parts hr).2.1 z hz)
  | true =>
    obtain ⟨p, q, y, rfl, hk, h1, h2⟩ := h
    obtain ⟨r1, r2, r3⟩ := rise_parts hr
    refine ⟨p, q, hk, by rw [← hk]; simp, fun z hz => ?_, fun z hz => ?_, r3, .inr ⟨y, rfl, rfl, h1⟩⟩
    · rw [← cmpK_congr2 h1]; exact r1 z hz
    · rw [← cmpK_congr h1]; exact r2 z hz
def insP (x : NM) (l : List NM) (k : Nat) (b : Bool) : List NM := l.take k ++ x :: (l.drop k).drop (if b = true then 1 else 0)
theorem ins_same {l : List NM} {x : NM} {k : Nat} {b : Bool} (hr : Rise l) (h : PlaceR l x k b) : insP x l k b = insR x l false ∧ Rise (insP x l k b) ∧ findK x (insP x l k b) = some x ∧ ∀ z ∈ insP x l k b, z = x ∨ z ∈ l := by
  obtain ⟨p, q, hk, ht, hp, hq, r, hl⟩ := place_rise hr h
  have hpq : insP x l k b = p ++ x :: q := by
    unfold insP
    rw [ht]
    rcases hl with ⟨rfl, rfl⟩ | ⟨y, rfl, rfl, _⟩
    · rw [if_neg (by simp), List.drop_zero, ← hk, List.drop_left]
    · rw [if_pos rfl, ← hk, List.drop_left]; rfl
  have hq0 : ∀ z ∈ q, cmpK z x ≠ 0 := fun z hz => by have := hq z hz; have := cmpK_neg x z; omega
  rw [hpq]
  refine ⟨?_, rise_ins r hp hq, find_some (fun z hz => by have := hp z hz; omega) (cmpK_zero.2 ⟨rfl, rfl⟩), fun z hz => ?_⟩
  · rcases hl with ⟨rfl, rfl⟩ | ⟨y, rfl, rfl, hy⟩
    · rw [ins_ahead hp]
      cases q with
      | nil => simp [insR]
      | cons z q =>
        have h1 := hq z (by simp)
        have h2 := cmpK_neg x z
        unfold insR
        rw [if_pos ⟨by omega, rfl⟩, if_pos (by omega), Bool.false_or, decide_eq_true (by omega), ins_done fun z hz => hq0 z (by simp [hz])]
        rfl
    · rw [ins_ahead hp]
      unfold insR
      rw [if_pos ⟨by omega, rfl⟩, if_neg (by omega), Bool.false_or, decide_eq_true (by omega), ins_done hq0]
      rfl
  · rcases hl with ⟨rfl, rfl⟩ | ⟨y, rfl, rfl, _⟩ <;> simp at hz ⊢ <;> grind
def remR (x : NM) (l : List NM) : List NM := l.filter fun y => decide (cmpK y x ≠ 0)
def remP (l : List NM) (k : Nat) : List NM := l.take k ++ l.drop (k + 1)
theorem rem_same {l : List NM} {x : NM} {k : Nat} (hr : Rise l) (h : PlaceR l x k true) : remP l k = remR x l ∧ Rise (remP l k) ∧ findK x (remP l k) = none ∧ ∀ z ∈ remP l k, z ∈ l := by
  obtain ⟨p, q, hk, ht, hp, hq, r, hl⟩ := place_rise hr h
  rcases hl with ⟨h, _⟩ | ⟨y, _, rfl, hy⟩
  · cases h
  have hq0 : ∀ z ∈ q, cmpK z x ≠ 0 := fun z hz => by have := hq z hz; have := cmpK_neg x z; omega
  have hp0 : ∀ z ∈ p, cmpK z x ≠ 0 := fun z hz => by have := hp z hz; omega
  have hpq : remP (p ++ y :: q) k = p ++ q := by
    unfold remP
    rw [ht, ← hk, ← List.drop_drop, List.drop_left]
    rfl
  rw [hpq]
  refine ⟨?_, r, find_none fun z hz => ?_, fun z hz => by simp at hz ⊢; grind⟩
  · unfold remR
    rw [List.filter_append, List.filter_cons, if_neg (by simp [hy]), List.filter_eq_self.2 (fun z hz => by simpa using hp0 z hz), List.filter_eq_self.2 (fun z hz => by simpa using hq0 z hz)]
  · rcases List.mem_append.1 hz with hz | hz
    · exact hp0 z hz
    · exact hq0 z hz
theorem rise_next {l : List NM} : Rise l ↔ ∀ i, (h : i + 1 < l.length) → cmpK l[i] l[i + 1] < 0 := by
  unfold Rise
  constructor
  · intro h i hi
    exact List.pairwise_iff_getElem.1 h i (i + 1) (by omega) hi (by omega)
  · intro h
    refine List.pairwise_iff_getElem.2 fun i j hi hj hij => ?_
    obtain ⟨d, rfl⟩ : ∃ d, j = i + 1 + d := ⟨j - i - 1, by omega⟩
    clear hij
    induction d with
    | zero => exact h i (by omega)
    | succ d ih => exact cmpK_trans (ih (by omega)) (h (i + 1 + d) (by omega))
end Go.Nm

namespace Go.Proofs.YtlndkjcincflpaaGreatDoor
open Go.RowKit Go.Nm
set_option maxRecDepth 100000
abbrev ncs (x : NM) : Array Value := #[.string x.s, .string x.n, .string x.t]
abbrev ncl (x : NM) : List Value := [.string x.s, .string x.n, .string x.t]
abbrev nmV (x : NM) : Value := .agg (ncs x)
abbrev nmO (x : NM) : Obj := .cells (ncs x) 24
abbrev nm0 : NM := ⟨⟨#[]⟩, ⟨#[]⟩, ⟨#[]⟩⟩
theorem ninf : (Tryz.prog.info? 24).map (·.size) = some 3 := by kernel_rfl
theorem ninfz : (Tryz.prog.info? 24).map (fun i => (i.zero, i.size, i.bytes)) = some (some (nmV nm0), 3, 48) := by kernel_rfl
theorem n_cells {u : World} {g : Nat} {t : TypeId} {a b c : Value} {z : Nat × Nat} (h : u.heap[g]? = some (.cells #[a, b, c] t z)) : u.cell? ⟨g, 0, none⟩ = some a ∧ u.cell? ⟨g, 1, none⟩ = some b ∧ u.cell? ⟨g, 2, none⟩ = some c := by
  simp [World.cell?, h]
theorem n_free {u : World} {g : Nat} {t : TypeId} {a b c : Value} (h : u.heap[g]? = some (.cells #[a, b, c] t (0, 0))) : u.frozen? ⟨g, 0, none⟩ = false ∧ u.frozen? ⟨g, 1, none⟩ = false ∧ u.frozen? ⟨g, 2, none⟩ = false := by
  simp [World.frozen?, h]
theorem ncl_one (L : List NM) : ∀ u ∈ L.flatMap ncl, u.oneCell' = true := by
  intro u hu
  obtain ⟨x, _, hx⟩ := List.mem_flatMap.1 hu
  simp only [ncl, List.mem_cons, List.not_mem_nil, or_false] at hx
  rcases hx with rfl | rfl | rfl <;> rfl
theorem nfl_len : ∀ L : List NM, (L.flatMap ncl).length = L.length * 3
  | [] => rfl
  | t :: L => by rw [List.flatMap_cons, List.length_append, nfl_len L, List.length_cons]; simp; omega
theorem nfl_at : ∀ (L : List NM) (i j : Nat) (v : Value) (hi : i < L.length), (ncl L[i])[j]? = some v → (L.flatMap ncl)[i * 3 + j]? = some v
  | t :: L, 0, j, v, _, h => by
    have hj : j < (ncl t).length := (List.getElem?_eq_some_iff.1 h).1
    rw [List.flatMap_cons, Nat.zero_mul, Nat.zero_add, List.getElem?_append_left hj]
    exact h
  | t :: L, i + 1, j, v, hi, h => by
    rw [List.flatMap_cons, List.getElem?_append_right (by simp; omega), show (i + 1) * 3 + j - (ncl t).length = i * 3 + j by simp; omega]
    exact nfl_at L i j v (by simpa using hi) h
theorem nfl_drop : ∀ (L : List NM) (k : Nat), (L.drop k).flatMap ncl = (L.flatMap ncl).drop (k * 3)
  | L, 0 => by simp
  | [], k + 1 => by simp
  | t :: L, k + 1 => by
    rw [List.drop_succ_cons, nfl_drop L k, List.flatMap_cons, show (k + 1) * 3 = 3 + k * 3 by omega, ← List.drop_drop]
    rfl
theorem nfl_take : ∀ (L : List NM) (k : Nat), (L.take k).flatMap ncl = (L.flatMap ncl).take (k * 3)
  | L, 0 => by simp
  | [], k + 1 => by simp
  | t :: L, k + 1 => by
    rw [List.take_succ_cons, List.flatMap_cons, nfl_take L k, List.flatMap_cons, show (k + 1) * 3 = 3 + k * 3 by omega]
    rw [show 3 + k * 3 = k * 3 + 1 + 1 + 1 by omega]
    rfl
theorem ncell_bel {w w' : World} (hb : Below w.heap.size w w') {a : Addr} {v : Value} (h : w.cell? a = some v) : w'.cell? a = some v :=
  (World.cell?_of_block (hb.block _ (World.block_lt_of_cell? w a h))).trans h
theorem ngrown_below {w w' : World} {row : Option Nat} (h : Below w.heap.size w w') : w.grownBy w' row := ⟨h.os, h.tape, h.output, h.size, fun i hi _ => h.block i hi⟩
def Rds (w : World) (p : Option Addr) (n : Nat) (L : List NM) : Prop :=
  n = L.length ∧ (L = [] ∨ ∃ a, p = some a ∧ ∀ j u, (L.flatMap ncl)[j]? = some u → w.cell? (a.add j) = some u)
theorem Rds.nil (w : World) (p : Option Addr) : Rds w p 0 [] := ⟨rfl, .inl rfl⟩
theorem Rds.below {w w' : World} {p : Option Addr} {n : Nat} {L : List NM} (h : Rds w p n L) (hb : Below w.heap.size w w') : Rds w' p n L :=
  ⟨h.1, h.2.imp id fun ⟨a, e, hc⟩ => ⟨a, e, fun j u hj => ncell_bel hb (hc j u hj)⟩⟩
theorem Rds.drew {w : World} {p : Option Addr} {n : Nat} {L : List NM} (h : Rds w p n L) : Rds w.drew p n L := h
theorem Rds.load {w : World} {p : Option Addr} {n : Nat} {L : List NM} (h : Rds w p n L) {k : Nat} (hk : k < L.length) : ∃ a, p = some a ∧ (Instr.loadAt 24 (.pointer (some (a.add (k * 3))))).run Tryz.prog w = .ok (nmV L[k]) w := by
  rcases h.2 with rfl | ⟨a, rfl, hc⟩
  · simp at hk
  · refine ⟨a, rfl, ?_⟩
    have hc2 : ∀ j v, (ncl L[k])[j]? = some v → w.cell? ((a.add (k * 3)).add j) = some v := fun j v hj => by
      rw [Go.Deep.add_add]
      exact hc _ _ (nfl_at L k j v hk hj)
    have hl : (loadCells (a.add (k * 3)) (ncl L[k]).length).run Tryz.prog w = .ok (ncl L[k]).toArray w := run_loadCells_list (P := Tryz.prog) w _ _ hc2
    obtain ⟨i, hi⟩ : ∃ i, Tryz.prog.info? 24 = some i := by
      cases h : Tryz.prog.info? 24 with
      | none => have := ninf; rw [h] at this; cases this
      | some i => exact ⟨i, rfl⟩
    have hs : i.size = 3 := by have := ninf; rw [hi] at this; simpa using this
    have hagg : (isAgg 24).run Tryz.prog w = .ok true w := Tryz.isAgg24 w
    have hl3 : (loadCells (a.add (k * 3)) 3).run Tryz.prog w = .ok (ncl L[k]).toArray w := hl
    simp [Instr.loadAt, Instr.sureAddr, loadVar, Sem.run_bind, hagg, sizeOf, typeInfo, hi, hs, hl3]
def OwnM (base : Nat) (w : World) (v : Value) (L : List NM) : Prop := w.ownsRow base 24 3 v L.length (L.flatMap ncl)
theorem OwnM.nil (base : Nat) (w : World) : OwnM base w (.slice none 0 0) [] := World.ownsRow_nil w base 24 3
theorem OwnM.slice {base : Nat} {w : World} {v : Value} {L : List NM} (h : OwnM base w v L) : ∃ p c, v = .slice p L.length c ∧ Rds w p L.length L := by
  have hc := fun g (hg : v.ownBlock = some g) => World.ownsRow.cells h hg
  rcases h.2 with ⟨rfl, h0⟩ | ⟨g, cap, cur, rfl, _⟩
  · exact ⟨none, 0, by rw [h0], rfl, .inl (List.eq_nil_of_length_eq_zero h0)⟩
  · exact ⟨_, _, rfl, rfl, .inr ⟨_, rfl, fun j u hj => hc g rfl j u hj⟩⟩
theorem OwnM.kept {base : Nat} {w w' : World} {v : Value} {L : List NM} {row : Option Nat} (h : OwnM base w v L) (hg : w.grownBy w' row) (hne : v.ownBlock = none ∨ v.ownBlock ≠ row) : OwnM base w' v L := World.ownsRow.kept h hg hne
theorem OwnM.below {base : Nat} {w w' : World} {v : Value} {L : List NM} (h : OwnM base w v L) (hb : Below w.heap.size w w') : OwnM base w' v L :=
  h.kept (ngrown_below (row := none) hb) (by cases v.ownBlock <;> simp)
theorem OwnM.base {base base' : Nat} {w : World} {v : Value} {L : List NM} (h : OwnM base w v L) (hb : base' ≤ base) : OwnM base' w v L := by
  obtain ⟨h1, h2⟩ := h
  refine ⟨h1, h2.imp id ?_⟩
  rintro ⟨g, cap, cur, e1, e2, r⟩
  exact ⟨g, cap, cur, e1, by omega, r⟩
theorem ninfo : ∃ i z, Tryz.prog.info? 24 = some i ∧ i.zero = some z ∧ i.size = 3 ∧ i.bytes = 48 ∧ z.cells.size = 3 ∧ z = nmV nm0 := by
  cases h : Tryz.prog.info? 24 with
  | none => have := ninfz; rw [h] at this; cases this
  | some i =>
    have := ninfz
    rw [h] at this
    simp only [Option.map_some, Option.some.injEq, Prod.mk.injEq] at this
    exact ⟨i, _, rfl, this.1, this.2.1, this.2.2, rfl, rfl⟩
theorem ownM_cat {base : Nat} {w : World} {v : Value} {L L2 : List NM} {p : Option Addr} {n c : Nat} (h : OwnM base w v L) (h2 : Rds w p n L2) (hp : p = none → c = 0) (hn : L.length + L2.length ≤ 100000) (hbase : base ≤ w.heap.size) :
    ∃ v' w', Hid ((Builtin.append_ #[22, 22] 22 #[v, .slice p n c]).run Tryz.prog w = .ok v' w') ∧ OwnM base w' v' (L ++ L2) ∧ w.grownBy w' v.ownBlock ∧ Below base w w' := by
  obtain ⟨i, z, hi, hz, hz1, hz2, hz3, _⟩ := ninfo
  obtain ⟨rfl, h2⟩ := h2
  have hrow := fun k hk => (World.ownsRow.lt h k hk).1
  cases p with
  | none =>
    have e2 : L2 = [] := h2.elim id fun ⟨a, e, _⟩ => by cases e
    subst e2
    rw [hp rfl]
    refine ⟨v, w, run_append_owned_none w base 22 22 24 i 3 Tryz.underlying22 hi v _ _ h, by rw [List.append_nil]; exact h, World.grownBy.refl _ _, Below.refl _ _⟩
  | some a =>
    have hc : ∀ j u, (L2.flatMap ncl)[j]? = some u → w.cell? (a.add j) = some u := by
      rcases h2 with rfl | ⟨a', e, hc⟩
      · intro j u hj; simp at hj
      · cases e; exact hc
    obtain ⟨v', w', r1, o1, g1, _, _⟩ := run_append_own_at w base 22 22 24 i z 3 48 Tryz.underlying22 hi hz hz1 hz2 hz3 (by decide) v _ _ h a L2.length c (L2.flatMap ncl) (nfl_len L2) hc (ncl_one L2) (by simp only [maxLen]; omega) (by omega) hbase
    refine ⟨v', w', r1, ?_, g1, (Below.refl base w).grown g1 hbase hrow⟩
    unfold OwnM
    rw [List.length_append, List.flatMap_append]
    exact o1
theorem ownM_one {base : Nat} {w : World} {v : Value} {L : List NM} (h : OwnM base w v L) {g : Nat} {x : NM} (hg : w.heap[g]? = some (nmO x)) (hn : L.length + 1 ≤ 100000) (hbase : base ≤ w.heap.size) :
    ∃ v' w', Hid ((Builtin.append_ #[22, 22] 22 #[v, .slice (some ⟨g, 0, none⟩) 1 1]).run Tryz.prog w = .ok v' w') ∧ OwnM base w' v' (L ++ [x]) ∧ w.grownBy w' v.ownBlock ∧ Below base w w' := by
  refine ownM_cat h (L2 := [x]) ⟨rfl, .inr ⟨_, rfl, fun j u hj => ?_⟩⟩ (fun e => by cases e) (by simpa using hn) hbase
  rw [Addr.add_mid, cell_of_row w g (0 + j) _ _ _ hg, Nat.zero_add, ← hj]
  simp
theorem nslice_one (w : World) (x : NM) : (Instr.buildSlice 22 1 #[(0, nmV x)]).run Tryz.prog w = .ok (.slice (some ⟨w.heap.size, 0, none⟩) 1 1) (w.alloc (nmO x)) := by kernel_rfl
theorem nslice_zero (w : World) : (Instr.buildSlice 22 0 #[]).run Tryz.prog w = .ok (.slice (some ⟨w.heap.size, 0, none⟩) 0 0) (w.alloc (.cells #[] 24)) := by kernel_rfl
end Go.Proofs.YtlndkjcincflpaaGreatDoor

namespace Go.Proofs.YtlndkjcincflpaaGreatDoor
open Go.RowKit Go.Nm
set_option maxRecDepth 100000
set_option maxHeartbeats 1000000 in
theorem nan_any (x : ByteArray) (w : World) : Calls Tryz.prog 57 #[.string x] w fun e w' => e = .returned (.bool false) ∧ w' = w := by
  go_enter Tryz.func57, Tryz.ntmps57
  go_wp2
  go_ret
  exact ⟨by simp, rfl⟩
theorem binOp_string_gtr (t : TypeId) (a b : ByteArray) : binOp .gtr t (.string a) (.string b) = pure (.bool (Op.bytesLess b.toList a.toList)) := by
  have h := less_tri a.toList b.toList
  simp [binOp, Op.stringOp, h]
set_option maxHeartbeats 1000000 in
theorem cmpT_any (x y : ByteArray) (w : World) : Calls Tryz.prog 42 #[.string x, .string y] w fun e w' => e = .returned (.int .i64 (cmpT x.toList y.toList)) ∧ w' = w := by
  have hgt := binOp_string_gtr 9
  unfold cmpT
  cases h1 : Op.bytesLess x.toList y.toList <;> cases h2 : Op.bytesLess y.toList x.toList
  all_goals
    go_enter Tryz.func42, Tryz.ntmps42
    go_wp2_with (go_at_call 57; refine (nan_any _ _).mono ?_; rintro e w' ⟨rfl, hw⟩; obtain rfl := hw.symm; clear hw)
    go_ret
    exact ⟨rfl, rfl⟩
def or2 (a b : Int) : Int := if a ≠ 0 then a else b
theorem or2_cases (a b : Int) : ((a != 0) = true ∧ or2 a b = a) ∨ (a = 0 ∧ (b != 0) = true ∧ or2 a b = b) ∨ (a = 0 ∧ b = 0 ∧ or2 a b = 0) := by
  unfold or2
  by_cases ha : a = 0
  · by_cases hb : b = 0 <;> simp [ha, hb]
  · simp [ha]
set_option maxHeartbeats 2000000 in
theorem or2_any {w : World} {g : Nat} {a b : Int} (h0 : w.cell? ⟨g, 0, none⟩ = some (.int .i64 a)) (h1 : w.cell? ⟨g, 1, none⟩ = some (.int .i64 b)) :
    Calls Tryz.prog 41 #[.slice (some ⟨g, 0, none⟩) 2 2] w fun e w' => e = .returned (.int .i64 (or2 a b)) ∧ w' = w := by
  rcases or2_cases a b with ⟨t1, e⟩ | ⟨t1, t2, e⟩ | ⟨t1, t2, e⟩
  all_goals
    rw [e]
    clear e
    try subst t1
    try subst t2
    go_enter Tryz.func41, Tryz.ntmps41
    go_wp2
    refine wp_loop_rounds 6 ?_
    rw [rounds_succ]
    go_wp2
    try (rw [rounds_succ]; go_wp2)
    try (rw [rounds_succ]; go_wp2)
    go_ret
    exact ⟨rfl, rfl⟩
theorem or2_new (u : World) (x y : Int) : Calls Tryz.prog 41 #[.slice (some ⟨u.heap.size, 0, none⟩) 2 2] (u.alloc (.cells #[.int .i64 x, .int .i64 y] 3)).drew fun e w' => e = .returned (.int .i64 (or2 x y)) ∧ w' = (u.alloc (.cells #[.int .i64 x, .int .i64 y] 3)).drew := by
  have hz : (u.alloc (.cells #[.int .i64 x, .int .i64 y] 3)).drew.heap[u.heap.size]? = some (.cells #[.int .i64 x, .int .i64 y] 3 (0, 0)) := heap_alloc_new u _
  have c := fun j => cell_of_row _ u.heap.size j _ 3 _ hz
  exact or2_any ((c 0).trans rfl) ((c 1).trans rfl)
set_option maxHeartbeats 4000000 in
theorem ncmp_any (a b : NM) (w : World) : Calls Tryz.prog 23 #[nmV a, nmV b] w fun e w' => e = .returned (.int .i64 (cmpK a b)) ∧ Below w.heap.size w w' := by
  obtain ⟨s1, n1, t1⟩ := a
  obtain ⟨s2, n2, t2⟩ := b
  have C1 := fun u => cmpT_any s1 s2 u
  have C2 := fun u => cmpT_any n1 n2 u
  have HK : Hid (cmpK ⟨s1, n1, t1⟩ ⟨s2, n2, t2⟩ = or2 (cmpT s1.toList s2.toList) (cmpT n1.toList n2.toList)) := rfl
  generalize cmpK ⟨s1, n1, t1⟩ ⟨s2, n2, t2⟩ = R at *
  generalize cmpT s1.toList s2.toList = x1 at *
  generalize cmpT n1.toList n2.toList = x2 at *
  have HC : Hid (∀ u : World, Below ((w.alloc (nmO ⟨s1, n1, t1⟩)).alloc (nmO ⟨s2, n2, t2⟩)).heap.size ((w.alloc (nmO ⟨s1, n1, t1⟩)).alloc (nmO ⟨s2, n2, t2⟩)) u → (u.cell? ⟨w.heap.size, 0, none⟩ = some (.string s1) ∧ u.cell? ⟨w.heap.size, 1, none⟩ = some (.string n1) ∧ u.cell? ⟨w.heap.size, 2, none⟩ = some (.string t1)) ∧ (u.cell? ⟨w.heap.size + 1, 0, none⟩ = some (.string s2) ∧ u.cell? ⟨w.heap.size + 1, 1, none⟩ = some (.string n2) ∧ u.cell? ⟨w.heap.size + 1, 2, none⟩ = some (.string t2))) :=
    fun u hu => ⟨n_cells (new2 hu).1, n_cells (new2 hu).2⟩
  have HB : Hid (Below ((w.alloc (nmO ⟨s1, n1, t1⟩)).alloc (nmO ⟨s2, n2, t2⟩)).heap.size ((w.alloc (nmO ⟨s1, n1, t1⟩)).alloc (nmO ⟨s2, n2, t2⟩)) ((w.alloc (nmO ⟨s1, n1, t1⟩)).alloc (nmO ⟨s2, n2, t2⟩)).drew) := (Below.refl _ _).drew
  have HO : Hid (Below ((w.alloc (nmO ⟨s1, n1, t1⟩)).alloc (nmO ⟨s2, n2, t2⟩)).heap.size ((w.alloc (nmO ⟨s1, n1, t1⟩)).alloc (nmO ⟨s2, n2, t2⟩)) (((w.alloc (nmO ⟨s1, n1, t1⟩)).alloc (nmO ⟨s2, n2, t2⟩)).alloc (.cells #[.int .i64 x1, .int .i64 x2] 3)).drew) := (bel_alloc (Below.refl _ _) _).drew
  have OR := or2_new ((w.alloc (nmO ⟨s1, n1, t1⟩)).alloc (nmO ⟨s2, n2, t2⟩)) x1 x2
  rw [show ((w.alloc (nmO ⟨s1, n1, t1⟩)).alloc (nmO ⟨s2, n2, t2⟩)).heap.size = w.heap.size + 2 by simp] at OR
  go_enter Tryz.func23, Tryz.ntmps23
  go_wp2
  go_region_held_law (fun u => (u.cell? ⟨w.heap.size, 0, none⟩ = some (.string s1) ∧ u.cell? ⟨w.heap.size, 1, none⟩ = some (.string n1) ∧ u.cell? ⟨w.heap.size, 2, none⟩ = some (.string t1)) ∧ (u.cell? ⟨w.heap.size + 1, 0, none⟩ = some (.string s2) ∧ u.cell? ⟨w.heap.size + 1, 1, none⟩ = some (.string n2) ∧ u.cell? ⟨w.heap.size + 1, 2, none⟩ = some (.string t2)))
    (first | exact HC.out _ HB.out | exact HC.out _ HO.out) (first
    | (go_at_call_of 42 s1; refine (C1 _).mono ?_; rintro e w' ⟨rfl, hw⟩; obtain rfl := hw.symm; clear hw)
    | (go_at_call_of 42 n1; refine (C2 _).mono ?_; rintro e w' ⟨rfl, hw⟩; obtain rfl := hw.symm; clear hw)
    | (go_at_call 41; refine OR.mono ?_; rintro e w' ⟨rfl, hw⟩; obtain rfl := hw.symm; clear hw))
  go_wp2
  go_ret
  exact ⟨by rw [HK.out]; rfl, bel2 HO.out⟩
theorem cmpT_split (a b : List UInt8) : (a = b ∧ cmpT a b = 0) ∨ ((a == b) = false ∧ Op.bytesLess a b = true ∧ cmpT a b = -1) ∨ ((a == b) = false ∧ Op.bytesLess a b = false ∧ cmpT a b = 1) := by
  unfold cmpT
  by_cases h : a = b
  · subst h; left
    rw [less_irr]
    exact ⟨rfl, rfl⟩
  · right
    have h2 : (a == b) = false := by simpa using h
    have := less_tri a b
    rw [h2] at this
    cases hl : Op.bytesLess a b
    · rw [hl] at this
      right
      rw [this]
      exact ⟨h2, rfl, rfl⟩
    · left
      exact ⟨h2, rfl, rfl⟩
set_option maxHeartbeats 4000000 in
theorem rcmp_any (a b : NM) (w : World) : Calls Tryz.prog 9 #[nmV a, nmV b] w fun e w' => e = .returned (.int .i64 (cmpK a b)) ∧ Below w.heap.size w w' := by
  obtain ⟨s1, n1, t1⟩ := a
  obtain ⟨s2, n2, t2⟩ := b
  have HK : cmpK ⟨s1, n1, t1⟩ ⟨s2, n2, t2⟩ = or2 (cmpT s1.toList s2.toList) (cmpT n1.toList n2.toList) := rfl
  rw [HK]
  unfold or2
  rcases cmpT_split s1.toList s2.toList with ⟨h0, e0⟩ | ⟨h0, g0, e0⟩ | ⟨h0, g0, e0⟩
  · rw [e0, if_neg (by decide)]
    have g0 := less_irr s2.toList
    rcases cmpT_split n1.toList n2.toList with ⟨h1, e1⟩ | ⟨h1, g1, e1⟩ | ⟨h1, g1, e1⟩
    · rw [e1]
      have g1 := less_irr n2.toList
      clear e0 e1 HK
      go_enter Tryz.func9, Tryz.ntmps9
      go_wp2
      go_ret
      exact ⟨rfl, bel2 (Below.refl _ _)⟩
    · rw [e1]
      clear e0 e1 HK
      go_enter Tryz.func9, Tryz.ntmps9
      go_wp2
      go_ret
      exact ⟨rfl, bel2 (Below.refl _ _)⟩
    · rw [e1]
      clear e0 e1 HK
      go_enter Tryz.func9, Tryz.ntmps9
      go_wp2
      go_ret
      exact ⟨rfl, bel2 (Below.refl _ _)⟩
  · rw [e0, if_pos (by decide)]
    clear e0 HK
    go_enter Tryz.func9, Tryz.ntmps9
    go_wp2
    go_ret
    exact ⟨rfl, bel2 (Below.refl _ _)⟩
  · rw [e0, if_pos (by decide)]
    clear e0 HK
    go_enter Tryz.func9, Tryz.ntmps9
    go_wp2
    go_ret
    exact ⟨rfl, bel2 (Below.refl _ _)⟩
end Go.Proofs.YtlndkjcincflpaaGreatDoor
