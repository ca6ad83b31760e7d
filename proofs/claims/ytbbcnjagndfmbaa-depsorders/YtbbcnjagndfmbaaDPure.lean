/- Orders of numbers with edges, plainly: what is reached, rings, the document's order; no walk. -/
import Derived.WalkKit
namespace Go.Dp
set_option linter.unusedVariables false

/-- one step of the edges E (pairs of numbers below n count) -/
def St (n : Nat) (E : List (Nat × Nat)) (a b : Nat) : Prop := a < n ∧ b < n ∧ (a, b) ∈ E

abbrev Far (n : Nat) (E : List (Nat × Nat)) (a b : Nat) : Prop := Relation.TransGen (St n E) a b

theorem Far.lt {n E a b} (h : Far n E a b) : a < n ∧ b < n := by
  induction h with
  | single h => exact ⟨h.1, h.2.1⟩
  | tail _ h ih => exact ⟨ih.1, h.2.1⟩

theorem Far.trans {n E a b c} (h : Far n E a b) (g : Far n E b c) : Far n E a c := by
  induction g with
  | single g => exact .tail h g
  | tail _ g ih => exact .tail ih g

/-- Warshall's sets: ways whose inner numbers are below m -/
def Wa (e : Nat → Nat → Bool) : Nat → Nat → Nat → Bool
  | 0, i, j => e i j
  | m + 1, i, j => Wa e m i j || Wa e m i m && Wa e m m j

theorem Wa.mono {e m i j} (h : Wa e m i j = true) : Wa e (m + 1) i j = true := by
  simp [Wa, h]

theorem Wa.row {e m i} : Wa e (m + 1) i m = Wa e m i m := by
  simp only [Wa]; cases Wa e m i m <;> cases Wa e m m m <;> rfl

theorem Wa.col {e m j} : Wa e (m + 1) m j = Wa e m m j := by
  simp only [Wa]; cases Wa e m m j <;> cases Wa e m m m <;> rfl

theorem Wa.trans {e : Nat → Nat → Bool} : ∀ {m i j l}, j < m → Wa e m i j = true → Wa e m j l = true → Wa e m i l = true
  | 0, _, _, _, h, _, _ => absurd h (Nat.not_lt_zero _)
  | m + 1, i, j, l, h, p, q => by
    have T := @Wa.trans e m
    simp only [Wa, Bool.or_eq_true, Bool.and_eq_true] at p q ⊢
    rcases Nat.lt_succ_iff_lt_or_eq.1 h with h | rfl
    · rcases p with p | ⟨p, p'⟩ <;> rcases q with q | ⟨q, q'⟩
      · exact .inl (T h p q)
      · exact .inr ⟨T h p q, q'⟩
      · exact .inr ⟨p, T h p' q⟩
      · exact .inr ⟨p, q'⟩
    · have p1 : Wa e j i j = true := by rcases p with p | ⟨p, _⟩ <;> exact p
      have q1 : Wa e j j l = true := by rcases q with q | ⟨_, q⟩ <;> exact q
      exact .inr ⟨p1, q1⟩

theorem Wa.far {n E} {e : Nat → Nat → Bool} (he : ∀ i j, i < n → j < n → (e i j = true ↔ (i, j) ∈ E)) :
    ∀ {m i j}, m ≤ n → i < n → j < n → Wa e m i j = true → Far n E i j
  | 0, i, j, _, hi, hj, h => .single ⟨hi, hj, (he i j hi hj).1 h⟩
  | m + 1, i, j, hm, hi, hj, h => by
    simp only [Wa, Bool.or_eq_true, Bool.and_eq_true] at h
    rcases h with h | ⟨h, h'⟩
    · exact Wa.far he (Nat.le_of_succ_le hm) hi hj h
    · exact (Wa.far he (Nat.le_of_succ_le hm) hi hm h).trans (Wa.far he (Nat.le_of_succ_le hm) hm hj h')

theorem Wa.of_e {e m i j} (h : e i j = true) : Wa e m i j = true := by
  induction m with
  | zero => exact h
  | succ m ih => exact Wa.mono ih

theorem Wa.iff {n E} {e : Nat → Nat → Bool} (he : ∀ i j, i < n → j < n → (e i j = true ↔ (i, j) ∈ E)) {i j} (hi : i < n) (hj : j < n) :
    Wa e n i j = true ↔ Far n E i j := by
  refine ⟨Wa.far he (Nat.le_refl n) hi hj, fun h => ?_⟩
  clear hi hj
  induction h with
  | single h => exact Wa.of_e ((he _ _ h.1 h.2.1).2 h.2.2)
  | tail _ h ih => exact Wa.trans h.1 ih (Wa.of_e ((he _ _ h.1 h.2.1).2 h.2.2))

/-- ring and group -/
def Ring (n : Nat) (E : List (Nat × Nat)) (a : Nat) : Prop := Far n E a a
def Same (n : Nat) (E : List (Nat × Nat)) (a b : Nat) : Prop := a = b ∨ (Far n E a b ∧ Far n E b a)

theorem Same.symm {n E a b} (h : Same n E a b) : Same n E b a := by
  rcases h with rfl | ⟨h, g⟩
  · exact .inl rfl
  · exact .inr ⟨g, h⟩

theorem Same.trans {n E a b c} (h : Same n E a b) (g : Same n E b c) : Same n E a c := by
  rcases h with rfl | ⟨h, h'⟩
  · exact g
  · rcases g with rfl | ⟨g, g'⟩
    · exact .inr ⟨h, h'⟩
    · exact .inr ⟨h.trans g, g'.trans h'⟩

/-- a reads b outside of its group -/
def Out (n : Nat) (E : List (Nat × Nat)) (a b : Nat) : Prop := Far n E a b ∧ ¬ Far n E b a

theorem Out.trans {n E a b c} (h : Out n E a b) (g : Out n E b c) : Out n E a c :=
  ⟨h.1.trans g.1, fun x => g.2 (x.trans h.1)⟩

theorem Out.irrefl {n E a} (h : Out n E a a) : False := h.2 h.1

theorem Out.of_same {n E a b c} (h : Same n E a b) (g : Out n E b c) : Out n E a c := by
  rcases h with rfl | ⟨h, h'⟩
  · exact g
  · exact ⟨h.trans g.1, fun x => g.2 (x.trans h)⟩

/-- a list of numbers that is not empty holds one that reads none of them outside -/
theorem least_out {n E} : ∀ (l : List Nat), l ≠ [] → ∃ a ∈ l, ∀ b ∈ l, ¬ Out n E a b
  | [], h => absurd rfl h
  | [a], _ => ⟨a, List.mem_singleton.2 rfl, fun b hb x => by obtain rfl := List.mem_singleton.1 hb; exact x.irrefl⟩
  | a :: c :: l, _ => by
    obtain ⟨m, hm, h⟩ := least_out (n := n) (E := E) (c :: l) (by simp)
    by_cases x : Out n E m a
    · refine ⟨a, List.mem_cons_self .., fun b hb y => ?_⟩
      rcases List.mem_cons.1 hb with rfl | hb
      · exact y.irrefl
      · exact h b hb (x.trans y)
    · refine ⟨m, List.mem_cons_of_mem _ hm, fun b hb y => ?_⟩
      rcases List.mem_cons.1 hb with rfl | hb
      · exact x y
      · exact h b hb y


/-- is b read from a, step by step? -/
def farB (n : Nat) (E : List (Nat × Nat)) (a b : Nat) : Bool :=
  decide (a < n) && decide (b < n) && Wa (fun i j => E.contains (i, j)) n a b

theorem farB_iff {n E a b} : farB n E a b = true ↔ Far n E a b := by
  unfold farB
  by_cases ha : a < n
  · by_cases hb : b < n
    · simp only [ha, hb, decide_true, Bool.true_and]
      exact Wa.iff (fun i j _ _ => by simp) ha hb
    · simp only [hb, decide_false, Bool.and_false, Bool.false_and]
      exact ⟨fun h => by simp at h, fun h => absurd h.lt.2 hb⟩
  · simp only [ha, decide_false, Bool.false_and]
    exact ⟨fun h => by simp at h, fun h => absurd h.lt.1 ha⟩

def sameB (n : Nat) (E : List (Nat × Nat)) (a b : Nat) : Bool := farB n E a b && farB n E b a

/-- may i come next? -/
def readyB (n : Nat) (E : List (Nat × Nat)) (out : List Nat) (i : Nat) : Bool :=
  (List.range n).all fun k => !(sameB n E i k && decide (k < i) || farB n E i k && !sameB n E i k && !out.contains k)

def nextB (n : Nat) (E : List (Nat × Nat)) (out : List Nat) : Option Nat :=
  (List.range n).find? fun i => !out.contains i && readyB n E out i

def groupB (n : Nat) (E : List (Nat × Nat)) (i : Nat) : List Nat :=
  (List.range n).filter fun k => decide (i ≤ k) && (k == i || sameB n E i k)

def stepB (n : Nat) (E : List (Nat × Nat)) (out : List Nat) : List Nat :=
  match nextB n E out with
  | none => out
  | some i => out ++ groupB n E i

def ordB (n : Nat) (E : List (Nat × Nat)) : Nat → List Nat
  | 0 => []
  | m + 1 => stepB n E (ordB n E m)

def orderB (n : Nat) (E : List (Nat × Nat)) : List Nat := ordB n E n
def ringB (n : Nat) (E : List (Nat × Nat)) : List Bool := (List.range n).map fun i => farB n E i i

theorem ready_iff {n E out i} : readyB n E out i = true ↔
    ∀ k, k < n → (Far n E i k → Far n E k i → i ≤ k) ∧ (Out n E i k → k ∈ out) := by
  unfold readyB
  rw [List.all_eq_true]
  constructor
  · intro h k hk
    have h := h k (List.mem_range.2 hk)
    constructor
    · intro a b
      have s : sameB n E i k = true := by unfold sameB; rw [farB_iff.2 a, farB_iff.2 b]; rfl
      rw [s] at h
      by_cases x : k < i
      · simp [x] at h
      · omega
    · intro o
      have a := farB_iff.2 o.1
      have s : sameB n E i k = false := by
        unfold sameB
        cases c : farB n E k i with
        | false => simp
        | true => exact absurd (farB_iff.1 c) o.2
      rw [a, s] at h
      simpa using h
  · intro h k hk
    obtain ⟨h1, h2⟩ := h k (List.mem_range.1 hk)
    cases a : farB n E i k with
    | false => simp [sameB, a]
    | true =>
      cases b : farB n E k i with
      | false =>
        have := h2 ⟨farB_iff.1 a, fun x => by rw [farB_iff.2 x] at b; cases b⟩
        simp [sameB, a, b, this]
      | true =>
        have := h1 (farB_iff.1 a) (farB_iff.1 b)
        simp [sameB, a, b, this]

theorem mem_group {n E i k} : k ∈ groupB n E i ↔ k < n ∧ i ≤ k ∧ Same n E i k := by
  unfold groupB
  rw [List.mem_filter, List.mem_range]
  constructor
  · rintro ⟨h, g⟩
    simp only [Bool.and_eq_true, decide_eq_true_eq, Bool.or_eq_true, beq_iff_eq] at g
    refine ⟨h, g.1, ?_⟩
    rcases g.2 with rfl | g
    · exact .inl rfl
    · unfold sameB at g
      rw [Bool.and_eq_true] at g
      exact .inr ⟨farB_iff.1 g.1, farB_iff.1 g.2⟩
  · rintro ⟨h, g, s⟩
    refine ⟨h, ?_⟩
    simp only [Bool.and_eq_true, decide_eq_true_eq, Bool.or_eq_true, beq_iff_eq]
    refine ⟨g, ?_⟩
    rcases s with rfl | ⟨s, t⟩
    · exact .inl rfl
    · exact .inr (by unfold sameB; rw [farB_iff.2 s, farB_iff.2 t]; rfl)

/-- what holds of the numbers that have come -/
structure Come (n : Nat) (E : List (Nat × Nat)) (out : List Nat) : Prop where
  lt : ∀ x ∈ out, x < n
  one : out.Nodup
  whole : ∀ x ∈ out, ∀ y, y < n → Same n E x y → y ∈ out
  ahead : ∀ a i b, out = a ++ i :: b → ∀ j, Out n E i j → j ∈ a

theorem Come.nil {n E} : Come n E [] :=
  ⟨fun _ h => by simp at h, List.nodup_nil, fun _ h => by simp at h, fun a i b h => by simp at h⟩

theorem next_some {n E out i} (h : nextB n E out = some i) : i < n ∧ i ∉ out ∧ readyB n E out i = true ∧
    ∀ k, k < i → k ∉ out → readyB n E out k = false := by
  have g := List.find?_some h
  have m := List.mem_of_find?_eq_some h
  simp only [Bool.and_eq_true, Bool.not_eq_true'] at g
  refine ⟨List.mem_range.1 m, by simpa using g.1, g.2, fun k hk ho => ?_⟩
  obtain ⟨_, as, bs, e, q⟩ := List.find?_eq_some_iff_append.1 h
  have hm := List.mem_range.1 m
  have hl : as.length = i := by
    have := congrArg (fun l => l[as.length]?) e
    simp only [List.getElem?_append_right (Nat.le_refl _), Nat.sub_self, List.getElem?_cons_zero] at this
    have la : as.length < n := by
      have := congrArg List.length e
      simp only [List.length_range, List.length_append, List.length_cons] at this
      omega
    rw [List.getElem?_range la] at this
    exact Option.some.inj this
  have hk' : k ∈ as := by
    have : (List.range n)[k]? = some k := List.getElem?_range (by omega)
    rw [e, List.getElem?_append_left (by omega)] at this
    exact List.mem_of_getElem? this
  have := q k hk'
  simpa [ho] using this

theorem Come.step {n E out i} (c : Come n E out) (h : nextB n E out = some i) : Come n E (out ++ groupB n E i) := by
  obtain ⟨hi, hn, hr, _⟩ := next_some h
  have R := ready_iff.1 hr
  have low : ∀ k, k < n → Same n E i k → i ≤ k := by
    intro k hk s
    rcases s with rfl | ⟨s, t⟩
    · exact Nat.le_refl _
    · exact (R k hk).1 s t
  refine ⟨?_, ?_, ?_, ?_⟩
  · intro x hx
    rcases List.mem_append.1 hx with hx | hx
    · exact c.lt x hx
    · exact (mem_group.1 hx).1
  · rw [List.nodup_append]
    refine ⟨c.one, List.Pairwise.filter _ List.nodup_range, ?_⟩
    intro a ha b hb e
    subst e
    obtain ⟨_, _, s⟩ := mem_group.1 hb
    exact hn (c.whole a ha i hi s.symm)
  · intro x hx y hy s
    rcases List.mem_append.1 hx with hx | hx
    · exact List.mem_append.2 (.inl (c.whole x hx y hy s))
    · have t := (mem_group.1 hx).2.2.trans s
      exact List.mem_append.2 (.inr (mem_group.2 ⟨hy, low y hy t, t⟩))
  · intro a x b e j o
    rcases List.append_eq_append_iff.1 e with ⟨a', e1, e2⟩ | ⟨b', e1, e2⟩
    · rw [e1]
      have hx : x ∈ groupB n E i := by rw [e2]; simp
      have o' := Out.of_same (mem_group.1 hx).2.2 o
      exact List.mem_append.2 (.inl ((R j o'.1.lt.2).2 o'))
    · cases b' with
      | nil =>
        simp only [List.append_nil, List.nil_append] at e1 e2
        have hx : x ∈ groupB n E i := by rw [← e2]; simp
        have o' := Out.of_same (mem_group.1 hx).2.2 o
        rw [← e1]
        exact (R j o'.1.lt.2).2 o'
      | cons y b' =>
        simp only [List.cons_append, List.cons.injEq] at e2
        obtain ⟨rfl, _⟩ := e2
        exact c.ahead a x b' e1 j o

/-- the least of the numbers of a list that hold P -/
theorem least_of {P : Nat → Prop} (h : ∃ i, P i) : ∃ i, P i ∧ ∀ k, P k → i ≤ k := by
  obtain ⟨i, hi⟩ := h
  induction i using Nat.strongRecOn with
  | ind i ih =>
    by_cases x : ∃ k, k < i ∧ P k
    · obtain ⟨k, hk, p⟩ := x
      exact ih k hk p
    · exact ⟨i, hi, fun k p => Nat.le_of_not_lt fun h => x ⟨k, h, p⟩⟩

theorem next_there {n E out} (c : Come n E out) (h : ∃ x, x < n ∧ x ∉ out) : ∃ i, nextB n E out = some i := by
  obtain ⟨x, hx, hn⟩ := h
  obtain ⟨a, ha, hl⟩ := least_out (n := n) (E := E) ((List.range n).filter fun k => !out.contains k) (by
    intro e
    have : x ∈ (List.range n).filter fun k => !out.contains k := by simp [hx, hn]
    rw [e] at this
    cases this)
  have ha' : a < n ∧ a ∉ out := by simpa using ha
  obtain ⟨i, ⟨hi, s⟩, low⟩ := least_of (P := fun k => k < n ∧ Same n E a k) ⟨a, ha'.1, .inl rfl⟩
  have hio : i ∉ out := fun m => ha'.2 (c.whole i m a ha'.1 s.symm)
  have r : readyB n E out i = true := by
    rw [ready_iff]
    intro k hk
    refine ⟨fun f g => low k ⟨hk, s.trans (.inr ⟨f, g⟩)⟩, fun o => ?_⟩
    refine Decidable.byContradiction fun q => ?_
    exact hl k (by simp [hk, q]) (Out.of_same s o)
  cases e : nextB n E out with
  | some j => exact ⟨j, rfl⟩
  | none =>
    have := List.find?_eq_none.1 e i (List.mem_range.2 hi)
    simp [r, hio] at this

theorem nodup_le {n} {l : List Nat} (h : l.Nodup) (hl : ∀ x ∈ l, x < n) : l.length ≤ n := by
  have := List.Nodup.length_le_of_subset h (l₂ := List.range n) (fun x hx => List.mem_range.2 (hl x hx))
  simpa using this

theorem come_ord {n E} : ∀ m, Come n E (ordB n E m) ∧ (m ≤ (ordB n E m).length ∨ ∀ x, x < n → x ∈ ordB n E m)
  | 0 => ⟨Come.nil, .inl (Nat.zero_le _)⟩
  | m + 1 => by
    obtain ⟨c, g⟩ := come_ord (n := n) (E := E) m
    show Come n E (stepB n E _) ∧ (_ ≤ (stepB n E _).length ∨ ∀ x, x < n → x ∈ stepB n E _)
    unfold stepB
    cases e : nextB n E (ordB n E m) with
    | none =>
      refine ⟨c, .inr fun x hx => Decidable.byContradiction fun q => ?_⟩
      obtain ⟨i, hi⟩ := next_there c ⟨x, hx, q⟩
      rw [e] at hi
      cases hi
    | some i =>
      refine ⟨c.step e, ?_⟩
      rcases g with g | g
      · left
        have : i ∈ groupB n E i := mem_group.2 ⟨(next_some e).1, Nat.le_refl _, .inl rfl⟩
        have := List.length_pos_of_mem this
        simp only [List.length_append]
        omega
      · exact absurd (g i (next_some e).1) (next_some e).2.1

theorem order_come {n E} : Come n E (orderB n E) := (come_ord n).1

theorem order_all {n E x} (h : x < n) : x ∈ orderB n E := by
  obtain ⟨c, g | g⟩ := come_ord (n := n) (E := E) n
  · refine Decidable.byContradiction fun q => ?_
    have := nodup_le (n := n) (l := x :: ordB n E n) (List.nodup_cons.2 ⟨q, c.one⟩) (by
      intro y hy
      rcases List.mem_cons.1 hy with rfl | hy
      · exact h
      · exact c.lt y hy)
    simp only [List.length_cons] at this
    omega
  · exact g x h

theorem order_length {n E} : (orderB n E).length = n := by
  have a := nodup_le order_come.one (order_come (n := n) (E := E)).lt
  have b := List.Nodup.length_le_of_subset List.nodup_range (l₂ := orderB n E) (l₁ := List.range n) (fun x hx => order_all (List.mem_range.1 hx))
  simp only [List.length_range] at b
  omega

theorem next_eq {n E out i} (hi : i < n) (ho : i ∉ out) (hr : readyB n E out i = true)
    (low : ∀ k, k < i → k ∉ out → readyB n E out k = false) : nextB n E out = some i := by
  cases e : nextB n E out with
  | none =>
    have := List.find?_eq_none.1 e i (List.mem_range.2 hi)
    simp [hr, ho] at this
  | some k =>
    obtain ⟨hk, kn, kr, kl⟩ := next_some e
    have a : ¬ k < i := fun h => by have := low k h kn; rw [kr] at this; cases this
    have b : ¬ i < k := fun h => by have := kl i h ho; rw [hr] at this; cases this
    have : k = i := by omega
    rw [this]

theorem Far.mono {n E E' a b} (h : Far n E a b) (s : ∀ x ∈ E, x ∈ E') : Far n E' a b := by
  induction h with
  | single g => exact .single ⟨g.1, g.2.1, s _ g.2.2⟩
  | tail _ g ih => exact .tail ih ⟨g.1, g.2.1, s _ g.2.2⟩

/-- when all have come, no more comes -/
theorem ord_more {n E m} (h : n ≤ m) : ordB n E m = orderB n E := by
  obtain ⟨d, rfl⟩ := Nat.le.dest h
  clear h
  induction d with
  | zero => rfl
  | succ d ih =>
    show stepB n E (ordB n E (n + d)) = _
    rw [ih]
    unfold stepB
    cases e : nextB n E (orderB n E) with
    | none => rfl
    | some i => exact absurd (order_all (next_some e).1) (next_some e).2.1

/-- a list that was built by steps and holds all is the order -/
theorem ord_eq {n E m} (h : ∀ x, x < n → x ∈ ordB n E m) : ordB n E m = orderB n E := by
  have st : ∀ d, ordB n E (m + d) = ordB n E m := by
    intro d
    induction d with
    | zero => rfl
    | succ d ih =>
      show stepB n E (ordB n E (m + d)) = _
      rw [ih]
      unfold stepB
      cases e : nextB n E (ordB n E m) with
      | none => rfl
      | some i => exact absurd (h i (next_some e).1) (next_some e).2.1
  rw [← st n, Nat.add_comm, ord_more (Nat.le_add_right ..)]


/-- what holds between two numbers that are taken: s what is seen, l what is left -/
structure Bfs (n : Nat) (E : List (Nat × Nat)) (f : Nat) (s : List Bool) (l : List Nat) : Prop where
  len : s.length = n
  far : ∀ b, s[b]? = some true → Far n E f b
  left : ∀ a ∈ l, a = f ∨ s[a]? = some true
  near : ∀ a b, St n E a b → (a = f ∨ s[a]? = some true) → a ∈ l ∨ s[b]? = some true

theorem Bfs.begin {n E f} : Bfs n E f (List.replicate n false) [f] := by
  refine ⟨by simp, ?_, ?_, ?_⟩
  · intro b h
    rw [List.getElem?_replicate] at h
    split at h <;> simp at h
  · intro a h
    exact .inl (List.mem_singleton.1 h)
  · intro a b h g
    rcases g with rfl | g
    · exact .inl (List.mem_singleton.2 rfl)
    · rw [List.getElem?_replicate] at g
      split at g <;> simp at g

/-- inside a round: a is taken, the edges up to some have been looked at -/
structure BfsIn (n : Nat) (E : List (Nat × Nat)) (f a : Nat) (pre : List (Nat × Nat)) (s : List Bool) (l : List Nat) : Prop where
  len : s.length = n
  own : a = f ∨ s[a]? = some true
  far : ∀ b, s[b]? = some true → Far n E f b
  left : ∀ a ∈ l, a = f ∨ s[a]? = some true
  near : ∀ c b, St n E c b → (c = f ∨ s[c]? = some true) → c ∈ l ∨ s[b]? = some true ∨ (c = a ∧ (c, b) ∉ pre)

theorem Bfs.take {n E f s a l} (h : Bfs n E f s (a :: l)) : BfsIn n E f a [] s l := by
  refine ⟨h.len, h.left a (List.mem_cons_self ..), h.far, fun x hx => h.left x (List.mem_cons_of_mem _ hx), ?_⟩
  intro c b g x
  rcases h.near c b g x with y | y
  · rcases List.mem_cons.1 y with rfl | y
    · exact .inr (.inr ⟨rfl, by simp⟩)
    · exact .inl y
  · exact .inr (.inl y)

theorem BfsIn.pass {n E f a pre s l} {e : Nat × Nat} (h : BfsIn n E f a pre s l) (g : e.1 ≠ a ∨ s[e.2]? = some true) :
    BfsIn n E f a (pre ++ [e]) s l := by
  refine ⟨h.len, h.own, h.far, h.left, ?_⟩
  intro c b k x
  rcases h.near c b k x with y | y | ⟨y, z⟩
  · exact .inl y
  · exact .inr (.inl y)
  · by_cases q : (c, b) = e
    · subst q
      rcases g with g | g
      · exact absurd y g
      · exact .inr (.inl g)
    · refine .inr (.inr ⟨y, fun m => ?_⟩)
      rcases List.mem_append.1 m with m | m
      · exact z m
      · exact q (List.mem_singleton.1 m)

theorem BfsIn.push {n E f a pre s l} {e : Nat × Nat} (h : BfsIn n E f a pre s l) (he : e ∈ E) (h1 : e.1 = a) (ha : a < n) (hb : e.2 < n) :
    BfsIn n E f a (pre ++ [e]) (s.set e.2 true) (l ++ [e.2]) := by
  have st : St n E a e.2 := ⟨ha, hb, by rw [← h1]; exact he⟩
  have up : ∀ {x : Nat}, s[x]? = some true → (s.set e.2 true)[x]? = some true := by
    intro x hx
    rw [List.getElem?_set]
    split
    · rw [if_pos (by rw [h.len]; exact hb)]
    · exact hx
  have at_ : (s.set e.2 true)[e.2]? = some true := by
    rw [List.getElem?_set, if_pos rfl, if_pos (by rw [h.len]; exact hb)]
  have dn : ∀ {x : Nat}, (s.set e.2 true)[x]? = some true → x = e.2 ∨ s[x]? = some true := by
    intro x hx
    rw [List.getElem?_set] at hx
    split at hx
    · exact .inl (by omega)
    · exact .inr hx
  have fa : Far n E f e.2 := by
    rcases h.own with rfl | o
    · exact .single st
    · exact .tail (h.far a o) st
  refine ⟨by rw [List.length_set]; exact h.len, h.own.imp_right up, ?_, ?_, ?_⟩
  · intro b hb
    rcases dn hb with rfl | hb
    · exact fa
    · exact h.far b hb
  · intro x hx
    rcases List.mem_append.1 hx with hx | hx
    · exact (h.left x hx).imp_right up
    · rw [List.mem_singleton.1 hx]; exact .inr at_
  · intro c b k x
    by_cases y : c ∈ l ++ [e.2]
    · exact .inl y
    · right
      have nx : c ≠ e.2 := fun q => y (by rw [q]; simp)
      have x' : c = f ∨ s[c]? = some true := by
        rcases x with x | x
        · exact .inl x
        · rcases dn x with q | q
          · exact absurd q nx
          · exact .inr q
      rcases h.near c b k x' with z | z | ⟨z, z'⟩
      · exact absurd (List.mem_append.2 (.inl z)) y
      · exact .inl (up z)
      · by_cases q : (c, b) = e
        · left
          have : b = e.2 := by rw [← q]
          rw [this]; exact at_
        · refine .inr ⟨z, fun m => ?_⟩
          rcases List.mem_append.1 m with m | m
          · exact z' m
          · exact q (List.mem_singleton.1 m)

theorem BfsIn.over {n E f a s l} (h : BfsIn n E f a E s l) : Bfs n E f s l :=
  ⟨h.len, h.far, h.left, fun c b k x => (h.near c b k x).imp_right fun y => y.elim id fun z => absurd k.2.2 z.2⟩

theorem Bfs.done {n E f s} (h : Bfs n E f s []) (b : Nat) : s[b]? = some true ↔ Far n E f b := by
  refine ⟨h.far b, fun g => ?_⟩
  induction g with
  | single g => exact (h.near f _ g (.inl rfl)).elim (fun x => by cases x) id
  | tail _ g ih => exact (h.near _ _ g (.inr ih)).elim (fun x => by cases x) id

/-- how many are not seen yet -/
def unseen (s : List Bool) : Nat := s.countP (fun b => !b)

theorem unseen_set : ∀ (s : List Bool) (b : Nat), s[b]? = some false → unseen (s.set b true) + 1 = unseen s
  | [], b, h => by simp at h
  | x :: s, 0, h => by
    have : x = false := by simpa using h
    subst this
    simp [unseen]
  | x :: s, b + 1, h => by
    have := unseen_set s b (by simpa using h)
    unfold unseen at *
    rw [List.set_cons_succ, List.countP_cons, List.countP_cons]
    omega

end Go.Dp
