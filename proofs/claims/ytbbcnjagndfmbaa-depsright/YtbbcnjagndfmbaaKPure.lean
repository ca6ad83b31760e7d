/- Groups that come one behind another, plainly: who waits for how many, who may come next; no walk. -/
import Derived.Test.YtbbcnjagndfmbaaTPure
namespace Go.Dp
set_option linter.unusedVariables false
/-- What a reads, edge by edge. -/
def reads (E : List (Nat × Nat)) (a : Nat) : List Nat := (E.filter fun p => p.1 == a).map (·.2)
theorem mem_reads {E : List (Nat × Nat)} {a b : Nat} : b ∈ reads E a ↔ (a, b) ∈ E := by
  unfold reads
  simp
theorem reads_cat {E : List (Nat × Nat)} {p : Nat × Nat} {a : Nat} : reads (E ++ [p]) a = if p.1 = a then reads E a ++ [p.2] else reads E a := by
  unfold reads
  rw [List.filter_append, List.map_append]
  by_cases h : p.1 = a
  · simp [h]
  · simp [h]
theorem reads_len {E : List (Nat × Nat)} {a : Nat} : (reads E a).length ≤ E.length := by
  unfold reads
  rw [List.length_map]
  exact List.length_filter_le ..
/-- What the groups are: of each number the least one of its own. -/
structure GR (n : Nat) (E : List (Nat × Nat)) (gr : Nat → Nat) : Prop where
  lt : ∀ e ∈ E, e.1 < n ∧ e.2 < n
  grp : ∀ x, x < n → Same n E x (gr x) ∧ ∀ y, Same n E x y → gr x ≤ y
theorem GR.of_ti {n E sn gr cnt} (h : TI n E sn [] gr cnt) (hl : ∀ e ∈ E, e.1 < n ∧ e.2 < n) (ha : ∀ x, x < n → sn x ≠ none) : GR n E gr :=
  ⟨hl, fun x hx => h.grp x (by
    cases c : sn x with
    | none => exact absurd c (ha x hx)
    | some v =>
      rcases (h.val x v c).2 with ⟨rfl, _⟩ | ⟨_, q⟩
      · rfl
      · cases q)⟩
section
variable {n : Nat} {E : List (Nat × Nat)} {gr : Nat → Nat}
theorem same_lt {x y : Nat} (h : Same n E x y) (hx : x < n) : y < n := by
  rcases h with rfl | h
  · exact hx
  · exact h.1.lt.2
theorem GR.lt' (G : GR n E gr) {x : Nat} (hx : x < n) : gr x < n := same_lt (G.grp x hx).1 hx
theorem GR.eq_iff (G : GR n E gr) {x y : Nat} (hx : x < n) (hy : y < n) : gr x = gr y ↔ Same n E x y := by
  constructor
  · intro h
    have := (G.grp x hx).1
    rw [h] at this
    exact this.trans (G.grp y hy).1.symm
  · intro s
    have a := (G.grp x hx).2 (gr y) (s.trans (G.grp y hy).1)
    have b := (G.grp y hy).2 (gr x) (s.symm.trans (G.grp x hx).1)
    omega
theorem GR.idem (G : GR n E gr) {x : Nat} (hx : x < n) : gr (gr x) = gr x :=
  ((G.eq_iff (G.lt' hx) hx).2 (G.grp x hx).1.symm)
theorem GR.le (G : GR n E gr) {x : Nat} (hx : x < n) : gr x ≤ x := (G.grp x hx).2 x (.inl rfl)
theorem GR.st (G : GR n E gr) {a b : Nat} (h : (a, b) ∈ E) : St n E a b := ⟨(G.lt _ h).1, (G.lt _ h).2, h⟩
theorem far_head {a c : Nat} (h : Far n E a c) : ∃ b, St n E a b ∧ (b = c ∨ Far n E b c) := by
  induction h with
  | single s => exact ⟨_, s, .inl rfl⟩
  | tail _ s ih =>
    obtain ⟨b, hb, h⟩ := ih
    rcases h with rfl | h
    · exact ⟨_, hb, .inr (.single s)⟩
    · exact ⟨b, hb, .inr (h.tail s)⟩
/-- a lies on a ring if it reads one of its group. -/
theorem GR.ring (G : GR n E gr) {a : Nat} (ha : a < n) : (reads E a).any (fun b => gr b == gr a) = farB n E a a := by
  rw [Bool.eq_iff_iff, farB_iff, List.any_eq_true]
  constructor
  · rintro ⟨b, hb, e⟩
    have s := G.st (mem_reads.1 hb)
    have := (G.eq_iff s.2.1 ha).1 (by simpa using e)
    rcases this with rfl | this
    · exact .single s
    · exact .trans (.single s) this.1
  · intro f
    obtain ⟨b, s, h⟩ := far_head f
    refine ⟨b, mem_reads.2 s.2.2, ?_⟩
    have : Same n E b a := by
      rcases h with rfl | h
      · exact .inl rfl
      · exact .inr ⟨h, .single s⟩
    simpa using (G.eq_iff s.2.1 ha).2 this
/-- All edges, by who reads. -/
def PP (E : List (Nat × Nat)) (k : Nat) : List (Nat × Nat) := (List.range k).flatMap fun a => (reads E a).map fun b => (a, b)
theorem PP_succ {k : Nat} : PP E (k + 1) = PP E k ++ (reads E k).map fun b => (k, b) := by
  unfold PP
  rw [List.range_succ, List.flatMap_append]
  simp
theorem mem_PP (G : GR n E gr) {p : Nat × Nat} : p ∈ PP E n ↔ p ∈ E := by
  unfold PP
  simp only [List.mem_flatMap, List.mem_range, List.mem_map, mem_reads]
  constructor
  · rintro ⟨a, _, b, h, rfl⟩
    exact h
  · intro h
    exact ⟨p.1, (G.lt p h).1, p.2, h, rfl⟩
theorem PP_len : ∀ k, (PP E k).length = ((List.range k).map fun a => (reads E a).length).sum := by
  intro k
  unfold PP
  rw [List.length_flatMap]
  simp
/-- Who reads h; for how many g waits; who is of g. -/
def rdr (gr : Nat → Nat) (P : List (Nat × Nat)) (h : Nat) : List Nat := (P.filter fun p => gr p.2 == h && gr p.1 != h).map fun p => gr p.1
def wt (gr : Nat → Nat) (P : List (Nat × Nat)) (g : Nat) : Nat := P.countP fun p => gr p.1 == g && gr p.2 != g
def mbr (gr : Nat → Nat) (k g : Nat) : List Nat := (List.range k).filter fun a => gr a == g
theorem mbr_succ {k g : Nat} : mbr gr (k + 1) g = if gr k = g then mbr gr k g ++ [k] else mbr gr k g := by
  unfold mbr
  rw [List.range_succ, List.filter_append]
  by_cases h : gr k = g
  · simp [h]
  · simp [h]
theorem mbr_len {k g : Nat} : (mbr gr k g).length ≤ k := by
  have := List.length_filter_le (fun a => gr a == g) (List.range k)
  rw [List.length_range] at this
  exact this
theorem rdr_len {P : List (Nat × Nat)} {h : Nat} : (rdr gr P h).length ≤ P.length := by
  unfold rdr
  rw [List.length_map]
  exact List.length_filter_le ..
theorem wt_len {P : List (Nat × Nat)} {h : Nat} : wt gr P h ≤ P.length := List.countP_le_length
/-- An edge inside a group: nothing changes. -/
theorem rdr_in {P : List (Nat × Nat)} {p : Nat × Nat} (e : gr p.2 = gr p.1) (h : Nat) : rdr gr (P ++ [p]) h = rdr gr P h ∧ wt gr (P ++ [p]) h = wt gr P h := by
  unfold rdr wt
  rw [List.filter_append, List.map_append, List.countP_append]
  constructor
  · by_cases q : gr p.1 = h <;> simp [e, q]
  · by_cases q : gr p.1 = h <;> simp [e, q]
theorem rdr_out {P : List (Nat × Nat)} {p : Nat × Nat} (e : gr p.2 ≠ gr p.1) (h : Nat) : rdr gr (P ++ [p]) h = if gr p.2 = h then rdr gr P h ++ [gr p.1] else rdr gr P h := by
  unfold rdr
  rw [List.filter_append, List.map_append]
  by_cases q : gr p.2 = h
  · subst q
    have : (gr p.1 != gr p.2) = true := by simpa using fun x => e x.symm
    simp [this]
  · simp [q]
theorem wt_out {P : List (Nat × Nat)} {p : Nat × Nat} (e : gr p.2 ≠ gr p.1) (g : Nat) : wt gr (P ++ [p]) g = if gr p.1 = g then wt gr P g + 1 else wt gr P g := by
  unfold wt
  rw [List.countP_append]
  by_cases q : gr p.1 = g
  · subst q
    have : (gr p.2 != gr p.1) = true := by simpa using e
    simp [this]
  · simp [q]
/-- For how many g waits, when out has come. -/
def wo (gr : Nat → Nat) (P : List (Nat × Nat)) (out : List Nat) (g : Nat) : Nat := P.countP fun p => gr p.1 == g && gr p.2 != g && !out.contains p.2
theorem wo_nil {P : List (Nat × Nat)} {g : Nat} : wo gr P [] g = wt gr P g := by
  unfold wo wt
  simp
theorem Come.next {out : List Nat} (c : Come n E out) {a b : Nat} (s : St n E a b) (h : a ∈ out) : b ∈ out := by
  by_cases f : Far n E b a
  · exact c.whole a h b s.2.1 (.inr ⟨.single s, f⟩)
  · obtain ⟨x, y, e⟩ := List.append_of_mem h
    have := c.ahead x a y e b ⟨.single s, f⟩
    rw [e]
    exact List.mem_append_left _ this
theorem wo_zero {P : List (Nat × Nat)} {out : List Nat} {g : Nat} : wo gr P out g = 0 ↔ ∀ p ∈ P, gr p.1 = g → gr p.2 ≠ g → p.2 ∈ out := by
  unfold wo
  rw [List.countP_eq_zero]
  constructor
  · intro h p hp e1 e2
    have := h p hp
    simpa [e1, e2] using this
  · intro h p hp
    have := h p hp
    simp only [Bool.and_eq_true, beq_iff_eq, bne_iff_ne, ne_eq, Bool.not_eq_true', not_and, Bool.not_eq_false]
    intro ⟨a, b⟩
    simpa using this a b
/-- A number may come next if it is the least of its group, which waits for none. -/
theorem GR.ready (G : GR n E gr) {out : List Nat} (c : Come n E out) {i : Nat} (hi : i < n) : readyB n E out i = true ↔ gr i = i ∧ wo gr (PP E n) out i = 0 := by
  rw [ready_iff, wo_zero]
  constructor
  · intro h
    have e : gr i = i := by
      rcases (G.grp i hi).1 with e | ⟨f, g⟩
      · exact e.symm
      · have := (h (gr i) f.lt.2).1 f g
        have := G.le hi
        omega
    refine ⟨e, fun p hp e1 e2 => ?_⟩
    have s := G.st ((mem_PP G).1 hp)
    have sm : Same n E i p.1 := (G.eq_iff hi s.1).1 (by rw [e, e1])
    refine (h p.2 s.2.1).2 ⟨?_, fun f => e2 ?_⟩
    · rcases sm with e3 | sm
      · rw [e3]; exact .single s
      · exact sm.1.tail s
    · have fi : Far n E i p.2 := by
        rcases sm with e3 | sm
        · rw [e3]; exact .single s
        · exact sm.1.tail s
      rw [← e]
      exact (G.eq_iff s.2.1 hi).2 (.inr ⟨f, fi⟩)
  · rintro ⟨e, h⟩ k hk
    refine ⟨fun f g => ?_, fun o => ?_⟩
    · rw [← e]
      exact (G.grp i hi).2 k (.inr ⟨f, g⟩)
    · have all : ∀ k, Far n E i k → Same n E i k ∨ k ∈ out := by
        intro k f
        induction f with
        | @single b s =>
          by_cases q : gr b = i
          · exact .inl ((G.eq_iff hi s.2.1).1 (by rw [e, q]))
          · exact .inr (h _ ((mem_PP G).2 s.2.2) e q)
        | @tail b d f s ih =>
          rcases ih with sm | m
          · by_cases q : gr d = i
            · exact .inl ((G.eq_iff hi s.2.1).1 (by rw [e, q]))
            · exact .inr (h _ ((mem_PP G).2 s.2.2) (by rw [← (G.eq_iff hi s.1).2 sm, e]) q)
          · exact .inr (c.next s m)
      rcases all k o.1 with sm | m
      · exfalso
        rcases sm with rfl | sm
        · exact o.2 o.1
        · exact o.2 sm.2
      · exact m
theorem GR.group (G : GR n E gr) {g : Nat} (hg : g < n) (e : gr g = g) : groupB n E g = mbr gr n g := by
  unfold groupB mbr
  refine List.filter_congr fun k hk => ?_
  have hk := List.mem_range.1 hk
  have m := mem_group (n := n) (E := E) (i := g) (k := k)
  unfold groupB at m
  rw [List.mem_filter, List.mem_range] at m
  have : (decide (g ≤ k) && (k == g || sameB n E g k)) = true ↔ g ≤ k ∧ Same n E g k := ⟨fun h => (m.1 ⟨hk, h⟩).2, fun h => (m.2 ⟨hk, h⟩).2⟩
  rw [Bool.eq_iff_iff, this]
  constructor
  · rintro ⟨_, s⟩
    have := (G.eq_iff hg hk).2 s
    simp [← this, e]
  · intro h
    have h : gr k = g := by simpa using h
    exact ⟨by rw [← h]; exact G.le hk, (G.eq_iff hg hk).1 (by rw [e, h])⟩
/-- The list of those that may come: v says for how many each waits yet. -/
structure Rl (n : Nat) (gr : Nat → Nat) (out : List Nat) (v : Nat → Nat) (rl : List Nat) : Prop where
  rise : rl.Pairwise (· < ·)
  mem : ∀ g, g ∈ rl ↔ g < n ∧ gr g = g ∧ g ∉ out ∧ v g = 0
theorem Rl.begin : Rl n gr [] (wt gr (PP E n)) ((List.range n).filter fun a => decide (a = gr a) && decide (wt gr (PP E n) (gr a) = 0)) := by
  refine ⟨List.Pairwise.filter _ List.pairwise_lt_range, fun g => ?_⟩
  rw [List.mem_filter, List.mem_range]
  simp only [Bool.and_eq_true, decide_eq_true_eq, List.not_mem_nil, not_false_eq_true, true_and]
  constructor
  · rintro ⟨a, b, c⟩
    exact ⟨a, b.symm, by rw [← b] at c; exact c⟩
  · rintro ⟨a, b, c⟩
    exact ⟨a, b.symm, by rw [b]; exact c⟩
theorem Rl.lt {out : List Nat} {v : Nat → Nat} {rl : List Nat} (h : Rl n gr out v rl) : ∀ g ∈ rl, g < n := fun g hg => ((h.mem g).1 hg).1
theorem Rl.len {out : List Nat} {v : Nat → Nat} {rl : List Nat} (h : Rl n gr out v rl) : rl.length ≤ n :=
  nodup_le (h.rise.imp fun {a b} q => by omega) h.lt
/-- None may come: all have. -/
theorem GR.all (G : GR n E gr) {m : Nat} (h : Rl n gr (ordB n E m) (wo gr (PP E n) (ordB n E m)) []) : ordB n E m = orderB n E := by
  refine ord_eq fun x hx => Decidable.byContradiction fun q => ?_
  have c := (come_ord (n := n) (E := E) m).1
  obtain ⟨i, hi⟩ := next_there c ⟨x, hx, q⟩
  obtain ⟨h1, h2, h3, _⟩ := next_some hi
  obtain ⟨h4, h5⟩ := (G.ready c h1).1 h3
  have := (h.mem i).2 ⟨h1, h4, h2, h5⟩
  cases this
/-- The first of them comes next. -/
theorem GR.next (G : GR n E gr) {m g : Nat} {rl : List Nat} (h : Rl n gr (ordB n E m) (wo gr (PP E n) (ordB n E m)) (g :: rl)) : ordB n E (m + 1) = ordB n E m ++ mbr gr n g := by
  have c := (come_ord (n := n) (E := E) m).1
  obtain ⟨h1, h2, h3, h4⟩ := (h.mem g).1 (List.mem_cons_self ..)
  have : nextB n E (ordB n E m) = some g := by
    refine next_eq h1 h3 ((G.ready c h1).2 ⟨h2, h4⟩) fun k hk ho => ?_
    cases q : readyB n E (ordB n E m) k with
    | false => rfl
    | true =>
      obtain ⟨h5, h6⟩ := (G.ready c (by omega)).1 q
      have := (h.mem k).2 ⟨by omega, h5, ho, h6⟩
      rcases List.mem_cons.1 this with rfl | this
      · omega
      · have := (List.pairwise_cons.1 h.rise).1 k this
        omega
  show stepB n E _ = _
  unfold stepB
  rw [this, ← G.group h1 h2]
theorem wo_cat (G : GR n E gr) {out : List Nat} {g : Nat} (hg : g < n) (e : gr g = g) (ho : ∀ x, x < n → gr x = g → x ∉ out) (h : Nat) :
    wo gr (PP E n) out h = wo gr (PP E n) (out ++ mbr gr n g) h + (rdr gr (PP E n) g).count h := by
  have key : ∀ P : List (Nat × Nat), (∀ p ∈ P, p.1 < n ∧ p.2 < n) → wo gr P out h = wo gr P (out ++ mbr gr n g) h + (rdr gr P g).count h := by
    intro P
    induction P with
    | nil => intro _; rfl
    | cons p P ih =>
      intro hP
      have ih := ih fun q hq => hP q (List.mem_cons_of_mem _ hq)
      obtain ⟨hp1, hp2⟩ := hP p (List.mem_cons_self ..)
      unfold wo rdr at ih ⊢
      rw [List.countP_cons, List.countP_cons, List.filter_cons, ih]
      clear ih
      have hm : (out ++ mbr gr n g).contains p.2 = (out.contains p.2 || gr p.2 == g) := by
        rw [Bool.eq_iff_iff]
        simp [mbr, hp2]
      rw [hm]
      clear hm
      have hno : gr p.2 = g → out.contains p.2 = false := fun c2 => by simpa using ho p.2 hp2 c2
      generalize List.countP (fun p => gr p.fst == h && gr p.snd != h && !(out ++ mbr gr n g).contains p.snd) P = A
      generalize List.filter (fun p => gr p.snd == g && gr p.fst != g) P = B
      generalize out.contains p.2 = o at *
      by_cases c2 : gr p.2 = g
      · have o0 := hno c2
        subst o0
        rw [c2]
        by_cases c1 : gr p.1 = g
        · rw [c1]
          by_cases c3 : g = h
          · simp [c3]
          · simp [c3]
        · by_cases c3 : gr p.1 = h
          · have c4 : ¬ g = h := fun x => c1 (by rw [c3, x])
            have c5 : ¬ h = g := fun x => c4 x.symm
            simp [c3, c4, c5]
            omega
          · simp [c1, c3]
      · by_cases c3 : gr p.1 = h
        · simp [c2, c3]
          omega
        · simp [c2, c3]
  exact key _ fun p hp => G.lt p ((mem_PP G).1 hp)
/-- What is left of the waits when j of those that read g have been told. -/
def wj (gr : Nat → Nat) (P : List (Nat × Nat)) (out : List Nat) (L : List Nat) (j : Nat) (h : Nat) : Nat := wo gr P out h + (L.drop j).count h
theorem wj_end {P : List (Nat × Nat)} {out L : List Nat} {h : Nat} : wj gr P out L L.length h = wo gr P out h := by
  unfold wj
  rw [List.drop_length]
  rfl
theorem wj_succ {P : List (Nat × Nat)} {out L : List Nat} {j : Nat} (hj : j < L.length) (h : Nat) : wj gr P out L j h = wj gr P out L (j + 1) h + if L[j] = h then 1 else 0 := by
  unfold wj
  rw [List.drop_eq_getElem_cons hj, List.count_cons]
  simp only [beq_iff_eq]
  omega
theorem Rl.take (G : GR n E gr) {m g : Nat} {rl : List Nat} (h : Rl n gr (ordB n E m) (wo gr (PP E n) (ordB n E m)) (g :: rl)) :
    Rl n gr (ordB n E (m + 1)) (wj gr (PP E n) (ordB n E (m + 1)) (rdr gr (PP E n) g) 0) rl ∧ ∀ h, wj gr (PP E n) (ordB n E (m + 1)) (rdr gr (PP E n) g) 0 h = wo gr (PP E n) (ordB n E m) h := by
  have c := (come_ord (n := n) (E := E) m).1
  obtain ⟨h1, h2, h3, h4⟩ := (h.mem g).1 (List.mem_cons_self ..)
  have no : ∀ x, x < n → gr x = g → x ∉ ordB n E m := fun x hx e q => by
    have s : Same n E x g := (G.eq_iff hx h1).1 (by rw [e, h2])
    exact h3 (c.whole x q g h1 s)
  have hw : ∀ h, wj gr (PP E n) (ordB n E (m + 1)) (rdr gr (PP E n) g) 0 h = wo gr (PP E n) (ordB n E m) h := fun k => by
    unfold wj
    rw [G.next h, List.drop_zero]
    exact (wo_cat G h1 h2 no k).symm
  have hr := List.pairwise_cons.1 h.rise
  refine ⟨⟨hr.2, fun k => ?_⟩, hw⟩
  rw [hw k, G.next h]
  constructor
  · intro hk
    obtain ⟨k1, k2, k3, k4⟩ := (h.mem k).1 (List.mem_cons_of_mem _ hk)
    refine ⟨k1, k2, fun q => ?_, k4⟩
    rcases List.mem_append.1 q with q | q
    · exact k3 q
    · have : gr k = g := by simpa [mbr] using (List.mem_filter.1 q).2
      have := hr.1 k hk
      omega
  · rintro ⟨k1, k2, k3, k4⟩
    have := (h.mem k).2 ⟨k1, k2, fun q => k3 (List.mem_append_left _ q), k4⟩
    rcases List.mem_cons.1 this with rfl | this
    · exact absurd (List.mem_append_right _ (show k ∈ mbr gr n k by unfold mbr; simp [k1, k2])) k3
    · exact this
theorem rdr_mem (G : GR n E gr) {g h : Nat} (hm : h ∈ rdr gr (PP E n) g) : ∃ p, p ∈ E ∧ gr p.2 = g ∧ gr p.1 ≠ g ∧ h = gr p.1 := by
  unfold rdr at hm
  obtain ⟨p, hp, rfl⟩ := List.mem_map.1 hm
  obtain ⟨h1, h2⟩ := List.mem_filter.1 hp
  simp only [Bool.and_eq_true, beq_iff_eq, bne_iff_ne, ne_eq] at h2
  exact ⟨p, (mem_PP G).1 h1, h2.1, h2.2, rfl⟩
/-- One reader is told: it waits yet. -/
theorem Rl.stay (G : GR n E gr) {out : List Nat} {g j : Nat} {rl : List Nat} (h : Rl n gr out (wj gr (PP E n) out (rdr gr (PP E n) g) j) rl) (hj : j < (rdr gr (PP E n) g).length)
    (h0 : wj gr (PP E n) out (rdr gr (PP E n) g) (j + 1) (rdr gr (PP E n) g)[j] ≠ 0) : Rl n gr out (wj gr (PP E n) out (rdr gr (PP E n) g) (j + 1)) rl := by
  refine ⟨h.rise, fun k => ?_⟩
  rw [h.mem k, wj_succ hj k]
  by_cases e : (rdr gr (PP E n) g)[j] = k
  · rw [e] at h0
    rw [if_pos e]
    constructor
    · rintro ⟨_, _, _, q⟩; omega
    · rintro ⟨_, _, _, q⟩; exact absurd q h0
  · rw [if_neg e, Nat.add_zero]
/-- .. it waits no more. -/
theorem Rl.put (G : GR n E gr) {m g j : Nat} {rl : List Nat} (hg : g ∈ ordB n E (m + 1)) (hgm : g ∉ ordB n E m) (hnx : ordB n E (m + 1) = ordB n E m ++ mbr gr n g) (h : Rl n gr (ordB n E (m + 1)) (wj gr (PP E n) (ordB n E (m + 1)) (rdr gr (PP E n) g) j) rl) (hj : j < (rdr gr (PP E n) g).length)
    (h0 : wj gr (PP E n) (ordB n E (m + 1)) (rdr gr (PP E n) g) (j + 1) (rdr gr (PP E n) g)[j] = 0) {k : Nat} (hk : k ≤ rl.length) (ha : ∀ x ∈ rl.take k, x < (rdr gr (PP E n) g)[j]) (hb : ∀ x ∈ rl.drop k, (rdr gr (PP E n) g)[j] ≤ x) :
    Rl n gr (ordB n E (m + 1)) (wj gr (PP E n) (ordB n E (m + 1)) (rdr gr (PP E n) g) (j + 1)) (rl.take k ++ (rdr gr (PP E n) g)[j] :: rl.drop k) := by
  have c := (come_ord (n := n) (E := E) m).1
  obtain ⟨p, hp, e1, e2, e3⟩ := rdr_mem G (List.getElem_mem hj)
  have s := G.st hp
  have hws := fun k => wj_succ (gr := gr) (P := PP E n) (out := ordB n E (m + 1)) hj k
  generalize (rdr gr (PP E n) g)[j] = x at *
  have hx : x < n ∧ gr x = x ∧ x ∉ ordB n E (m + 1) := by
    have xn : x < n := by rw [e3]; exact G.lt' s.1
    have gx : gr x = x := by rw [e3]; exact G.idem s.1
    refine ⟨xn, gx, fun q => ?_⟩
    rw [hnx] at q
    rcases List.mem_append.1 q with q | q
    · have h1 : p.1 ∈ ordB n E m := c.whole x q p.1 s.1 ((G.eq_iff xn s.1).1 (by rw [gx, e3]))
      have h2 := c.next s h1
      have gl : g < n := by rw [← e1]; exact G.lt' s.2.1
      have : gr g = g := by rw [← e1]; exact G.idem s.2.1
      exact hgm (c.whole p.2 h2 g gl ((G.eq_iff s.2.1 gl).1 (by rw [e1, this])))
    · have : gr x = g := by simpa [mbr] using (List.mem_filter.1 q).2
      exact e2 (by rw [← e3, ← gx]; exact this)
  have hno : x ∉ rl := fun q => by
    have := ((h.mem x).1 q).2.2.2
    have := hws x
    rw [if_pos rfl] at this
    omega
  have hsplit : rl = rl.take k ++ rl.drop k := (List.take_append_drop k rl).symm
  have hr := h.rise
  rw [hsplit, List.pairwise_append] at hr
  refine ⟨?_, fun y => ?_⟩
  · rw [List.pairwise_append]
    refine ⟨hr.1, List.pairwise_cons.2 ⟨fun y hy => ?_, hr.2.1⟩, fun y hy z hz => ?_⟩
    · have := hb y hy
      have : x ≠ y := fun e => hno (by rw [e]; exact List.mem_of_mem_drop hy)
      omega
    · rcases List.mem_cons.1 hz with rfl | hz
      · exact ha y hy
      · exact hr.2.2 y hy z hz
  · have hmem : y ∈ rl.take k ++ x :: rl.drop k ↔ y = x ∨ y ∈ rl := by
      conv => rhs; rw [hsplit]
      simp only [List.mem_append, List.mem_cons]
      constructor
      · rintro (q | q | q)
        · exact .inr (.inl q)
        · exact .inl q
        · exact .inr (.inr q)
      · rintro (q | q | q)
        · exact .inr (.inl q)
        · exact .inl q
        · exact .inr (.inr q)
    rw [hmem, h.mem y]
    have := hws y
    by_cases e : x = y
    · subst e
      exact ⟨fun _ => ⟨hx.1, hx.2.1, hx.2.2, h0⟩, fun _ => .inl rfl⟩
    · rw [if_neg e] at this
      rw [this]
      constructor
      · rintro (q | q)
        · exact absurd q.symm e
        · exact q
      · exact .inr
end
end Go.Dp
