/- A search for ring groups, plainly: what holds while it goes on; no walk. -/
import Derived.Test.YtbbcnjagndfmbaaDPure
namespace Go.Dp
set_option linter.unusedVariables false
/-- The number under which x was seen. -/
def num (sn : Nat → Option Nat) (x : Nat) : Nat := (sn x).getD 0
def upd {α : Type} (f : Nat → α) (a : Nat) (v : α) : Nat → α := fun x => if x = a then v else f x
theorem upd_self {α : Type} {f : Nat → α} {a : Nat} {v : α} : upd f a v a = v := if_pos rfl
theorem upd_ne {α : Type} {f : Nat → α} {a x : Nat} {v : α} (h : x ≠ a) : upd f a v x = f x := if_neg h
def seenN (n : Nat) (sn : Nat → Option Nat) : Nat := (List.range n).countP fun x => (sn x).isSome
theorem countP_upd {l : List Nat} {sn : Nat → Option Nat} {a v : Nat} (hn : l.Nodup) (ha : sn a = none) : l.countP (fun x => (upd sn a (some v) x).isSome) = l.countP (fun x => (sn x).isSome) + if a ∈ l then 1 else 0 := by
  induction l with
  | nil => simp
  | cons x l ih =>
    have hx := List.nodup_cons.1 hn
    rw [List.countP_cons, List.countP_cons, ih hx.2]
    by_cases e : x = a
    · subst e
      rw [upd_self, ha, if_neg hx.1]
      simp
    · rw [upd_ne e]
      have : (a ∈ x :: l) = (a ∈ l) := by rw [List.mem_cons]; exact propext ⟨fun h => h.resolve_left (fun q => e q.symm), .inr⟩
      simp only [this]
      omega
theorem seen_new {n a v : Nat} {sn : Nat → Option Nat} (h : a < n) (ha : sn a = none) : seenN n (upd sn a (some v)) = seenN n sn + 1 := by
  unfold seenN
  rw [countP_upd List.nodup_range ha, if_pos (List.mem_range.2 h)]
theorem seen_le {n : Nat} {sn : Nat → Option Nat} : seenN n sn ≤ n := by
  have := List.countP_le_length (p := fun x => (sn x).isSome) (l := List.range n)
  rw [List.length_range] at this
  exact this
theorem seen_lt {n a : Nat} {sn : Nat → Option Nat} (h : a < n) (ha : sn a = none) : seenN n sn < n := by
  have := seen_le (n := n) (sn := upd sn a (some 0))
  rw [seen_new h ha] at this
  omega
/-- What holds of what was seen (sn), what is open (op), the groups (gr). -/
structure TI (n : Nat) (E : List (Nat × Nat)) (sn : Nat → Option Nat) (op : List Nat) (gr : Nat → Nat) (cnt : Nat) : Prop where
  val : ∀ x v, sn x = some v → x < n ∧ ((v = n ∧ x ∉ op) ∨ (v < cnt ∧ x ∈ op))
  opn : ∀ x ∈ op, ∃ v, sn x = some v ∧ v < cnt
  cnt : seenN n sn = cnt
  ord : op.Pairwise fun x y => num sn x < num sn y ∧ Far n E x y
  clo : ∀ x y, sn x = some n → St n E x y → sn y = some n
  grp : ∀ x, sn x = some n → Same n E x (gr x) ∧ ∀ y, Same n E x y → gr x ≤ y
theorem TI.cntn {n E sn op gr cnt} (h : TI n E sn op gr cnt) : cnt ≤ n := by rw [← h.cnt]; exact seen_le
theorem TI.begin {n : Nat} {E : List (Nat × Nat)} {gr : Nat → Nat} : TI n E (fun _ => none) [] gr 0 :=
  ⟨by simp, by simp, by unfold seenN; simp, List.Pairwise.nil, by simp, by simp⟩
theorem TI.of_op {n E sn op gr cnt} (h : TI n E sn op gr cnt) {x : Nat} (hx : x ∈ op) : x < n ∧ sn x = some (num sn x) ∧ num sn x < cnt := by
  obtain ⟨v, e, hv⟩ := h.opn x hx
  have : num sn x = v := by unfold num; rw [e]; rfl
  exact ⟨(h.val x v e).1, by rw [this]; exact e, by omega⟩
theorem TI.done {n E sn op gr cnt} (h : TI n E sn op gr cnt) {x : Nat} (hx : sn x = some n) : x ∉ op := by
  have := h.cntn
  rcases (h.val x n hx).2 with ⟨_, k⟩ | ⟨k, _⟩
  · exact k
  · omega
theorem TI.far {n E sn op gr cnt} (h : TI n E sn op gr cnt) {x y : Nat} (hx : sn x = some n) (f : Far n E x y) : sn y = some n := by
  induction f with
  | single s => exact h.clo _ _ hx s
  | tail _ s ih => exact h.clo _ _ ih s
/-- What a search from a leaves. -/
structure TP (n : Nat) (E : List (Nat × Nat)) (a : Nat) (sn : Nat → Option Nat) (op : List Nat) (cnt : Nat) (sn' : Nat → Option Nat) (op' : List Nat) (gr' : Nat → Nat) (cnt' : Nat) (r : Nat) : Prop where
  inv : TI n E sn' op' gr' cnt'
  ext : ∀ x v, sn x = some v → sn' x = some v
  seen : sn' a ≠ none
  more : cnt < cnt'
  new : ∃ new, op' = op ++ new ∧ (∀ x ∈ new, x = a ∨ Far n E x a) ∧ (∀ x ∈ new, ∀ y, St n E x y → sn' y ≠ none) ∧
    (∀ x ∈ new, ∀ y ∈ op, St n E x y → r ≤ num sn y) ∧ (new = [] → r = cnt) ∧ (new ≠ [] → ∃ y ∈ op, num sn y = r ∧ Far n E a y)
/-- .. and while it looks at what a reads; 'dn' has been looked at. -/
structure TL (n : Nat) (E : List (Nat × Nat)) (a : Nat) (sn : Nat → Option Nat) (op : List Nat) (cnt : Nat) (dn : List Nat) (sn1 : Nat → Option Nat) (op1 : List Nat) (gr1 : Nat → Nat) (cnt1 : Nat) (e : Nat) : Prop where
  inv : TI n E sn1 op1 gr1 cnt1
  ext : ∀ x v, sn x = some v → sn1 x = some v
  opo : ∀ x ∈ op, sn1 x = sn x ∧ num sn x < cnt ∧ Far n E x a
  seen : sn1 a = some cnt
  more : cnt < cnt1
  new : ∃ new, op1 = op ++ a :: new ∧ (∀ x ∈ new, Far n E x a) ∧ (∀ x ∈ new, ∀ y, St n E x y → sn1 y ≠ none) ∧ (∀ x ∈ new, ∀ y ∈ op, St n E x y → e ≤ num sn y)
  dnn : ∀ y ∈ dn, sn1 y ≠ none ∧ (y ∈ op → e ≤ num sn y)
  low : e ≤ cnt ∧ (e = cnt ∨ ∃ y ∈ op, num sn y = e ∧ Far n E a y)
theorem TL.begin {n E a sn op gr cnt} (h : TI n E sn op gr cnt) (ha : a < n) (hs : sn a = none) (hf : ∀ x ∈ op, Far n E x a) :
    TL n E a sn op cnt [] (upd sn a (some cnt)) (op ++ [a]) gr (cnt + 1) cnt := by
  have hna : a ∉ op := fun m => by obtain ⟨v, e, _⟩ := h.opn a m; rw [hs] at e; cases e
  have hne : ∀ {x v}, sn x = some v → x ≠ a := fun e1 e2 => by subst e2; rw [hs] at e1; cases e1
  have hnum : ∀ x ∈ op, num (upd sn a (some cnt)) x = num sn x := fun x hx => by unfold num; rw [upd_ne (fun e : x = a => by subst e; exact hna hx)]
  have hc : cnt < n := by rw [← h.cnt]; exact seen_lt ha hs
  refine ⟨⟨?_, ?_, ?_, ?_, ?_, ?_⟩, ?_, ?_, upd_self, Nat.lt_succ_self _, ⟨[], rfl, by simp, by simp, by simp⟩, by simp, Nat.le_refl _, .inl rfl⟩
  · intro x v e
    by_cases ex : x = a
    · subst ex
      rw [upd_self] at e
      cases e
      exact ⟨ha, .inr ⟨Nat.lt_succ_self _, by simp⟩⟩
    · rw [upd_ne ex] at e
      obtain ⟨h1, h2 | h2⟩ := h.val x v e
      · exact ⟨h1, .inl ⟨h2.1, by simp [h2.2, ex]⟩⟩
      · exact ⟨h1, .inr ⟨by omega, by simp [h2.2]⟩⟩
  · intro x hx
    rcases List.mem_append.1 hx with hx | hx
    · obtain ⟨v, e, hv⟩ := h.opn x hx
      exact ⟨v, by rw [upd_ne (hne e)]; exact e, by omega⟩
    · obtain rfl := List.mem_singleton.1 hx
      exact ⟨cnt, upd_self, Nat.lt_succ_self _⟩
  · rw [seen_new ha hs, h.cnt]
  · rw [List.pairwise_append]
    refine ⟨h.ord.imp_of_mem fun {x y} hx hy k => by rw [hnum x hx, hnum y hy]; exact k, List.pairwise_singleton _ _, ?_⟩
    intro x hx y hy
    obtain rfl := List.mem_singleton.1 hy
    refine ⟨?_, hf x hx⟩
    rw [hnum x hx]
    have : num (upd sn y (some cnt)) y = cnt := by unfold num; rw [upd_self]; rfl
    rw [this]
    exact (h.of_op hx).2.2
  · intro x y e s
    by_cases ex : x = a
    · subst ex; rw [upd_self] at e; cases e; omega
    · rw [upd_ne ex] at e
      have := h.clo x y e s
      rw [upd_ne (hne this)]
      exact this
  · intro x e
    by_cases ex : x = a
    · subst ex; rw [upd_self] at e; cases e; omega
    · rw [upd_ne ex] at e
      exact h.grp x e
  · intro x v e
    rw [upd_ne (hne e)]
    exact e
  · intro x hx
    exact ⟨upd_ne (fun e : x = a => by subst e; exact hna hx), (h.of_op hx).2.2, hf x hx⟩
theorem TL.fa {n E a sn op cnt dn sn1 op1 gr1 cnt1 e} (h : TL n E a sn op cnt dn sn1 op1 gr1 cnt1 e) {b : Nat} (s : St n E a b) : ∀ x ∈ op1, Far n E x b := by
  obtain ⟨new, rfl, h1, _⟩ := h.new
  intro x hx
  rcases List.mem_append.1 hx with hx | hx
  · exact (h.opo x hx).2.2.tail s
  · rcases List.mem_cons.1 hx with rfl | hx
    · exact .single s
    · exact (h1 x hx).tail s
theorem TL.met {n E a sn op cnt dn sn1 op1 gr1 cnt1 e} (h : TL n E a sn op cnt dn sn1 op1 gr1 cnt1 e) {b v : Nat} (s : St n E a b) (hv : sn1 b = some v) : TL n E a sn op cnt (dn ++ [b]) sn1 op1 gr1 cnt1 (min e v) := by
  obtain ⟨new, en, h1, h2, h3⟩ := h.new
  have hnb : ∀ {m}, num sn1 b = m → m = v := fun q => by unfold num at q; rw [hv] at q; exact q.symm
  refine ⟨h.inv, h.ext, h.opo, h.seen, h.more, ⟨new, en, h1, h2, fun x hx y hy q => Nat.le_trans (Nat.min_le_left _ _) (h3 x hx y hy q)⟩, ?_, ?_⟩
  · intro y hy
    rcases List.mem_append.1 hy with hy | hy
    · exact ⟨(h.dnn y hy).1, fun q => Nat.le_trans (Nat.min_le_left _ _) ((h.dnn y hy).2 q)⟩
    · obtain rfl := List.mem_singleton.1 hy
      refine ⟨by rw [hv]; simp, fun q => ?_⟩
      have := (h.opo y q).1
      rw [hv] at this
      have : num sn y = v := by unfold num; rw [← this]; rfl
      rw [this]
      exact Nat.min_le_right _ _
  · by_cases le : e ≤ v
    · rw [Nat.min_eq_left le]
      exact h.low
    · rw [Nat.min_eq_right (by omega)]
      have hl := h.low.1
      refine ⟨by omega, .inr ⟨b, ?_, ?_, .single s⟩⟩
      · have hc := h.inv.cntn
        have hm := h.more
        rcases (h.inv.val b v hv).2 with ⟨q, _⟩ | ⟨_, q⟩
        · omega
        · rw [en] at q
          rcases List.mem_append.1 q with q | q
          · exact q
          · exfalso
            have ho := h.inv.ord
            rw [en, List.pairwise_append] at ho
            rcases List.mem_cons.1 q with rfl | q
            · rw [h.seen] at hv; cases hv; omega
            · have := ((List.pairwise_cons.1 ho.2.1).1 b q).1
              unfold num at this
              rw [h.seen, hv] at this
              simp only [Option.getD_some] at this
              omega
      · have : b ∈ op := by
          have hc := h.inv.cntn
          have hm := h.more
          rcases (h.inv.val b v hv).2 with ⟨q, _⟩ | ⟨_, q⟩
          · omega
          · rw [en] at q
            rcases List.mem_append.1 q with q | q
            · exact q
            · exfalso
              have ho := h.inv.ord
              rw [en, List.pairwise_append] at ho
              rcases List.mem_cons.1 q with rfl | q
              · rw [h.seen] at hv; cases hv; omega
              · have := ((List.pairwise_cons.1 ho.2.1).1 b q).1
                unfold num at this
                rw [h.seen, hv] at this
                simp only [Option.getD_some] at this
                omega
        have := (h.opo b this).1
        unfold num
        rw [← this, hv]
        rfl
theorem TL.call {n E a sn op cnt dn sn1 op1 gr1 cnt1 e} (h : TL n E a sn op cnt dn sn1 op1 gr1 cnt1 e) {b : Nat} (s : St n E a b) (hs : sn1 b = none) {sn2 op2 gr2 cnt2 r} (p : TP n E b sn1 op1 cnt1 sn2 op2 gr2 cnt2 r) :
    TL n E a sn op cnt (dn ++ [b]) sn2 op2 gr2 cnt2 (min e r) := by
  obtain ⟨new, en, h1, h2, h3⟩ := h.new
  obtain ⟨mo, em, p1, p2, p3, p4, p5⟩ := p.new
  have hfa := h.fa s
  have hopo : ∀ x ∈ op, sn2 x = sn x ∧ num sn x < cnt ∧ Far n E x a := fun x hx => by
    obtain ⟨q1, q2, q3⟩ := h.opo x hx
    have hx1 : x ∈ op1 := by rw [en]; exact List.mem_append_left _ hx
    have := (h.inv.of_op hx1).2.1
    refine ⟨?_, q2, q3⟩
    rw [← q1, this, p.ext x _ this]
  have num_eq : ∀ x ∈ op, num sn1 x = num sn x := fun x hx => by unfold num; rw [(h.opo x hx).1]
  have big : ∀ x ∈ a :: new, cnt ≤ num sn1 x := fun x hx => by
    have na : num sn1 a = cnt := by unfold num; rw [h.seen]; rfl
    rcases List.mem_cons.1 hx with rfl | hx
    · omega
    · have ho := h.inv.ord
      rw [en, List.pairwise_append] at ho
      have := ((List.pairwise_cons.1 ho.2.1).1 x hx).1
      omega
  have hm := h.more
  refine ⟨p.inv, fun x v q => p.ext x v (h.ext x v q), hopo, p.ext a _ h.seen, Nat.lt_trans h.more p.more, ⟨new ++ mo, by rw [em, en]; simp, ?_, ?_, ?_⟩, ?_, ?_⟩
  · intro x hx
    rcases List.mem_append.1 hx with hx | hx
    · exact h1 x hx
    · have ne : mo ≠ [] := fun q => by rw [q] at hx; cases hx
      obtain ⟨y, hy, _, fy⟩ := p5 ne
      have fya : y = a ∨ Far n E y a := by
        rw [en] at hy
        rcases List.mem_append.1 hy with hy | hy
        · exact .inr (h.opo y hy).2.2
        · rcases List.mem_cons.1 hy with rfl | hy
          · exact .inl rfl
          · exact .inr (h1 y hy)
      have fxy : Far n E x y := by
        rcases p1 x hx with rfl | f
        · exact fy
        · exact f.trans fy
      rcases fya with rfl | f
      · exact fxy
      · exact fxy.trans f
  · intro x hx y q
    rcases List.mem_append.1 hx with hx | hx
    · have := h2 x hx y q
      cases c : sn1 y with
      | none => exact absurd c this
      | some v => rw [p.ext y v c]; simp
    · exact p2 x hx y q
  · intro x hx y hy q
    rcases List.mem_append.1 hx with hx | hx
    · exact Nat.le_trans (Nat.min_le_left _ _) (h3 x hx y hy q)
    · have := p3 x hx y (by rw [en]; exact List.mem_append_left _ hy) q
      rw [num_eq y hy] at this
      exact Nat.le_trans (Nat.min_le_right _ _) this
  · intro y hy
    rcases List.mem_append.1 hy with hy | hy
    · refine ⟨?_, fun q => Nat.le_trans (Nat.min_le_left _ _) ((h.dnn y hy).2 q)⟩
      have := (h.dnn y hy).1
      cases c : sn1 y with
      | none => exact absurd c this
      | some v => rw [p.ext y v c]; simp
    · obtain rfl := List.mem_singleton.1 hy
      refine ⟨p.seen, fun q => ?_⟩
      have := (h.inv.of_op (show y ∈ op1 by rw [en]; exact List.mem_append_left _ q)).2.1
      rw [hs] at this
      cases this
  · have hl := h.low
    by_cases le : e ≤ r
    · rw [Nat.min_eq_left le]; exact hl
    · rw [Nat.min_eq_right (by omega)]
      refine ⟨by omega, .inr ?_⟩
      have ne : mo ≠ [] := fun q => by have := p4 q; omega
      obtain ⟨y, hy, ey, fy⟩ := p5 ne
      rw [en] at hy
      rcases List.mem_append.1 hy with hy | hy
      · exact ⟨y, hy, by rw [← num_eq y hy]; exact ey, .trans (.single s) fy⟩
      · have := big y hy
        omega
/-- The search goes back to what was seen ahead of a: all stays open. -/
theorem TL.keep {n E a sn op cnt dn sn1 op1 gr1 cnt1 e} (h : TL n E a sn op cnt dn sn1 op1 gr1 cnt1 e) (hd : ∀ y, St n E a y → y ∈ dn) (he : e ≠ cnt) : TP n E a sn op cnt sn1 op1 gr1 cnt1 e := by
  obtain ⟨new, en, h1, h2, h3⟩ := h.new
  refine ⟨h.inv, h.ext, by rw [h.seen]; simp, h.more, a :: new, en, ?_, ?_, ?_, by simp, ?_⟩
  · intro x hx
    rcases List.mem_cons.1 hx with rfl | hx
    · exact .inl rfl
    · exact .inr (h1 x hx)
  · intro x hx y q
    rcases List.mem_cons.1 hx with rfl | hx
    · exact (h.dnn y (hd y q)).1
    · exact h2 x hx y q
  · intro x hx y hy q
    rcases List.mem_cons.1 hx with rfl | hx
    · exact (h.dnn y (hd y q)).2 hy
    · exact h3 x hx y hy q
  · intro _
    exact h.low.2.resolve_left he
/-- What is seen when a group has ended. -/
def shutS (n : Nat) (l : List Nat) (sn : Nat → Option Nat) : Nat → Option Nat := fun x => if x ∈ l then some n else sn x
def shutG (m : Nat) (l : List Nat) (gr : Nat → Nat) : Nat → Nat := fun x => if x ∈ l then m else gr x
theorem shut_cnt {n : Nat} {l : List Nat} {sn : Nat → Option Nat} (h : ∀ x ∈ l, sn x ≠ none) : seenN n (shutS n l sn) = seenN n sn := by
  unfold seenN
  refine List.countP_congr fun x _ => ?_
  unfold shutS
  by_cases hx : x ∈ l
  · rw [if_pos hx]
    cases c : sn x with
    | none => exact absurd c (h x hx)
    | some v => simp
  · rw [if_neg hx]
/-- A group ends. -/
theorem TL.close {n E a sn op cnt dn sn1 op1 gr1 cnt1} {gr0 : Nat → Nat} (h0 : TI n E sn op gr0 cnt) (h : TL n E a sn op cnt dn sn1 op1 gr1 cnt1 cnt) (hd : ∀ y, St n E a y → y ∈ dn) {l : List Nat} (hl : op1 = op ++ l) {m : Nat} (hm : m ∈ l) (hle : ∀ x ∈ l, m ≤ x) :
    TP n E a sn op cnt (shutS n l sn1) op (shutG m l gr1) cnt1 cnt := by
  obtain ⟨new, en, h1, h2, h3⟩ := h.new
  obtain rfl : l = a :: new := List.append_cancel_left (hl.symm.trans en)
  have hord := h.inv.ord
  rw [en, List.pairwise_append] at hord
  obtain ⟨ho1, ho2, ho3⟩ := hord
  have hin : ∀ x ∈ a :: new, x ∈ op1 := fun x hx => by rw [en]; exact List.mem_append_right _ hx
  have hino : ∀ x ∈ op, x ∈ op1 := fun x hx => by rw [en]; exact List.mem_append_left _ hx
  have hoff : ∀ x ∈ op, x ∉ a :: new := fun x hx q => by
    have := (ho3 x hx x q).1
    omega
  have fromA : ∀ x ∈ a :: new, x = a ∨ Far n E a x := fun x hx => by
    rcases List.mem_cons.1 hx with rfl | hx
    · exact .inl rfl
    · exact .inr ((List.pairwise_cons.1 ho2).1 x hx).2
  have toA : ∀ x ∈ a :: new, x = a ∨ Far n E x a := fun x hx => by
    rcases List.mem_cons.1 hx with rfl | hx
    · exact .inl rfl
    · exact .inr (h1 x hx)
  have same : ∀ x ∈ a :: new, ∀ y ∈ a :: new, Same n E x y := fun x hx y hy => by
    have hxa : Same n E x a := by
      rcases toA x hx with rfl | f
      · exact .inl rfl
      · rcases fromA x hx with rfl | g
        · exact .inl rfl
        · exact .inr ⟨f, g⟩
    have hya : Same n E y a := by
      rcases toA y hy with rfl | f
      · exact .inl rfl
      · rcases fromA y hy with rfl | g
        · exact .inl rfl
        · exact .inr ⟨f, g⟩
    exact hxa.trans hya.symm
  have hcn := h.inv.cntn
  have hmo := h.more
  have clos : ∀ x y, shutS n (a :: new) sn1 x = some n → St n E x y → shutS n (a :: new) sn1 y = some n := fun x y e s => by
    unfold shutS at e ⊢
    by_cases hy : y ∈ a :: new
    · rw [if_pos hy]
    rw [if_neg hy]
    by_cases hx : x ∈ a :: new
    · have sy : sn1 y ≠ none := by
        rcases List.mem_cons.1 hx with rfl | hx
        · exact (h.dnn y (hd y s)).1
        · exact h2 x hx y s
      cases c : sn1 y with
      | none => exact absurd c sy
      | some v =>
        rcases (h.inv.val y v c).2 with ⟨rfl, _⟩ | ⟨_, q'⟩
        · rfl
        · exfalso
          have q0 : y ∈ op ++ a :: new := by rw [← en]; exact q'
          rcases List.mem_append.1 q0 with q | q
          · have : cnt ≤ num sn y := by
              rcases List.mem_cons.1 hx with rfl | hx
              · exact (h.dnn y (hd y s)).2 q
              · exact h3 x hx y q s
            have := (h.opo y q).2.1
            omega
          · exact hy q
    · rw [if_neg hx] at e
      exact h.inv.clo x y e s
  have far' : ∀ x y, shutS n (a :: new) sn1 x = some n → Far n E x y → shutS n (a :: new) sn1 y = some n := fun x y e f => by
    induction f with
    | single s => exact clos _ _ e s
    | tail _ s ih => exact clos _ _ ih s
  have whole : ∀ x ∈ a :: new, ∀ y, Same n E x y → y ∈ a :: new := fun x hx y s => by
    rcases s with rfl | ⟨f, g⟩
    · exact hx
    · have e := far' x y (by unfold shutS; rw [if_pos hx]) f
      unfold shutS at e
      by_cases hy : y ∈ a :: new
      · exact hy
      · rw [if_neg hy] at e
        exact absurd (hin x hx) (h.inv.done (h.inv.far e g))
  refine ⟨⟨?_, ?_, ?_, ?_, clos, ?_⟩, ?_, ?_, h.more, [], by simp, by simp, by simp, by simp, fun _ => rfl, by simp⟩
  · intro x v e
    unfold shutS at e
    by_cases hx : x ∈ a :: new
    · rw [if_pos hx] at e
      cases e
      exact ⟨(h.inv.of_op (hin x hx)).1, .inl ⟨rfl, fun q => hoff x q hx⟩⟩
    · rw [if_neg hx] at e
      obtain ⟨q1, q2 | q2⟩ := h.inv.val x v e
      · exact ⟨q1, .inl ⟨q2.1, fun q => q2.2 (hino x q)⟩⟩
      · refine ⟨q1, .inr ⟨q2.1, ?_⟩⟩
        have := q2.2
        rw [en] at this
        exact (List.mem_append.1 this).resolve_right hx
  · intro x hx
    obtain ⟨_, q1, q2⟩ := h.inv.of_op (hino x hx)
    exact ⟨_, by unfold shutS; rw [if_neg (hoff x hx)]; exact q1, q2⟩
  · rw [shut_cnt (fun x hx => by rw [(h.inv.of_op (hin x hx)).2.1]; simp), h.inv.cnt]
  · refine ho1.imp_of_mem fun {x y} hx hy k => ?_
    unfold num shutS
    rw [if_neg (hoff x hx), if_neg (hoff y hy)]
    exact k
  · intro x e
    unfold shutS at e
    unfold shutG
    by_cases hx : x ∈ a :: new
    · rw [if_pos hx]
      exact ⟨same x hx m hm, fun y s => hle y (whole x hx y s)⟩
    · rw [if_neg hx] at e ⊢
      exact h.inv.grp x e
  · intro x v e
    unfold shutS
    by_cases hx : x ∈ a :: new
    · exfalso
      rcases (h0.val x v e).2 with ⟨rfl, _⟩ | ⟨_, q⟩
      · exact h.inv.done (h.ext x v e) (hin x hx)
      · exact hoff x q hx
    · rw [if_neg hx]
      exact h.ext x v e
  · unfold shutS
    rw [if_pos (List.mem_cons_self ..)]
    simp
end Go.Dp
