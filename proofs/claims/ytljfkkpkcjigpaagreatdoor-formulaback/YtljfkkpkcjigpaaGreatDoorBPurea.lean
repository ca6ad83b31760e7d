/- BPure. -/
import Derived.Test.YtljfkkpkcjigpaaGreatDoorTSamea
import Derived.Lib.Replace
set_option linter.unusedVariables false
set_option linter.unusedSimpArgs false
namespace Go.Proofs.YtljfkkpkcjigpaaGreatDoor
open Go.RowKit
set_option maxRecDepth 100000
def okN (n : Int) : Prop := 0 ≤ n ∧ n ≤ 100000000000
theorem isD_eq (c : UInt8) : isD c = Ad.isD c := rfl
theorem okC_run {c : UInt8} (h : okC c = true) : Tk.runC c = true := by
  unfold okC at h
  unfold Tk.runC
  rw [h]; rfl
theorem gn_parts {l : List UInt8} (h : gnF l = true) : l.length ≤ 16 ∧ headL l = true ∧ l.all okC = true ∧ lcF l = false := by
  unfold gnF at h
  simp only [Bool.and_eq_true, Bool.not_eq_true'] at h
  obtain ⟨a, b, c⟩ := sp_parts h.1.1
  exact ⟨a, b, c, h.1.2⟩
theorem num_shape {n : Int} (h : okN n) : (∃ c r, printF n = c :: r ∧ Ad.isD c = true) ∧ (∀ x ∈ printF n, Tk.numC x = true) ∧ (printF n).length ≤ 20 := by
  have hn : ¬ n < 0 := by have := h.1; omega
  have hq : n.natAbs / 10000 < 10 ^ 8 := by have := h.2; omega
  obtain ⟨l1, l2⟩ := dec_len 8 (n.natAbs / 10000) (by decide) hq
  have ha := dec_all (n.natAbs / 10000)
  have hd : ∀ x ∈ Lib.decDigits (n.natAbs / 10000), Tk.numC x = true := fun x hx => by
    have := List.all_eq_true.1 ha x hx
    unfold Tk.numC
    rw [← isD_eq, this]; rfl
  unfold printF
  rw [if_neg hn, List.nil_append]
  have hr : n.natAbs % 10000 < 10000 := by omega
  have ht : (∀ x ∈ (if n.natAbs % 10000 = 0 then [] else 46 :: tailP (n.natAbs % 10000)), Tk.numC x = true) ∧ (if n.natAbs % 10000 = 0 then [] else 46 :: tailP (n.natAbs % 10000)).length ≤ 5 := by
    by_cases h0 : n.natAbs % 10000 = 0
    · rw [if_pos h0]; exact ⟨fun x hx => (by cases hx), Nat.zero_le _⟩
    · rw [if_neg h0]
      obtain ⟨a, b, c⟩ := (digs_iff _ _ _).1 (tail_facts _ hr h0).1
      refine ⟨fun x hx => ?_, by simp only [List.length_cons]; omega⟩
      rcases List.mem_cons.1 hx with rfl | hx
      · rfl
      · have := List.all_eq_true.1 a x hx
        unfold Tk.numC
        rw [← isD_eq, this]; rfl
  refine ⟨?_, fun x hx => ?_, by rw [List.length_append]; have := ht.2; omega⟩
  · cases hdd : Lib.decDigits (n.natAbs / 10000) with
    | nil => rw [hdd] at l1; simp at l1
    | cons c r =>
      refine ⟨c, _, rfl, ?_⟩
      rw [hdd, List.all_cons, Bool.and_eq_true] at ha
      exact ha.1
  · rcases List.mem_append.1 hx with hx | hx
    · exact hd x hx
    · exact ht.1 x hx
theorem row_digits {r : List UInt8} (h : 1 ≤ Ad.rowF r) : r.all Ad.isD = true ∧ r ≠ [] := by
  unfold Ad.rowF at h
  split at h
  · split at h
    · rename_i h1; exact ⟨by simp [h1.1], by simp⟩
    · omega
  · split at h
    · rename_i h1; exact ⟨by simp [h1.1, h1.2.1], by simp⟩
    · omega
  · omega
theorem cell_tail {a : UInt8} {r : List UInt8} {c : Ad.Cell} (h : Ad.cellP (a :: r) = some c) (ha : a ≠ 36) (hr : ∀ x ∈ r, x ≠ 36) : r.all Ad.isD = true ∧ r ≠ [] := by
  unfold Ad.cellP at h
  rw [Ad.strip_cons, if_neg ha] at h
  simp only at h
  unfold Ad.restF at h
  have hs : (Ad.strip 36 r).2 = r := by
    cases r with
    | nil => rfl
    | cons x q => rw [Ad.strip_cons, if_neg (hr x (by simp))]
  rw [hs] at h
  split at h
  · rename_i h1; exact row_digits h1.2.1
  · cases h
theorem okC_ne {x : UInt8} (h : okC x = true) : x ≠ 36 := by
  rintro rfl
  exact absurd h (by decide)
theorem isL_ne {x : UInt8} (h : Ad.isL x = true) : x ≠ 36 ∧ Ad.isD x = false := by
  refine ⟨by rintro rfl; exact absurd h (by decide), ?_⟩
  rw [← isD_eq]
  exact (isL_facts h).2.2.2
theorem ways : Tk.Ways gnF trB pnF printF okN where
  names := gn_names
  first := fun c r h => (gn_parts h).2.1
  signs := fun l h x hx => okC_run (List.all_eq_true.1 (gn_parts h).2.2.1 x hx)
  nocell := fun l h => by
    obtain ⟨_, h2, h3, h4⟩ := gn_parts h
    cases hc : Ad.cellP l with
    | none => rfl
    | some c =>
      exfalso
      cases l with
      | nil => cases h2
      | cons a r =>
        rw [List.all_cons, Bool.and_eq_true] at h3
        obtain ⟨e1, e2⟩ := cell_tail hc (okC_ne h3.1) (fun x hx => okC_ne (List.all_eq_true.1 h3.2 x hx))
        unfold lcF at h4
        rw [List.drop_succ_cons, List.drop_zero, e1] at h4
        have : 1 < (a :: r).length := by
          cases r with
          | nil => exact absurd rfl e2
          | cons _ _ => simp
        rw [decide_eq_true this] at h4
        cases h4
  truth := fun l h => by
    obtain ⟨h1, h2⟩ := tru_letters h
    refine ⟨h1, h2, ?_⟩
    cases hc : Ad.cellP l with
    | none => rfl
    | some c =>
      exfalso
      cases l with
      | nil => exact h1 rfl
      | cons a r =>
        obtain ⟨e1, e2⟩ := cell_tail hc (isL_ne (h2 a (by simp))).1 (fun x hx => (isL_ne (h2 x (by simp [hx]))).1)
        cases r with
        | nil => exact e2 rfl
        | cons x q =>
          rw [List.all_cons, Bool.and_eq_true] at e1
          rw [(isL_ne (h2 x (by simp))).2] at e1
          cases e1.1
  number := fun n h => by
    obtain ⟨h1, h2, h3⟩ := num_shape h
    refine ⟨?_, h1, h2⟩
    unfold pnF
    rw [parse_print n ⟨by have := h.1; omega, h.2⟩]
    rfl
theorem sgn_pos (n : Nat) : sgnI (n : Int) false = n := rfl
theorem num_ok {c : UInt8} {r : List UInt8} {n : Int} (hc : Ad.isD c = true) (h : pnF (c :: r) = some n) : okN n := by
  unfold pnF at h
  split at h
  · rename_i h2
    have hg := parse_gd (c :: r)
    cases h
    unfold gd at hg
    simp only [Bool.and_eq_true, decide_eq_true_eq] at hg
    refine ⟨?_, hg.2⟩
    have hd : dash (c :: r) = false := by
      unfold dash
      rw [List.head?_cons]
      simp only [beq_eq_false_iff_ne, ne_eq, Option.some.injEq]
      rintro rfl
      exact absurd hc (by decide)
    unfold parseF
    split
    · rw [hd, sgn_pos]
      unfold ans
      split
      · exact Int.natCast_nonneg _
      · exact Int.le_refl _
    · exact Int.le_refl _
  · cases h
theorem tail_ok {b pre l m : List UInt8} {t : Tk.Tok} (hb : b = [] ∨ gnF b = true) (h : Tk.tailN gnF trB b pre l = some (t, m)) : Tk.okT gnF trB okN t := by
  unfold Tk.tailN at h
  split at h
  · rename_i q hq
    cases hp : Ad.refP gnF (pre ++ l.takeWhile Tk.runC ++ 33 :: q.takeWhile Tk.runC) with
    | none => rw [hp] at h; cases h
    | some x =>
      rw [hp] at h
      cases h
      exact (Ad.ref_of gn_names hp).1
  · split at h
    · split at h
      · rename_i c hc
        cases h
        exact ⟨(Ad.cell_of hc).1, .inl rfl, .inl rfl⟩
      · split at h
        · rename_i hw
          cases h
          exact .inl ⟨rfl, hw⟩
        · cases h
    · rename_i hne
      split at h
      · rename_i hw
        cases h
        exact .inr ⟨hb.resolve_left hne, hw⟩
      · cases h
theorem one_ok {l m : List UInt8} {t : Tk.Tok} (h : Tk.one gnF trB pnF l = some (t, m)) : Tk.okT gnF trB okN t := by
  cases l with
  | nil => cases h
  | cons c r =>
    unfold Tk.one at h
    simp only at h
    split at h
    · rename_i hd
      cases hp : pnF ((c :: r).takeWhile Tk.numC) with
      | none => rw [hp] at h; cases h
      | some n =>
        rw [hp] at h
        cases h
        rw [List.takeWhile_cons, if_pos (by unfold Tk.numC; rw [hd]; rfl)] at hp
        exact num_ok hd hp
    · split at h
      · cases hq : Tk.quoF r with
        | none => rw [hq] at h; cases h
        | some p => rw [hq] at h; cases h; exact trivial
      · split at h
        · unfold Tk.badF at h
          cases hf : [1, 2, 3, 4, 5, 6, 7, 8].find? fun i => (Tk.errN i).isPrefixOf (c :: r) with
          | none => rw [hf] at h; cases h
          | some i =>
            rw [hf] at h
            cases h
            have := List.mem_of_find?_eq_some hf
            simp only [List.mem_cons, List.not_mem_nil, or_false] at this
            show 1 ≤ i ∧ i ≤ 8
            omega
        · split at h
          · unfold Tk.named at h
            split at h
            · rename_i m' he
              cases he
              cases ha : Ad.at_ 93 r with
              | none => rw [ha] at h; cases h
              | some p =>
                obtain ⟨a, q⟩ := p
                rw [ha] at h
                simp only at h
                split at h
                · rename_i hg; exact tail_ok (.inr hg) h
                · cases h
            · exact tail_ok (.inl rfl) h
          · rcases r with _ | ⟨d, r⟩
            · simp only [Tk.opF] at h
              split at h
              · rename_i hm; cases h; exact .inl ⟨c, hm, rfl⟩
              · cases h
            · simp only [Tk.opF] at h
              split at h
              · rename_i hm; cases h; exact .inr ⟨c, d, hm, rfl⟩
              · split at h
                · rename_i hm; cases h; exact .inl ⟨c, hm, rfl⟩
                · cases h
theorem lexN_ok : ∀ (k : Nat) (l : List UInt8) (L : List Tk.Tok), Tk.lexN gnF trB pnF k l = some L → ∀ t ∈ L, Tk.okT gnF trB okN t
  | 0, l, L, h => by cases h
  | k + 1, [], L, h => by cases h; intro t ht; cases ht
  | k + 1, c :: r, L, h => by
    unfold Tk.lexN at h
    split at h
    · exact lexN_ok k r L h
    · cases ho : Tk.one gnF trB pnF (c :: r) with
      | none => rw [ho] at h; cases h
      | some p =>
        rw [ho] at h
        simp only at h
        cases hk : Tk.lexN gnF trB pnF k p.2 with
        | none => rw [hk] at h; cases h
        | some M =>
          rw [hk] at h
          cases h
          intro t ht
          rcases List.mem_cons.1 ht with rfl | ht
          · exact one_ok (m := p.2) ho
          · exact lexN_ok k p.2 M hk t ht
theorem lex_ok {l : List UInt8} {L : List Tk.Tok} (h : lexF l = some L) : ∀ t ∈ L, Tk.okT gnF trB okN t := lexN_ok _ _ _ h
def oaF (x y : List UInt8) : Bool := if x = [60] then (y == [61] || y == [62] || y == [62, 61]) else if x = [62] then y == [61] else false
def apT : Tk.Tok → Tk.Tok → Bool
  | .inr (.inr (.inr (.inr (.inl x)))), .inr (.inr (.inr (.inr (.inl y)))) => oaF x y
  | .inr (.inr (.inr (.inr (.inl _)))), _ => false
  | _, .inr (.inr (.inr (.inr (.inl _)))) => false
  | _, _ => true
def sepT : Option Tk.Tok → Tk.Tok → List UInt8
  | none, _ => []
  | some p, t => if apT p t = true then [32] else []
def txT (t : Tk.Tok) : List UInt8 := Tk.text printF t
def prT : Option Tk.Tok → List Tk.Tok → List UInt8
  | _, [] => []
  | o, t :: r => sepT o t ++ (txT t ++ prT (some t) r)
def lastT : Option Tk.Tok → List Tk.Tok → Option Tk.Tok
  | o, [] => o
  | _, t :: r => lastT (some t) r
theorem prT_snoc : ∀ (L : List Tk.Tok) (o : Option Tk.Tok) (t : Tk.Tok), prT o (L ++ [t]) = prT o L ++ (sepT (lastT o L) t ++ txT t)
  | [], o, t => by simp [prT, lastT]
  | x :: L, o, t => by
    rw [List.cons_append]
    show sepT o x ++ (txT x ++ prT (some x) (L ++ [t])) = sepT o x ++ (txT x ++ prT (some x) L) ++ (sepT (lastT (some x) L) t ++ txT t)
    rw [prT_snoc L (some x) t]
    simp
theorem lastT_snoc : ∀ (L : List Tk.Tok) (o : Option Tk.Tok) (t : Tk.Tok), lastT o (L ++ [t]) = some t
  | [], _, _ => rfl
  | x :: L, _, t => lastT_snoc L (some x) t
theorem tx_head {t : Tk.Tok} (h : Tk.okT gnF trB okN t) : ∃ c r, txT t = c :: r ∧ Tk.blank c = false ∧ (match t with
    | .inr (.inr (.inr (.inr (.inl x)))) => c ∈ Tk.ones ∧ x.head? = some c
    | _ => ∀ d, Tk.two d c = false) := by
  have two_no : ∀ c : UInt8, c ≠ 61 → c ≠ 62 → ∀ d, Tk.two d c = false := fun c h1 h2 d => by
    unfold Tk.two
    rw [beq_eq_false_iff_ne.2 h1, beq_eq_false_iff_ne.2 h2]
    simp
  have key : ∀ c : UInt8, Tk.runC c = true ∨ c = 91 ∨ c = 34 ∨ c = 35 → Tk.blank c = false ∧ ∀ d, Tk.two d c = false := fun c hc => by
    have h32 : c ≠ 32 ∧ c ≠ 9 ∧ c ≠ 61 ∧ c ≠ 62 := by
      refine ⟨?_, ?_, ?_, ?_⟩ <;> (rintro rfl; revert hc; decide)
    refine ⟨?_, two_no c h32.2.2.1 h32.2.2.2⟩
    unfold Tk.blank
    rw [beq_eq_false_iff_ne.2 h32.1, beq_eq_false_iff_ne.2 h32.2.1]
    rfl
  cases t using Tk.Tok.cs with
  | num n =>
    obtain ⟨c, r, e, hd⟩ := (num_shape h).1
    exact ⟨c, r, e, key c (.inl (Tk.isD_run hd))⟩
  | str s => exact ⟨34, _, rfl, key 34 (.inr (.inr (.inl rfl)))⟩
  | ref x =>
    obtain ⟨hc, hs, hb⟩ := h
    have hw : ∀ y ∈ Ad.cellW x.cell, Tk.runC y = true := Tk.cell_run hc
    have : ∃ c r, txT (.ref x) = c :: r ∧ (Tk.runC c = true ∨ c = 91 ∨ c = 34 ∨ c = 35) := by
      show ∃ c r, Ad.refW x = c :: r ∧ _
      unfold Ad.refW
      by_cases e1 : x.book = []
      · rw [if_pos e1, List.nil_append]
        by_cases e2 : x.sheet = []
        · rw [if_pos e2, List.nil_append]
          cases hcw : Ad.cellW x.cell with
          | nil =>
            exfalso
            unfold Ad.cellW at hcw
            simp at hcw
          | cons c r => rw [hcw] at hw; exact ⟨c, r, rfl, .inl (hw c (by simp))⟩
        · rw [if_neg e2]
          have hg := hs.resolve_left e2
          cases hsh : x.sheet with
          | nil => exact absurd hsh e2
          | cons c r => rw [hsh] at hg; exact ⟨c, _, rfl, .inl (Tk.isL_run (ways.first c r hg))⟩
      · rw [if_neg e1]; exact ⟨91, _, rfl, .inr (.inl rfl)⟩
    obtain ⟨c, r, e, hk⟩ := this
    exact ⟨c, r, e, key c hk⟩
  | word b s =>
    have : ∃ c r, txT (.word b s) = c :: r ∧ (Tk.runC c = true ∨ c = 91 ∨ c = 34 ∨ c = 35) := by
      show ∃ c r, (if b = [] then s else 91 :: (b ++ 93 :: s)) = c :: r ∧ _
      rcases h with ⟨rfl, h⟩ | ⟨h1, h2⟩
      · rw [if_pos rfl]
        cases s with
        | nil =>
          rcases h with h | h
          · cases h
          · exact absurd rfl (tru_letters h).1
        | cons c r =>
          refine ⟨c, r, rfl, .inl ?_⟩
          rcases h with h | h
          · exact Tk.isL_run (ways.first c r h)
          · exact Tk.isL_run ((tru_letters h).2 c (by simp))
      · by_cases e : b = []
        · rw [e] at h1; cases h1
        · rw [if_neg e]; exact ⟨91, _, rfl, .inr (.inl rfl)⟩
    obtain ⟨c, r, e, hk⟩ := this
    exact ⟨c, r, e, key c hk⟩
  | op x =>
    have hb : ∀ c ∈ Tk.ones, Tk.blank c = false := by decide
    rcases h with ⟨c, hc, rfl⟩ | ⟨c, d, hc, rfl⟩
    · exact ⟨c, [], rfl, hb c hc, hc, rfl⟩
    · have : c ∈ Tk.ones := by
        unfold Tk.two at hc
        simp only [Bool.or_eq_true, Bool.and_eq_true, beq_iff_eq] at hc
        rcases hc with (⟨rfl, _⟩ | ⟨rfl, _⟩) | ⟨rfl, _⟩ <;> decide
      exact ⟨c, [d], rfl, hb c this, this, rfl⟩
  | bad n =>
    have h' : 1 ≤ n ∧ n ≤ 8 := h
    have : n = 1 ∨ n = 2 ∨ n = 3 ∨ n = 4 ∨ n = 5 ∨ n = 6 ∨ n = 7 ∨ n = 8 := by omega
    rcases this with rfl | rfl | rfl | rfl | rfl | rfl | rfl | rfl <;> exact ⟨35, _, rfl, key 35 (.inr (.inr (.inr rfl)))⟩
theorem stops_ok {t : Tk.Tok} (ht : Tk.okT gnF trB okN t) (L : List Tk.Tok) (hL : ∀ x ∈ L, Tk.okT gnF trB okN x) : Tk.stops t (prT (some t) L) := by
  cases L with
  | nil =>
    show Tk.stops t []
    cases t using Tk.Tok.cs with
    | num n => intro c hc; cases hc
    | str s => intro hc; cases hc
    | ref r => intro c hc; cases hc
    | word b s => intro c hc; cases hc
    | op x =>
      rcases ht with ⟨c, _, rfl⟩ | ⟨c, d, _, rfl⟩
      · intro d hd; cases hd
      · trivial
    | bad n => trivial
  | cons u r =>
    have hu := hL u (by simp)
    obtain ⟨c, q, e, hb, hk⟩ := tx_head hu
    show Tk.stops t ((if apT t u = true then [32] else []) ++ (txT u ++ prT (some u) r))
    cases ha : apT t u with
    | true =>
      rw [if_pos rfl]
      have h32 : ∀ d : UInt8, Tk.two d 32 = false := fun d => by unfold Tk.two; simp
      cases t using Tk.Tok.cs with
      | num n => intro d hd; cases hd; rfl
      | str s => intro hd; cases hd
      | ref x => intro d hd; cases hd; exact ⟨rfl, by decide⟩
      | word b s => intro d hd; cases hd; exact ⟨rfl, by decide⟩
      | op x =>
        rcases ht with ⟨x1, _, rfl⟩ | ⟨x1, x2, _, rfl⟩
        · intro d hd; cases hd; exact h32 x1
        · trivial
      | bad n => trivial
    | false =>
      rw [if_neg (by decide), List.nil_append, e, List.cons_append]
      have hop : ∀ y, u = .op y → c ∈ Tk.ones ∧ y.head? = some c := by rintro y rfl; exact hk
      have hnot : (∀ y, u ≠ .op y) → ∀ d, Tk.two d c = false := fun h => by
        cases u using Tk.Tok.cs with
        | op y => exact absurd rfl (h y)
        | num n => exact hk
        | str s => exact hk
        | ref x => exact hk
        | word b s => exact hk
        | bad n => exact hk
      have o1 : ∀ c ∈ Tk.ones, Tk.numC c = false := by decide
      have o2 : ∀ c ∈ Tk.ones, c ≠ 34 := by decide
      have o3 : ∀ c ∈ Tk.ones, Tk.runC c = false ∧ c ≠ 33 := by decide
      have isop : (∀ x, t ≠ .op x) → ∃ y, u = .op y := fun h => by
        cases u using Tk.Tok.cs with
        | op y => exact ⟨y, rfl⟩
        | num n => cases t using Tk.Tok.cs <;> first | exact absurd rfl (h _) | cases ha
        | str s => cases t using Tk.Tok.cs <;> first | exact absurd rfl (h _) | cases ha
        | ref x => cases t using Tk.Tok.cs <;> first | exact absurd rfl (h _) | cases ha
        | word b s => cases t using Tk.Tok.cs <;> first | exact absurd rfl (h _) | cases ha
        | bad n => cases t using Tk.Tok.cs <;> first | exact absurd rfl (h _) | cases ha
      cases t using Tk.Tok.cs with
      | num n =>
        obtain ⟨y, hy⟩ := isop (fun x h => by cases h)
        intro d hd; cases hd; exact o1 c (hop y hy).1
      | str s =>
        obtain ⟨y, hy⟩ := isop (fun x h => by cases h)
        intro hd; exact o2 c (hop y hy).1 (Option.some.inj hd)
      | ref x =>
        obtain ⟨y, hy⟩ := isop (fun x h => by cases h)
        intro d hd; cases hd; exact o3 c (hop y hy).1
      | word b s =>
        obtain ⟨y, hy⟩ := isop (fun x h => by cases h)
        intro d hd; cases hd; exact o3 c (hop y hy).1
      | bad n => trivial
      | op x =>
        rcases ht with ⟨x1, hx1, rfl⟩ | ⟨x1, x2, _, rfl⟩
        · intro d hd
          cases hd
          by_cases hy : ∃ y, u = .op y
          · obtain ⟨y, rfl⟩ := hy
            have ha' : oaF [x1] y = false := ha
            have hy2 := (hop y rfl).2
            have e2 : y = c :: q := e
            subst e2
            unfold oaF at ha'
            unfold Tk.two
            have hu' : (∃ z, z ∈ Tk.ones ∧ c :: q = [z]) ∨ (∃ z z2, Tk.two z z2 = true ∧ c :: q = [z, z2]) := hu
            by_cases h60 : x1 = 60
            · subst h60
              rw [if_pos rfl] at ha'
              simp only [Bool.or_eq_false_iff, beq_eq_false_iff_ne] at ha'
              have c61 : c ≠ 61 := by
                rintro rfl
                rcases hu' with ⟨z, _, hz⟩ | ⟨z, z2, hz, hzz⟩
                · cases hz; exact ha'.1.1 rfl
                · cases hzz; exact absurd hz (by unfold Tk.two; simp)
              have c62 : c ≠ 62 := by
                rintro rfl
                rcases hu' with ⟨z, _, hz⟩ | ⟨z, z2, hz, hzz⟩
                · cases hz; exact ha'.1.2 rfl
                · cases hzz
                  have : z2 = 61 := by
                    unfold Tk.two at hz
                    simpa using hz
                  subst this
                  exact ha'.2 rfl
              rw [beq_eq_false_iff_ne.2 c61, beq_eq_false_iff_ne.2 c62]
              rfl
            · rw [if_neg (by intro h; cases h; exact h60 rfl)] at ha'
              by_cases h62 : x1 = 62
              · subst h62
                rw [if_pos rfl] at ha'
                simp only [beq_eq_false_iff_ne] at ha'
                have c61 : c ≠ 61 := by
                  rintro rfl
                  rcases hu' with ⟨z, _, hz⟩ | ⟨z, z2, hz, hzz⟩
                  · cases hz; exact ha' rfl
                  · cases hzz; exact absurd hz (by unfold Tk.two; simp)
                rw [beq_eq_false_iff_ne.2 c61]
                simp
              · rw [beq_eq_false_iff_ne.2 h60, beq_eq_false_iff_ne.2 h62]
                rfl
          · exact hnot (fun y h => hy ⟨y, h⟩) x1
        · trivial
theorem lex_print : ∀ (L : List Tk.Tok) (o : Option Tk.Tok), (∀ x ∈ L, Tk.okT gnF trB okN x) → lexF (prT o L) = some L
  | [], o, _ => rfl
  | t :: L, o, h => by
    have ht := h t (by simp)
    have hL : ∀ x ∈ L, Tk.okT gnF trB okN x := fun x hx => h x (by simp [hx])
    obtain ⟨c, r, e, hb, _⟩ := tx_head ht
    have h1 := Tk.one_back ways t (prT (some t) L) ht (stops_ok ht L hL)
    have e' : Tk.text printF t = c :: r := e
    have main : lexF (txT t ++ prT (some t) L) = some (t :: L) := by
      show lexF (Tk.text printF t ++ prT (some t) L) = _
      rw [e', List.cons_append] at h1 ⊢
      rw [lex_cons hb, h1]
      simp only
      rw [lex_print L (some t) hL]
      rfl
    show lexF (sepT o t ++ (txT t ++ prT (some t) L)) = _
    have hs : sepT o t = [] ∨ sepT o t = [32] := by
      unfold sepT
      split
      · exact .inl rfl
      · split
        · exact .inr rfl
        · exact .inl rfl
    rcases hs with hs | hs
    · rw [hs]; exact main
    · rw [hs]
      show lexF (32 :: (txT t ++ prT (some t) L)) = _
      rw [lex_blank (by rfl)]
      exact main
end Go.Proofs.YtljfkkpkcjigpaaGreatDoor
