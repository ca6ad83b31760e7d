/- FBackL. -/
import Derived.Test.YtljfkkpkcjigpaaGreatDoorFBackGa
set_option linter.unusedVariables false
set_option linter.unusedSimpArgs false
namespace Go.Proofs.YtljfkkpkcjigpaaGreatDoor
open Go.RowKit Go.Fm
set_option maxRecDepth 100000
def lnK (L : List Tk.Tok) : Nat := (L.map fun t => (txT t).length).sum
theorem lnK_cons (t : Tk.Tok) (L : List Tk.Tok) : lnK (t :: L) = (txT t).length + lnK L := by simp [lnK]
theorem lnK_app (L M : List Tk.Tok) : lnK (L ++ M) = lnK L + lnK M := by simp [lnK]
theorem lnK_op (s : List UInt8) (L : List Tk.Tok) : lnK (Tk.Tok.op s :: L) = s.length + lnK L := lnK_cons _ _
theorem lnK_nil : lnK [] = 0 := rfl
def cost (lv : Nat) (n : T) : Nat := lnK (wrapK (holdN n.1, tkT n) lv)
theorem cost_eq (lv : Nat) (n : T) : cost lv n = if lv ≤ holdN n.1 then lnK (tkT n) else lnK (tkT n) + 2 := by
  unfold cost wrapK
  split
  · rfl
  · rw [lnK_op, lnK_app, lnK_op, lnK_nil]; simp; omega
theorem cost_mono {lv lv' : Nat} (h : lv ≤ lv') (n : T) : cost lv n ≤ cost lv' n := by
  rw [cost_eq, cost_eq]
  split <;> split <;> omega
theorem cost_ge (lv : Nat) (n : T) : lnK (tkT n) ≤ cost lv n := by
  rw [cost_eq]; split <;> omega
theorem cost_le (lv : Nat) (n : T) : cost lv n ≤ lnK (tkT n) + 2 := by
  rw [cost_eq]; split <;> omega
theorem cost_hold {lv : Nat} {n : T} (h : lv ≤ holdN n.1) : cost lv n = lnK (tkT n) := by rw [cost_eq, if_pos h]
theorem tk_tree (a : Lab) (l : List T) : tkT (tree a l) = nodeK a (l.map fun t => (holdN t.1, tkT t)) := by
  rw [tkT_eq]
  show nodeK a (tksF (mk l)) = _
  rw [tks_kids, kids_mk]
theorem cost_bin {s : List UInt8} {lv : Nat} (h : strn s = lv) (n m : T) : cost lv (binT s n m) = cost lv n + s.length + cost (lv + 1) m := by
  have hh : holdN (binT s n m).1 = lv := by
    show (if (6 : Int) = 6 then strn (bs s).toList else _) = lv
    rw [if_pos rfl, toL, h]
  rw [cost_hold (by omega)]
  unfold binT
  rw [tk_tree]
  unfold nodeK
  rw [if_neg (by show ¬ (6 : Int) = 1; decide), if_neg (by show ¬ (6 : Int) = 2; decide), if_neg (by show ¬ (6 : Int) = 3; decide), if_neg (by show ¬ (6 : Int) = 4; decide), if_neg (by show ¬ (6 : Int) = 5; decide), if_pos (by rfl)]
  show lnK (wrapK (holdN n.1, tkT n) (strn (bs s).toList) ++ Tk.Tok.op (bs s).toList :: wrapK (holdN m.1, tkT m) (strn (bs s).toList + 1)) = _
  rw [toL, h, lnK_app, lnK_op]
  unfold cost
  omega
theorem cost_neg (n : T) : cost 6 (unT [45] n) = 1 + cost 6 n := by
  have hh : holdN (unT [45] n).1 = 6 := by
    show (if (5 : Int) = 6 then _ else if (5 : Int) = 5 then (if (bs [45]).toList = [45] then 6 else 7) else 8) = 6
    rw [toL]; rfl
  rw [cost_hold (by omega)]
  unfold unT
  rw [tk_tree]
  unfold nodeK
  rw [if_neg (by show ¬ (5 : Int) = 1; decide), if_neg (by show ¬ (5 : Int) = 2; decide), if_neg (by show ¬ (5 : Int) = 3; decide), if_neg (by show ¬ (5 : Int) = 4; decide), if_pos (by rfl)]
  rw [if_pos (by show (bs [45]).toList = [45]; exact toL _), lnK_op]
  rfl
theorem cost_pct (n : T) : cost 7 (unT [37] n) = cost 7 n + 1 := by
  have hh : holdN (unT [37] n).1 = 7 := by
    show (if (5 : Int) = 6 then _ else if (5 : Int) = 5 then (if (bs [37]).toList = [45] then 6 else 7) else 8) = 7
    rw [toL]; rfl
  rw [cost_hold (by omega)]
  unfold unT
  rw [tk_tree]
  unfold nodeK
  rw [if_neg (by show ¬ (5 : Int) = 1; decide), if_neg (by show ¬ (5 : Int) = 2; decide), if_neg (by show ¬ (5 : Int) = 3; decide), if_neg (by show ¬ (5 : Int) = 4; decide), if_pos (by rfl)]
  rw [if_neg (by show ¬ (bs [37]).toList = [45]; rw [toL]; decide), lnK_app, lnK_op]
  rfl
theorem comma_cost : ∀ l : List T, lnK (commaK (l.map tkT)) + 1 ≤ (l.map fun n => lnK (tkT n) + 1).sum + (if l = [] then 1 else 0)
  | [] => by simp [commaK, lnK]
  | [x] => by simp [commaK]
  | x :: y :: r => by
    have := comma_cost (y :: r)
    simp only [List.map_cons, commaK, lnK_app, lnK_op, List.length_cons, List.length_nil, List.sum_cons] at this ⊢
    simp only [reduceCtorEq, if_false] at this ⊢
    omega
theorem call_cost (s : List UInt8) (l : List T) : lnK (tkT (tree (lab0 7 (bs s)) l)) + 1 ≤ s.length + 2 + (l.map fun n => lnK (tkT n) + 1).sum + (if l = [] then 1 else 0) := by
  rw [tk_tree]
  unfold nodeK
  rw [if_neg (by show ¬ (7 : Int) = 1; decide), if_neg (by show ¬ (7 : Int) = 2; decide), if_neg (by show ¬ (7 : Int) = 3; decide), if_neg (by show ¬ (7 : Int) = 4; decide), if_neg (by show ¬ (7 : Int) = 5; decide), if_neg (by show ¬ (7 : Int) = 6; decide), if_pos (by rfl)]
  rw [List.map_map]
  have h := comma_cost l
  have e : (List.map ((fun x => x.2) ∘ fun t : T => (holdN t.1, tkT t)) l) = l.map tkT := rfl
  rw [e, lnK_cons, lnK_op, lnK_app, lnK_op, lnK_nil]
  have e2 : (txT (Tk.Tok.word [] (lab0 7 (bs s)).s.toList)).length = s.length := by
    show (bs s).toList.length = _
    rw [toL]
  rw [e2]
  simp only [List.length_cons, List.length_nil]
  omega
def ShortP (lv : Nat) (part : Part) : Prop := ∀ ts n r, part ts = some (n, r) → cost lv n + lnK r ≤ lnK ts
theorem lnK_tail {ts : List Tk.Tok} {s : List UInt8} (h : opOf ts = s) (hs : s ≠ []) : lnK ts = s.length + lnK ts.tail := by
  have := (op_tail h hs).2
  conv => lhs; rw [this]
  rw [lnK_op]
theorem loop_short {part : Part} {lv : Nat} (hp : ShortP (lv + 1) part) (hlv : lv ≠ 0) : ∀ (k : Nat) (n : T) (ts : List Tk.Tok) (m : T) (r : List Tk.Tok), loopF part lv k n ts = some (m, r) → cost lv m + lnK r ≤ cost lv n + lnK ts
  | 0, n, ts, m, r, h => by cases h; exact Nat.le_refl _
  | k + 1, n, ts, m, r, h => by
    unfold loopF at h
    split at h
    · rename_i hs
      have h1 := lnK_tail (ts := ts) rfl (strn_ne (by omega))
      cases hq : part ts.tail with
      | none => rw [hq] at h; cases h
      | some p =>
        rw [hq] at h
        have h2 := hp _ p.1 p.2 hq
        have h3 := loop_short hp hlv k _ _ _ _ h
        rw [cost_bin hs] at h3
        omega
    · cases h; exact Nat.le_refl _
theorem pct_short : ∀ (k : Nat) (n : T) (ts : List Tk.Tok), cost 7 (pctF k n ts).1 + lnK (pctF k n ts).2 ≤ cost 7 n + lnK ts
  | 0, n, ts => Nat.le_refl _
  | k + 1, n, ts => by
    unfold pctF
    split
    · rename_i hs
      have h1 := lnK_tail (ts := ts) hs (by decide)
      have := pct_short k (unT [37] n) ts.tail
      rw [cost_pct] at this
      simp only [List.length_cons, List.length_nil] at h1
      omega
    · exact Nat.le_refl _
def sumL (l : List T) : Nat := (l.map fun n => lnK (tkT n) + 1).sum
theorem args_short {part : Part} (hp : ShortP 1 part) : ∀ (k : Nat) (acc : List T) (ts : List Tk.Tok) (m : List T) (r : List Tk.Tok), argsF part k acc ts = some (m, r) → sumL m + lnK r + 1 ≤ sumL acc + lnK ts
  | 0, acc, ts, m, r, h => by cases h
  | k + 1, acc, ts, m, r, h => by
    unfold argsF at h
    split at h
    · rename_i hs
      have h1 := lnK_tail (ts := ts) hs (by decide)
      simp only [List.length_cons, List.length_nil] at h1
      cases h; omega
    · split at h
      · rename_i hs
        have h1 := lnK_tail (ts := ts) hs (by decide)
        simp only [List.length_cons, List.length_nil] at h1
        cases hq : part ts.tail with
        | none => rw [hq] at h; cases h
        | some p =>
          rw [hq] at h
          have h2 := hp _ p.1 p.2 hq
          have h3 := args_short hp k _ _ _ _ h
          have h4 : sumL (acc ++ [p.1]) = sumL acc + (lnK (tkT p.1) + 1) := by simp [sumL]
          have h5 := cost_ge 1 p.1
          omega
      · cases h
theorem args_more {part : Part} : ∀ (k : Nat) (acc : List T) (ts : List Tk.Tok) (m : List T) (r : List Tk.Tok), argsF part k acc ts = some (m, r) → acc.length ≤ m.length
  | 0, acc, ts, m, r, h => by cases h
  | k + 1, acc, ts, m, r, h => by
    unfold argsF at h
    split at h
    · cases h; exact Nat.le_refl _
    · split at h
      · cases hq : part ts.tail with
        | none => rw [hq] at h; cases h
        | some p =>
          rw [hq] at h
          have h3 := args_more k _ _ _ _ h
          rw [List.length_append] at h3
          omega
      · cases h
theorem up_len (s : List UInt8) : (upF s).length = s.length := by unfold upF szF; rw [List.length_map]
theorem call_short {part : Part} (hp : ShortP 1 part) {s : List UInt8} {ts : List Tk.Tok} {m : T} {r : List Tk.Tok} (h : callF upF part s ts = some (m, r)) : cost 8 m + lnK r ≤ s.length + 1 + lnK ts := by
  have hh : ∀ l, holdN (tree (lab0 7 (bs (upF s))) l).1 = 8 := fun l => rfl
  unfold callF at h
  split at h
  · rename_i hs
    have h1 := lnK_tail (ts := ts) hs (by decide)
    simp only [List.length_cons, List.length_nil] at h1
    cases h
    have h2 := call_cost (upF s) []
    rw [up_len] at h2
    simp at h2
    rw [cost_hold (by rw [hh]; exact Nat.le_refl _)]
    omega
  · cases hq : part ts with
    | none => rw [hq] at h; cases h
    | some p =>
      rw [hq] at h
      have h2 := hp _ p.1 p.2 hq
      simp only [Option.bind_some] at h
      cases ha : argsF part (ts.length + 1) [p.1] p.2 with
      | none => rw [ha] at h; cases h
      | some q =>
        rw [ha] at h
        simp only [Option.bind_some] at h
        have h3 := args_short hp _ _ _ q.1 q.2 ha
        have h4 : sumL [p.1] = lnK (tkT p.1) + 1 := by simp [sumL]
        have h5 := cost_ge 1 p.1
        split at h
        · cases h
          have h6 := call_cost (upF s) q.1
          rw [up_len] at h6
          have h7 : (if q.1 = [] then 1 else 0) ≤ 1 := by split <;> omega
          have h8 : (q.1.map fun n => lnK (tkT n) + 1).sum = sumL q.1 := rfl
          have h9 : q.1 ≠ [] := fun e => by
            have := args_more _ _ _ _ _ ha
            rw [e] at this
            simp at this
          rw [cost_hold (by rw [hh]; exact Nat.le_refl _)]
          rw [h8, if_neg h9] at h6
          omega
        · cases h
theorem leaf_cost {a : Lab} (h : a.k = 1 ∨ a.k = 2 ∨ a.k = 3 ∨ a.k = 4) : cost 8 (tree a []) = lnK (nodeK a []) := by
  rw [cost_hold (by show 8 ≤ holdN a; unfold holdN; rw [if_neg (by omega), if_neg (by omega)]; exact Nat.le_refl _), tk_tree]
  rfl
theorem refK_lab (x : Ad.Ref) : refK (bs x.book) (bs x.sheet) x.cell.row x.cell.col x.cell.fr x.cell.fc = Tk.Tok.ref x := by
  unfold refK
  rw [toL, toL]
  rfl
theorem tr_len {s : List UInt8} {n : Int} (h : trF s = some n) : (textF 3 n nb).toList.length = s.length := by
  unfold trF truF at h
  have hl := up_len s
  unfold upF at hl
  rcases tru_cases (szF 97 65 (ba s).data.toList) with ⟨e, e2, _⟩ | ⟨e, e2, _⟩ | ⟨_, _, e2, _⟩
  · rw [e2] at h
    cases h
    rw [show szF 97 65 s = [84, 82, 85, 69] from e] at hl
    rw [← hl, ByteArray.toList_eq]; rfl
  · rw [e2] at h
    cases h
    rw [show szF 97 65 s = [70, 65, 76, 83, 69] from e] at hl
    rw [← hl, ByteArray.toList_eq]; rfl
  · rw [e2] at h; cases h
theorem one_short {part : Part} (hp : ShortP 1 part) : ShortP 8 (oneF upF trF part) := by
  intro ts m r h
  cases ts with
  | nil => cases h
  | cons t q =>
    cases t using Tk.Tok.cs with
    | num n =>
      cases h
      rw [leaf_cost (.inl rfl), lnK_cons]
      show lnK [Tk.Tok.num n] + _ ≤ _
      rw [lnK_cons, lnK_nil]; omega
    | str s =>
      cases h
      rw [leaf_cost (.inl rfl), lnK_cons]
      show lnK [Tk.Tok.str (bs s).toList] + _ ≤ _
      rw [lnK_cons, lnK_nil, toL]; omega
    | bad n =>
      cases h
      rw [leaf_cost (.inl rfl), lnK_cons]
      show lnK [Tk.Tok.bad n] + _ ≤ _
      rw [lnK_cons, lnK_nil]; omega
    | ref x =>
      simp only [oneF] at h
      split at h
      · rename_i hs
        have h1 := lnK_tail (ts := q) hs (by decide)
        simp only [List.length_cons, List.length_nil] at h1
        split at h
        · rename_i y q' he
          split at h
          · cases h
            have he' : q.tail = Tk.Tok.ref y :: r := he
            rw [he'] at h1
            rw [leaf_cost (.inr (.inr (.inl rfl))), lnK_cons, h1]
            show lnK [refK (bs x.book) (bs x.sheet) x.cell.row x.cell.col x.cell.fr x.cell.fc, Tk.Tok.op [58], refK (bs y.book) (bs y.sheet) y.cell.row y.cell.col y.cell.fr y.cell.fc] + _ ≤ _
            rw [refK_lab, refK_lab, lnK_cons, lnK_op, lnK_cons, lnK_nil, lnK_cons]
            simp only [List.length_cons, List.length_nil]
            omega
          · cases h
        · cases h
      · cases h
        rw [leaf_cost (.inr (.inl rfl)), lnK_cons]
        show lnK [refK (bs x.book) (bs x.sheet) x.cell.row x.cell.col x.cell.fr x.cell.fc] + _ ≤ _
        rw [refK_lab, lnK_cons, lnK_nil]; omega
    | word b s =>
      simp only [oneF] at h
      split at h
      · rename_i hs
        have h1 := lnK_tail (ts := q) hs.2 (by decide)
        simp only [List.length_cons, List.length_nil] at h1
        have := call_short hp h
        rw [lnK_cons, hs.1]
        have e : (txT (Tk.Tok.word [] s)).length = s.length := rfl
        rw [e]
        omega
      · split at h
        · rename_i n hn
          cases h
          rw [leaf_cost (.inl rfl), lnK_cons]
          show lnK [Tk.Tok.word [] (textF 3 n nb).toList] + _ ≤ _
          rw [lnK_cons, lnK_nil]
          have e : (txT (Tk.Tok.word [] (textF 3 n nb).toList)).length = s.length := tr_len hn
          rw [e]
          have e2 : s.length ≤ (txT (Tk.Tok.word b s)).length := by
            show s.length ≤ (if b = [] then s else 91 :: (b ++ 93 :: s)).length
            split
            · exact Nat.le_refl _
            · simp; omega
          omega
        · cases h
          rw [leaf_cost (.inr (.inr (.inr rfl))), lnK_cons]
          show lnK [Tk.Tok.word (bs b).toList (bs s).toList] + _ ≤ _
          rw [lnK_cons, lnK_nil, toL, toL]; omega
    | op s =>
      simp only [oneF] at h
      split at h
      · rename_i hs
        cases hq : part q with
        | none => rw [hq] at h; cases h
        | some p =>
          rw [hq] at h
          have h2 := hp _ p.1 p.2 hq
          simp only [Option.bind_some] at h
          split at h
          · rename_i h41
            have h1 := lnK_tail (ts := p.2) h41 (by decide)
            simp only [List.length_cons, List.length_nil] at h1
            cases h
            have h3 := cost_le 8 p.1
            have h4 := cost_ge 1 p.1
            rw [lnK_op, hs]
            simp only [List.length_cons, List.length_nil]
            omega
          · cases h
      · cases h
theorem psN_short : ∀ (f lv : Nat), 1 ≤ lv → lv ≤ 8 → ShortP lv (psN upF trF f lv)
  | 0, lv, _, _ => fun ts n r h => by cases h
  | f + 1, lv, hlv, h8 => fun ts n r h => by
    unfold psN at h
    split at h
    · cases hq : psN upF trF f (lv + 1) ts with
      | none => rw [hq] at h; cases h
      | some p =>
        rw [hq] at h
        have h2 := psN_short f (lv + 1) (by omega) (by omega) _ p.1 p.2 hq
        have h3 := loop_short (psN_short f (lv + 1) (by omega) (by omega)) (by omega) _ _ _ _ _ h
        have h4 := cost_mono (show lv ≤ lv + 1 by omega) p.1
        omega
    · split at h
      · rename_i h6
        subst h6
        split at h
        · rename_i hs
          have h1 := lnK_tail (ts := ts) hs (by decide)
          simp only [List.length_cons, List.length_nil] at h1
          cases hq : psN upF trF f 6 ts.tail with
          | none => rw [hq] at h; cases h
          | some p =>
            rw [hq] at h
            have h2 := psN_short f 6 (by omega) (by omega) _ p.1 p.2 hq
            cases h
            rw [cost_neg]
            omega
        · have h2 := psN_short f 7 (by omega) (by omega) _ n r h
          have h4 := cost_mono (show 6 ≤ 7 by omega) n
          omega
      · split at h
        · rename_i h7
          subst h7
          cases hq : psN upF trF f 8 ts with
          | none => rw [hq] at h; cases h
          | some p =>
            rw [hq] at h
            have h2 := psN_short f 8 (by omega) (by omega) _ p.1 p.2 hq
            have h3 := pct_short ts.length p.1 p.2
            simp only [Option.map_some, Option.some.injEq] at h
            rw [h] at h3
            have h4 := cost_mono (show 7 ≤ 8 by omega) p.1
            have h5 : cost 7 n + lnK r ≤ cost 7 p.1 + lnK p.2 := h3
            omega
        · have : lv = 8 := by omega
          subst this
          exact one_short (psN_short f 1 (Nat.le_refl _) (by omega)) _ n r h
theorem PP_short {lv : Nat} (h1 : 1 ≤ lv) (h8 : lv ≤ 8) : ShortP lv (PP lv) := fun ts n r h => psN_short _ lv h1 h8 ts n r h
theorem tail_short {r : Nat} (h : r < 10000) {j : Nat} (h1 : 1 ≤ j) (h4 : j ≤ 4) (hd : r % 10 ^ (4 - j) = 0) : (tailP r).length ≤ j := by
  unfold tailP
  rw [dec_five r h]
  simp only [List.drop_succ_cons, List.drop_zero, trim_four]
  have zb := digit_zero (r / 100 % 10) (by omega)
  have zc := digit_zero (r / 10 % 10) (by omega)
  have zd := digit_zero (r % 10) (by omega)
  have hj : j = 1 ∨ j = 2 ∨ j = 3 ∨ j = 4 := by omega
  rcases hj with rfl | rfl | rfl | rfl
  · rw [if_pos (zd.2 (by simp at hd; omega)), if_pos (zc.2 (by simp at hd; omega)), if_pos (zb.2 (by simp at hd; omega))]
    split <;> simp
  · rw [if_pos (zd.2 (by simp at hd; omega)), if_pos (zc.2 (by simp at hd; omega))]
    repeat' split
    all_goals simp
  · rw [if_pos (zd.2 (by simp at hd; omega))]
    repeat' split
    all_goals simp
  · repeat' split
    all_goals simp
theorem num_short {c : UInt8} {r : List UInt8} {n : Int} (hc : Ad.isD c = true) (h : pnF (c :: r) = some n) : (printF n).length ≤ (c :: r).length := by
  obtain ⟨l, hl⟩ : ∃ l, c :: r = l := ⟨_, rfl⟩
  have hd : dash l = false := by
    rw [← hl]
    unfold dash
    rw [List.head?_cons]
    simp only [beq_eq_false_iff_ne, ne_eq, Option.some.injEq]
    rintro rfl
    exact absurd hc (by decide)
  rw [hl] at h ⊢
  have hb : body l = l := by unfold body; rw [hd]; rfl
  unfold pnF at h
  split at h
  · rename_i h2
    cases h
    unfold parseF at h2 ⊢
    rw [hb, hd] at h2 ⊢
    split at h2
    · rename_i hcond
      rw [if_pos hcond]
      rw [sgn_pos] at h2 ⊢
      unfold ans at h2 ⊢
      split at h2
      · rename_i hg
        rw [if_pos hg]
        show (printF ((numD (fstP l) * 10000 + restN l : Nat) : Int)).length ≤ l.length
        obtain ⟨h3, h4⟩ := hcond
        obtain ⟨d1, d2, d3⟩ := (digs_iff _ _ _).1 h3
        have hparts : (fstP l).length + (if hasP l = true then (sndP l).length + 1 else 0) = l.length := by
          have e : (l.takeWhile (· != 46)).length + (l.dropWhile (· != 46)).length = l.length := by rw [← List.length_append, List.takeWhile_append_dropWhile]
          unfold fstP hasP sndP
          rw [List.length_drop]
          cases hdw : l.dropWhile (· != 46) with
          | nil => rw [hdw] at e; simpa using e
          | cons x y => rw [hdw] at e; simp at e ⊢; omega
        have hrest : restN l < 10000 ∧ (restN l ≠ 0 → hasP l = true ∧ (tailP (restN l)).length ≤ (sndP l).length) := by
          unfold restN
          by_cases hh : hasP l = true
          · rw [if_pos hh]
            obtain ⟨f1, f2, f3⟩ := (digs_iff _ _ _).1 (h4 hh)
            have hlt := numD_lt (sndP l) f1
            have hj : (sndP l).length = 1 ∨ (sndP l).length = 2 ∨ (sndP l).length = 3 ∨ (sndP l).length = 4 := by omega
            have hb4 : numD (sndP l) * 10 ^ (4 - (sndP l).length) < 10000 := by
              rcases hj with e | e | e | e <;> (rw [e] at hlt ⊢; simp at hlt ⊢; omega)
            exact ⟨hb4, fun _ => ⟨hh, tail_short hb4 f2 f3 (by rw [Nat.mul_mod_left])⟩⟩
          · rw [if_neg hh]; exact ⟨by omega, fun h => absurd rfl h⟩
        have hnum := numD_lt (fstP l) d1
        have hdl := (dec_len (fstP l).length (numD (fstP l)) d2 hnum).2
        unfold printF
        rw [if_neg (by omega), List.nil_append]
        have ea : ((numD (fstP l) * 10000 + restN l : Nat) : Int).natAbs = numD (fstP l) * 10000 + restN l := by omega
        rw [ea, show (numD (fstP l) * 10000 + restN l) / 10000 = numD (fstP l) by omega, show (numD (fstP l) * 10000 + restN l) % 10000 = restN l by omega]
        rw [List.length_append]
        by_cases h0 : restN l = 0
        · rw [if_pos h0]
          simp only [List.length_nil]
          split at hparts <;> omega
        · rw [if_neg h0]
          obtain ⟨hh, ht⟩ := hrest.2 h0
          rw [if_pos hh] at hparts
          simp only [List.length_cons]
          omega
      · cases h2
    · cases h2
  · cases h
theorem quo_short : ∀ (k : Nat) (l s r : List UInt8), l.length ≤ k → Tk.quoF l = some (s, r) → (Tk.quoW s).length + r.length = l.length
  | 0, l, s, r, hk, h => by
    have : l = [] := List.eq_nil_of_length_eq_zero (by omega)
    subst this; cases h
  | k + 1, [], s, r, hk, h => by cases h
  | k + 1, [c], s, r, hk, h => by
    unfold Tk.quoF at h
    split at h
    · cases h; simp [Tk.quoW]
    · cases h
  | k + 1, c :: d :: l, s, r, hk, h => by
    unfold Tk.quoF at h
    simp only [List.length_cons] at hk ⊢
    split at h
    · split at h
      · cases hq : Tk.quoF l with
        | none => rw [hq] at h; cases h
        | some p =>
          rw [hq] at h
          cases h
          have := quo_short k l p.1 p.2 (by omega) hq
          unfold Tk.quoW
          rw [if_pos rfl]
          simp only [List.length_cons]
          omega
      · cases h; simp [Tk.quoW]; omega
    · rename_i hc
      cases hq : Tk.quoF (d :: l) with
      | none => rw [hq] at h; cases h
      | some p =>
        rw [hq] at h
        cases h
        have := quo_short k (d :: l) p.1 p.2 (by simp only [List.length_cons]; omega) hq
        unfold Tk.quoW
        rw [if_neg hc]
        simp only [List.length_cons] at this ⊢
        omega
theorem while_len (p : UInt8 → Bool) (l : List UInt8) : (l.takeWhile p).length + (l.dropWhile p).length = l.length := by rw [← List.length_append, List.takeWhile_append_dropWhile]
theorem tail_tx {b pre l m : List UInt8} {t : Tk.Tok} (hb : (b = [] ∧ pre = []) ∨ (b ≠ [] ∧ pre = 91 :: (b ++ [93]))) (h : Tk.tailN gnF trB b pre l = some (t, m)) : (txT t).length + m.length ≤ pre.length + l.length := by
  have hw := while_len Tk.runC l
  unfold Tk.tailN at h
  split at h
  · rename_i q hq
    rw [hq] at hw
    cases hp : Ad.refP gnF (pre ++ l.takeWhile Tk.runC ++ 33 :: q.takeWhile Tk.runC) with
    | none => rw [hp] at h; cases h
    | some x =>
      rw [hp] at h
      cases h
      have h1 := (Ad.ref_of gn_names hp).2
      have h2 := while_len Tk.runC q
      show (Ad.refW x).length + _ ≤ _
      simp only [List.length_append, List.length_cons] at h1 hw
      omega
  · split at h
    · split at h
      · rename_i c hc
        cases h
        have h1 := (Ad.cell_of hc).2
        have e : (txT (Tk.Tok.ref ⟨[], [], c⟩)).length = (Ad.cellW c).length := rfl
        rw [e, h1]
        omega
      · split at h
        · cases h
          have e : (txT (Tk.Tok.word [] (l.takeWhile Tk.runC))).length = (l.takeWhile Tk.runC).length := rfl
          rw [e]
          omega
        · cases h
    · rename_i hne
      obtain ⟨_, hpre⟩ := hb.resolve_left (fun hh => hne hh.1)
      split at h
      · cases h
        have e : (txT (Tk.Tok.word b (l.takeWhile Tk.runC))).length = b.length + 2 + (l.takeWhile Tk.runC).length := by
          show (if b = [] then _ else 91 :: (b ++ 93 :: l.takeWhile Tk.runC)).length = _
          rw [if_neg hne]
          simp only [List.length_cons, List.length_append]
          omega
        rw [e, hpre]
        simp only [List.length_cons, List.length_append, List.length_nil]
        omega
      · cases h
theorem one_tx {l m : List UInt8} {t : Tk.Tok} (h : Tk.one gnF trB pnF l = some (t, m)) : (txT t).length + m.length ≤ l.length := by
  cases l with
  | nil => cases h
  | cons c r =>
    unfold Tk.one at h
    simp only at h
    split at h
    · rename_i hd
      have hw := while_len Tk.numC (c :: r)
      cases hp : pnF ((c :: r).takeWhile Tk.numC) with
      | none => rw [hp] at h; cases h
      | some n =>
        rw [hp] at h
        cases h
        have hc : Tk.numC c = true := by unfold Tk.numC; rw [hd]; rfl
        have e : (c :: r).takeWhile Tk.numC = c :: r.takeWhile Tk.numC := by rw [List.takeWhile_cons, if_pos hc]
        rw [e] at hp hw
        have h1 := num_short hd hp
        show (printF n).length + _ ≤ _
        omega
    · split at h
      · rename_i h34
        cases hq : Tk.quoF r with
        | none => rw [hq] at h; cases h
        | some p =>
          rw [hq] at h
          cases h
          have := quo_short _ r p.1 p.2 (Nat.le_refl _) hq
          show (34 :: Tk.quoW p.1).length + _ ≤ _
          simp only [List.length_cons]
          omega
      · split at h
        · unfold Tk.badF at h
          cases hf : [1, 2, 3, 4, 5, 6, 7, 8].find? fun i => (Tk.errN i).isPrefixOf (c :: r) with
          | none => rw [hf] at h; cases h
          | some i =>
            rw [hf] at h
            cases h
            have h1 := List.find?_some hf
            have h2 := List.IsPrefix.length_le (List.isPrefixOf_iff_prefix.1 h1)
            show (Tk.errN i).length + ((c :: r).drop (Tk.errN i).length).length ≤ _
            rw [List.length_drop]
            omega
        · split at h
          · unfold Tk.named at h
            split at h
            · rename_i m' he
              cases he
              cases ha : Ad.at_ 93 r with
              | none => rw [ha] at h; cases h
              | some p =>
                obtain ⟨a, q⟩ := p
                rw [ha] at h
                simp only at h
                split at h
                · rename_i hg
                  have hne := (gn_names a hg).1
                  have h1 := tail_tx (.inr ⟨hne, rfl⟩) h
                  have h2 : r.length = a.length + 1 + q.length := by rw [(Ad.at_some ha).1]; simp; omega
                  simp only [List.length_cons, List.length_append, List.length_nil] at h1 ⊢
                  omega
                · cases h
            · have h1 := tail_tx (.inl ⟨rfl, rfl⟩) h
              simp only [List.length_nil] at h1
              omega
          · rcases r with _ | ⟨d, r⟩
            · simp only [Tk.opF] at h
              split at h
              · cases h; exact Nat.le_refl _
              · cases h
            · simp only [Tk.opF] at h
              split at h
              · cases h
                show 2 + _ ≤ _
                simp only [List.length_cons]; omega
              · split at h
                · cases h
                  show 1 + _ ≤ _
                  simp only [List.length_cons]; omega
                · cases h
theorem lexN_tx : ∀ (k : Nat) (l : List UInt8) (L : List Tk.Tok), Tk.lexN gnF trB pnF k l = some L → lnK L ≤ l.length
  | 0, l, L, h => by cases h
  | k + 1, [], L, h => by cases h; exact Nat.le_refl _
  | k + 1, c :: r, L, h => by
    unfold Tk.lexN at h
    split at h
    · have := lexN_tx k r L h
      simp only [List.length_cons]; omega
    · cases ho : Tk.one gnF trB pnF (c :: r) with
      | none => rw [ho] at h; cases h
      | some p =>
        rw [ho] at h
        simp only at h
        cases hk : Tk.lexN gnF trB pnF k p.2 with
        | none => rw [hk] at h; cases h
        | some M =>
          rw [hk] at h
          cases h
          have h1 := one_tx (m := p.2) ho
          have h2 := lexN_tx k p.2 M hk
          rw [lnK_cons]
          omega
theorem lex_tx {l : List UInt8} {L : List Tk.Tok} (h : lexF l = some L) : lnK L ≤ l.length := lexN_tx _ _ _ h
end Go.Proofs.YtljfkkpkcjigpaaGreatDoor
