/- FBackP. -/
import Derived.Test.YtljfkkpkcjigpaaGreatDoorFPrinta
set_option linter.unusedVariables false
set_option linter.unusedSimpArgs false
namespace Go.Proofs.YtljfkkpkcjigpaaGreatDoor
open Go.RowKit Go.Fm
set_option maxRecDepth 100000
theorem bs_list (s : ByteArray) : bs s.toList = s := by unfold bs; rw [ByteArray.toList_eq]
theorem nil_bytes {s : ByteArray} (h : s.toList = []) : s = nb := by rw [← bs_list s, h]; rfl
def Stp (lv : Nat) (r : List Tk.Tok) : Prop := opOf r ≠ [58] ∧ opOf r ≠ [40] ∧ (lv ≤ 7 → opOf r ≠ [37]) ∧ ∀ k, lv ≤ k → 1 ≤ k → k ≤ 5 → strn (opOf r) ≠ k
theorem Stp.mono {lv lv' : Nat} {r : List Tk.Tok} (h : Stp lv r) (hl : lv ≤ lv') : Stp lv' r := ⟨h.1, h.2.1, fun h7 => h.2.2.1 (by omega), fun k hk => h.2.2.2 k (by omega)⟩
theorem Stp.sign {lv : Nat} {s : List UInt8} {r : List Tk.Tok} (h1 : s ≠ [58]) (h2 : s ≠ [40]) (h3 : s ≠ [37]) (h4 : strn s = 0) : Stp lv (Tk.Tok.op s :: r) := ⟨h1, h2, fun _ => h3, fun k _ h5 _ => by show strn s ≠ k; omega⟩
theorem Stp.bin {k : Nat} {s : List UInt8} {r : List Tk.Tok} (h : strn s = k) (hk : k ≠ 0) : Stp (k + 1) (Tk.Tok.op s :: r) := by
  refine ⟨?_, ?_, fun _ => ?_, fun j hj _ _ => by show strn s ≠ j; omega⟩
  · show s ≠ [58]
    rintro rfl; exact hk (h.symm.trans (by decide))
  · show s ≠ [40]
    rintro rfl; exact hk (h.symm.trans (by decide))
  · show s ≠ [37]
    rintro rfl; exact hk (h.symm.trans (by decide))
theorem loop_stop {part : Part} {lv k : Nat} {n : T} {ts : List Tk.Tok} (h : strn (opOf ts) ≠ lv) : loopF part lv k n ts = some (n, ts) := by
  cases k with
  | zero => rfl
  | succ k => unfold loopF; rw [if_neg h]
theorem pct_stop {k : Nat} {n : T} {ts : List Tk.Tok} (h : opOf ts ≠ [37]) : pctF k n ts = (n, ts) := by
  cases k with
  | zero => rfl
  | succ k => unfold pctF; rw [if_neg h]
theorem down1 {lv : Nat} (h1 : 1 ≤ lv) (h7 : lv ≤ 7) {ts r : List Tk.Tok} {n : T} (h : PP (lv + 1) ts = some (n, r)) (hs : Stp lv r) (hm : lv = 6 → opOf ts ≠ [45]) : PP lv ts = some (n, r) := by
  unfold PP at h ⊢
  by_cases h5 : lv ≤ 5
  · rw [ps_row upF trF h1 h5, h]; exact loop_stop (hs.2.2.2 lv (Nat.le_refl _) h1 h5)
  by_cases h6 : lv = 6
  · subst h6; rw [ps_neg, if_neg (hm rfl)]; exact h
  · have : lv = 7 := by omega
    subst this
    rw [ps_pct, h, Option.map_some, pct_stop (hs.2.2.1 (Nat.le_refl _))]
theorem down {lv : Nat} (h1 : 1 ≤ lv) : ∀ (k : Nat), lv + k ≤ 8 → ∀ {ts r : List Tk.Tok} {n : T}, PP (lv + k) ts = some (n, r) → Stp lv r → (lv ≤ 6 → 6 < lv + k → opOf ts ≠ [45]) → PP lv ts = some (n, r)
  | 0, _, ts, r, n, h, _, _ => h
  | k + 1, hk, ts, r, n, h, hs, hm => down h1 k (by omega) (down1 (lv := lv + k) (by omega) (by omega) h (hs.mono (by omega)) (fun e => hm (by omega) (by omega))) hs (fun a b => hm a (by omega))
theorem down_to {lv k : Nat} (h1 : 1 ≤ lv) (hk : lv ≤ k) (h8 : k ≤ 8) {ts r : List Tk.Tok} {n : T} (h : PP k ts = some (n, r)) (hs : Stp lv r) (hm : lv ≤ 6 → 6 < k → opOf ts ≠ [45]) : PP lv ts = some (n, r) := by
  obtain ⟨j, rfl⟩ : ∃ j, k = lv + j := ⟨k - lv, by omega⟩
  exact down h1 j h8 h hs hm
structure Bk (t : T) : Prop where
  hold : 1 ≤ holdN t.1 ∧ holdN t.1 ≤ 8
  all : ∀ lv r, 1 ≤ lv → lv ≤ holdN t.1 → Stp lv r → PP lv (tkT t ++ r) = some (nT t, r)
  row : ∀ k r, 1 ≤ k → k ≤ 5 → k ≤ holdN t.1 → Stp (k + 1) r → ∃ m ts', PP (k + 1) (tkT t ++ r) = some (m, ts') ∧ loopF (PP (k + 1)) k ts'.length m ts' = loopF (PP (k + 1)) k r.length (nT t) r
  pct : ∀ r, 7 ≤ holdN t.1 → Stp 8 r → ∃ m ts', PP 8 (tkT t ++ r) = some (m, ts') ∧ pctF ts'.length m ts' = pctF r.length (nT t) r
  fst : 7 ≤ holdN t.1 → ∀ r, opOf (tkT t ++ r) ≠ [45]
  shut : ∀ r, opOf (tkT t ++ r) ≠ [41]
theorem Bk.of8 {t : T} (h8 : holdN t.1 = 8) (hp : ∀ r, Stp 8 r → PP 8 (tkT t ++ r) = some (nT t, r)) (hf : ∀ r, opOf (tkT t ++ r) ≠ [45]) (hc : ∀ r, opOf (tkT t ++ r) ≠ [41]) : Bk t := by
  have all : ∀ lv r, 1 ≤ lv → lv ≤ holdN t.1 → Stp lv r → PP lv (tkT t ++ r) = some (nT t, r) := fun lv r h1 hl hs => down_to h1 (by omega) (Nat.le_refl _) (hp r (hs.mono (by omega))) hs (fun _ _ => hf r)
  exact ⟨by omega, all, fun k r h1 h5 hk hs => ⟨_, _, all (k + 1) r (by omega) (by omega) hs, rfl⟩, fun r _ hs => ⟨_, _, hp r hs, rfl⟩, fun _ => hf, hc⟩
theorem Bk.brk {t : T} (h : Bk t) (r : List Tk.Tok) : PP 8 (Tk.Tok.op [40] :: (tkT t ++ [Tk.Tok.op [41]]) ++ r) = some (nT t, r) := by
  have h1 := h.all 1 (Tk.Tok.op [41] :: r) (Nat.le_refl _) h.hold.1 (.sign (by decide) (by decide) (by decide) (by decide))
  unfold PP at h1 ⊢
  rw [ps_one, List.cons_append, List.append_assoc, List.singleton_append]
  simp only [oneF, if_true]
  rw [h1, Option.bind_some]
  rfl
theorem Bk.wrap {t : T} (h : Bk t) {lv : Nat} {r : List Tk.Tok} (h1 : 1 ≤ lv) (h8 : lv ≤ 8) (hs : Stp lv r) : PP lv (wrapK (holdN t.1, tkT t) lv ++ r) = some (nT t, r) := by
  unfold wrapK
  split
  · rename_i hh; exact h.all lv r h1 hh hs
  · exact down_to h1 h8 (Nat.le_refl _) (h.brk r) hs (fun _ _ => by show ([40] : List UInt8) ≠ [45]; decide)
theorem wrap_no {p : Nat × List Tk.Tok} {lv : Nat} (h : ¬ lv ≤ p.1) : wrapK p lv = Tk.Tok.op [40] :: (p.2 ++ [Tk.Tok.op [41]]) := if_neg h
theorem wrap_yes {p : Nat × List Tk.Tok} {lv : Nat} (h : lv ≤ p.1) : wrapK p lv = p.2 := if_pos h
def tailK : List T → List Tk.Tok → List Tk.Tok
  | [], r => Tk.Tok.op [41] :: r
  | y :: l, r => Tk.Tok.op [44] :: (tkT y ++ tailK l r)
theorem comma_tail : ∀ (x : T) (l : List T) (r : List Tk.Tok), commaK ((x :: l).map tkT) ++ Tk.Tok.op [41] :: r = tkT x ++ tailK l r
  | x, [], r => rfl
  | x, y :: l, r => by
    show (tkT x ++ Tk.Tok.op [44] :: commaK ((y :: l).map tkT)) ++ Tk.Tok.op [41] :: r = _
    rw [List.append_assoc, List.cons_append, comma_tail y l r]
    rfl
theorem tailK_stp (l : List T) (r : List Tk.Tok) : Stp 1 (tailK l r) := by
  cases l with
  | nil => exact .sign (by decide) (by decide) (by decide) (by decide)
  | cons y l => exact .sign (by decide) (by decide) (by decide) (by decide)
theorem args_back : ∀ (l : List T), (∀ s ∈ l, Bk s) → ∀ (k : Nat) (acc : List T) (r : List Tk.Tok), l.length < k → argsF (PP 1) k acc (tailK l r) = some (acc ++ l.map nT, r)
  | [], _, 0, acc, r, hk => absurd hk (Nat.lt_irrefl _)
  | [], _, k + 1, acc, r, hk => by
    unfold argsF
    rw [if_pos (show opOf (tailK [] r) = [41] from rfl)]
    simp [tailK]
  | y :: l, h, 0, acc, r, hk => absurd hk (Nat.not_lt_zero _)
  | y :: l, h, k + 1, acc, r, hk => by
    have h1 := (h y (by simp)).all 1 (tailK l r) (Nat.le_refl _) (h y (by simp)).hold.1 (tailK_stp l r)
    unfold argsF
    rw [if_neg (show opOf (tailK (y :: l) r) ≠ [41] by show ([44] : List UInt8) ≠ [41]; decide), if_pos (show opOf (tailK (y :: l) r) = [44] from rfl)]
    show (PP 1 (tkT y ++ tailK l r)).bind _ = _
    rw [h1, Option.bind_some, args_back l (fun s hs => h s (by simp [hs])) k _ r (by simp at hk; omega)]
    simp
theorem nT_tree (t : T) : nT t = tree t.1 ((kids t.2).map nT) := by
  show (t.1, nf t.2) = _
  rw [nf_eq]
  rfl
theorem ok_bare {a : Lab} {n : Nat} (h : okL a n = true) : a = namL a ∧ (isLeaf a = true → n = 0) := by
  unfold okL bareB at h
  simp only [Bool.and_eq_true] at h
  refine ⟨labB_eq h.1.1, fun hl => ?_⟩
  have := h.1.2
  unfold namN at this
  rw [if_pos hl] at this
  simp at this; omega
theorem two_of {α : Type} : ∀ {l : List α}, l.length = 2 → ∃ x y, l = [x, y]
  | [x, y], _ => ⟨x, y, rfl⟩
theorem kids_nil {f : F} (h : (kids f).length = 0) : kids f = [] := List.eq_nil_of_length_eq_zero h
theorem argK_kid {f : F} {i : Nat} {s : T} (h : (kids f)[i]? = some s) : argK (tksF f) i = (holdN s.1, tkT s) := by
  unfold argK
  rw [tks_kids, List.getElem?_map, h]
  rfl
theorem tr_true : trF [84, 82, 85, 69] = some 1 := by kernel_rfl
theorem tr_false : trF [70, 65, 76, 83, 69] = some 0 := by kernel_rfl
theorem gn_notr {l : List UInt8} (h : gnF l = true) : trF l = none := by
  unfold gnF at h
  simp only [Bool.and_eq_true, Bool.not_eq_true'] at h
  unfold trF
  rw [show ba l = ⟨l.toArray⟩ from rfl, h.2]
  rfl
theorem good_in {b s : ByteArray} {r c : Int} (h : goodB b s r c = true) : 1 ≤ r ∧ 1 ≤ c := by
  unfold goodB inB at h
  simp only [Bool.and_eq_true, decide_eq_true_eq] at h
  omega
theorem labR_ref {b h : ByteArray} {r c : Int} {fr fc : Bool} (hr : 1 ≤ r) (hc : 1 ≤ c) : labR ⟨b.toList, h.toList, ⟨r.toNat, c.toNat, fr, fc⟩⟩ = ⟨2, nb, 0, 0, nb, b, h, r, c, fr, fc, nb, nb, 0, 0, false, false⟩ := by
  unfold labR
  simp only [bs_list]
  rw [show ((r.toNat : Nat) : Int) = r by omega, show ((c.toNat : Nat) : Int) = c by omega]
theorem labA_ref {b h b' h' : ByteArray} {r c r' c' : Int} {fr fc fr' fc' : Bool} (hr : 1 ≤ r) (hc : 1 ≤ c) (hr' : 1 ≤ r') (hc' : 1 ≤ c') : labA ⟨b.toList, h.toList, ⟨r.toNat, c.toNat, fr, fc⟩⟩ ⟨b'.toList, h'.toList, ⟨r'.toNat, c'.toNat, fr', fc'⟩⟩ = ⟨3, nb, 0, 0, nb, b, h, r, c, fr, fc, b', h', r', c', fr', fc'⟩ := by
  unfold labA
  simp only [bs_list]
  rw [show ((r.toNat : Nat) : Int) = r by omega, show ((c.toNat : Nat) : Int) = c by omega, show ((r'.toNat : Nat) : Int) = r' by omega, show ((c'.toNat : Nat) : Int) = c' by omega]
theorem const_back {k n : Int} {s : ByteArray} (h : gcB k n s = true) {r : List Tk.Tok} (hr : opOf r ≠ [40]) : PP 8 (constT k n s :: r) = some (tree (labV k n s) [], r) := by
  unfold PP
  rw [ps_one]
  unfold gcB at h
  unfold constT
  split at h
  · cases h
  split at h
  · rename_i h1
    rw [Bool.and_eq_true] at h
    have h2 := h.2
    unfold goodF at h2
    rw [if_neg (by omega), if_pos h1, Bool.and_eq_true] at h2
    unfold emB at h2
    rw [if_pos h1, nil_bytes (of_decide_eq_true h2.1), h1]
    rfl
  · rename_i h0 h1
    rw [if_neg h1]
    unfold goodF at h
    rw [if_neg h0, if_neg h1] at h
    split at h
    · rename_i h2
      rw [Bool.and_eq_true] at h
      have hn : n = 0 := by simpa using h.1
      rw [if_pos h2, h2, hn]
      show some (tree (labV 2 0 (bs s.toList)) [], r) = _
      rw [bs_list]
    rename_i h2
    rw [if_neg h2]
    split at h
    · rename_i h3
      rw [Bool.and_eq_true, Bool.or_eq_true] at h
      unfold emB at h
      rw [if_pos h3, nil_bytes (of_decide_eq_true h.1), h3]
      unfold textF
      rw [if_neg (by decide), if_neg (by decide), if_pos rfl]
      rcases h.2 with hn | hn
      · have hn : n = 0 := by simpa using hn
        rw [hn, if_neg (by decide), ByteArray.toList_eq]
        simp only [oneF]
        rw [if_neg (fun hh => hr hh.2), tr_false]
      · have hn : n = 1 := by simpa using hn
        rw [hn, if_pos (by decide), ByteArray.toList_eq]
        simp only [oneF]
        rw [if_neg (fun hh => hr hh.2), tr_true]
    rename_i h3
    rw [if_neg h3]
    split at h
    · rename_i h4
      rw [Bool.and_eq_true] at h
      unfold emB knB at h
      simp only [Bool.and_eq_true, decide_eq_true_eq] at h
      rw [nil_bytes h.1, h4]
      show some (tree (labV 4 ((n.toNat : Nat) : Int) nb) [], r) = _
      rw [show ((n.toNat : Nat) : Int) = n by omega]
    · cases h
theorem const_op {k n : Int} {s : ByteArray} (r : List Tk.Tok) : opOf (constT k n s :: r) = [] := by
  unfold constT
  repeat' split
  all_goals rfl
theorem leaf_of {a : Lab} (h : a.k = 1 ∨ a.k = 2 ∨ a.k = 3 ∨ a.k = 4) : isLeaf a = true := by
  unfold isLeaf
  rcases h with h | h | h | h <;> rw [h] <;> decide
theorem nb_ne {s : List UInt8} (h : s = []) : s ≠ [45] ∧ s ≠ [41] := by subst h; decide
theorem back_all : ∀ t : T, ∀ d, gT okL d t = true → Bk t := by
  refine ind ?_
  intro t ih d hg
  obtain ⟨hok, hkid⟩ := good_split hg
  obtain ⟨hbare, hleaf⟩ := ok_bare hok
  have hnt := nT_tree t
  have hb : ∀ s ∈ kids t.2, Bk s := fun s hs => ih s hs _ (hkid s hs)
  have htk := tkT_eq t
  unfold nodeK at htk
  rcases ok_cases hok with ⟨hk, h1⟩ | ⟨hk, h1⟩ | ⟨hk, h1, h2, h3⟩ | ⟨hk, h1, h2⟩ | ⟨hk, h1, h2⟩ | ⟨hk, h1, h2⟩ | ⟨hk, h1, h2⟩
  · have h8 : holdN t.1 = 8 := by unfold holdN; rw [if_neg (by omega), if_neg (by omega)]
    rw [if_pos hk] at htk
    rw [kids_nil (hleaf (leaf_of (by omega)))] at hnt
    unfold namL at hbare
    rw [if_pos hk] at hbare
    refine .of8 h8 (fun r hs => ?_) (fun r => ?_) (fun r => ?_)
    · rw [htk, hnt, hbare]
      exact const_back h1 hs.2.1
    · rw [htk]; exact (nb_ne (const_op r)).1
    · rw [htk]; exact (nb_ne (const_op r)).2
  · have h8 : holdN t.1 = 8 := by unfold holdN; rw [if_neg (by omega), if_neg (by omega)]
    rw [if_neg (by omega), if_pos hk] at htk
    rw [kids_nil (hleaf (leaf_of (by omega)))] at hnt
    unfold namL at hbare
    rw [if_neg (by omega), if_pos hk] at hbare
    have hi := good_in h1
    refine .of8 h8 (fun r hs => ?_) (fun r => ?_) (fun r => ?_)
    · rw [htk, hnt, hbare]
      unfold PP
      rw [ps_one]
      unfold refK
      simp only [List.cons_append, List.nil_append, oneF]
      rw [if_neg hs.1, labR_ref hi.1 hi.2]
      rfl
    · rw [htk]; exact (nb_ne rfl).1
    · rw [htk]; exact (nb_ne rfl).2
  · have h8 : holdN t.1 = 8 := by unfold holdN; rw [if_neg (by omega), if_neg (by omega)]
    rw [if_neg (by omega), if_neg (by omega), if_pos hk] at htk
    rw [kids_nil (hleaf (leaf_of (by omega)))] at hnt
    unfold namL at hbare
    rw [if_neg (by omega), if_neg (by omega), if_pos hk] at hbare
    have hi := good_in h1
    have hj := good_in h2
    refine .of8 h8 (fun r hs => ?_) (fun r => ?_) (fun r => ?_)
    · rw [htk, hnt, hbare]
      unfold PP
      rw [ps_one]
      unfold refK
      simp only [List.cons_append, List.nil_append, oneF]
      rw [if_pos (show opOf (Tk.Tok.op [58] :: Tk.Tok.ref _ :: r) = [58] from rfl)]
      simp only [List.tail_cons]
      rw [if_pos h3, labA_ref hi.1 hi.2 hj.1 hj.2]
      rfl
    · rw [htk]; exact (nb_ne rfl).1
    · rw [htk]; exact (nb_ne rfl).2
  · have h8 : holdN t.1 = 8 := by unfold holdN; rw [if_neg (by omega), if_neg (by omega)]
    rw [if_neg (by omega), if_neg (by omega), if_neg (by omega), if_pos hk] at htk
    rw [kids_nil (hleaf (leaf_of (by omega)))] at hnt
    unfold namL at hbare
    rw [if_neg (by omega), if_neg (by omega), if_neg (by omega), if_pos hk] at hbare
    refine .of8 h8 (fun r hs => ?_) (fun r => ?_) (fun r => ?_)
    · rw [htk, hnt, hbare]
      unfold PP
      rw [ps_one]
      simp only [List.cons_append, List.nil_append, oneF]
      rw [if_neg (fun hh => hs.2.1 hh.2), gn_notr (by rw [ByteArray.toList_eq]; exact h1)]
      simp only
      unfold labN
      simp only [bs_list]
      rfl
    · rw [htk]; exact (nb_ne rfl).1
    · rw [htk]; exact (nb_ne rfl).2
  · obtain ⟨s, hks⟩ := List.length_eq_one_iff.1 h1
    have hB := hb s (by rw [hks]; simp)
    have hA : argK (tksF t.2) 0 = (holdN s.1, tkT s) := argK_kid (by rw [hks]; rfl)
    rw [if_neg (by omega), if_neg (by omega), if_neg (by omega), if_neg (by omega), if_pos hk, hA] at htk
    rw [hks] at hnt
    unfold namL at hbare
    rw [if_neg (by omega), if_neg (by omega), if_neg (by omega), if_neg (by omega), hk] at hbare
    by_cases hm : t.1.s.toList = [45]
    · have h6 : holdN t.1 = 6 := by unfold holdN; rw [if_neg (by omega), if_pos hk, if_pos hm]
      rw [if_pos hm] at htk
      have hnu : nT t = unT [45] (nT s) := by
        rw [hnt, hbare, ← hm]
        unfold unT
        rw [bs_list]; rfl
      have all : ∀ lv r, 1 ≤ lv → lv ≤ holdN t.1 → Stp lv r → PP lv (tkT t ++ r) = some (nT t, r) := fun lv r hl1 hl hs => by
        refine down_to hl1 (show lv ≤ 6 by omega) (by decide) ?_ hs (fun _ h => absurd h (by decide))
        have hw := hB.wrap (lv := 6) (by decide) (by decide) (hs.mono (by omega))
        rw [htk, hnu]
        unfold PP at hw ⊢
        rw [ps_neg, if_pos (show opOf (Tk.Tok.op [45] :: _ ++ r) = [45] from rfl)]
        simp only [List.cons_append, List.tail_cons]
        rw [hw]; rfl
      exact ⟨by omega, all, fun k r hk1 hk5 _ hs => ⟨_, _, all (k + 1) r (by omega) (by omega) hs, rfl⟩, fun r h7 => by omega, fun h7 => by omega, fun r => by rw [htk]; show ([45] : List UInt8) ≠ [41]; decide⟩
    · have h37 : t.1.s.toList = [37] := h2.resolve_left hm
      have h7 : holdN t.1 = 7 := by unfold holdN; rw [if_neg (by omega), if_pos hk, if_neg hm]
      rw [if_neg hm] at htk
      have hnu : nT t = unT [37] (nT s) := by
        rw [hnt, hbare, ← h37]
        unfold unT
        rw [bs_list]; rfl
      have hpc : ∀ (m : T) (r : List Tk.Tok), pctF (Tk.Tok.op [37] :: r).length m (Tk.Tok.op [37] :: r) = pctF r.length (unT [37] m) r := fun m r => by
        rw [List.length_cons]
        conv => lhs; unfold pctF
        rw [if_pos (show opOf (Tk.Tok.op [37] :: r) = [37] from rfl), List.tail_cons]
      have s37 : ∀ r, Stp 8 (Tk.Tok.op [37] :: r) := fun r => ⟨by show ([37] : List UInt8) ≠ [58]; decide, by show ([37] : List UInt8) ≠ [40]; decide, fun h => by omega, fun k hk => by omega⟩
      have pct : ∀ r, Stp 8 r → ∃ m ts', PP 8 (tkT t ++ r) = some (m, ts') ∧ pctF ts'.length m ts' = pctF r.length (nT t) r := fun r hs => by
        rw [htk, List.append_assoc, List.singleton_append, hnu, ← hpc]
        by_cases hh : 7 ≤ holdN s.1
        · rw [wrap_yes hh]
          exact hB.pct (Tk.Tok.op [37] :: r) hh (s37 r)
        · rw [wrap_no hh]
          exact ⟨_, _, hB.brk _, rfl⟩
      have fst : ∀ r, opOf (tkT t ++ r) ≠ [45] := fun r => by
        rw [htk, List.append_assoc]
        by_cases hh : 7 ≤ holdN s.1
        · rw [wrap_yes hh]; exact hB.fst hh _
        · rw [wrap_no hh]; show ([40] : List UInt8) ≠ [45]; decide
      have all : ∀ lv r, 1 ≤ lv → lv ≤ holdN t.1 → Stp lv r → PP lv (tkT t ++ r) = some (nT t, r) := fun lv r hl1 hl hs => by
        refine down_to hl1 (show lv ≤ 7 by omega) (by decide) ?_ hs (fun _ _ => fst r)
        obtain ⟨m, ts', e1, e2⟩ := pct r (hs.mono (by omega))
        unfold PP at e1 ⊢
        rw [ps_pct, e1, Option.map_some, e2, pct_stop (hs.2.2.1 (by omega))]
      refine ⟨by omega, all, fun k r hk1 hk5 _ hs => ⟨_, _, all (k + 1) r (by omega) (by omega) hs, rfl⟩, fun r _ => pct r, fun _ => fst, fun r => ?_⟩
      rw [htk, List.append_assoc]
      by_cases hh : 7 ≤ holdN s.1
      · rw [wrap_yes hh]; exact hB.shut _
      · rw [wrap_no hh]; show ([40] : List UInt8) ≠ [41]; decide
  · obtain ⟨x, y, hks⟩ := two_of h1
    have hX := hb x (by rw [hks]; simp)
    have hY := hb y (by rw [hks]; simp)
    have hA : argK (tksF t.2) 0 = (holdN x.1, tkT x) := argK_kid (by rw [hks]; rfl)
    have hA1 : argK (tksF t.2) 1 = (holdN y.1, tkT y) := argK_kid (by rw [hks]; rfl)
    rw [if_neg (by omega), if_neg (by omega), if_neg (by omega), if_neg (by omega), if_neg (by omega), if_pos hk, hA, hA1] at htk
    rw [hks] at hnt
    unfold namL at hbare
    rw [if_neg (by omega), if_neg (by omega), if_neg (by omega), if_neg (by omega), hk] at hbare
    have hnu : nT t = binT t.1.s.toList (nT x) (nT y) := by
      rw [hnt]
      conv => lhs; rw [hbare]
      unfold binT
      rw [bs_list]; rfl
    have hh : holdN t.1 = strn t.1.s.toList := by unfold holdN; rw [if_pos hk]
    have h5 := Go.Fm.strn_le t.1.s.toList
    generalize t.1.s.toList = s at *
    obtain ⟨K, hK⟩ : ∃ K, strn s = K := ⟨_, rfl⟩
    rw [hK] at htk hh h2 h5
    have row : ∀ r, Stp (K + 1) r → ∃ m ts', PP (K + 1) (tkT t ++ r) = some (m, ts') ∧ loopF (PP (K + 1)) K ts'.length m ts' = loopF (PP (K + 1)) K r.length (nT t) r := fun r hs => by
      have hw := hY.wrap (lv := K + 1) (by omega) (by omega) hs
      have hstep : ∀ m, loopF (PP (K + 1)) K (Tk.Tok.op s :: (wrapK (holdN y.1, tkT y) (K + 1) ++ r)).length m (Tk.Tok.op s :: (wrapK (holdN y.1, tkT y) (K + 1) ++ r)) = loopF (PP (K + 1)) K r.length (binT s m (nT y)) r := fun m => by
        rw [List.length_cons]
        conv => lhs; unfold loopF
        rw [if_pos (show strn (opOf (Tk.Tok.op s :: _)) = K from hK), List.tail_cons, hw, Option.bind_some]
        exact loop_fuel (by omega) (ps_lt upF trF (by omega)) _ _ _ _ (by simp) (Nat.le_refl _)
      rw [htk, List.append_assoc, List.cons_append, hnu, ← hstep]
      have sR : Stp (K + 1) (Tk.Tok.op s :: (wrapK (holdN y.1, tkT y) (K + 1) ++ r)) := .bin hK h2
      by_cases hx : K ≤ holdN x.1
      · rw [wrap_yes hx]
        exact hX.row K _ (by omega) h5 hx sR
      · rw [wrap_no hx, ← wrap_no (p := (holdN x.1, tkT x)) (lv := K + 1) (by show ¬ K + 1 ≤ holdN x.1; omega)]
        exact ⟨_, _, hX.wrap (by omega) (by omega) sR, rfl⟩
    have all : ∀ lv r, 1 ≤ lv → lv ≤ holdN t.1 → Stp lv r → PP lv (tkT t ++ r) = some (nT t, r) := fun lv r hl1 hl hs => by
      refine down_to hl1 (show lv ≤ K by omega) (by omega) ?_ hs (fun _ h => by omega)
      obtain ⟨m, ts', e1, e2⟩ := row r (hs.mono (by omega))
      unfold PP at e1 e2 ⊢
      rw [ps_row upF trF (by omega) h5, e1, Option.bind_some]
      refine Eq.trans e2 (loop_stop (hs.2.2.2 K (by omega) (by omega) h5))
    refine ⟨by omega, all, fun k r hk1 hk5 hkh hs => ?_, fun r h7 => by omega, fun h7 => by omega, fun r => ?_⟩
    · by_cases hkK : k = K
      · subst hkK; exact row r hs
      · exact ⟨_, _, all (k + 1) r (by omega) (by omega) hs, rfl⟩
    · rw [htk, List.append_assoc]
      by_cases hx : K ≤ holdN x.1
      · rw [wrap_yes hx]; exact hX.shut _
      · rw [wrap_no hx]; show ([40] : List UInt8) ≠ [41]; decide
  · have h8 : holdN t.1 = 8 := by unfold holdN; rw [if_neg (by omega), if_neg (by omega)]
    rw [if_neg (by omega), if_neg (by omega), if_neg (by omega), if_neg (by omega), if_neg (by omega), if_neg (by omega), if_pos hk, tks_kids, List.map_map] at htk
    unfold namL at hbare
    rw [if_neg (by omega), if_neg (by omega), if_neg (by omega), if_neg (by omega), hk] at hbare
    have hup : bs (upF t.1.s.toList) = t.1.s := by
      unfold gfB at h2
      rw [Bool.and_eq_true] at h2
      have := bytes_eq h2.1
      unfold upF bs
      rw [ByteArray.toList_eq]
      exact this.symm
    refine .of8 h8 (fun r hs => ?_) (fun r => ?_) (fun r => ?_)
    · rw [htk]
      unfold PP
      rw [ps_one]
      simp only [List.cons_append, List.append_assoc, List.nil_append, oneF]
      rw [if_pos ⟨trivial, rfl⟩]
      simp only [List.tail_cons]
      have hlab : lab0 7 (bs (upF t.1.s.toList)) = t.1 := by rw [hup, ← hbare]
      unfold callF
      rw [hlab, hnt]
      cases hkk : kids t.2 with
      | nil => rfl
      | cons x l =>
        have hc : commaK (List.map ((fun x => x.2) ∘ fun t : T => (holdN t.1, tkT t)) (x :: l)) ++ Tk.Tok.op [41] :: r = tkT x ++ tailK l r := comma_tail x l r
        have hX := hb x (by rw [hkk]; simp)
        have hP := hX.all 1 (tailK l r) (Nat.le_refl _) hX.hold.1 (tailK_stp l r)
        have hl : l.length < (tkT x ++ tailK l r).length + 1 := by
          have : ∀ l : List T, l.length < (tailK l r).length := by
            intro l
            induction l with
            | nil => simp [tailK]
            | cons y l ihl => simp only [tailK, List.length_cons, List.length_append]; omega
          have := this l
          rw [List.length_append]; omega
        have hR := args_back l (fun s hs => hb s (by rw [hkk]; simp [hs])) ((tkT x ++ tailK l r).length + 1) [nT x] r hl
        rw [hc, if_neg (hX.shut _)]
        unfold PP at hP hR
        rw [hP, Option.bind_some, hR, Option.bind_some, if_pos (by rw [hkk] at h1; simp at h1 ⊢; omega)]
        rfl
    · rw [htk]; exact (nb_ne rfl).1
    · rw [htk]; exact (nb_ne rfl).2
end Go.Proofs.YtljfkkpkcjigpaaGreatDoor
