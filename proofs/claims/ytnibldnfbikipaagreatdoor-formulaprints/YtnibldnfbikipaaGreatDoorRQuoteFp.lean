/- RRight, FBackP, FBackG, FBackL, FBackN, RQuo, RQuote. -/
import Derived.Test.YtnibldnfbikipaaGreatDoorRRight3Fp
import Derived.Test.YtnibldnfbikipaaGreatDoorRRight4Fp
import Derived.Test.YtnibldnfbikipaaGreatDoorRRight6Fp
import Derived.Test.YtnibldnfbikipaaGreatDoorRRight7Fp
set_option linter.unusedVariables false
set_option linter.unusedSimpArgs false
set_option maxHeartbeats 16000000
set_option maxRecDepth 100000
namespace Go.Proofs.YtnibldnfbikipaaGreatDoor
open Go.RowKit Go.Fm
theorem right_all : RightC := by
 intro t hz Z w es h T
 obtain ⟨p, n, c, rfl, hs⟩ := h
 obtain ⟨a, f⟩ := t
 have hn : n = (kids f).length := hs.1
 have ZL := Z.top
 show Calls Tryz.prog 123 #[.agg (lcs a (.slice p n c))] w fun e w' => e = .returned (.bool (okL a (kids f).length)) ∧ Below w.heap.size w w'
 rw [← hn]
 by_cases h1 : a.k = 1
 ·exact right_1 h1 ZL hz hs
 by_cases h2 : a.k = 2
 ·exact right_2 h2 ZL hz hs
 by_cases h3 : a.k = 3
 ·exact right_3 h3 ZL hz hs T
 by_cases h4 : a.k = 4
 ·exact right_4 h4 ZL hz hs
 by_cases h5 : a.k = 5
 ·exact right_5 h5 hz hs
 by_cases h6 : a.k = 6
 ·exact right_6 h6 hz hs
 by_cases h7 : a.k = 7
 ·exact right_7 h7 ZL hz hs
 have e : okL a n = false := by
  unfold okL partsB
  rw [if_neg h1, if_neg h2, if_neg h3, if_neg h4, if_neg h5, if_neg h6, if_neg h7, Bool.and_false]
 rw [e]
 exact right_else (by simpa using h1) (by simpa using h2) (by simpa using h3) (by simpa using h4) (by simpa using h5) (by simpa using h6) (by simpa using h7)
def Stp (lv : Nat) (r : List Tk.Tok) : Prop := opOf r ≠ [58] ∧ opOf r ≠ [40] ∧ (lv ≤ 7 → opOf r ≠ [37]) ∧ ∀ k, lv ≤ k → 1 ≤ k → k ≤ 5 → strn (opOf r) ≠ k
theorem Stp.mono {lv lv' : Nat} {r : List Tk.Tok} (h : Stp lv r) (hl : lv ≤ lv') : Stp lv' r := ⟨h.1, h.2.1, fun h7 => h.2.2.1 (by omega), fun k hk => h.2.2.2 k (by omega)⟩
theorem loop_stop {part : Part} {lv k : Nat} {n : T} {ts : List Tk.Tok} (h : strn (opOf ts) ≠ lv) : loopF part lv k n ts = some (n, ts) := by
 cases k with
 | zero => rfl
 | succ k => unfold loopF; rw [if_neg h]
theorem pct_stop {k : Nat} {n : T} {ts : List Tk.Tok} (h : opOf ts ≠ [37]) : pctF k n ts = (n, ts) := by
 cases k with
 | zero => rfl
 | succ k => unfold pctF; rw [if_neg h]
theorem down1 {lv : Nat} (h1 : 1 ≤ lv) (h7 : lv ≤ 7) {ts r : List Tk.Tok} {n : T} (h : PP (lv + 1) ts = some (n, r)) (hs : Stp lv r) (hm : lv = 6 → opOf ts ≠ [45]) : PP lv ts = some (n, r) := by
 unfold PP at h ⊢
 by_cases h5 : lv ≤ 5
 ·rw [ps_row upF trF h1 h5, h]; exact loop_stop (hs.2.2.2 lv (Nat.le_refl _) h1 h5)
 by_cases h6 : lv = 6
 ·subst h6; rw [ps_neg, if_neg (hm rfl)]; exact h
 ·have : lv = 7 := by omega
  subst this
  rw [ps_pct, h, Option.map_some, pct_stop (hs.2.2.1 (Nat.le_refl _))]
theorem down {lv : Nat} (h1 : 1 ≤ lv) : ∀ (k : Nat), lv + k ≤ 8 → ∀ {ts r : List Tk.Tok} {n : T}, PP (lv + k) ts = some (n, r) → Stp lv r → (lv ≤ 6 → 6 < lv + k → opOf ts ≠ [45]) → PP lv ts = some (n, r)
 | 0, _, ts, r, n, h, _, _ => h
 | k + 1, hk, ts, r, n, h, hs, hm => down h1 k (by omega) (down1 (lv := lv + k) (by omega) (by omega) h (hs.mono (by omega)) (fun e => hm (by omega) (by omega))) hs (fun a b => hm a (by omega))
structure Bk (t : T) : Prop where
 hold : 1 ≤ holdN t.1 ∧ holdN t.1 ≤ 8
 all : ∀ lv r, 1 ≤ lv → lv ≤ holdN t.1 → Stp lv r → PP lv (tkT t ++ r) = some (nT t, r)
 row : ∀ k r, 1 ≤ k → k ≤ 5 → k ≤ holdN t.1 → Stp (k + 1) r → ∃ m ts', PP (k + 1) (tkT t ++ r) = some (m, ts') ∧ loopF (PP (k + 1)) k ts'.length m ts' = loopF (PP (k + 1)) k r.length (nT t) r
 pct : ∀ r, 7 ≤ holdN t.1 → Stp 8 r → ∃ m ts', PP 8 (tkT t ++ r) = some (m, ts') ∧ pctF ts'.length m ts' = pctF r.length (nT t) r
 fst : 7 ≤ holdN t.1 → ∀ r, opOf (tkT t ++ r) ≠ [45]
 shut : ∀ r, opOf (tkT t ++ r) ≠ [41]
theorem ok_bare {a : Lab} {n : Nat} (h : okL a n = true) : a = namL a ∧ (isLeaf a = true → n = 0) := by
 unfold okL bareB at h
 simp only [Bool.and_eq_true] at h
 refine ⟨labB_eq h.1.1, fun hl => ?_⟩
 have := h.1.2
 unfold namN at this
 rw [if_pos hl] at this
 simp at this; omega
theorem two_of {α : Type} : ∀ {l : List α}, l.length = 2 → ∃ x y, l = [x, y]
 | [x, y], _ => ⟨x, y, rfl⟩
theorem argK_kid {f : F} {i : Nat} {s : T} (h : (kids f)[i]? = some s) : argK (tksF f) i = (holdN s.1, tkT s) := by
 unfold argK
 rw [tks_kids, List.getElem?_map, h]
 rfl
theorem const_op {k n : Int} {s : ByteArray} (r : List Tk.Tok) : opOf (constT k n s :: r) = [] := by
 unfold constT
 repeat' split
 all_goals rfl
theorem tr_up {l : List UInt8} (h : trB l = true) : upF l = [84, 82, 85, 69] ∨ upF l = [70, 65, 76, 83, 69] := by
 unfold trB truF at h
 rcases tru_cases (szF 97 65 (ba l).data.toList) with ⟨e, _⟩ | ⟨e, _⟩ | ⟨_, _, e, _⟩
 ·exact .inl e
 ·exact .inr e
 ·rw [e] at h; cases h
def lnK (L : List Tk.Tok) : Nat := (L.map fun t => (txT t).length).sum
theorem lnK_cons (t : Tk.Tok) (L : List Tk.Tok) : lnK (t :: L) = (txT t).length + lnK L := by simp [lnK]
theorem lnK_app (L M : List Tk.Tok) : lnK (L ++ M) = lnK L + lnK M := by simp [lnK]
theorem lnK_op (s : List UInt8) (L : List Tk.Tok) : lnK (Tk.Tok.op s :: L) = s.length + lnK L := lnK_cons _ _
theorem lnK_nil : lnK [] = 0 := rfl
def cost (lv : Nat) (n : T) : Nat := lnK (wrapK (holdN n.1, tkT n) lv)
theorem cost_eq (lv : Nat) (n : T) : cost lv n = if lv ≤ holdN n.1 then lnK (tkT n) else lnK (tkT n) + 2 := by
 unfold cost wrapK
 split
 ·rfl
 ·rw [lnK_op, lnK_app, lnK_op, lnK_nil]; simp; omega
theorem cost_ge (lv : Nat) (n : T) : lnK (tkT n) ≤ cost lv n := by
 rw [cost_eq]; split <;> omega
theorem cost_le (lv : Nat) (n : T) : cost lv n ≤ lnK (tkT n) + 2 := by
 rw [cost_eq]; split <;> omega
def blK : Option Tk.Tok → List Tk.Tok → Nat
 | _, [] => 0
 | o, t :: r => (sepT o t).length + blK (some t) r
theorem bl_app : ∀ (L M : List Tk.Tok) (o : Option Tk.Tok), blK o (L ++ M) = blK o L + blK (lastT o L) M
 | [], M, o => by simp [blK, lastT]
 | t :: L, M, o => by
  show (sepT o t).length + blK (some t) (L ++ M) = (sepT o t).length + blK (some t) L + blK (lastT (some t) L) M
  rw [bl_app L M (some t)]; omega
theorem last_app : ∀ (L M : List Tk.Tok) (o : Option Tk.Tok), lastT o (L ++ M) = lastT (lastT o L) M
 | [], M, o => rfl
 | t :: L, M, o => last_app L M (some t)
def NonOp (t : Tk.Tok) : Prop := ∀ s, t ≠ Tk.Tok.op s
def Opn (o : Option Tk.Tok) : Prop := o = none ∨ ∃ s, o = some (Tk.Tok.op s)
def Ends (o : Option Tk.Tok) : Prop := ∃ y, o = some y ∧ (NonOp y ∨ y = Tk.Tok.op [41] ∨ y = Tk.Tok.op [37])
theorem sep_non {o : Option Tk.Tok} {t : Tk.Tok} (h : Opn o) (ht : NonOp t) : sepT o t = [] := by
 rcases h with rfl | ⟨s, rfl⟩
 ·rfl
 ·cases t using Tk.Tok.cs with
  | op x => exact absurd rfl (ht x)
  | num n => rfl
  | str n => rfl
  | ref n => rfl
  | word b n => rfl
  | bad n => rfl
theorem sep_open {o : Option Tk.Tok} {x : List UInt8} (h : Opn o) (hx : x = [40] ∨ x = [45]) : sepT o (Tk.Tok.op x) = [] := by
 rcases h with rfl | ⟨s, rfl⟩
 ·rfl
 ·show (if oaF s x = true then [32] else []) = []
  rw [if_neg]
  unfold oaF
  rcases hx with rfl | rfl <;> (repeat' split) <;> decide
theorem sep_end {o : Option Tk.Tok} (h : Ends o) (x : List UInt8) : sepT o (Tk.Tok.op x) = [] := by
 obtain ⟨y, rfl, h⟩ := h
 rcases h with h | rfl | rfl
 ·cases y using Tk.Tok.cs with
  | op s => exact absurd rfl (h s)
  | num n => rfl
  | str n => rfl
  | ref n => rfl
  | word b n => rfl
  | bad n => rfl
 ·rfl
 ·rfl
def NoB (L : List Tk.Tok) : Prop := ∀ o, Opn o → blK o L = 0 ∧ Ends (lastT o L)
theorem NoB.one {t : Tk.Tok} (h : NonOp t) : NoB [t] := fun o ho => ⟨by show (sepT o t).length + 0 = 0; rw [sep_non ho h]; rfl, t, rfl, .inl h⟩
theorem NoB.bin {L M : List Tk.Tok} (h : NoB L) (k : NoB M) (s : List UInt8) : NoB (L ++ Tk.Tok.op s :: M) := fun o ho => by
 obtain ⟨h1, h2⟩ := h o ho
 obtain ⟨k1, k2⟩ := k (some (Tk.Tok.op s)) (.inr ⟨s, rfl⟩)
 rw [bl_app, last_app, h1]
 refine ⟨?_, k2⟩
 show 0 + ((sepT (lastT o L) (Tk.Tok.op s)).length + blK (some (Tk.Tok.op s)) M) = 0
 rw [sep_end h2, k1]; rfl
theorem NoB.behind {L : List Tk.Tok} (h : NoB L) {s : List UInt8} (hs : s = [41] ∨ s = [37]) : NoB (L ++ [Tk.Tok.op s]) := fun o ho => by
 obtain ⟨h1, h2⟩ := h o ho
 rw [bl_app, last_app, h1]
 refine ⟨?_, _, rfl, .inr (hs.imp (fun e => by rw [e]) (fun e => by rw [e]))⟩
 show 0 + ((sepT (lastT o L) (Tk.Tok.op s)).length + 0) = 0
 rw [sep_end h2]; rfl
theorem NoB.ahead {L : List Tk.Tok} (h : NoB L) {s : List UInt8} (hs : s = [40] ∨ s = [45]) : NoB (Tk.Tok.op s :: L) := fun o ho => by
 obtain ⟨h1, h2⟩ := h (some (Tk.Tok.op s)) (.inr ⟨s, rfl⟩)
 refine ⟨?_, h2⟩
 show (sepT o (Tk.Tok.op s)).length + blK (some (Tk.Tok.op s)) L = 0
 rw [sep_open ho hs, h1]; rfl
theorem NoB.wrap {n : Nat} {L : List Tk.Tok} (h : NoB L) (lv : Nat) : NoB (wrapK (n, L) lv) := by
 unfold wrapK
 split
 ·exact h
 ·exact (h.behind (.inl rfl)).ahead (.inl rfl)
theorem comma_nob : ∀ (l : List T) (x : T), (∀ s ∈ x :: l, NoB (tkT s)) → NoB (commaK ((x :: l).map tkT))
 | [], x, h => h x (by simp)
 | y :: l, x, h => (h x (by simp)).bin (comma_nob l y fun s hs => h s (by simp at hs ⊢; exact .inr hs)) [44]
theorem call_nob {s : List UInt8} {L : List Tk.Tok} (h : L = [] ∨ NoB L) : NoB (Tk.Tok.word [] s :: Tk.Tok.op [40] :: (L ++ [Tk.Tok.op [41]])) := by
 have hw : NonOp (Tk.Tok.word [] s) := fun x e => by cases e
 rcases h with rfl | h
 ·intro o ho
  refine ⟨?_, _, rfl, .inr (.inl rfl)⟩
  show (sepT o (Tk.Tok.word [] s)).length + 0 = 0
  rw [sep_non ho hw]; rfl
 ·exact (NoB.one hw).bin (h.behind (.inl rfl)) [40]
theorem const_non (k n : Int) (s : ByteArray) : NonOp (constT k n s) := by
 intro x e
 have := const_op (k := k) (n := n) (s := s) []
 unfold constT at e
 split at e
 ·cases e
 split at e
 ·cases e
 split at e
 ·cases e
 ·cases e
theorem ref_non (b h : ByteArray) (r c : Int) (fr fc : Bool) : NonOp (refK b h r c fr fc) := fun x e => by cases e
theorem tree_nob : ∀ t : T, ∀ d, gT okL d t = true → NoB (tkT t) := by
 refine ind ?_
 intro t ih d hg
 obtain ⟨hok, hkid⟩ := good_split hg
 have hb : ∀ s ∈ kids t.2, NoB (tkT s) := fun s hs => ih s hs _ (hkid s hs)
 have htk := tkT_eq t
 unfold nodeK at htk
 rcases ok_cases hok with ⟨hk, h1⟩ | ⟨hk, h1⟩ | ⟨hk, h1, h2, h3⟩ | ⟨hk, h1, h2⟩ | ⟨hk, h1, h2⟩ | ⟨hk, h1, h2⟩ | ⟨hk, h1, h2⟩
 ·rw [if_pos hk] at htk
  rw [htk]; exact .one (const_non _ _ _)
 ·rw [if_neg (by omega), if_pos hk] at htk
  rw [htk]; exact .one (ref_non _ _ _ _ _ _)
 ·rw [if_neg (by omega), if_neg (by omega), if_pos hk] at htk
  rw [htk]; exact (NoB.one (ref_non _ _ _ _ _ _)).bin (.one (ref_non _ _ _ _ _ _)) [58]
 ·rw [if_neg (by omega), if_neg (by omega), if_neg (by omega), if_pos hk] at htk
  rw [htk]; exact .one (fun x e => by cases e)
 ·obtain ⟨s, hks⟩ := List.length_eq_one_iff.1 h1
  have hB := hb s (by rw [hks]; simp)
  have hA : argK (tksF t.2) 0 = (holdN s.1, tkT s) := argK_kid (by rw [hks]; rfl)
  rw [if_neg (by omega), if_neg (by omega), if_neg (by omega), if_neg (by omega), if_pos hk, hA] at htk
  rw [htk]
  split
  ·exact (hB.wrap 6).ahead (.inr rfl)
  ·exact (hB.wrap 7).behind (.inr rfl)
 ·obtain ⟨x, y, hks⟩ := two_of h1
  have hX := hb x (by rw [hks]; simp)
  have hY := hb y (by rw [hks]; simp)
  have hA : argK (tksF t.2) 0 = (holdN x.1, tkT x) := argK_kid (by rw [hks]; rfl)
  have hA1 : argK (tksF t.2) 1 = (holdN y.1, tkT y) := argK_kid (by rw [hks]; rfl)
  rw [if_neg (by omega), if_neg (by omega), if_neg (by omega), if_neg (by omega), if_neg (by omega), if_pos hk, hA, hA1] at htk
  rw [htk]
  exact (hX.wrap _).bin (hY.wrap _) _
 ·rw [if_neg (by omega), if_neg (by omega), if_neg (by omega), if_neg (by omega), if_neg (by omega), if_neg (by omega), if_pos hk, tks_kids, List.map_map] at htk
  rw [htk]
  refine call_nob ?_
  have e : (List.map ((fun x => x.2) ∘ fun t : T => (holdN t.1, tkT t)) (kids t.2)) = (kids t.2).map tkT := rfl
  rw [e]
  cases hkk : kids t.2 with
  | nil => exact .inl rfl
  | cons x l => exact .inr (comma_nob l x fun s hs => hb s (by rw [hkk]; exact hs))
end Go.Proofs.YtnibldnfbikipaaGreatDoor
namespace Go.Proofs.YtnibldnfbikipaaGreatDoor
open Go.RowKit
abbrev tkR : Obj := .cells tk0 188
structure RZ (w u : World) : Prop where
 bel : Below w.heap.size w u
 z : u.heap[w.heap.size]? = some tkR
theorem drop_at (l : List UInt8) (k : Nat) (h : k < l.length) : l.drop k = l[k] :: l.drop (k + 1) := List.drop_eq_getElem_cons h
theorem ba_one (l : List UInt8) (k : Nat) (h : k < l.length) : (ba l).extract k (k + 1) = ba [l[k]] := by
 apply ByteArray.ext
 simp [ba]
 have := drop_at l k h
 rw [this]
 rfl
theorem ba_app (a b : List UInt8) : ba a ++ ba b = ba (a ++ b) := app_mk a b
def qwF (l : List UInt8) : List UInt8 := l.flatMap fun c => if c = 34 then [34, 34] else [c]
theorem quoW_qw : ∀ s : List UInt8, Tk.quoW s = qwF s ++ [34]
 | [] => rfl
 | c :: s => by
  unfold Tk.quoW
  rw [quoW_qw s]
  unfold qwF
  rw [List.flatMap_cons]
  split <;> simp
theorem qw_take {l : List UInt8} {k : Nat} (h : k < l.length) : qwF (l.take (k + 1)) = qwF (l.take k) ++ (if l[k] = 34 then [34, 34] else [l[k]]) := by
 unfold qwF
 rw [List.take_succ_eq_append_getElem h, List.flatMap_append]
 simp
theorem qw_len (l : List UInt8) : (qwF l).length ≤ 2 * l.length := by
 unfold qwF
 induction l with
 | nil => simp
 | cons c l ih =>
  rw [List.flatMap_cons, List.length_append, List.length_cons]
  have e : (List.flatMap (fun c => if c = 34 then [34, 34] else [c]) l).length ≤ 2 * l.length := ih
  split
  ·simp only [List.length_cons, List.length_nil]; omega
  ·simp only [List.length_cons, List.length_nil]; omega
theorem rquote_core (l : List UInt8) (S : ByteArray) (hs : S.size = l.length) (HG : Hid (∀ k (h : k < l.length) (h2 : k < S.size), S[k] = l[k])) (HE : Hid (∀ k (h : k < l.length), S.extract k (k + 1) = ba [l[k]]))
  (hl : l.length ≤ 255) (w : World) : Calls Tryz.prog 136 #[.string S] w fun e w' => e = .returned (.string (ba (34 :: Tk.quoW l))) ∧ w' = w := by
 have HO : Hid (ba (34 :: Tk.quoW l) = ba (34 :: qwF (l.take l.length)) ++ ⟨#[34]⟩) := by
  show _ = _
  rw [List.take_length, quoW_qw]
  exact (ba_app (34 :: qwF l) [34]).symm
 generalize ba (34 :: Tk.quoW l) = o at *
 go_enter Tryz.func136, Tryz.ntmps136
 go_wp2
 go_loop [3, 4] (fun t i => ∃ (k : Nat), k ≤ l.length ∧ i = .int .i64 (k : Nat) ∧ t = .string (ba (34 :: qwF (l.take k)))) (fun _ i => l.length - (intOf i).toNat)
 case atStart => exact ⟨0, Nat.zero_le _, rfl, rfl⟩
 case round =>
  obtain ⟨k, hk, rfl, rfl⟩ := hrel
  have hsz : (ba (34 :: qwF (l.take k))).size ≤ 600 := by
   rw [size_mk]
   have := qw_len (l.take k)
   have h2 : (l.take k).length ≤ k := by rw [List.length_take]; omega
   simp only [List.length_cons]; omega
  by_cases hlt : k < l.length
  ·have hki : (k : Int) < l.length := by omega
   have hks : k < S.size := by rw [hs]; exact hlt
   have hg := HG.out k hlt hks
   have he := HE.out k hlt
   have hq := qw_take hlt
   have hD : (ba [l[k]]).size = 1 := size_mk _
   have hki2 : (k : Int) + 1 ≤ l.length := by omega
   have hki0 : (k : Int) ≤ (k : Int) + 1 := by omega
   rcases ch_facts S[k] 34 with ⟨h3, h4⟩ | ⟨h3, h4⟩
   ·rw [hg] at h3
    rw [if_pos h3] at hq
    have h4' : ((S[k].toNat : Int) == 34) = true := h4
    have e1 : ba (34 :: qwF (l.take k)) ++ (⟨#[34]⟩ : ByteArray) = ba (34 :: qwF (l.take k) ++ [34]) := ba_app _ [34]
    have e2 : ba (34 :: qwF (l.take k) ++ [34]) ++ ba [l[k]] = ba (34 :: qwF (l.take (k + 1))) := by rw [ba_app, hq, h3]; simp
    have hz2 : (ba (34 :: qwF (l.take k) ++ [34])).size ≤ 601 := by
     rw [size_mk] at hsz ⊢
     simp only [List.cons_append, List.length_cons, List.length_append, List.length_nil] at hsz ⊢
     omega
    have HX : Hid (ba (34 :: qwF (l.take (k + 1))) = ba (34 :: qwF (l.take (k + 1)))) := rfl
    obtain ⟨C2, hC2⟩ : ∃ C2, C2 = ba (34 :: qwF (l.take (k + 1))) := ⟨_, rfl⟩
    rw [← hC2] at e2
    have HC : Hid (C2 = ba (34 :: qwF (l.take (k + 1)))) := hC2
    clear hC2 HX h3 h4 hg hq HG HE
    generalize ba (34 :: qwF (l.take k)) = B at *
    generalize ba (34 :: qwF (l.take k) ++ [34]) = C1 at *
    generalize ba [l[k]] = D1 at *
    have n1 : ¬ 9223372036854775807 < B.size + 1 := by omega
    have n2 : ¬ 9223372036854775807 < C1.size + 1 := by omega
    clear hsz hz2
    go_wp2
    go_round
    case rel => exact ⟨k + 1, by omega, by go_num, by rw [HC.out]⟩
    case measure => simp [intOf]; omega
   ·rw [hg] at h3
    rw [if_neg h3] at hq
    have h4' : ((S[k].toNat : Int) == 34) = false := h4
    have e2 : ba (34 :: qwF (l.take k)) ++ ba [l[k]] = ba (34 :: qwF (l.take (k + 1))) := by rw [ba_app, hq]; rfl
    obtain ⟨C2, hC2⟩ : ∃ C2, C2 = ba (34 :: qwF (l.take (k + 1))) := ⟨_, rfl⟩
    rw [← hC2] at e2
    have HC : Hid (C2 = ba (34 :: qwF (l.take (k + 1)))) := hC2
    clear hC2 h3 h4 hg hq HG HE
    generalize ba (34 :: qwF (l.take k)) = B at *
    generalize ba [l[k]] = D1 at *
    have n1 : ¬ 9223372036854775807 < B.size + 1 := by omega
    clear hsz
    go_wp2
    go_round
    case rel => exact ⟨k + 1, by omega, by go_num, by rw [HC.out]⟩
    case measure => simp [intOf]; omega
  ·have hki : ¬ (k : Int) < l.length := by omega
   have hkl : k = l.length := by omega
   have HO' : Hid (o = ba (34 :: qwF (l.take k)) ++ ⟨#[34]⟩) := by show _ = _; rw [HO.out, hkl]
   clear hkl HG HE HO
   generalize ba (34 :: qwF (l.take k)) = B at *
   have n1 : ¬ 9223372036854775807 < B.size + 1 := by omega
   obtain ⟨C, hC⟩ : ∃ C, B ++ (⟨#[34]⟩ : ByteArray) = C := ⟨_, rfl⟩
   rw [hC] at HO'
   clear hsz
   go_wp2
   go_ret
   exact ⟨by rw [HO'.out]; rfl, rfl⟩
theorem rquote_any (l : List UInt8) (hl : l.length ≤ 255) (w : World) : Calls Tryz.prog 136 #[.string (ba l)] w fun e w' => e = .returned (.string (ba (34 :: Tk.quoW l))) ∧ w' = w :=
 rquote_core l (ba l) (size_mk l) (fun k h h2 => rfl) (fun k h => ba_one l k h) hl w
end Go.Proofs.YtnibldnfbikipaaGreatDoor
