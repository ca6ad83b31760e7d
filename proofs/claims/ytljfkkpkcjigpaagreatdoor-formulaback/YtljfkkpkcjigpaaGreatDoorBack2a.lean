/- FBackN, Back0, Back1, Back2. -/
import Derived.Test.YtljfkkpkcjigpaaGreatDoorFBackLa
import Derived.Test.YtljfkkpkcjigpaaGreatDoorFParsea
import Derived.Test.YtljfkkpkcjigpaaGreatDoorRSamea
import Derived.Test.YtljfkkpkcjigpaaGreatDoorCmpWalka
set_option linter.unusedVariables false
set_option linter.unusedSimpArgs false
namespace Go.Proofs.YtljfkkpkcjigpaaGreatDoor
open Go.RowKit Go.Fm
set_option maxRecDepth 100000
def blK : Option Tk.Tok → List Tk.Tok → Nat
  | _, [] => 0
  | o, t :: r => (sepT o t).length + blK (some t) r
theorem prn_len : ∀ (o : Option Tk.Tok) (L : List Tk.Tok), (prT o L).length = lnK L + blK o L
  | _, [] => rfl
  | o, t :: r => by
    show (sepT o t ++ (txT t ++ prT (some t) r)).length = _
    rw [List.length_append, List.length_append, prn_len (some t) r, lnK_cons]
    show _ = (txT t).length + lnK r + ((sepT o t).length + blK (some t) r)
    omega
theorem bl_app : ∀ (L M : List Tk.Tok) (o : Option Tk.Tok), blK o (L ++ M) = blK o L + blK (lastT o L) M
  | [], M, o => by simp [blK, lastT]
  | t :: L, M, o => by
    show (sepT o t).length + blK (some t) (L ++ M) = (sepT o t).length + blK (some t) L + blK (lastT (some t) L) M
    rw [bl_app L M (some t)]; omega
theorem last_app : ∀ (L M : List Tk.Tok) (o : Option Tk.Tok), lastT o (L ++ M) = lastT (lastT o L) M
  | [], M, o => rfl
  | t :: L, M, o => last_app L M (some t)
def NonOp (t : Tk.Tok) : Prop := ∀ s, t ≠ Tk.Tok.op s
def Opn (o : Option Tk.Tok) : Prop := o = none ∨ ∃ s, o = some (Tk.Tok.op s)
def Ends (o : Option Tk.Tok) : Prop := ∃ y, o = some y ∧ (NonOp y ∨ y = Tk.Tok.op [41] ∨ y = Tk.Tok.op [37])
theorem sep_non {o : Option Tk.Tok} {t : Tk.Tok} (h : Opn o) (ht : NonOp t) : sepT o t = [] := by
  rcases h with rfl | ⟨s, rfl⟩
  · rfl
  · cases t using Tk.Tok.cs with
    | op x => exact absurd rfl (ht x)
    | num n => rfl
    | str n => rfl
    | ref n => rfl
    | word b n => rfl
    | bad n => rfl
theorem sep_open {o : Option Tk.Tok} {x : List UInt8} (h : Opn o) (hx : x = [40] ∨ x = [45]) : sepT o (Tk.Tok.op x) = [] := by
  rcases h with rfl | ⟨s, rfl⟩
  · rfl
  · show (if oaF s x = true then [32] else []) = []
    rw [if_neg]
    unfold oaF
    rcases hx with rfl | rfl <;> (repeat' split) <;> decide
theorem sep_end {o : Option Tk.Tok} (h : Ends o) (x : List UInt8) : sepT o (Tk.Tok.op x) = [] := by
  obtain ⟨y, rfl, h⟩ := h
  rcases h with h | rfl | rfl
  · cases y using Tk.Tok.cs with
    | op s => exact absurd rfl (h s)
    | num n => rfl
    | str n => rfl
    | ref n => rfl
    | word b n => rfl
    | bad n => rfl
  · rfl
  · rfl
def NoB (L : List Tk.Tok) : Prop := ∀ o, Opn o → blK o L = 0 ∧ Ends (lastT o L)
theorem NoB.one {t : Tk.Tok} (h : NonOp t) : NoB [t] := fun o ho => ⟨by show (sepT o t).length + 0 = 0; rw [sep_non ho h]; rfl, t, rfl, .inl h⟩
theorem NoB.bin {L M : List Tk.Tok} (h : NoB L) (k : NoB M) (s : List UInt8) : NoB (L ++ Tk.Tok.op s :: M) := fun o ho => by
  obtain ⟨h1, h2⟩ := h o ho
  obtain ⟨k1, k2⟩ := k (some (Tk.Tok.op s)) (.inr ⟨s, rfl⟩)
  rw [bl_app, last_app, h1]
  refine ⟨?_, k2⟩
  show 0 + ((sepT (lastT o L) (Tk.Tok.op s)).length + blK (some (Tk.Tok.op s)) M) = 0
  rw [sep_end h2, k1]; rfl
theorem NoB.behind {L : List Tk.Tok} (h : NoB L) {s : List UInt8} (hs : s = [41] ∨ s = [37]) : NoB (L ++ [Tk.Tok.op s]) := fun o ho => by
  obtain ⟨h1, h2⟩ := h o ho
  rw [bl_app, last_app, h1]
  refine ⟨?_, _, rfl, .inr (hs.imp (fun e => by rw [e]) (fun e => by rw [e]))⟩
  show 0 + ((sepT (lastT o L) (Tk.Tok.op s)).length + 0) = 0
  rw [sep_end h2]; rfl
theorem NoB.ahead {L : List Tk.Tok} (h : NoB L) {s : List UInt8} (hs : s = [40] ∨ s = [45]) : NoB (Tk.Tok.op s :: L) := fun o ho => by
  obtain ⟨h1, h2⟩ := h (some (Tk.Tok.op s)) (.inr ⟨s, rfl⟩)
  refine ⟨?_, h2⟩
  show (sepT o (Tk.Tok.op s)).length + blK (some (Tk.Tok.op s)) L = 0
  rw [sep_open ho hs, h1]; rfl
theorem NoB.wrap {n : Nat} {L : List Tk.Tok} (h : NoB L) (lv : Nat) : NoB (wrapK (n, L) lv) := by
  unfold wrapK
  split
  · exact h
  · exact (h.behind (.inl rfl)).ahead (.inl rfl)
theorem comma_nob : ∀ (l : List T) (x : T), (∀ s ∈ x :: l, NoB (tkT s)) → NoB (commaK ((x :: l).map tkT))
  | [], x, h => h x (by simp)
  | y :: l, x, h => (h x (by simp)).bin (comma_nob l y fun s hs => h s (by simp at hs ⊢; exact .inr hs)) [44]
theorem call_nob {s : List UInt8} {L : List Tk.Tok} (h : L = [] ∨ NoB L) : NoB (Tk.Tok.word [] s :: Tk.Tok.op [40] :: (L ++ [Tk.Tok.op [41]])) := by
  have hw : NonOp (Tk.Tok.word [] s) := fun x e => by cases e
  rcases h with rfl | h
  · intro o ho
    refine ⟨?_, _, rfl, .inr (.inl rfl)⟩
    show (sepT o (Tk.Tok.word [] s)).length + 0 = 0
    rw [sep_non ho hw]; rfl
  · exact (NoB.one hw).bin (h.behind (.inl rfl)) [40]
theorem const_non (k n : Int) (s : ByteArray) : NonOp (constT k n s) := by
  intro x e
  have := const_op (k := k) (n := n) (s := s) []
  unfold constT at e
  split at e
  · cases e
  split at e
  · cases e
  split at e
  · cases e
  · cases e
theorem ref_non (b h : ByteArray) (r c : Int) (fr fc : Bool) : NonOp (refK b h r c fr fc) := fun x e => by cases e
theorem tree_nob : ∀ t : T, ∀ d, gT okL d t = true → NoB (tkT t) := by
  refine ind ?_
  intro t ih d hg
  obtain ⟨hok, hkid⟩ := good_split hg
  have hb : ∀ s ∈ kids t.2, NoB (tkT s) := fun s hs => ih s hs _ (hkid s hs)
  have htk := tkT_eq t
  unfold nodeK at htk
  rcases ok_cases hok with ⟨hk, h1⟩ | ⟨hk, h1⟩ | ⟨hk, h1, h2, h3⟩ | ⟨hk, h1, h2⟩ | ⟨hk, h1, h2⟩ | ⟨hk, h1, h2⟩ | ⟨hk, h1, h2⟩
  · rw [if_pos hk] at htk
    rw [htk]; exact .one (const_non _ _ _)
  · rw [if_neg (by omega), if_pos hk] at htk
    rw [htk]; exact .one (ref_non _ _ _ _ _ _)
  · rw [if_neg (by omega), if_neg (by omega), if_pos hk] at htk
    rw [htk]; exact (NoB.one (ref_non _ _ _ _ _ _)).bin (.one (ref_non _ _ _ _ _ _)) [58]
  · rw [if_neg (by omega), if_neg (by omega), if_neg (by omega), if_pos hk] at htk
    rw [htk]; exact .one (fun x e => by cases e)
  · obtain ⟨s, hks⟩ := List.length_eq_one_iff.1 h1
    have hB := hb s (by rw [hks]; simp)
    have hA : argK (tksF t.2) 0 = (holdN s.1, tkT s) := argK_kid (by rw [hks]; rfl)
    rw [if_neg (by omega), if_neg (by omega), if_neg (by omega), if_neg (by omega), if_pos hk, hA] at htk
    rw [htk]
    split
    · exact (hB.wrap 6).ahead (.inr rfl)
    · exact (hB.wrap 7).behind (.inr rfl)
  · obtain ⟨x, y, hks⟩ := two_of h1
    have hX := hb x (by rw [hks]; simp)
    have hY := hb y (by rw [hks]; simp)
    have hA : argK (tksF t.2) 0 = (holdN x.1, tkT x) := argK_kid (by rw [hks]; rfl)
    have hA1 : argK (tksF t.2) 1 = (holdN y.1, tkT y) := argK_kid (by rw [hks]; rfl)
    rw [if_neg (by omega), if_neg (by omega), if_neg (by omega), if_neg (by omega), if_neg (by omega), if_pos hk, hA, hA1] at htk
    rw [htk]
    exact (hX.wrap _).bin (hY.wrap _) _
  · rw [if_neg (by omega), if_neg (by omega), if_neg (by omega), if_neg (by omega), if_neg (by omega), if_neg (by omega), if_pos hk, tks_kids, List.map_map] at htk
    rw [htk]
    refine call_nob ?_
    have e : (List.map ((fun x => x.2) ∘ fun t : T => (holdN t.1, tkT t)) (kids t.2)) = (kids t.2).map tkT := rfl
    rw [e]
    cases hkk : kids t.2 with
    | nil => exact .inl rfl
    | cons x l => exact .inr (comma_nob l x fun s hs => hb s (by rw [hkk]; exact hs))
theorem pr_tree {t : T} {d : Nat} (h : gT okL d t = true) : (prT none (tkT t)).length = lnK (tkT t) := by
  rw [prn_len, (tree_nob t d h none (.inl rfl)).1]; rfl
theorem depth_nf : ∀ f : F, depth (nf f) = depth f := by
  intro f
  induction f with
  | nil => rfl
  | node b o a l r ihl ihr => rw [nf, depth, depth, ihl, ihr]
theorem dT_nT (t : T) : dT (nT t) = dT t := by unfold dT nT; rw [depth_nf]
theorem low_gT {t : T} : ∀ {d : Nat}, gT okL d t = true → dT t ≤ d := by
  intro d h
  unfold gT at h
  simp only [Bool.and_eq_true, decide_eq_true_eq] at h
  have := ((gw_depth okL t.2 (d - 1)).1 h.2).1
  unfold dT
  omega
theorem all_back {t : T} (h : gT okL 24 t = true) : allF (tkT t) = some (nT t) := by
  have hB := back_all t 24 h
  have h1 := hB.all 1 [] (Nat.le_refl _) hB.hold.1 ⟨by decide, by decide, fun _ => by decide, fun k _ hk _ => by show strn [] ≠ k; rw [show strn [] = 0 by decide]; omega⟩
  rw [List.append_nil] at h1
  unfold allF
  rw [h1]
  simp only
  rw [if_pos (by rw [dT_nT]; exact low_gT h)]
theorem good_back {t : T} (h : gT okL 24 t = true) (hl : (printN t).length ≤ 255) : parF (printN t) = (nT t, 0) := by
  have hp : printN t = prT none (tkT t) := by unfold printN; rw [if_pos h]
  unfold parF
  rw [if_neg (by omega), hp, lex_print (tkT t) none (fun x hx => (good_toks t 24 h x hx).1)]
  simp only
  rw [all_back h]
theorem par_back {l : List UInt8} {t : T} (h : parF l = (t, 0)) : gT okL 24 t = true ∧ (printN t).length ≤ l.length ∧ l.length ≤ 255 := by
  unfold parF at h
  split at h
  · cases h
  rename_i hl
  cases hx : lexF l with
  | none => rw [hx] at h; cases h
  | some ts =>
    rw [hx] at h
    simp only at h
    cases ha : allF ts with
    | none => rw [ha] at h; cases h
    | some t' =>
      rw [ha] at h
      cases h
      have hO : OkL ts := fun x hxm => ⟨lex_ok hx x hxm, lex_sm (by omega) hx x hxm⟩
      have hg := all_good hO ha
      refine ⟨hg, ?_, by omega⟩
      have hp : printN t = prT none (tkT t) := by unfold printN; rw [if_pos hg]
      rw [hp, pr_tree hg]
      have h1 := lex_tx hx
      unfold allF at ha
      split at ha
      · rename_i t'' hpp
        split at ha
        · cases ha
          have h2 := PP_short (Nat.le_refl _) (by decide) _ _ _ hpp
          have h3 := cost_ge 1 t
          rw [lnK_nil] at h2
          omega
        · cases ha
      · cases ha
theorem sT_nT (t : T) : sT (nT t) t = true := (sT_iff _ _).2 ⟨rfl, nf_same _⟩
theorem zT_nT (t : T) : zT (nT t) = zT t := by
  have : ∀ f : F, size (nf f) = size f := by
    intro f
    induction f with
    | nil => rfl
    | node b o a l r ihl ihr => rw [nf, size, size, ihl, ihr]
  unfold zT nT
  rw [this]
end Go.Proofs.YtljfkkpkcjigpaaGreatDoor

namespace Go.Proofs.YtljfkkpkcjigpaaGreatDoor
open Go.RowKit Go.Fm
set_option maxRecDepth 100000
abbrev t_s (a : Lab) : Nat := a.s.size
theorem par_zT {l : List UInt8} {p : T} (h : parF l = (p, 0)) : zT p ≤ 256 := by
  unfold parF at h
  split at h
  · cases h
  rename_i hl
  cases hx : lexF l with
  | none => rw [hx] at h; cases h
  | some ts =>
    rw [hx] at h
    simp only at h
    cases ha : allF ts with
    | none => rw [ha] at h; cases h
    | some t' =>
      rw [ha] at h
      cases h
      have hts : ts.length ≤ 255 := lex_le hx (by omega)
      unfold allF at ha
      split at ha
      · rename_i t'' hpp
        split at ha
        · cases ha
          have := ps_few upF trF (Nat.le_refl _) _ _ _ hpp
          simp at this
          omega
        · cases ha
      · cases ha
theorem nb_size : nb.size = 0 := rfl
theorem sz_list (s : ByteArray) : s.size = s.toList.length := by rw [ByteArray.toList_eq]; simp
theorem ok_labz {a : Lab} {n : Nat} (h : okL a n = true) : LabZ a := by
  have gs : ∀ {s : ByteArray}, gnF s.data.toList = true → s.size ≤ 9223372036854775807 := fun {s} hg => by
    have := (gn_parts hg).1
    rw [sz_list, ByteArray.toList_eq]; omega
  have es : ∀ {s : ByteArray}, s.toList = [] → s.size ≤ 9223372036854775807 := fun {s} he => by rw [sz_list, he]; simp
  have hn : (nb).size ≤ 9223372036854775807 := by rw [nb_size]; omega
  have gB : ∀ {b s : ByteArray} {r c : Int}, goodB b s r c = true → b.size ≤ 9223372036854775807 ∧ s.size ≤ 9223372036854775807 := fun {b s r c} hg => by
    unfold goodB at hg
    rw [Bool.and_eq_true] at hg
    have h2 := hg.2
    split at h2
    · rename_i he
      exact ⟨es (of_decide_eq_true h2), es he⟩
    · rw [Bool.and_eq_true, Bool.or_eq_true] at h2
      exact ⟨h2.2.elim (fun hh => es (of_decide_eq_true hh)) gs, gs h2.1⟩
  have hb := (ok_bare h).1
  rcases ok_cases h with ⟨hk, h1⟩ | ⟨hk, h1⟩ | ⟨hk, h1, h2, h3⟩ | ⟨hk, h1, h2⟩ | ⟨hk, h1, h2⟩ | ⟨hk, h1, h2⟩ | ⟨hk, h1, h2⟩
  · unfold namL at hb
    rw [if_pos hk] at hb
    rw [hb]; exact ⟨hn, hn, hn, hn, hn⟩
  · unfold namL at hb
    rw [if_neg (by omega), if_pos hk] at hb
    have := gB h1
    rw [hb]; exact ⟨hn, this.1, this.2, hn, hn⟩
  · unfold namL at hb
    rw [if_neg (by omega), if_neg (by omega), if_pos hk] at hb
    have a1 := gB h1
    have a2 := gB h2
    rw [hb]; exact ⟨hn, a1.1, a1.2, a2.1, a2.2⟩
  · unfold namL at hb
    rw [if_neg (by omega), if_neg (by omega), if_neg (by omega), if_pos hk] at hb
    rw [hb]; exact ⟨gs h1, h2.elim es gs, hn, hn, hn⟩
  · unfold namL at hb
    rw [if_neg (by omega), if_neg (by omega), if_neg (by omega), if_neg (by omega)] at hb
    rw [hb]
    refine ⟨?_, hn, hn, hn, hn⟩
    show t_s a ≤ _
    unfold t_s
    rw [sz_list]
    rcases h2 with e | e <;> rw [e] <;> decide
  · unfold namL at hb
    rw [if_neg (by omega), if_neg (by omega), if_neg (by omega), if_neg (by omega)] at hb
    rw [hb]
    refine ⟨?_, hn, hn, hn, hn⟩
    show t_s a ≤ _
    unfold t_s
    rw [sz_list]
    rcases strn_cases a.s.toList with e | e
    · rcases e with e | e | e | e | e | e | e | e | e | e | e | e <;> rw [e] <;> decide
    · exact absurd e.1 h2
  · unfold namL at hb
    rw [if_neg (by omega), if_neg (by omega), if_neg (by omega), if_neg (by omega)] at hb
    rw [hb]
    refine ⟨?_, hn, hn, hn, hn⟩
    show t_s a ≤ _
    unfold t_s
    unfold gfB at h2
    rw [Bool.and_eq_true, Bool.or_eq_true] at h2
    rcases h2.2 with hg | hg
    · exact gs hg
    · have ht : (truF a.s).2 = true := by
        unfold typedF at hg
        split at hg
        · cases hg
        split at hg
        · cases hg
        split at hg
        · cases hg
        split at hg
        · rename_i ht; exact ht
        split at hg
        · cases hg
        · cases hg
      have hl : (szF 97 65 a.s.data.toList).length = a.s.size := by unfold szF; rw [List.length_map]; simp
      unfold truF at ht
      rcases tru_cases (szF 97 65 a.s.data.toList) with ⟨e, _⟩ | ⟨e, _⟩ | ⟨_, _, e, _⟩
      · rw [e] at hl; simp at hl; omega
      · rw [e] at hl; simp at hl; omega
      · rw [e] at ht; cases ht
theorem good_ZT : ∀ t : T, ∀ d, gT okL d t = true → ZT t := by
  refine ind ?_
  intro t ih d hg
  obtain ⟨hok, hkid⟩ := good_split hg
  intro x hx
  unfold preT at hx
  rcases List.mem_cons.1 hx with rfl | hx
  · exact ok_labz hok
  · rw [pre_kids] at hx
    obtain ⟨s, hs, hxs⟩ := List.mem_flatMap.1 hx
    exact ih s hs _ (hkid s hs) x hxs
structure YX (w : World) (es : Array Value) (g : Nat) (fs : Array Value) (p : T) (u : World) : Prop where
  q : QX w es u
  b : u.heap[g]? = some (.cells fs 28)
  n : NT u fs p
theorem YX.bel {w u u' : World} {es fs : Array Value} {g : Nat} {p : T} (h : YX w es g fs p u) (hb : Below u.heap.size u u') : YX w es g fs p u' := ⟨h.q.bel hb, (hb.block _ (lt_of h.b)).trans h.b, h.n.below hb⟩
theorem YX.load {w u : World} {es fs : Array Value} {g : Nat} {p : T} (h : YX w es g fs p u) : (Instr.loadAt 28 (.pointer (some ⟨g, 0, none⟩))).run Tryz.prog u = .ok (.agg fs) u := (nbox_at h.n).2 h.b
theorem QX.box {w u : World} {es fs : Array Value} {p : T} (h : QX w es u) (hn : NT u fs p) : Hid ((Instr.storeAt 28 (.pointer (some ⟨u.heap.size, 0, none⟩)) (.agg fs)).run Tryz.prog (u.alloc (.cells nd0 28)) = .ok () (u.alloc (.cells fs 28))) ∧ Hid (YX w es u.heap.size fs p (u.alloc (.cells fs 28))) :=
  ⟨(nbox u hn).1, h.bel (bel_alloc (Below.refl _ _) _), heap_alloc_new _ _, hn.below (bel_alloc (Below.refl _ _) _)⟩
structure VX (w : World) (es : Array Value) (g : Nat) (fs : Array Value) (p : T) (g' : Nat) (fs' : Array Value) (p' : T) (u : World) : Prop where
  y : YX w es g fs p u
  b : u.heap[g']? = some (.cells fs' 28)
  n : NT u fs' p'
theorem VX.bel {w u u' : World} {es fs fs' : Array Value} {g g' : Nat} {p p' : T} (h : VX w es g fs p g' fs' p' u) (hb : Below u.heap.size u u') : VX w es g fs p g' fs' p' u' := ⟨h.y.bel hb, (hb.block _ (lt_of h.b)).trans h.b, h.n.below hb⟩
theorem VX.load {w u : World} {es fs fs' : Array Value} {g g' : Nat} {p p' : T} (h : VX w es g fs p g' fs' p' u) : (Instr.loadAt 28 (.pointer (some ⟨g', 0, none⟩))).run Tryz.prog u = .ok (.agg fs') u := (nbox_at h.n).2 h.b
theorem YX.box {w u : World} {es fs fs' : Array Value} {g : Nat} {p p' : T} (h : YX w es g fs p u) (hn : NT u fs' p') : Hid ((Instr.storeAt 28 (.pointer (some ⟨u.heap.size, 0, none⟩)) (.agg fs')).run Tryz.prog (u.alloc (.cells nd0 28)) = .ok () (u.alloc (.cells fs' 28))) ∧ Hid (VX w es g fs p u.heap.size fs' p' (u.alloc (.cells fs' 28))) :=
  ⟨(nbox u hn).1, h.bel (bel_alloc (Below.refl _ _) _), heap_alloc_new _ _, hn.below (bel_alloc (Below.refl _ _) _)⟩
section
variable {t : T} {w : World} {es : Array Value}
set_option maxHeartbeats 4000000 in
theorem back_big {A : ByteArray} (hb : 400 ≤ zT t) (h : NT w es t) (T : Tab9 w) : Calls Tryz.prog 6 #[.agg es, .string A] w fun e w' => e = .returned (.bool true) ∧ Below w.heap.size w w' := by
  have Zc : Hid (QX w es (w.alloc (.cells es 28))) := QX.begin _ _
  have RL : Hid _ := Zc.out.load h
  have B := big_any (h.below Zc.out.l) (b := 400) (by omega) (by omega)
  rw [decide_eq_true hb] at B
  have LV := fun (u : World) (hu : Below w.heap.size w u) => lives_any u (T.below hu)
  clear h T hb
  go_enter Tryz.func6, Tryz.ntmps6
  go_wp2_with (first
    | (refine wpList_load_run rfl 28 _ rfl _ _ rfl RL.out ?_; clear RL)
    | (go_at_call 13; refine B.mono ?_; rintro e w1 ⟨rfl, hb⟩; have Z1 := Zc.out.bel hb; clear hb Zc B; have Zc : Hid _ := Z1; clear Z1)
    | (go_at_call 12; refine (LV _ Zc.out.l).mono ?_; rintro e w1 ⟨rfl, hb⟩; have Z1 := Zc.out.bel hb; clear hb Zc; have Zc : Hid _ := Z1; clear Z1))
  go_ret
  exact ⟨rfl, Zc.out.l⟩
end
end Go.Proofs.YtljfkkpkcjigpaaGreatDoor

namespace Go.Proofs.YtljfkkpkcjigpaaGreatDoor
open Go.RowKit Go.Fm
set_option maxRecDepth 100000
section
variable {t : T} {w : World} {es : Array Value}
set_option maxHeartbeats 16000000 in
theorem back_good_err {l : List UInt8} (hz : zT t < 400) (hZ : ZT t) (h : NT w es t) (T : Tab9 w) (hg : gT okL 24 t = true) (hl : (printN t).length ≤ 255) (he : (parF l).2 ≠ 0) : Calls Tryz.prog 6 #[.agg es, .string (ba l)] w fun e w' => e = .returned (.bool true) ∧ Below w.heap.size w w' := by
  have Zc : Hid (QX w es (w.alloc (.cells es 28))) := QX.begin _ _
  have RLD : Hid (∀ u, QX w es u → (Instr.loadAt 28 (.pointer (some ⟨w.heap.size, 0, none⟩))).run Tryz.prog u = .ok (.agg es) u) := fun u hu => hu.load h
  have RL1 : Hid _ := RLD.out _ Zc.out
  have B := big_any (h.below Zc.out.l) (b := 400) (by omega) (by omega)
  rw [decide_eq_false (by omega)] at B
  have CG : Hid (∀ u, QX w es u → Calls Tryz.prog 16 #[.agg es] u fun e w' => e = .returned (.bool (gT okL 24 t)) ∧ Below u.heap.size u w') := fun u hu => good_tree (by omega) hZ (h.below hu.l) (T.below hu.l).t.t
  rw [hg] at CG
  have CQ : Hid (∀ u, QX w es u → Calls Tryz.prog 8 #[.string (ba l)] u fun e w' => ∃ fs, e = .returned (.tuple #[.agg fs, .int .i64 (parF l).2]) ∧ Hid (QX w es w') ∧ Hid (NT w' fs (parF l).1)) := fun u hu => (parseF_any l u (T.below hu.l)).mono (by
    rintro e w' ⟨fs, rfl, h1, h2, h3⟩
    exact ⟨fs, rfl, hu.bel h3, h1⟩)
  have CP : Hid (∀ u, QX w es u → Calls Tryz.prog 18 #[.agg es] u fun e w' => e = .returned (.string (ba (printN t))) ∧ Below u.heap.size u w') := fun u hu => printF_any (by omega) hZ (h.below hu.l) (T.below hu.l)
  have CR : Hid (∀ u, QX w es u → Calls Tryz.prog 8 #[.string (ba (printN t))] u fun e w' => ∃ fs, e = .returned (.tuple #[.agg fs, .int .i64 (parF (printN t)).2]) ∧ Hid (QX w es w') ∧ Hid (NT w' fs (parF (printN t)).1)) := fun u hu => (parseF_any (printN t) u (T.below hu.l)).mono (by
    rintro e w' ⟨fs, rfl, h1, h2, h3⟩
    exact ⟨fs, rfl, hu.bel h3, h1⟩)
  have hsz : (ba (printN t)).size = (printN t).length := size_mk _
  have hA : ((ba (printN t)).size : Int) ≤ 255 := by omega
  rw [good_back hg hl] at CR
  have CS : Hid (∀ u g fs, YX w es g fs (nT t) u → Calls Tryz.prog 11 #[.agg fs, .agg es] u fun e w' => e = .returned (.bool true) ∧ Below u.heap.size u w') := fun u g fs hu => by
    have := rsame_any (nT t) (by rw [zT_nT]; omega) t u fs es hu.n (h.below hu.q.l)
    rw [sT_nT] at this
    exact this
  have hne : ((parF l).2 == 0) = false := by simpa using he
  have LV : Hid (∀ u, QX w es u → Calls Tryz.prog 12 #[] u fun e w' => e = .returned (.bool true) ∧ Below u.heap.size u w') := fun u hu => lives_any u (T.below hu.l)
  clear h T hg hZ he hz hl hsz
  generalize ba (printN t) = A at *
  generalize ba l = S at *
  generalize (parF l).2 = el at *
  go_enter Tryz.func6, Tryz.ntmps6
  go_wp2_with (first
    | (refine wpList_load_run rfl 28 _ rfl _ _ rfl RL1.out ?_; clear RL1)
    | (go_at_call 13; refine B.mono ?_; rintro e w1 ⟨rfl, hb⟩; have Z1 := Zc.out.bel hb; clear hb Zc; have Zc : Hid _ := Z1; clear Z1; have RL2 : Hid _ := RLD.out _ Zc.out; clear B)
    | (refine wpList_load_run rfl 28 _ rfl _ _ rfl RL2.out ?_; clear RL2)
    | (go_at_call 16; refine (CG.out _ Zc.out).mono ?_; rintro e w2 ⟨rfl, hb⟩; have Z1 := Zc.out.bel hb; clear hb Zc; have Zc : Hid _ := Z1; clear Z1; have RL3 : Hid _ := RLD.out _ Zc.out; clear CG)
    | (refine wpList_load_run rfl 28 _ rfl _ _ rfl RL3.out ?_; clear RL3)
    | (go_at_call 18; refine (CP.out _ Zc.out).mono ?_; rintro e w3 ⟨rfl, hb⟩; have Z1 := Zc.out.bel hb; clear hb Zc; have Zc : Hid _ := Z1; clear Z1; clear CP)
    | (go_at_call 8; refine (CR.out _ Zc.out).mono ?_; rintro e w4 ⟨fs, rfl, hq, hn⟩; obtain ⟨RS4, Y4⟩ := hq.out.box hn.out; clear CR Zc hq hn)
    | (refine wpList_store_run rfl 28 _ _ rfl _ _ _ rfl rfl RS4.out ?_; clear RS4; have RL4 : Hid _ := Y4.out.load; have RL5 : Hid _ := RLD.out _ Y4.out.q; have Zc : Hid _ := Y4.out.q)
    | (refine wpList_load_g 28 _ rfl _ _ rfl RL4.out (by go_simp) ?_; clear RL4)
    | (refine wpList_load_g 28 _ rfl _ _ rfl RL5.out (by go_simp) ?_; clear RL5)
    | (go_at_call 11; refine (CS.out _ _ _ Y4.out).mono ?_; rintro e w5 ⟨rfl, hb⟩; have Z1 := Y4.out.q.bel hb; clear hb Zc Y4; have Zc : Hid _ := Z1; clear Z1 CS)
    | (go_at_call 8; refine (CQ.out _ Zc.out).mono ?_; rintro e w6 ⟨fs6, rfl, hq, hn⟩; obtain ⟨RS6, Y6⟩ := hq.out.box hn.out; clear CQ Zc hq hn)
    | (refine wpList_store_run rfl 28 _ _ rfl _ _ _ rfl rfl RS6.out ?_; clear RS6; have RL6 : Hid _ := Y6.out.load)
    | (go_at_call 12; refine (LV.out _ Y6.out.q).mono ?_; rintro e wl ⟨rfl, hb⟩; have HE : Hid (Below w.heap.size w wl) := bel_step Y6.out.q.l hb; clear hb))
  go_ret
  exact ⟨by first | rfl | (simp; done), HE.out⟩
end
end Go.Proofs.YtljfkkpkcjigpaaGreatDoor

namespace Go.Proofs.YtljfkkpkcjigpaaGreatDoor
open Go.RowKit Go.Fm
set_option maxRecDepth 100000
section
variable {t : T} {w : World} {es : Array Value}
set_option maxHeartbeats 16000000 in
theorem back_good_ok {l : List UInt8} (hz : zT t < 400) (hZ : ZT t) (h : NT w es t) (T : Tab9 w) (hg : gT okL 24 t = true) (hl : (printN t).length ≤ 255) (he : (parF l).2 = 0) : Calls Tryz.prog 6 #[.agg es, .string (ba l)] w fun e w' => e = .returned (.bool true) ∧ Below w.heap.size w w' := by
  have Zc : Hid (QX w es (w.alloc (.cells es 28))) := QX.begin _ _
  have RLD : Hid (∀ u, QX w es u → (Instr.loadAt 28 (.pointer (some ⟨w.heap.size, 0, none⟩))).run Tryz.prog u = .ok (.agg es) u) := fun u hu => hu.load h
  have RL1 : Hid _ := RLD.out _ Zc.out
  have B := big_any (h.below Zc.out.l) (b := 400) (by omega) (by omega)
  rw [decide_eq_false (by omega)] at B
  have CG : Hid (∀ u, QX w es u → Calls Tryz.prog 16 #[.agg es] u fun e w' => e = .returned (.bool (gT okL 24 t)) ∧ Below u.heap.size u w') := fun u hu => good_tree (by omega) hZ (h.below hu.l) (T.below hu.l).t.t
  rw [hg] at CG
  have CQ : Hid (∀ u, QX w es u → Calls Tryz.prog 8 #[.string (ba l)] u fun e w' => ∃ fs, e = .returned (.tuple #[.agg fs, .int .i64 (parF l).2]) ∧ Hid (QX w es w') ∧ Hid (NT w' fs (parF l).1)) := fun u hu => (parseF_any l u (T.below hu.l)).mono (by
    rintro e w' ⟨fs, rfl, h1, h2, h3⟩
    exact ⟨fs, rfl, hu.bel h3, h1⟩)
  have CP : Hid (∀ u, QX w es u → Calls Tryz.prog 18 #[.agg es] u fun e w' => e = .returned (.string (ba (printN t))) ∧ Below u.heap.size u w') := fun u hu => printF_any (by omega) hZ (h.below hu.l) (T.below hu.l)
  have CR : Hid (∀ u, QX w es u → Calls Tryz.prog 8 #[.string (ba (printN t))] u fun e w' => ∃ fs, e = .returned (.tuple #[.agg fs, .int .i64 (parF (printN t)).2]) ∧ Hid (QX w es w') ∧ Hid (NT w' fs (parF (printN t)).1)) := fun u hu => (parseF_any (printN t) u (T.below hu.l)).mono (by
    rintro e w' ⟨fs, rfl, h1, h2, h3⟩
    exact ⟨fs, rfl, hu.bel h3, h1⟩)
  have hsz : (ba (printN t)).size = (printN t).length := size_mk _
  have hA : ((ba (printN t)).size : Int) ≤ 255 := by omega
  rw [good_back hg hl] at CR
  have CS : Hid (∀ u g fs, YX w es g fs (nT t) u → Calls Tryz.prog 11 #[.agg fs, .agg es] u fun e w' => e = .returned (.bool true) ∧ Below u.heap.size u w') := fun u g fs hu => by
    have := rsame_any (nT t) (by rw [zT_nT]; omega) t u fs es hu.n (h.below hu.q.l)
    rw [sT_nT] at this
    exact this
  obtain ⟨p, hp⟩ : ∃ p, parF l = (p, 0) := ⟨(parF l).1, by rw [← he]⟩
  obtain ⟨hgp, hlp, hl255⟩ := par_back hp
  rw [hp] at CQ
  have hZp := good_ZT p 24 hgp
  have hzp : zT p ≤ 256 := par_zT hp
  have KP : Hid (∀ u g fs, YX w es g fs p u → Calls Tryz.prog 18 #[.agg fs] u fun e w' => e = .returned (.string (ba (printN p))) ∧ Below u.heap.size u w') := fun u g fs hu => printF_any (by omega) hZp hu.n (T.below hu.q.l)
  have KR : Hid (∀ u g fs, YX w es g fs p u → Calls Tryz.prog 8 #[.string (ba (printN p))] u fun e w' => ∃ gs, e = .returned (.tuple #[.agg gs, .int .i64 0]) ∧ Hid (YX w es g fs p w') ∧ Hid (NT w' gs (nT p))) := fun u g fs hu => by
    have := parseF_any (printN p) u (T.below hu.q.l)
    rw [good_back hgp (by omega)] at this
    refine this.mono ?_
    rintro e w' ⟨gs, rfl, h1, h2, h3⟩
    exact ⟨gs, rfl, hu.bel h3, h1⟩
  have KG : Hid (∀ u g fs g' fs', VX w es g fs p g' fs' (nT p) u → Calls Tryz.prog 16 #[.agg fs] u fun e w' => e = .returned (.bool true) ∧ Below u.heap.size u w') := fun u g fs g' fs' hu => by
    have := good_tree (by omega) hZp hu.y.n (T.below hu.y.q.l).t.t
    rw [hgp] at this
    exact this
  have KS : Hid (∀ u g fs g' fs', VX w es g fs p g' fs' (nT p) u → Calls Tryz.prog 11 #[.agg fs', .agg fs] u fun e w' => e = .returned (.bool true) ∧ Below u.heap.size u w') := fun u g fs g' fs' hu => by
    have := rsame_any (nT p) (by rw [zT_nT]; omega) p u fs' fs hu.n hu.y.n
    rw [sT_nT] at this
    exact this
  have LV : Hid (∀ u g fs g' fs', VX w es g fs p g' fs' (nT p) u → Calls Tryz.prog 12 #[] u fun e w' => e = .returned (.bool true) ∧ Below u.heap.size u w') := fun u g fs g' fs' hu => lives_any u (T.below hu.y.q.l)
  have hlen : ((ba (printN p)).size : Int) ≤ ((ba l).size : Int) := by rw [size_mk, size_mk]; omega
  clear h T hg hZ he hz hl hsz
  clear hgp hlp hl255 hZp hzp
  generalize ba (printN t) = A at *
  generalize ba l = S at *
  generalize ba (printN p) = P at *
  go_enter Tryz.func6, Tryz.ntmps6
  go_wp2_with (first
    | (refine wpList_load_run rfl 28 _ rfl _ _ rfl RL1.out ?_; clear RL1)
    | (go_at_call 13; refine B.mono ?_; rintro e w1 ⟨rfl, hb⟩; have Z1 := Zc.out.bel hb; clear hb Zc; have Zc : Hid _ := Z1; clear Z1; have RL2 : Hid _ := RLD.out _ Zc.out; clear B)
    | (refine wpList_load_run rfl 28 _ rfl _ _ rfl RL2.out ?_; clear RL2)
    | (go_at_call 16; refine (CG.out _ Zc.out).mono ?_; rintro e w2 ⟨rfl, hb⟩; have Z1 := Zc.out.bel hb; clear hb Zc; have Zc : Hid _ := Z1; clear Z1; have RL3 : Hid _ := RLD.out _ Zc.out; clear CG)
    | (refine wpList_load_run rfl 28 _ rfl _ _ rfl RL3.out ?_; clear RL3)
    | (go_at_call 18; refine (CP.out _ Zc.out).mono ?_; rintro e w3 ⟨rfl, hb⟩; have Z1 := Zc.out.bel hb; clear hb Zc; have Zc : Hid _ := Z1; clear Z1; clear CP)
    | (go_at_call 8; refine (CR.out _ Zc.out).mono ?_; rintro e w4 ⟨fs, rfl, hq, hn⟩; obtain ⟨RS4, Y4⟩ := hq.out.box hn.out; clear CR Zc hq hn)
    | (refine wpList_store_run rfl 28 _ _ rfl _ _ _ rfl rfl RS4.out ?_; clear RS4; have RL4 : Hid _ := Y4.out.load; have RL5 : Hid _ := RLD.out _ Y4.out.q; have Zc : Hid _ := Y4.out.q)
    | (refine wpList_load_g 28 _ rfl _ _ rfl RL4.out (by go_simp) ?_; clear RL4)
    | (refine wpList_load_g 28 _ rfl _ _ rfl RL5.out (by go_simp) ?_; clear RL5)
    | (go_at_call 11; refine (CS.out _ _ _ Y4.out).mono ?_; rintro e w5 ⟨rfl, hb⟩; have Z1 := Y4.out.q.bel hb; clear hb Zc Y4; have Zc : Hid _ := Z1; clear Z1 CS)
    | (go_at_call 8; refine (CQ.out _ Zc.out).mono ?_; rintro e w6 ⟨fs6, rfl, hq, hn⟩; obtain ⟨RS6, Y6⟩ := hq.out.box hn.out; clear CQ Zc hq hn)
    | (refine wpList_store_run rfl 28 _ _ rfl _ _ _ rfl rfl RS6.out ?_; clear RS6; have RL6 : Hid _ := Y6.out.load)
    | (refine wpList_load_run rfl 28 _ rfl _ _ rfl RL6.out ?_; clear RL6)
    | (go_at_call 18; refine (KP.out _ _ _ Y6.out).mono ?_; rintro e w7 ⟨rfl, hb⟩; have Y7 : Hid _ := Y6.out.bel hb; clear hb KP Y6)
    | (go_at_call 8; refine (KR.out _ _ _ Y7.out).mono ?_; rintro e w8 ⟨gs, rfl, hq, hn⟩; obtain ⟨RS8, V8⟩ := hq.out.box hn.out; clear KR Y7 hq hn)
    | (refine wpList_store_run rfl 28 _ _ rfl _ _ _ rfl rfl RS8.out ?_; clear RS8; have RL8 : Hid _ := V8.out.y.load)
    | (refine wpList_load_run rfl 28 _ rfl _ _ rfl RL8.out ?_; clear RL8)
    | (go_at_call 16; refine (KG.out _ _ _ _ _ V8.out).mono ?_; rintro e w9 ⟨rfl, hb⟩; have Z1 := V8.out.bel hb; clear hb V8; have V8 : Hid _ := Z1; clear Z1; have RL9 : Hid _ := V8.out.load; have RL10 : Hid _ := V8.out.y.load; clear KG)
    | (refine wpList_load_g 28 _ rfl _ _ rfl RL9.out (by go_simp) ?_; clear RL9)
    | (refine wpList_load_g 28 _ rfl _ _ rfl RL10.out (by go_simp) ?_; clear RL10)
    | (go_at_call 11; refine (KS.out _ _ _ _ _ V8.out).mono ?_; rintro e w10 ⟨rfl, hb⟩; have Z1 := V8.out.bel hb; clear hb V8; have V8 : Hid _ := Z1; clear Z1; clear KS)
    | (go_at_call 12; refine (LV.out _ _ _ _ _ V8.out).mono ?_; rintro e wl ⟨rfl, hb⟩; have HE : Hid (Below w.heap.size w wl) := bel_step V8.out.y.q.l hb; clear hb))
  go_ret
  exact ⟨by first | rfl | (simp; done), HE.out⟩
end
end Go.Proofs.YtljfkkpkcjigpaaGreatDoor
