/- FPrint, FIter. -/
import Derived.Test.YtljfkkpkcjigpaaGreatDoorFWriteq
import Derived.RangeFuncNested
import Derived.RangeFuncBound
import Derived.RangeFuncCalls
import Derived.RangeFuncLeaves
import Derived.RangeFuncFrom
import Derived.Shelf.Abstract
import Derived.Shelf.RegionOpen
import Derived.WalkKit
import Derived.OwnWalkIn
import Derived.TacticsInMore
import Derived.LoopNIn
import Derived.LoopIn
import Derived.Test.YtljfkkpkcjigpaaGreatDoorFDepthq
set_option linter.unusedVariables false
set_option linter.unusedSimpArgs false
namespace Go.Proofs.YtljfkkpkcjigpaaGreatDoor
open Go.RowKit Go.Fm
set_option maxRecDepth 100000
theorem good_R {b h : ByteArray} {r c : Int} {fr fc : Bool} (hg : goodB b h r c = true) : Tk.okT gnF trB okN (refK b h r c fr fc) := by
  obtain ⟨R, C, rfl, rfl, q1, q2, q3, q4, hw⟩ := good_yes hg
  show Ad.goodR gnF ⟨b.toList, h.toList, ⟨R, C, fr, fc⟩⟩
  refine ⟨⟨q1, q2, q3, q4⟩, ?_, ?_⟩
  · rcases hw with ⟨h1, h2⟩ | ⟨h1, h2, h3⟩ | ⟨h1, h2, h3, h4⟩
    · exact .inl h1
    · exact .inr (by show gnF h.toList = true; rw [ByteArray.toList_eq]; exact h2)
    · exact .inr (by show gnF h.toList = true; rw [ByteArray.toList_eq]; exact h2)
  · rcases hw with ⟨h1, h2⟩ | ⟨h1, h2, h3⟩ | ⟨h1, h2, h3, h4⟩
    · exact .inl h2
    · exact .inl h3
    · exact .inr ⟨by rw [ByteArray.toList_eq]; exact h4, by simpa using h1⟩
theorem op_ok (c : UInt8) (h : c ∈ Tk.ones) : Tk.okT gnF trB okN (Tk.Tok.op [c]) ∧ smT (Tk.Tok.op [c]) := ⟨.inl ⟨c, h, rfl⟩, trivial⟩
theorem str_ok {l : List UInt8} (h : strn l ≠ 0) : Tk.okT gnF trB okN (Tk.Tok.op l) ∧ smT (Tk.Tok.op l) := by
  refine ⟨?_, trivial⟩
  have one : ∀ c ∈ Tk.ones, l = [c] → Tk.okT gnF trB okN (Tk.Tok.op l) := fun c hc e => .inl ⟨c, hc, e⟩
  have two : ∀ c d, Tk.two c d = true → l = [c, d] → Tk.okT gnF trB okN (Tk.Tok.op l) := fun c d hc e => .inr ⟨c, d, hc, e⟩
  unfold strn at h
  split at h
  · rename_i hh
    rcases hh with e | e | e | e | e | e
    · exact one _ (by decide) e
    · exact two _ _ (by decide) e
    · exact one _ (by decide) e
    · exact two _ _ (by decide) e
    · exact one _ (by decide) e
    · exact two _ _ (by decide) e
  split at h
  · rename_i e; exact one _ (by decide) e
  split at h
  · rename_i hh
    rcases hh with e | e <;> exact one _ (by decide) e
  split at h
  · rename_i hh
    rcases hh with e | e <;> exact one _ (by decide) e
  split at h
  · rename_i e; exact one _ (by decide) e
  · exact absurd rfl h
theorem true_tr : trB [84, 82, 85, 69] = true ∧ trB [70, 65, 76, 83, 69] = true := by
  constructor <;> (unfold trB; decide)
theorem const_ok {k n : Int} {s : ByteArray} (h : gcB k n s = true) : Tk.okT gnF trB okN (constT k n s) ∧ smT (constT k n s) := by
  rcases gc_facts h with ⟨rfl, h1, h2⟩ | ⟨rfl, h1⟩ | ⟨rfl, h1⟩ | ⟨rfl, h1, h2⟩
  · exact ⟨⟨h1, h2⟩, trivial⟩
  · refine ⟨trivial, ?_⟩
    show s.toList.length ≤ 255
    rw [ByteArray.toList_eq, size_list]; exact h1
  · refine ⟨.inl ⟨rfl, .inr ?_⟩, trivial⟩
    show trB (textF 3 n s).toList = true
    rw [ByteArray.toList_eq]
    rcases h1 with rfl | rfl
    · exact true_tr.2
    · exact true_tr.1
  · refine ⟨?_, trivial⟩
    show 1 ≤ n.toNat ∧ n.toNat ≤ 8
    omega
theorem wrap_mem {p : Nat × List Tk.Tok} {k : Nat} {x : Tk.Tok} (h : x ∈ wrapK p k) : x ∈ p.2 ∨ x = Tk.Tok.op [40] ∨ x = Tk.Tok.op [41] := by
  unfold wrapK at h
  split at h
  · exact .inl h
  · simp only [List.mem_cons, List.mem_append, List.not_mem_nil, or_false] at h
    rcases h with h | h | h
    · exact .inr (.inl h)
    · exact .inl h
    · exact .inr (.inr h)
theorem comma_mem : ∀ {l : List (List Tk.Tok)} {x : Tk.Tok}, x ∈ commaK l → x = Tk.Tok.op [44] ∨ ∃ y ∈ l, x ∈ y
  | [], x, h => by simp [commaK] at h
  | [y], x, h => .inr ⟨y, by simp, h⟩
  | y :: z :: r, x, h => by
    rw [commaK, List.mem_append, List.mem_cons] at h
    rcases h with h | h | h
    · exact .inr ⟨y, by simp, h⟩
    · exact .inl h
    · rcases comma_mem h with h | ⟨q, hq, hx⟩
      · exact .inl h
      · exact .inr ⟨q, by simp [List.mem_cons] at hq ⊢; exact .inr hq, hx⟩
theorem good_toks : ∀ t : T, ∀ d, gT okL d t = true → ∀ x ∈ tkT t, Tk.okT gnF trB okN x ∧ smT x := by
  refine ind ?_
  intro t ih d hg x hx
  obtain ⟨hok, hkid⟩ := good_split hg
  have o40 := op_ok 40 (by decide)
  have o41 := op_ok 41 (by decide)
  have hwrap : ∀ i lv, x ∈ wrapK (argK (tksF t.2) i) lv → Tk.okT gnF trB okN x ∧ smT x := fun i lv h => by
    rcases wrap_mem h with h | h | h
    · unfold argK at h
      rw [tks_kids, List.getElem?_map] at h
      cases hq : (kids t.2)[i]? with
      | none => rw [hq] at h; simp at h
      | some s =>
        rw [hq] at h
        have hm := List.mem_of_getElem? hq
        exact ih s hm _ (hkid s hm) x h
    · rw [h]; exact o40
    · rw [h]; exact o41
  rw [tkT_eq t] at hx
  unfold nodeK at hx
  rcases ok_cases hok with ⟨hk, h1⟩ | ⟨hk, h1⟩ | ⟨hk, h1, h2, h3⟩ | ⟨hk, h1, h2⟩ | ⟨hk, h1, h2⟩ | ⟨hk, h1, h2⟩ | ⟨hk, h1, h2⟩
  · rw [if_pos hk, List.mem_singleton] at hx
    rw [hx]; exact const_ok h1
  · rw [if_neg (by omega), if_pos hk, List.mem_singleton] at hx
    rw [hx]; exact ⟨good_R h1, trivial⟩
  · rw [if_neg (by omega), if_neg (by omega), if_pos hk] at hx
    simp only [List.mem_cons, List.not_mem_nil, or_false] at hx
    rcases hx with hx | hx | hx
    · rw [hx]; exact ⟨good_R h1, trivial⟩
    · rw [hx]; exact op_ok 58 (by decide)
    · rw [hx]; exact ⟨good_R h2, trivial⟩
  · rw [if_neg (by omega), if_neg (by omega), if_neg (by omega), if_pos hk, List.mem_singleton] at hx
    rw [hx]
    refine ⟨?_, trivial⟩
    rcases h2 with h2 | h2
    · exact .inl ⟨h2, .inl (by rw [ByteArray.toList_eq]; exact h1)⟩
    · exact .inr ⟨by rw [ByteArray.toList_eq]; exact h2, by rw [ByteArray.toList_eq]; exact h1⟩
  · rw [if_neg (by omega), if_neg (by omega), if_neg (by omega), if_neg (by omega), if_pos hk] at hx
    split at hx
    · rcases List.mem_cons.1 hx with hx | hx
      · rw [hx]; exact op_ok 45 (by decide)
      · exact hwrap _ _ hx
    · rcases List.mem_append.1 hx with hx | hx
      · exact hwrap _ _ hx
      · rw [List.mem_singleton.1 hx]; exact op_ok 37 (by decide)
  · rw [if_neg (by omega), if_neg (by omega), if_neg (by omega), if_neg (by omega), if_neg (by omega), if_pos hk] at hx
    rcases List.mem_append.1 hx with hx | hx
    · exact hwrap _ _ hx
    rcases List.mem_cons.1 hx with hx | hx
    · rw [hx]; exact str_ok h2
    · exact hwrap _ _ hx
  · rw [if_neg (by omega), if_neg (by omega), if_neg (by omega), if_neg (by omega), if_neg (by omega), if_neg (by omega), if_pos hk] at hx
    rcases List.mem_cons.1 hx with hx | hx
    · rw [hx]
      refine ⟨.inl ⟨rfl, ?_⟩, trivial⟩
      unfold gfB at h2
      rw [Bool.and_eq_true, Bool.or_eq_true] at h2
      rw [ByteArray.toList_eq]
      rcases h2.2 with h | h
      · exact .inl h
      · right
        unfold typedF at h
        split at h
        · cases h
        split at h
        · cases h
        split at h
        · cases h
        split at h
        · rename_i ht; exact ht
        split at h
        · cases h
        · cases h
    rcases List.mem_cons.1 hx with hx | hx
    · rw [hx]; exact o40
    rcases List.mem_append.1 hx with hx | hx
    · rcases comma_mem hx with h | ⟨y, hy, hxy⟩
      · rw [h]; exact op_ok 44 (by decide)
      · rw [tks_kids, List.map_map] at hy
        obtain ⟨s, hs, rfl⟩ := List.mem_map.1 hy
        exact ih s hs _ (hkid s hs) x hxy
    · rw [List.mem_singleton.1 hx]; exact o41
def printN (t : T) : List UInt8 := if gT okL 24 t = true then prT none (tkT t) else []
set_option maxHeartbeats 4000000 in
theorem printF_any {t : T} (hz : zT t ≤ 900) (hZ : ZT t) {w : World} {es : Array Value} (h : NT w es t) (T : Tab9 w) : Calls Tryz.prog 18 #[.agg es] w fun e w' => e = .returned (.string (ba (printN t))) ∧ Below w.heap.size w w' := by
  have B1 := bel_alloc (Below.refl w.heap.size w) (.cells es 28)
  have G := good_tree (by omega) hZ (h.below B1) (T.below B1).t.t
  have RL : Hid _ := (nbox_at h).2 (heap_alloc_new w (.cells es 28))
  unfold printN
  cases hq : gT okL 24 t
  · rw [hq] at G
    rw [if_neg (by decide)]
    clear h T hq hZ hz
    go_enter Tryz.func18, Tryz.ntmps18
    go_wp2_with (first
      | (refine wpList_load_run rfl 28 _ rfl _ _ rfl RL.out ?_; clear RL)
      | (go_at_call 16; refine G.mono ?_; rintro e w2 ⟨rfl, hs⟩; have HU2 : Hid (Below w.heap.size w w2) := bel1 hs; clear hs))
    go_ret
    exact ⟨rfl, HU2.out⟩
  · rw [if_pos rfl]
    have OK := good_toks t 24 hq
    have PT : ∀ (u : World) (v : Value), OwnT 70 0 u v ((tkT t).map tk) → Tab9 u → Calls Tryz.prog 37 #[v] u fun e w' => e = .returned (.string (ba (prT none (tkT t)))) ∧ Below u.heap.size u w' := fun u v ho hT => print_toks hT ho (by have := tk_len t; omega) (fun x hx => (OK x hx).1) (fun x hx => (OK x hx).2)
    have NO := fun (W : World) (u : World) (hW : Below (w.alloc (.cells es 28)).heap.size (w.alloc (.cells es 28)) W) (X : WX W W.heap.size [] u) => node_any t 24 hq W W.heap.size es [] u ((h.below B1).below hW) X ((T.below B1).below hW).t.t (by simp; omega)
    have G2 : Calls Tryz.prog 16 #[.agg es] (w.alloc (.cells es 28)) fun e W => e = .returned (.bool true) ∧ Hid ((Instr.loadAt 28 (.pointer (some ⟨w.heap.size, 0, none⟩))).run Tryz.prog (W.alloc (.cells #[.slice none 0 0] 63)) = .ok (.agg es) (W.alloc (.cells #[.slice none 0 0] 63))) ∧
        Calls Tryz.prog 36 #[.pointer (some ⟨W.heap.size, 0, none⟩), .agg es] (W.alloc (.cells #[.slice none 0 0] 63)) (fun e u' => e = .returned (.tuple #[]) ∧ ∃ v, u'.cell? ⟨W.heap.size, 0, none⟩ = some v ∧ Hid (OwnT 70 0 u' v ((tkT t).map tk) ∧ Tab9 u' ∧ Below w.heap.size w u')) := G.mono (by
      rintro e W ⟨rfl, hW⟩
      have B2 := bel_alloc (Below.refl W.heap.size W) (.cells #[.slice none 0 0] 63)
      have hbox : W.heap[w.heap.size]? = some (.cells es 28) := (hW.block _ (by simp)).trans (heap_alloc_new _ _)
      refine ⟨by rw [hq], (nbox_at h).2 ((B2.block _ (lt_of hbox)).trans hbox), (NO W _ hW ⟨B2, Nat.le_refl _, _, heap_alloc_new _ _, OwnT.nil _ _ _⟩).mono ?_⟩
      rintro e u' ⟨rfl, hs⟩
      obtain ⟨v, hv, ho⟩ := hs.1.blk
      have hb : Below w.heap.size w u' := by
        have b1 : Below w.heap.size w W := bel1 hW
        exact bel_step b1 hs.1.bel
      exact ⟨rfl, v, by rw [cell_of_row u' _ 0 _ _ _ hv]; rfl, ho.base (Nat.zero_le _), T.below hb, hb⟩)
    clear h T hq hZ hz G NO OK B1
    generalize prT none (tkT t) = X at *
    go_enter Tryz.func18, Tryz.ntmps18
    go_wp2_with (first
      | (refine wpList_load_run rfl 28 _ rfl _ _ rfl RL.out ?_; clear RL)
      | (go_at_call 16; refine G2.mono ?_; rintro e W ⟨rfl, RL, NO⟩; clear G2)
      | (go_at_call 36; refine NO.mono ?_; rintro e u' ⟨rfl, v, cv, HO⟩; clear NO)
      | (go_at_call 37; refine (PT _ _ HO.out.1 HO.out.2.1).mono ?_; rintro e u2 ⟨rfl, hb⟩; have HF : Hid (Below w.heap.size w u2) := bel_step HO.out.2.2 hb; clear hb))
    go_ret
    exact ⟨rfl, HF.out⟩
end Go.Proofs.YtljfkkpkcjigpaaGreatDoor

namespace Go.Proofs.YtljfkkpkcjigpaaGreatDoor
open Go.RowKit Go.Shelf Go.Fm
set_option maxRecDepth 100000
attribute [local go_sem] Oper.semAt_some
theorem room_none {F : Fence} (hd : F.depth = none) (k : Nat) : F.room k := fun d h => by rw [hd] at h; cases h
theorem round_any {F : Fence} (hd : F.depth = none) {m m' : Nat} {P : Program} {l : Nat} {f : FuncId} {tmps : Array Value} {assign body : Code} {w : World} {R : Ending → World → Prop}
    (h : RoundIn F m P l f tmps assign body w R) : RoundIn F m' P l f tmps assign body w R := ⟨h.1, fun c cs _ => h.2 c cs (room_none hd _)⟩
theorem yield_any {F : Fence} (hd : F.depth = none) {m : Nat} (m' : Nat) {P : Program} {l : Nat} {args : Array Value} {W : World} {R : Ending → World → Prop} (h : YieldAt F m P l args W R) : YieldAt F m' P l args W R := by
  obtain ⟨fn, tmps, assign, body, hy, hR⟩ := h
  exact ⟨fn, tmps, assign, body, hy, round_any hd hR⟩
def KC (B : Nat) (W W' : World) : Prop := W.heap.size ≤ W'.heap.size ∧ ∀ (i : Nat) (o : Obj), W.heap[i]? = some o → o.isCells = true → i ≠ B → W'.heap[i]? = some o
theorem KC.refl (B : Nat) (W : World) : KC B W W := ⟨Nat.le_refl _, fun _ _ h _ _ => h⟩
theorem KC.trans {B : Nat} {U V W : World} (h : KC B U V) (k : KC B V W) : KC B U W := ⟨Nat.le_trans h.1 k.1, fun i o hi hc hB => k.2 i o (h.2 i o hi hc hB) hc hB⟩
theorem KC.below {B : Nat} {U V : World} (h : Below U.heap.size U V) : KC B U V := ⟨h.size, fun i o hi _ _ => (h.block i (lt_of hi)).trans hi⟩
theorem KC.put {B : Nat} {w : World} (W : World) (l : Nat) (o o' : Obj) (_ : w.heap.size ≤ l) (h : W.heap[l]? = some o) (hc : o.isCells = false) (_ : o.isWalk = false) : KC B W (W.putObj l o') :=
  ⟨by simp, fun i x hi hx _ => by
    rw [World.putObj_heap_other (fun e => by
      have e2 : i = l := e
      rw [e2, h] at hi
      cases hi
      rw [hc] at hx; cases hx)]
    exact hi⟩
theorem cells_of {w : World} {a : Addr} {v : Value} (h : w.cell? a = some v) : ∃ o, w.heap[a.block]? = some o ∧ o.isCells = true := by
  unfold World.cell? at h
  split at h
  · rename_i cs t z hc
    exact ⟨_, hc, rfl⟩
  · cases h
theorem KC.cell {B : Nat} {U V : World} (h : KC B U V) {a : Addr} {v : Value} (hc : U.cell? a = some v) (hB : a.block ≠ B) : V.cell? a = some v := by
  obtain ⟨o, ho, h1⟩ := cells_of hc
  have h2 := h.2 _ o ho h1 hB
  have e : V.heap[a.block]? = U.heap[a.block]? := h2.trans ho.symm
  exact (World.cell?_of_block e).trans hc
def PF (n0 : Nat) (w : World) : Addr → F → List (Array Value) → Prop
  | _, .nil, M => M = []
  | a, .node _ _ l f r, M => ∃ p n c M1 M2, a.block < n0 ∧ (∀ j v, (lcl l (.slice p n c))[j]? = some v → w.cell? (a.add j) = some v) ∧ n = (kids f).length ∧ ((f = .nil ∧ M1 = []) ∨ ∃ a', p = some a' ∧ PF n0 w a' f M1) ∧ PF n0 w (a.add 18) r M2 ∧ M = lcs l (.slice p n c) :: (M1 ++ M2)
def PS (n0 : Nat) (w : World) (p : Option Addr) (n : Nat) (f : F) (M : List (Array Value)) : Prop := n = (kids f).length ∧ ((f = .nil ∧ M = []) ∨ ∃ a, p = some a ∧ PF n0 w a f M)
def PN (n0 : Nat) (w : World) (es : Array Value) (t : T) (M : List (Array Value)) : Prop := ∃ p n c M1, es = lcs t.1 (.slice p n c) ∧ PS n0 w p n t.2 M1 ∧ M = es :: M1
theorem add_block (a : Addr) (k : Nat) : (a.add k).block = a.block := by unfold Addr.add; split <;> rfl
theorem PF.of : ∀ {f : F} {w : World} {a : Addr}, InF w a f → ∃ M, PF w.heap.size w a f M ∧ M.length = size f := by
  intro f
  induction f with
  | nil => intro w a _; exact ⟨[], rfl, rfl⟩
  | node b o l f r ihf ihr =>
    intro w a h
    obtain ⟨⟨p, n, c, h1, h2, h3⟩, h4⟩ := h
    obtain ⟨M2, k1, k2⟩ := ihr h4
    have hb : a.block < w.heap.size := by
      have := World.block_lt_of_cell? w (a.add 0) (h1 0 _ rfl)
      rwa [add_block] at this
    rcases h3 with rfl | ⟨a', rfl, hi⟩
    · exact ⟨lcs l (.slice p n c) :: ([] ++ M2), ⟨p, n, c, [], M2, hb, h1, h2, .inl ⟨rfl, rfl⟩, k1, rfl⟩, by simp [k2, size]; omega⟩
    · obtain ⟨M1, j1, j2⟩ := ihf hi
      exact ⟨lcs l (.slice (some a') n c) :: (M1 ++ M2), ⟨some a', n, c, M1, M2, hb, h1, h2, .inr ⟨a', rfl, j1⟩, k1, rfl⟩, by simp [k2, j2, size]; omega⟩
theorem PN.of {w : World} {es : Array Value} {t : T} (h : NT w es t) : ∃ M, PN w.heap.size w es t M ∧ M.length = zT t := by
  obtain ⟨p, n, c, rfl, h1, h2⟩ := h
  rcases h2 with h2 | ⟨a, rfl, hi⟩
  · refine ⟨_, ⟨p, n, c, [], rfl, ⟨h1, .inl ⟨h2, rfl⟩⟩, rfl⟩, ?_⟩
    unfold zT; rw [h2]; rfl
  · obtain ⟨M, j1, j2⟩ := PF.of hi
    exact ⟨_, ⟨_, n, c, M, rfl, ⟨h1, .inr ⟨a, rfl, j1⟩⟩, rfl⟩, by simp [j2, zT]⟩
theorem PF.keep {n0 B : Nat} (hB : n0 ≤ B) : ∀ {f : F} {w w' : World} {a : Addr} {M : List (Array Value)}, PF n0 w a f M → KC B w w' → PF n0 w' a f M := by
  intro f
  induction f with
  | nil => intro w w' a M h _; exact h
  | node b o l f r ihf ihr =>
    intro w w' a M h k
    obtain ⟨p, n, c, M1, M2, h0, h1, h2, h3, h4, h5⟩ := h
    exact ⟨p, n, c, M1, M2, h0, fun j v hj => k.cell (h1 j v hj) (by rw [add_block]; omega), h2, h3.imp id fun ⟨a', e, hi⟩ => ⟨a', e, ihf hi k⟩, ihr h4 k, h5⟩
theorem PS.keep {n0 B : Nat} (hB : n0 ≤ B) {f : F} {w w' : World} {p : Option Addr} {n : Nat} {M : List (Array Value)} (h : PS n0 w p n f M) (k : KC B w w') : PS n0 w' p n f M :=
  ⟨h.1, h.2.imp id fun ⟨a, e, hi⟩ => ⟨a, e, hi.keep hB k⟩⟩
theorem PF.inf {n0 : Nat} : ∀ {f : F} {w : World} {a : Addr} {M : List (Array Value)}, PF n0 w a f M → InF w a f := by
  intro f
  induction f with
  | nil => intro w a M _; trivial
  | node b o l f r ihf ihr =>
    intro w a M h
    obtain ⟨p, n, c, M1, M2, h0, h1, h2, h3, h4, h5⟩ := h
    exact ⟨⟨p, n, c, h1, h2, h3.imp (fun h => h.1) fun ⟨a', e, hi⟩ => ⟨a', e, ihf hi⟩⟩, ihr h4⟩
theorem PF.split {n0 : Nat} : ∀ {f : F} {w : World} {a : Addr} {M : List (Array Value)}, PF n0 w a f M → ∃ Ms : List (List (Array Value)), M = Ms.flatten ∧ Ms.length = (kids f).length ∧
    ∀ k (h1 : k < Ms.length) (h2 : k < (kids f).length), ∃ es, (∀ j v, es.toList[j]? = some v → w.cell? ((a.add (k * 18)).add j) = some v) ∧ PN n0 w es (kids f)[k] Ms[k] := by
  intro f
  induction f with
  | nil => intro w a M h; exact ⟨[], h, rfl, fun k h1 => by cases h1⟩
  | node b o l f r ihf ihr =>
    intro w a M h
    obtain ⟨p, n, c, M1, M2, h0, h1, h2, h3, h4, h5⟩ := h
    obtain ⟨Ms, e1, e2, e3⟩ := ihr h4
    refine ⟨(lcs l (.slice p n c) :: M1) :: Ms, by rw [h5, e1]; simp, by simp [kids, e2], fun k g1 g2 => ?_⟩
    cases k with
    | zero =>
      refine ⟨lcs l (.slice p n c), fun j v hj => ?_, p, n, c, M1, rfl, ⟨h2, h3⟩, rfl⟩
      rw [Go.Deep.add_add, Nat.zero_mul, Nat.zero_add]
      exact h1 j v hj
    | succ k =>
      obtain ⟨es, d1, d2⟩ := e3 k (by simpa using g1) (by simpa [kids] using g2)
      refine ⟨es, fun j v hj => ?_, d2⟩
      have := d1 j v hj
      rw [Go.Deep.add_add, Go.Deep.add_add] at this
      rw [Go.Deep.add_add, show (k + 1) * 18 + j = 18 + (k * 18 + j) by omega]
      exact this
theorem PS.split {n0 : Nat} {f : F} {w : World} {p : Option Addr} {n : Nat} {M : List (Array Value)} (h : PS n0 w p n f M) : ∃ Ms : List (List (Array Value)), M = Ms.flatten ∧ Ms.length = n ∧
    ∀ k, k < n → ∃ a es t M1, p = some a ∧ (∀ j v, es.toList[j]? = some v → w.cell? ((a.add (k * 18)).add j) = some v) ∧ a.block < n0 ∧ (kids f)[k]? = some t ∧ Ms[k]? = some M1 ∧ PN n0 w es t M1 := by
  obtain ⟨h1, ⟨rfl, rfl⟩ | ⟨a, rfl, hi⟩⟩ := h
  · exact ⟨[], rfl, by simpa [kids] using h1.symm, fun k hk => by simp [kids] at h1; omega⟩
  · obtain ⟨Ms, e1, e2, e3⟩ := hi.split
    refine ⟨Ms, e1, by omega, fun k hk => ?_⟩
    obtain ⟨es, d1, d2⟩ := e3 k (by omega) (by omega)
    refine ⟨a, es, _, _, rfl, d1, ?_, List.getElem?_eq_getElem (by omega), List.getElem?_eq_getElem (by omega), d2⟩
    cases f with
    | nil => simp [kids] at h1; omega
    | node b o l f r =>
      obtain ⟨p, n, c, M1, M2, h0, _⟩ := hi
      exact h0
theorem wpListIn_load_run {F : Fence} {n : Nat} {P : Program} {ops : Array Oper} {rest : List Oper} {o : Oper} {a : Act} {w : World} {Q : Exit → Act → World → Prop} (hgd : o.guard = none) (ty : TypeId) (x : Operand) (ho : o.op = .load ty x)
    (p v : Value) (hx : a.eval x = p) (hrun : (Instr.loadAt ty p).run P w = .ok v w) (h : wpListIn F n P ops Q rest (a.put o.dst v) w) : wpListIn F n P ops Q (o :: rest) a w := by
  refine wpListIn_plain hgd fun K hK => ?_
  unfold Oper.wpIn
  refine ⟨by simp [Oper.about, ho], ?_⟩
  rw [Oper.semAt_plain F _ _ (by rw [ho]; intro c hc; cases hc)]
  simp only [execOp, ho, hx, Sem.run_bind, Sem.run_pure, hrun, Result.andThen_ok]
  exact hK _ _ h
theorem wpListIn_store_run {F : Fence} {n : Nat} {P : Program} {ops : Array Oper} {rest : List Oper} {o : Oper} {a : Act} {w : World} {Q : Exit → Act → World → Prop} (hgd : o.guard = none) (ty : TypeId) (x y : Operand) (ho : o.op = .store ty x y)
    (p v : Value) (w' : World) (hx : a.eval x = p) (hy : a.eval y = v) (hrun : (Instr.storeAt ty p v).run P w = .ok () w') (h : wpListIn F n P ops Q rest (a.put o.dst undef) w') : wpListIn F n P ops Q (o :: rest) a w := by
  refine wpListIn_plain hgd fun K hK => ?_
  unfold Oper.wpIn
  refine ⟨by simp [Oper.about, ho], ?_⟩
  rw [Oper.semAt_plain F _ _ (by rw [ho]; intro c hc; cases hc)]
  simp only [execOp, ho, hx, hy, Sem.run_bind, Sem.run_pure, hrun, Result.andThen_ok]
  exact hK _ _ h
theorem PS.step {n0 B : Nat} (hB : n0 ≤ B) {f : F} {w u : World} {p : Option Addr} {n : Nat} {M : List (Array Value)} (h : PS n0 w p n f M) (hk : KC B w u) : ∃ Ms : List (List (Array Value)), M = Ms.flatten ∧ Ms.length = n ∧
    ∀ k, k < n → ∀ u, KC B w u → ∃ a es t M1, p = some a ∧ (Instr.loadAt 28 (.pointer (some (a.add (k * 18))))).run Tryz.prog u = .ok (.agg es) u ∧ (kids f)[k]? = some t ∧ Ms[k]? = some M1 ∧ PN n0 u es t M1 := by
  obtain ⟨Ms, e1, e2, e3⟩ := h.split
  refine ⟨Ms, e1, e2, fun k hk u hu => ?_⟩
  obtain ⟨a, es, t, M1, d1, d2, d3, d4, d5, d6⟩ := e3 k hk
  obtain ⟨p', n', c', M1', rfl, d7, rfl⟩ := d6
  refine ⟨a, _, t, _, d1, ?_, d4, d5, p', n', c', M1', rfl, d7.keep hB hu, rfl⟩
  exact run_loadVar_any u _ 28 (lcl t.1 (.slice p' n' c')) _ (fun j v hj => hu.cell (d2 j v hj) (by rw [add_block, add_block]; omega)) Tryz.underlying28 rfl (by rw [lcl_len]; exact inf28)
theorem nboxP (w : World) {n0 : Nat} {es : Array Value} {t : T} {M : List (Array Value)} (h : PN n0 w es t M) :
    (Instr.storeAt 28 (.pointer (some ⟨w.heap.size, 0, none⟩)) (.agg es)).run Tryz.prog (w.alloc (.cells nd0 28)) = .ok () (w.alloc (.cells es 28)) ∧
    ∀ (u : World) (g : Nat), u.heap[g]? = some (.cells es 28) → (Instr.loadAt 28 (.pointer (some ⟨g, 0, none⟩))).run Tryz.prog u = .ok (.agg es) u := by
  obtain ⟨p, n, c, M1, rfl, hs, _⟩ := h
  refine ⟨run_storeAt_new w 28 nd0 _ (by rw [lcs_size]; exact inf28) rfl (lcs_all _ _ _ _), fun u g hu => ?_⟩
  exact lod (z := (0, 0)) hu rfl Tryz.underlying28 (by rw [lcs_size]; exact inf28)
theorem flat_take {β : Type} {Ms : List (List β)} {k : Nat} {M1 : List β} (h : Ms[k]? = some M1) : (Ms.take (k + 1)).flatten = (Ms.take k).flatten ++ M1 := by
  rw [List.take_add_one, h]; simp
theorem map_split {α β : Type} (enc : α → β) : ∀ (Ms : List (List β)) (L : List α), L.map enc = Ms.flatten → ∃ Ls : List (List α), L = Ls.flatten ∧ Ms = Ls.map (·.map enc)
  | [], L, h => ⟨[], by simpa using h, rfl⟩
  | M :: Ms, L, h => by
    rw [List.flatten_cons] at h
    obtain ⟨L1, L2, rfl, e1, e2⟩ := List.map_eq_append_iff.1 h
    obtain ⟨Ls, rfl, rfl⟩ := map_split enc Ms L2 e2
    exact ⟨L1 :: Ls, rfl, by rw [List.map_cons, e1]⟩
set_option maxHeartbeats 4000000 in
theorem tell_in (F : Fence) (hd : F.depth = none) (h51 : F.fn 51) (hro : F.round = none) {α : Type} (enc : α → Array Value) (l n0 B N : Nat) (hB : n0 ≤ B) (J Jx : List α → World → Prop) (hJ : ∀ s W o, J s W → J s (W.alloc o))
    (hY : ∀ m pre x W, J pre W → pre.length < N → YieldAt F m Tryz.prog l #[.agg (enc x)] W fun e W' =>
      (e = .returned (.bool true) ∧ J (pre ++ [x]) W' ∧ KC B W W') ∨ (e = .returned (.bool false) ∧ Jx (pre ++ [x]) W')) :
    ∀ (t : T) (n : Nat) (es : Array Value) (L pre : List α) (W : World), zT t ≤ 1000000 → PN n0 W es t (L.map enc) → J pre W → B < W.heap.size → pre.length + L.length ≤ N →
      CallsIn F n Tryz.prog 51 #[.agg es, .func (.yield l) #[] #[]] W fun e W' =>
        (e = .returned (.bool true) ∧ J (pre ++ L) W' ∧ KC B W W') ∨ (e = .returned (.bool false) ∧ ∃ q, q <+: L ∧ Jx (pre ++ q) W') := by
  refine ind ?_
  intro t ih n es L pre W hz hP hj hBW hN
  have hdd : ∀ k : Nat, (F.depth.isSome = true → 1 ≤ k) := fun k h => by rw [hd] at h; cases h
  obtain ⟨_, hbx⟩ := nboxP W hP
  obtain ⟨p, m, c, M1, rfl, hs, hM⟩ := hP
  obtain ⟨x, L1, rfl, hx, hL1⟩ : ∃ x L1, L = x :: L1 ∧ enc x = lcs t.1 (.slice p m c) ∧ L1.map enc = M1 := by
    cases L with
    | nil => cases hM
    | cons x L1 => rw [List.map_cons, List.cons.injEq] at hM; exact ⟨x, L1, rfl, hM.1, hM.2⟩
  obtain ⟨Ms, e1, e2, e3⟩ := hs.step hB (KC.refl B W)
  obtain ⟨Ls, rfl, rfl⟩ := map_split enc Ms L1 (hL1.trans e1)
  rw [List.length_map] at e2
  have hm : m ≤ 1000000 := by
    have h1 := hs.1
    have : (kids t.2).length ≤ size t.2 := by
      rw [← pre_len, pre_kids]
      have : ∀ l : List T, l.length ≤ (l.flatMap preT).length := by
        intro l
        induction l with
        | nil => exact Nat.zero_le _
        | cons a l ih => rw [List.flatMap_cons, List.length_append, List.length_cons, preT, List.length_cons]; omega
      exact this _
    unfold zT at hz
    omega
  have HIH : Hid (∀ k, k < m → ∀ u, KC B W u → ∀ pre', J pre' u → pre'.length + (Ls[k]?.getD []).length ≤ N → ∃ a es, p = some a ∧ (Instr.loadAt 28 (.pointer (some (a.add (k * 18))))).run Tryz.prog u = .ok (.agg es) u ∧
      (Instr.storeAt 28 (.pointer (some ⟨u.heap.size, 0, none⟩)) (.agg es)).run Tryz.prog (u.alloc (.cells nd0 28)) = .ok () (u.alloc (.cells es 28)) ∧
      (Instr.loadAt 28 (.pointer (some ⟨u.heap.size, 0, none⟩))).run Tryz.prog (u.alloc (.cells es 28)) = .ok (.agg es) (u.alloc (.cells es 28)) ∧
      ∀ n, CallsIn F n Tryz.prog 51 #[.agg es, .func (.yield l) #[] #[]] (u.alloc (.cells es 28)) fun e W' =>
        (e = .returned (.bool true) ∧ J (pre' ++ (Ls[k]?.getD [])) W' ∧ KC B u W') ∨ (e = .returned (.bool false) ∧ ∃ q, q <+: (Ls[k]?.getD []) ∧ Jx (pre' ++ q) W')) := by
    intro k hk u hu pre' hj' hl'
    obtain ⟨a, es, s, M1', d1, d2, d3, d4, d5⟩ := e3 k hk u hu
    obtain ⟨b1, b2⟩ := nboxP u d5
    refine ⟨a, es, d1, d2, b1, b2 _ _ (heap_alloc_new u _), fun n => ?_⟩
    rw [List.getElem?_map] at d4
    obtain ⟨Lk, f1, f2⟩ := Option.map_eq_some_iff.1 d4
    rw [f1] at hl' ⊢
    simp only [Option.getD_some] at hl' ⊢
    have hmem := List.mem_of_getElem? d3
    refine (ih s hmem n es Lk pre' (u.alloc (.cells es 28)) (by have := zT_kid hmem; omega) ?_ (hJ _ _ _ hj') (by have := hu.1; simp; omega) hl').mono ?_
    · rw [f2]
      obtain ⟨p', n', c', M', g1, g2, g3⟩ := d5
      exact ⟨p', n', c', M', g1, g2.keep hB (KC.below (bel_alloc (Below.refl _ _) _)), g3⟩
    · rintro e W' (⟨rfl, h1, h2⟩ | h)
      · exact .inl ⟨rfl, h1, (KC.below (bel_alloc (Below.refl _ _) _)).trans h2⟩
      · exact .inr h
  have HPRE : Hid (∀ k, k ≤ m → (pre ++ [x] ++ (Ls.take k).flatten).length + (Ls[k]?.getD []).length ≤ N) := by
    intro k hk
    have : (Ls.take k).flatten.length + (Ls[k]?.getD []).length ≤ Ls.flatten.length := by
      have h1 : Ls = Ls.take k ++ Ls.drop k := (List.take_append_drop k Ls).symm
      have h2 : (Ls[k]?.getD []).length ≤ (Ls.drop k).flatten.length := by
        cases hq : Ls[k]? with
        | none => simp
        | some y =>
          have hlt := (List.getElem?_eq_some_iff.1 hq).1
          rw [List.drop_eq_getElem_cons hlt, (List.getElem?_eq_some_iff.1 hq).2]
          simp
      have h3 := congrArg (fun l => (List.flatten l).length) h1
      simp only [List.flatten_append, List.length_append] at h3
      omega
    simp only [List.length_append, List.length_cons, List.length_nil] at hN ⊢
    omega
  have HX : Hid (∀ k, k < m → (Ls.take (k + 1)).flatten = (Ls.take k).flatten ++ (Ls[k]?.getD [])) := fun k hk => by
    have : Ls[k]? = some (Ls[k]'(by omega)) := List.getElem?_eq_getElem (by omega)
    rw [flat_take this, this]; rfl
  have HFX : Hid (∀ k q, k < m → q <+: (Ls[k]?.getD []) → x :: ((Ls.take k).flatten ++ q) <+: x :: Ls.flatten) := fun k q hk hq => by
    refine List.cons_prefix_cons.2 ⟨rfl, ?_⟩
    have h0 := HX.out k hk
    have h1 : (Ls.take k).flatten ++ q <+: (Ls.take (k + 1)).flatten := by rw [h0]; exact List.prefix_append_right_inj _ |>.2 hq
    refine h1.trans ?_
    conv => rhs; rw [← List.take_append_drop (k + 1) Ls]
    rw [List.flatten_append]
    exact List.prefix_append _ _
  have HALL : Hid ((Ls.take m).flatten = Ls.flatten) := by show _ = _; rw [List.take_of_length_le (by omega)]
  have h17 : ∀ u, KC B (W.alloc (.cells (lcs t.1 (.slice p m c)) 28)) u → u.cell? ⟨W.heap.size, 17, none⟩ = some (.slice p m c) := fun u hu =>
    hu.cell (cell17 (heap_alloc_new W _)) (by show W.heap.size ≠ B; omega)
  have HK0 : KC B W (W.alloc (.cells (lcs t.1 (.slice p m c)) 28)) := KC.below (bel_alloc (Below.refl _ _) _)
  have HY1 : YieldAt F (n - 1) Tryz.prog l #[.agg (lcs t.1 (.slice p m c))] (W.alloc (.cells (lcs t.1 (.slice p m c)) 28)) fun e W2 =>
      (e = .returned (.bool true) ∧ W2.cell? ⟨W.heap.size, 17, none⟩ = some (.slice p m c) ∧ Hid (J (pre ++ [x]) W2) ∧ Hid (KC B W W2)) ∨ (e = .returned (.bool false) ∧ Hid (Jx (pre ++ [x]) W2)) := by
    rw [← hx]
    exact YieldAt.mono (hY (n - 1) pre x _ (hJ _ _ _ hj) (by simp at hN; omega)) fun e W2 h => h.elim (fun ⟨a, b, d⟩ => .inl ⟨a, h17 _ (by rw [hx] at d; exact d), b, HK0.trans (by rw [hx] at d; exact d)⟩) .inr
  have HRL : Hid _ := hbx _ _ (heap_alloc_new W _)
  clear h17 hbx e3 ih hY hs hx hL1 hz hM e1 hj HK0
  generalize lcs t.1 (.slice p m c) = bx at *
  obtain ⟨fn, tmps, assign, body, hy, hR⟩ := HY1
  refine callsIn_of_wp Tryz.func51 rfl h51 ?_ hro
  simp only [Tryz.ntmps51, List.size_toArray, List.length_cons, List.length_nil, Nat.reduceAdd, Nat.reduceSub, Array.replicate_succ, Array.replicate_zero, List.push_toArray, List.append_toArray, List.nil_append, List.cons_append]
  gi_wp2_with (first
    | (refine wpListIn_load_run rfl 28 _ rfl _ _ rfl HRL.out ?_)
    | ((try refine ⟨hdd _, ?_⟩); refine hR.mono ?_; clear hR; rintro e W2 (⟨rfl, c17, HJ2, HK2⟩ | ⟨rfl, HX2⟩)))
  · gi_loopw [14] (fun i wr => ∃ k : Nat, k ≤ m ∧ i = .int .i64 (k : Nat) ∧ Hid (J (pre ++ [x] ++ (Ls.take k).flatten) wr) ∧ Hid (KC B W wr)) (fun i _ => m - (intOf i).toNat)
    case atStart => exact ⟨0, Nat.zero_le _, rfl, by show J _ _; simpa using HJ2.out, HK2⟩
    case round =>
      obtain ⟨k, hk, rfl, HJ, HK⟩ := hrel
      by_cases hlt : k < m
      · have hki : (k : Int) < m := by omega
        obtain ⟨a', es, rfl, rl, rs, rl2, hC⟩ := HIH.out k hlt wr HK.out _ HJ.out (HPRE.out k hk)
        have RL : Hid _ := rl
        have RS : Hid _ := rs
        have RL2 : Hid _ := rl2
        clear rl rs rl2
        have C : ∀ n, CallsIn F n Tryz.prog 51 #[.agg es, .func (.yield l) #[] #[]] (wr.alloc (.cells es 28)) fun e W' =>
            (e = .returned (.bool true) ∧ Hid (J (pre ++ [x] ++ (Ls.take (k + 1)).flatten) W') ∧ Hid (KC B W W')) ∨ (e = .returned (.bool false) ∧ Hid (∃ q, q <+: x :: Ls.flatten ∧ Jx (pre ++ q) W')) := fun n => (hC n).mono (by
          rintro e W' (⟨rfl, h1, h2⟩ | ⟨rfl, q, h1, h2⟩)
          · exact .inl ⟨rfl, by show J _ _; rw [HX.out k hlt, ← List.append_assoc]; exact h1, HK.out.trans h2⟩
          · exact .inr ⟨rfl, x :: ((Ls.take k).flatten ++ q), HFX.out k q hlt h1, by simpa using h2⟩)
        clear hC
        gi_wp2_with (first
          | (refine wpListIn_load_run rfl 28 _ rfl _ _ rfl RL.out ?_)
          | (refine wpListIn_store_run rfl 28 _ _ rfl _ _ _ rfl rfl RS.out ?_)
          | (refine wpListIn_load_run rfl 28 _ rfl _ _ rfl RL2.out ?_)
          | ((try refine ⟨hdd _, ?_⟩); gi_at_call 51; refine (C _).mono ?_; clear C; rintro e W3 (⟨rfl, HJ3, HK3⟩ | ⟨rfl, HX3⟩)))
        · go_roundw
          case rel => exact ⟨k + 1, by omega, by go_num, HJ3, HK3⟩
          case measure => simp [intOf]; omega
        · go_ret
          exact .inr ⟨rfl, HX3.out⟩
      · have hki : ¬ (k : Int) < m := by omega
        have hkm : k = m := by omega
        have HJm : Hid (J (pre ++ x :: Ls.flatten) wr) := by
          show J _ _
          have := HJ.out
          rw [hkm, HALL.out] at this
          simpa using this
        clear hkm
        gi_wp2
        go_ret
        exact .inl ⟨rfl, HJm.out, HK.out⟩
  · go_ret
    exact .inr ⟨rfl, [x], List.cons_prefix_cons.2 ⟨rfl, List.nil_prefix⟩, HX2.out⟩
end Go.Proofs.YtljfkkpkcjigpaaGreatDoor
