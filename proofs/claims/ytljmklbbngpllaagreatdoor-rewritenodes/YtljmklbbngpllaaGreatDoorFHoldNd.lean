/- FTok, FPut, FHold. -/
import Derived.Test.YtljmklbbngpllaaGreatDoorPPrintNd
set_option linter.unusedVariables false
set_option linter.unusedSimpArgs false
set_option maxHeartbeats 16000000
set_option maxRecDepth 100000
namespace Go.Proofs.YtljmklbbngpllaaGreatDoor
open Go.RowKit Go.Fm
def bT (a : Lab) : Nat := if a.k = 6 then bY a.s.toList else if a.k = 5 then (if a.s.toList = [45] then 6 else 7) else 8
def kG (k n : Int) (s : ByteArray) : Tk.Tok := if k = 1 then .num n else if k = 2 then .str s.toList else if k = 3 then .word [] (jW k n s).toList else .bad n.toNat
def wY (b h : ByteArray) (r c : Int) (fr fc : Bool) : Tk.Tok := .ref ⟨b.toList, h.toList, ⟨r.toNat, c.toNat, fr, fc⟩⟩
def dD (p : Nat × List Tk.Tok) (least : Nat) : List Tk.Tok := if least ≤ p.1 then p.2 else Tk.Tok.op [40] :: (p.2 ++ [Tk.Tok.op [41]])
def dK : List (List Tk.Tok) → List Tk.Tok
 | [] => []
 | [x] => x
 | x :: y :: r => x ++ Tk.Tok.op [44] :: dK (y :: r)
def jK (l : List (Nat × List Tk.Tok)) (i : Nat) : Nat × List Tk.Tok := l[i]?.getD (8, [])
def iT (a : Lab) (l : List (Nat × List Tk.Tok)) : List Tk.Tok :=
 if a.k = 1 then [kG a.vk a.vn a.vs] else if a.k = 2 then [wY a.b1 a.h1 a.r1 a.c1 a.fr1 a.fc1]
 else if a.k = 3 then [wY a.b1 a.h1 a.r1 a.c1 a.fr1 a.fc1, Tk.Tok.op [58], wY a.b2 a.h2 a.r2 a.c2 a.fr2 a.fc2]
 else if a.k = 4 then [Tk.Tok.word a.b1.toList a.s.toList]
 else if a.k = 5 then (if a.s.toList = [45] then Tk.Tok.op [45] :: dD (jK l 0) 6 else dD (jK l 0) 7 ++ [Tk.Tok.op [37]])
 else if a.k = 6 then dD (jK l 0) (bY a.s.toList) ++ Tk.Tok.op a.s.toList :: dD (jK l 1) (bY a.s.toList + 1)
 else if a.k = 7 then Tk.Tok.word [] a.s.toList :: Tk.Tok.op [40] :: (dK (l.map (·.2)) ++ [Tk.Tok.op [41]]) else []
def lI : F → List (Nat × List Tk.Tok)
 | .nil => []
 | .node _ _ a l r => (bT a, iT a (lI l)) :: lI r
def tkT (t : T) : List Tk.Tok := iT t.1 (lI t.2)
theorem fJ : ∀ f : F, lI f = (kids f).map fun t => (bT t.1, tkT t) := by
 intro f
 induction f with
 | nil => rfl
 | node b o a l r ihl ihr => rw [lI, kids, List.map_cons, ihr]; rfl
theorem nP (p : Nat × List Tk.Tok) (k : Nat) : (dD p k).length ≤ p.2.length + 2 := by
 unfold dD
 split
 ·omega
 ·simp
theorem lD : ∀ l : List (List Tk.Tok), (dK l).length ≤ (l.map fun x => x.length + 1).sum
 | [] => Nat.le_refl _
 | [x] => by simp [dK]
 | x :: y :: r => by
  have := lD (y :: r)
  simp only [dK, List.length_append, List.length_cons, List.map_cons, List.sum_cons] at this ⊢
  omega
theorem oQ : ∀ t : T, (tkT t).length + 5 ≤ 10 * zT t := by
 refine ind ?_
 intro t ih
 have hz : zT t = ((kids t.2).map zT).sum + 1 := by unfold zT; rw [fT]; rfl
 have key : ∀ l : List T, (∀ s ∈ l, (tkT s).length + 5 ≤ 10 * zT s) → ((l.map fun s => (tkT s).length + 5)).sum ≤ 10 * (l.map zT).sum := by
  intro l
  induction l with
  | nil => intro _; simp
  | cons a l ihl =>
   intro h
   have h1 := h a (by simp)
   have h2 := ihl (fun s hs => h s (by simp [hs]))
   simp only [List.map_cons, List.sum_cons]
   omega
 have hk := key (kids t.2) ih
 have aDI : ∀ i, (jK (lI t.2) i).2.length ≤ ((kids t.2).map fun s => (tkT s).length + 5).sum := fun i => by
  unfold jK
  rw [fJ, List.getElem?_map]
  cases hq : (kids t.2)[i]? with
  | none => simp
  | some s =>
   simp only [Option.map_some, Option.getD_some]
   have hm := List.mem_of_getElem? hq
   have : ∀ l : List T, s ∈ l → (tkT s).length + 5 ≤ (l.map fun s => (tkT s).length + 5).sum := by
    intro l
    induction l with
    | nil => intro h; cases h
    | cons a l ihl =>
     intro h
     simp only [List.map_cons, List.sum_cons]
     rcases List.mem_cons.1 h with rfl | h
     ·omega
     ·have := ihl h; omega
   have := this _ hm
   omega
 have aLh : (jK (lI t.2) 0).2.length + (jK (lI t.2) 1).2.length ≤ ((kids t.2).map fun s => (tkT s).length + 5).sum := by
  unfold jK
  rw [fJ]
  cases hq : kids t.2 with
  | nil => simp
  | cons a l =>
   cases l with
   | nil => simp
   | cons b l => simp; omega
 have hcm : (dK ((lI t.2).map (·.2))).length ≤ ((kids t.2).map fun s => (tkT s).length + 5).sum := by
  rw [fJ, List.map_map]
  refine Nat.le_trans (lD _) ?_
  rw [List.map_map]
  have : ∀ l : List T, (l.map ((fun x : List Tk.Tok => x.length + 1) ∘ ((·.2) ∘ fun t : T => (bT t.1, tkT t)))).sum ≤ (l.map fun s => (tkT s).length + 5).sum := by
   intro l
   induction l with
   | nil => simp
   | cons a l ihl => simp only [List.map_cons, List.sum_cons, Function.comp] at ihl ⊢; omega
  exact this _
 have w0 := nP (jK (lI t.2) 0)
 have w1 := nP (jK (lI t.2) 1)
 have a0 := aDI 0
 unfold tkT iT
 split
 ·simp; omega
 split
 ·simp; omega
 split
 ·simp; omega
 split
 ·simp; omega
 split
 ·split
  ·have := w0 6; simp; omega
  ·have := w0 7; simp; omega
 split
 ·have h1 := w0 (bY t.1.s.toList)
  have h2 := w1 (bY t.1.s.toList + 1)
  simp; omega
 split
 ·simp; omega
 ·simp; omega
theorem mG {u : World} {g : Nat} {zs es : Array Value} (hg : u.heap[g]? = some (.cells zs 123)) (he : es.size = 9) {fn : Func} {i : Tmp} (hr : fn.results = #[.cell i 123]) {tmps : Array Value} (hp : tmps.getD i undef = .pointer (some ⟨g, 0, none⟩)) :
  (results fn tmps).run Tryz.prog (u.setRow g es) = .ok (.agg es) (u.setRow g es) :=
 results_cell_row hr _ _ g 123 _ (0, 0) _ hp (setRow_heap _ _ _ _ _ _ hg) Tryz.underlying123 rfl (by rw [he]; exact dI)
theorem fD (s : ByteArray) (w : World) : Calls Tryz.prog 85 #[.string s] w fun e w' => e = .returned (.agg (tcs 5 0 s noB noB 0 0 false false)) ∧ Below w.heap.size w w' := by
 have RS : Hid _ := sto (t := 123) (es := tcs 5 0 s noB noB 0 0 false false) (heap_alloc_new w (.cells tk0 123)) dI rfl (fF _ _ _ _ _ _ _ _ _)
 have HF : Hid (Below w.heap.size w ((w.alloc (.cells tk0 123)).setRow w.heap.size (tcs 5 0 s noB noB 0 0 false false))) := (aA (Below.refl _ _) _).grown (aC _ _ _) (by simp) (fun j e => by cases e; omega)
 go_enter Tryz.func85, Tryz.ntmps85
 go_wp2_with (refine aD rfl 123 _ _ rfl _ _ _ rfl rfl RS.out ?_)
 exact bodyPost_ret (mG (heap_alloc_new w (.cells tk0 123)) rfl rfl rfl) rfl ⟨rfl, HF.out⟩
theorem kH (b s : ByteArray) (w : World) : Calls Tryz.prog 86 #[.string b, .string s] w fun e w' => e = .returned (.agg (tcs 4 0 s b noB 0 0 false false)) ∧ Below w.heap.size w w' := by
 have RS : Hid _ := sto (t := 123) (es := tcs 4 0 s b noB 0 0 false false) (heap_alloc_new w (.cells tk0 123)) dI rfl (fF _ _ _ _ _ _ _ _ _)
 have HF : Hid (Below w.heap.size w ((w.alloc (.cells tk0 123)).setRow w.heap.size (tcs 4 0 s b noB 0 0 false false))) := (aA (Below.refl _ _) _).grown (aC _ _ _) (by simp) (fun j e => by cases e; omega)
 go_enter Tryz.func86, Tryz.ntmps86
 go_wp2_with (refine aD rfl 123 _ _ rfl _ _ _ rfl rfl RS.out ?_)
 exact bodyPost_ret (mG (heap_alloc_new w (.cells tk0 123)) rfl rfl rfl) rfl ⟨rfl, HF.out⟩
theorem nQ {w : World} {o : Obj} {es : Array Value} : ((w.alloc o).alloc (.cells tk0 123)).heap[w.heap.size + 1]? = some (.cells tk0 123) ∧ Below w.heap.size w (((w.alloc o).alloc (.cells tk0 123)).setRow (w.heap.size + 1) es) ∧ ((w.alloc o).alloc (.cells tk0 123)).heap[w.heap.size]? = some o := by
 have h1 : ((w.alloc o).alloc (.cells tk0 123)).heap[w.heap.size + 1]? = some (.cells tk0 123) := by
  have := heap_alloc_new (w.alloc o) (.cells tk0 123)
  simpa using this
 have hb : Below w.heap.size w ((w.alloc o).alloc (.cells tk0 123)) := aA (aA (Below.refl _ _) _) _
 exact ⟨h1, hb.grown (aC _ _ _) hb.size (fun j e => by cases e; omega), (Below.heap_alloc _ _ _ (by simp)).trans (heap_alloc_new w _)⟩
theorem mH (b h : ByteArray) (r c : Int) (fr fc : Bool) (w : World) : Calls Tryz.prog 84 #[bC b h r c fr fc] w fun e w' => e = .returned (.agg (tcs 3 0 noB b h r c fr fc)) ∧ Below w.heap.size w w' := by
 obtain ⟨h1, hb, h0⟩ := nQ (w := w) (o := .cells #[.string b, .string h, .int .i64 r, .int .i64 c, .bool fr, .bool fc] 25) (es := tcs 3 0 noB b h r c fr fc)
 have RS : Hid _ := sto (t := 123) (es := tcs 3 0 noB b h r c fr fc) h1 dI rfl (fF _ _ _ _ _ _ _ _ _)
 have RL : Hid _ := lod (z := (0, 0)) h0 rfl Tryz.underlying25 aIr
 have HF : Hid _ := hb
 have HG : Hid _ := h1
 clear h1 hb h0
 go_enter Tryz.func84, Tryz.ntmps84
 go_wp2_with (first
  | (refine aB rfl 25 _ rfl _ _ rfl RL.out ?_)
  | (refine aD rfl 123 _ _ rfl _ _ _ rfl rfl RS.out ?_))
 exact bodyPost_ret (mG HG.out rfl rfl rfl) rfl ⟨rfl, HF.out⟩
structure WX (W : World) (g : Nat) (L : List TT) (u : World) : Prop where
 bel : Below W.heap.size W u
 lo : W.heap.size ≤ g
 blk : ∃ v, u.heap[g]? = some (.cells #[v] 101) ∧ cO 123 W.heap.size u v L
def WS (W : World) (g : Nat) (L : List TT) (u u' : World) : Prop := WX W g L u' ∧ u.heap.size ≤ u'.heap.size ∧ ∀ (k : Nat) (es : Array Value), u.heap[k]? = some (.cells es 28) → u'.heap[k]? = some (.cells es 28)
theorem WX.below {W u u' : World} {g : Nat} {L : List TT} (h : WX W g L u) (hb : Below u.heap.size u u') : WX W g L u' := by
 obtain ⟨v, hv, ho⟩ := h.blk
 exact ⟨aG h.bel hb, h.lo, v, (hb.block g (aS hv)).trans hv, ho.below hb⟩
theorem WS.refl {W u : World} {g : Nat} {L : List TT} (h : WX W g L u) : WS W g L u u := ⟨h, Nat.le_refl _, fun _ _ h => h⟩
theorem WS.step {W u u1 u2 : World} {g : Nat} {L M : List TT} (h : WS W g L u u1) (k : WS W g M u1 u2) : WS W g M u u2 := ⟨k.1, Nat.le_trans h.2.1 k.2.1, fun i es hi => k.2.2 i es (h.2.2 i es hi)⟩
theorem WS.bel {W u u1 u2 : World} {g : Nat} {L : List TT} (h : WS W g L u u1) (hb : Below u1.heap.size u1 u2) : WS W g L u u2 :=
 ⟨h.1.below hb, Nat.le_trans h.2.1 hb.size, fun i es hi => by have := h.2.2 i es hi; exact (hb.block i (aS this)).trans this⟩
theorem WS.of {W u u1 : World} {g : Nat} {L : List TT} (h : WX W g L u) (hb : Below u.heap.size u u1) : WS W g L u u1 := (WS.refl h).bel hb
theorem aHY (t : TT) (w : World) : (Instr.buildSlice 95 1 #[(0, .agg t.cs)]).run Tryz.prog w = .ok (.slice (some ⟨w.heap.size, 0, none⟩) 1 1) (w.alloc (.cells ([t].flatMap TT.cl).toArray 123)) := by kernel_rfl
theorem aDJ {base : Nat} {w : World} {v : Value} {L M : List TT} (h : cO 123 base w v L) {g : Nat} (hg : w.heap[g]? = some (.cells (M.flatMap TT.cl).toArray 123)) (hn : L.length + M.length ≤ 1000000) (hm : 1 ≤ M.length) (hbase : base ≤ w.heap.size) :
  ∃ v' w', Hid ((Builtin.append_ #[95, 95] 95 #[v, .slice (some ⟨g, 0, none⟩) M.length M.length]).run Tryz.prog w = .ok v' w') ∧ cO 123 base w' v' (L ++ M) ∧ w.grownBy w' v.ownBlock ∧ Below base w w' := by
 obtain ⟨i0, hi, hz0, hz1, hz2⟩ := info_parts aFe
 have hadd : ∀ k, (⟨g, 0, none⟩ : Addr).add k = ⟨g, k, none⟩ := fun k => by unfold Addr.add; split <;> simp_all
 obtain ⟨v', w', r1, o1, g1, _, _⟩ := run_append_own_at w base 95 95 123 i0 _ 9 88 Tryz.underlying95 hi hz0 hz1 hz2 rfl (by decide) v _ _ h ⟨g, 0, none⟩ M.length M.length (M.flatMap TT.cl) (by rw [zM])
  (fun j u hj => by rw [hadd, cell_of_row w g j _ _ _ hg, ← hj]; simp) (fun x hx => by
   obtain ⟨t, _, ht⟩ := List.mem_flatMap.1 hx
   exact aFd t x ht) (by simp only [maxLen]; omega) (by omega) hbase
 refine ⟨v', w', r1, ?_, g1, (Below.refl base w).grown g1 hbase fun k hk => (World.ownsRow.lt h k hk).1⟩
 unfold cO
 rw [List.length_append, List.flatMap_append]
 simpa using o1
theorem own_ne {o : Option Nat} {k : Nat} (h : o = none ∨ o ≠ some k) : some k ≠ o := fun e => by
 rcases h with h | h
 ·rw [h] at e; cases e
 ·exact h e.symm
theorem aCo {W u : World} {g g2 : Nat} {L M : List TT} (X : WX W g L u) (h2 : u.heap[g2]? = some (.cells (M.flatMap TT.cl).toArray 123)) (hn : L.length + M.length ≤ 1000000) (hm : 1 ≤ M.length) :
  Calls Tryz.prog 82 #[.pointer (some ⟨g, 0, none⟩), .slice (some ⟨g2, 0, none⟩) M.length M.length] u fun e u' => e = .returned (.tuple #[]) ∧ WS W g (L ++ M) u u' := by
 obtain ⟨v, hv, ho⟩ := X.blk
 obtain ⟨v', w', R, o1, g1, _⟩ := aDJ ho h2 hn hm X.bel.size
 obtain ⟨a', c', hv'⟩ := o1.slice
 obtain ⟨q, hq⟩ : ∃ q, (L ++ M).length = q := ⟨_, rfl⟩
 rw [hq] at hv'
 subst hv'
 clear hq
 have hne := ho.ne hv (fun c z e => by cases e)
 have hv1 : w'.heap[g]? = some (.cells #[v] 101) := (g1.block g (aS hv) (own_ne hne)).trans hv
 have hcell : u.cell? ⟨g, 0, none⟩ = some v := by rw [cell_of_row u g 0 _ _ _ hv]; rfl
 have hcell1 : w'.cell? ⟨g, 0, none⟩ = some v := by rw [cell_of_row w' g 0 _ _ _ hv1]; rfl
 have hfz : w'.frozen? ⟨g, 0, none⟩ = false := by simp [World.frozen?, hv1]
 have HF : Hid (WS W g (L ++ M) u (w'.setCell ⟨g, 0, none⟩ (.slice a' q c'))) := by
  have G2 : w'.grownBy (w'.setCell ⟨g, 0, none⟩ (.slice a' q c')) (some g) := Lib.grownBy_setCell _ _ _ _
  have hlt := (World.ownsRow.lt ho)
  have hb1 : Below W.heap.size W w' := X.bel.grown g1 X.bel.size (fun k hk => (hlt k hk).1)
  have hb2 : Below W.heap.size W (w'.setCell ⟨g, 0, none⟩ (.slice a' q c')) := hb1.grown G2 hb1.size (fun k hk => by cases hk; exact X.lo)
  refine ⟨⟨hb2, X.lo, .slice a' q c', ?_, ?_⟩, ?_, ?_⟩
  ·simp [World.setCell, Array.getElem?_modify, hv1]
  ·exact o1.kept G2 (o1.ne hv1 (fun c z e => by cases e))
  ·exact Nat.le_trans g1.size G2.size
  ·intro k es hk
   have n1 : v.ownBlock = none ∨ v.ownBlock ≠ some k := ho.ne hk (fun c z e => by cases e)
   have k1 : w'.heap[k]? = some (.cells es 28) := (g1.block k (aS hk) (own_ne n1)).trans hk
   refine (G2.block k (aS k1) (fun e => ?_)).trans k1
   have : k = g := by cases e; rfl
   subst this
   rw [hv1] at k1; cases k1
 clear hne hv hv1 ho g1 o1 h2 X
 go_enter Tryz.func82, Tryz.ntmps82
 go_wp2_with (at_builtin; refine wpList_append_run rfl _ _ 95 rfl _ _ _ _ rfl rfl R.out ?_)
 go_end0
 exact ⟨rfl, HF.out⟩
structure ZZ (W : World) (g : Nat) (L : List TT) (u0 : World) (es : Array Value) (cur : World) : Prop where
 w : WS W g L u0 cur
 b : cur.heap[u0.heap.size]? = some (.cells es 28)
theorem ZZ.begin {W u : World} {g : Nat} {L : List TT} (X : WX W g L u) (es : Array Value) : ZZ W g L u es (u.alloc (.cells es 28)) := ⟨WS.of X (aA (Below.refl _ _) _), heap_alloc_new _ _⟩
theorem ZZ.bel {W u cur cur' : World} {g : Nat} {L : List TT} {es : Array Value} (h : ZZ W g L u es cur) (hb : Below cur.heap.size cur cur') : ZZ W g L u es cur' := ⟨h.w.bel hb, (hb.block _ (aS h.b)).trans h.b⟩
theorem ZZ.ws {W u cur cur' : World} {g : Nat} {L M : List TT} {es : Array Value} (h : ZZ W g L u es cur) (k : WS W g M cur cur') : ZZ W g M u es cur' := ⟨h.w.step k, k.2.2 _ _ h.b⟩
theorem ZZ.load {W u cur : World} {g : Nat} {L : List TT} {es : Array Value} (h : ZZ W g L u es cur) (hz : es.size = 18) : (Instr.loadAt 28 (.pointer (some ⟨u.heap.size, 0, none⟩))).run Tryz.prog cur = .ok (.agg es) cur :=
 lod (z := (0, 0)) h.b rfl Tryz.underlying28 (by rw [hz]; exact bS)
theorem ZZ.put {W u cur : World} {g : Nat} {L M : List TT} {es : Array Value} (h : ZZ W g L u es cur) {m : Nat} (hm : M.length = m) (h1 : 1 ≤ m) (hn : L.length + m ≤ 1000000) :
  Calls Tryz.prog 82 #[.pointer (some ⟨g, 0, none⟩), .slice (some ⟨cur.heap.size, 0, none⟩) m m] (cur.alloc (.cells (M.flatMap TT.cl).toArray 123)) fun e u' => e = .returned (.tuple #[]) ∧ ZZ W g (L ++ M) u es u' := by
 subst hm
 have h2 := h.bel (aA (Below.refl _ _) (.cells (M.flatMap TT.cl).toArray 123))
 exact (aCo h2.w.1 (heap_alloc_new _ _) hn h1).mono (by rintro e u' ⟨rfl, hs⟩; exact ⟨rfl, h2.ws hs⟩)
abbrev tOp (s : ByteArray) : TT := ⟨5, 0, s, noB, noB, 0, 0, false, false⟩
abbrev tWd (b s : ByteArray) : TT := ⟨4, 0, s, b, noB, 0, 0, false, false⟩
abbrev tRf (b h : ByteArray) (r c : Int) (fr fc : Bool) : TT := ⟨3, 0, noB, b, h, r, c, fr, fc⟩
theorem lF (s : ByteArray) (w : World) : (Instr.buildSlice 95 1 #[(0, .agg (tcs 5 0 s noB noB 0 0 false false))]).run Tryz.prog w = .ok (.slice (some ⟨w.heap.size, 0, none⟩) 1 1) (w.alloc (.cells ([tOp s].flatMap TT.cl).toArray 123)) := by kernel_rfl
theorem aHZ (b s : ByteArray) (w : World) : (Instr.buildSlice 95 1 #[(0, .agg (tcs 4 0 s b noB 0 0 false false))]).run Tryz.prog w = .ok (.slice (some ⟨w.heap.size, 0, none⟩) 1 1) (w.alloc (.cells ([tWd b s].flatMap TT.cl).toArray 123)) := by kernel_rfl
theorem aH0 (b h : ByteArray) (r c : Int) (fr fc : Bool) (w : World) : (Instr.buildSlice 95 1 #[(0, .agg (tcs 3 0 noB b h r c fr fc))]).run Tryz.prog w = .ok (.slice (some ⟨w.heap.size, 0, none⟩) 1 1) (w.alloc (.cells ([tRf b h r c fr fc].flatMap TT.cl).toArray 123)) := by kernel_rfl
theorem aH1 (s b : ByteArray) (w : World) : (Instr.buildSlice 95 2 #[(0, .agg (tcs 4 0 s noB noB 0 0 false false)), (1, .agg (tcs 5 0 b noB noB 0 0 false false))]).run Tryz.prog w = .ok (.slice (some ⟨w.heap.size, 0, none⟩) 2 2) (w.alloc (.cells ([tWd noB s, tOp b].flatMap TT.cl).toArray 123)) := by kernel_rfl
section
variable {a : Lab} {p : Option Addr} {n c : Nat} {w : World}
theorem aJk (hk : a.k = 6) : Calls Tryz.prog 168 #[.agg (lcs a (.slice p n c))] w fun e w' => e = .returned (.int .i64 (bY a.s.toList : Nat)) ∧ Below w.heap.size w w' := by
 have H0 := heap_alloc_new w (.cells (lcs a (.slice p n c)) 28)
 have HB0 : Hid (Below w.heap.size w (w.alloc (.cells (lcs a (.slice p n c)) 28))) := aA (Below.refl _ _) _
 obtain ⟨c0, c1, _, _, _⟩ := aN H0
 rw [hk] at c0
 clear H0
 obtain ⟨w1, hw1⟩ : ∃ w1, w.alloc (.cells (lcs a (.slice p n c)) 28) = w1 := ⟨_, rfl⟩
 rw [hw1] at c0 c1 HB0
 have ST := lZ a.s w1
 generalize lcs a (.slice p n c) = bx at *
 generalize bY a.s.toList = N at *
 go_enter Tryz.func168, Tryz.ntmps168
 go_wp2_with (go_at_call 127; refine ST.mono ?_; rintro e w2 ⟨rfl, hw⟩; obtain rfl := hw.symm; clear hw)
 go_ret
 exact ⟨rfl, HB0.out⟩
theorem aH2 (hk : a.k = 5) (h1 : (a.s.toList == [45]) = true) : Calls Tryz.prog 168 #[.agg (lcs a (.slice p n c))] w fun e w' => e = .returned (.int .i64 6) ∧ Below w.heap.size w w' := by
 have H0 := heap_alloc_new w (.cells (lcs a (.slice p n c)) 28)
 have HB0 : Hid (Below w.heap.size w (w.alloc (.cells (lcs a (.slice p n c)) 28))) := aA (Below.refl _ _) _
 obtain ⟨c0, c1, _, _, _⟩ := aN H0
 rw [hk] at c0
 clear H0
 obtain ⟨w1, hw1⟩ : ∃ w1, w.alloc (.cells (lcs a (.slice p n c)) 28) = w1 := ⟨_, rfl⟩
 rw [hw1] at c0 c1 HB0
 generalize lcs a (.slice p n c) = bx at *
 go_enter Tryz.func168, Tryz.ntmps168
 go_wp2
 go_ret
 exact ⟨rfl, HB0.out⟩
theorem aH3 (hk : a.k = 5) (h1 : (a.s.toList == [45]) = false) : Calls Tryz.prog 168 #[.agg (lcs a (.slice p n c))] w fun e w' => e = .returned (.int .i64 7) ∧ Below w.heap.size w w' := by
 have H0 := heap_alloc_new w (.cells (lcs a (.slice p n c)) 28)
 have HB0 : Hid (Below w.heap.size w (w.alloc (.cells (lcs a (.slice p n c)) 28))) := aA (Below.refl _ _) _
 obtain ⟨c0, c1, _, _, _⟩ := aN H0
 rw [hk] at c0
 clear H0
 obtain ⟨w1, hw1⟩ : ∃ w1, w.alloc (.cells (lcs a (.slice p n c)) 28) = w1 := ⟨_, rfl⟩
 rw [hw1] at c0 c1 HB0
 generalize lcs a (.slice p n c) = bx at *
 go_enter Tryz.func168, Tryz.ntmps168
 go_wp2
 go_ret
 exact ⟨rfl, HB0.out⟩
theorem aJl (h6 : (a.k == 6) = false) (h5 : (a.k == 5) = false) : Calls Tryz.prog 168 #[.agg (lcs a (.slice p n c))] w fun e w' => e = .returned (.int .i64 8) ∧ Below w.heap.size w w' := by
 have H0 := heap_alloc_new w (.cells (lcs a (.slice p n c)) 28)
 have HB0 : Hid (Below w.heap.size w (w.alloc (.cells (lcs a (.slice p n c)) 28))) := aA (Below.refl _ _) _
 obtain ⟨c0, c1, _, _, _⟩ := aN H0
 clear H0
 obtain ⟨w1, hw1⟩ : ∃ w1, w.alloc (.cells (lcs a (.slice p n c)) 28) = w1 := ⟨_, rfl⟩
 rw [hw1] at c0 c1 HB0
 generalize lcs a (.slice p n c) = bx at *
 go_enter Tryz.func168, Tryz.ntmps168
 go_wp2
 go_ret
 exact ⟨rfl, HB0.out⟩
theorem aGg : Calls Tryz.prog 168 #[.agg (lcs a (.slice p n c))] w fun e w' => e = .returned (.int .i64 (bT a : Nat)) ∧ Below w.heap.size w w' := by
 unfold bT
 by_cases h6 : a.k = 6
 ·rw [if_pos h6]; exact aJk h6
 rw [if_neg h6]
 by_cases h5 : a.k = 5
 ·rw [if_pos h5]
  by_cases h : a.s.toList = [45]
  ·rw [if_pos h]; exact aH2 h5 (by simp [h])
  ·rw [if_neg h]; exact aH3 h5 (by simpa using h)
 ·rw [if_neg h5]; exact aJl (by simpa using h6) (by simpa using h5)
end
def NC (W : World) (g : Nat) (es : Array Value) (M : List TT) (m : Nat) : Prop := ∀ L u, L.length ≤ m → WX W g L u → Calls Tryz.prog 59 #[.pointer (some ⟨g, 0, none⟩), .agg es] u fun e u' => e = .returned (.tuple #[]) ∧ WS W g (L ++ M) u u'
section
variable {W u : World} {g : Nat} {L : List TT} {es : Array Value} {t : T}
theorem aCp (h : NT W es t) : es.size = 18 := by obtain ⟨p, n, c, rfl, _⟩ := h; rfl
theorem aCq (h : NT W es t) (u : World) : Calls Tryz.prog 168 #[.agg es] u fun e w' => e = .returned (.int .i64 (bT t.1 : Nat)) ∧ Below u.heap.size u w' := by
 obtain ⟨p, n, c, rfl, _⟩ := h
 exact aGg
theorem aAk {M : List TT} (X : WX W g L u) (h : NT W es t) {m : Nat} (hm : L.length ≤ m) (C : NC W g es M m) {least : Nat} (hl : (least : Int) ≤ (bT t.1 : Nat)) :
  Calls Tryz.prog 126 #[.pointer (some ⟨g, 0, none⟩), .agg es, .int .i64 (least : Nat)] u fun e u' => e = .returned (.tuple #[]) ∧ WS W g (L ++ M) u u' := by
 have hz := aCp h
 have HH := aCq h
 have Zc : Hid (ZZ W g L u es (u.alloc (.cells es 28))) := ZZ.begin X es
 have RL : Hid _ := Zc.out.load hz
 have hlen : u.heap.size < (u.alloc (.cells es 28)).heap.size := by simp
 clear X h
 generalize bT t.1 = N at *
 go_enter Tryz.func126, Tryz.ntmps126
 go_wp2_with (first
  | (refine aB rfl 28 _ rfl _ _ rfl RL.out ?_)
  | (go_at_call 168; refine (HH _).mono ?_; rintro e w1 ⟨rfl, hb⟩; have Zc1 := Zc.out.bel hb; clear hb Zc RL; have RL : Hid _ := Zc1.load hz; have Zc : Hid _ := Zc1; clear Zc1)
  | (go_at_call 59; refine (C _ _ hm Zc.out.w.1).mono ?_; rintro e w1 ⟨rfl, hs⟩; have Zc1 := Zc.out.ws hs; clear hs Zc RL; have Zc : Hid _ := Zc1; clear Zc1))
 refine bodyPost_ret (results_none rfl _ _ _) rfl ?_
 exact ⟨rfl, Zc.out.w⟩
theorem aBy {M : List TT} (X : WX W g L u) (h : NT W es t) {m : Nat} (hm : L.length + 1 ≤ m) (hn : L.length + M.length + 2 ≤ 1000000) (C : NC W g es M m) {least : Nat} (hl : ¬ (least : Int) ≤ (bT t.1 : Nat)) :
  Calls Tryz.prog 126 #[.pointer (some ⟨g, 0, none⟩), .agg es, .int .i64 (least : Nat)] u fun e u' => e = .returned (.tuple #[]) ∧ WS W g (L ++ [tOp ⟨#[40]⟩] ++ M ++ [tOp ⟨#[41]⟩]) u u' := by
 have hz := aCp h
 have HH := aCq h
 have Zc : Hid (ZZ W g L u es (u.alloc (.cells es 28))) := ZZ.begin X es
 have RL : Hid _ := Zc.out.load hz
 have N1 : Hid (L.length + 1 ≤ 1000000) := by show _ ≤ _; omega
 have N2 : Hid ((L ++ [tOp ⟨#[40]⟩]).length ≤ m) := by show _ ≤ _; simpa using hm
 have N3 : Hid ((L ++ [tOp ⟨#[40]⟩] ++ M).length + 1 ≤ 1000000) := by show _ ≤ _; simp; omega
 clear X h hm hn
 generalize bT t.1 = N at *
 go_enter Tryz.func126, Tryz.ntmps126
 go_wp2_with (first
  | (refine aB rfl 28 _ rfl _ _ rfl RL.out ?_)
  | (go_at_call 168; refine (HH _).mono ?_; rintro e w1 ⟨rfl, hb⟩; have Zc1 := Zc.out.bel hb; clear hb Zc RL; have RL : Hid _ := Zc1.load hz; have Zc : Hid _ := Zc1; clear Zc1)
  | (go_at_call 85; refine (fD _ _).mono ?_; rintro e w1 ⟨rfl, hb⟩; have Zc1 := Zc.out.bel hb; clear hb Zc RL; have Zc : Hid _ := Zc1; clear Zc1)
  | (refine aT rfl 95 1 _ rfl _ _ _ (by go_simp) (lF _ _) ?_)
  | (go_at_call 82; refine (Zc.out.put (M := [tOp ⟨#[40]⟩]) rfl (by decide) N1.out).mono ?_; rintro e w1 ⟨rfl, Zc1⟩; clear Zc; have RL : Hid _ := Zc1.load hz; have Zc : Hid _ := Zc1; clear Zc1)
  | (go_at_call 82; refine (Zc.out.put (M := [tOp ⟨#[41]⟩]) rfl (by decide) N3.out).mono ?_; rintro e w1 ⟨rfl, Zc1⟩; clear Zc; have RL : Hid _ := Zc1.load hz; have Zc : Hid _ := Zc1; clear Zc1)
  | (go_at_call 59; refine (C _ _ N2.out Zc.out.w.1).mono ?_; rintro e w1 ⟨rfl, hs⟩; have Zc1 := Zc.out.ws hs; clear hs Zc RL; have RL : Hid _ := Zc1.load hz; have Zc : Hid _ := Zc1; clear Zc1))
 go_end0
 exact ⟨rfl, Zc.out.w⟩
theorem iD {K : List Tk.Tok} (X : WX W g L u) (h : NT W es t) {m : Nat} (hm : L.length + 1 ≤ m) (hn : L.length + K.length + 2 ≤ 1000000) (C : NC W g es (K.map tk) m) (least : Nat) :
  Calls Tryz.prog 126 #[.pointer (some ⟨g, 0, none⟩), .agg es, .int .i64 (least : Nat)] u fun e u' => e = .returned (.tuple #[]) ∧ WS W g (L ++ (dD (bT t.1, K) least).map tk) u u' := by
 unfold dD
 by_cases hl : least ≤ bT t.1
 ·rw [if_pos hl]
  exact aAk X h (by omega) C (by omega)
 ·rw [if_neg hl]
  have := aBy X h hm (by simpa using hn) C (least := least) (by omega)
  refine this.mono ?_
  rintro e u' ⟨rfl, hs⟩
  refine ⟨rfl, ?_⟩
  have e : (L ++ List.map tk (Tk.Tok.op [40] :: (K ++ [Tk.Tok.op [41]]))) = L ++ [tOp ⟨#[40]⟩] ++ K.map tk ++ [tOp ⟨#[41]⟩] := by
   simp only [List.map_cons, List.map_append, List.map_nil, List.append_assoc, List.cons_append, List.nil_append]
   rfl
  rw [e]; exact hs
end
end Go.Proofs.YtljmklbbngpllaaGreatDoor
