/- RwPure, RList, FClone, FRowC, FCopy, FCopy2, RwRP. -/
import Derived.Test.YtljmklbbngpllaaGreatDoorRwOpenOt
set_option linter.unusedVariables false
set_option linter.unusedSimpArgs false
set_option maxHeartbeats 16000000
set_option maxRecDepth 100000
namespace Go.Proofs.YtljmklbbngpllaaGreatDoor.Rw
open Go.RowKit Go.Fm
def top (l : Lab) : Rf := ⟨l.b1, l.h1, l.r1, l.c1, l.fr1, l.fc1⟩
def tof (l : Lab) : Rf := ⟨l.b2, l.h2, l.r2, l.c2, l.fr2, l.fc2⟩
def labRf (x : Rf) : Lab := ⟨2, nb, 0, 0, nb, x.b, x.h, x.r, x.c, x.fr, x.fc, nb, nb, 0, 0, false, false⟩
def labAr (x y : Rf) : Lab := ⟨3, nb, 0, 0, nb, x.b, x.h, x.r, x.c, x.fr, x.fc, y.b, y.h, y.r, y.c, y.fr, y.fc⟩
def gone : Lab := labV 4 3 nb
def kd (k : Int) : Bool := (k == 2) || (k == 3)
def nm (C : Chg) (H : Hm) (l : Lab) : Bool := kd l.k && ofR C H (top l)
def rfL (C : Chg) (x : Rf) : Lab := if mvB C x = true then labRf (mvX C x) else gone
def chR (C : Chg) (x : Rf) : Bool := if mvB C x = true then !eqR (mvX C x) x else true
def arL (C : Chg) (x y : Rf) : Lab := if arB C (lo x y) (hi x y) = true then labAr (arX C (lo x y) (hi x y)) (arY C (lo x y) (hi x y)) else gone
def chA (C : Chg) (x y : Rf) : Bool := if arB C (lo x y) (hi x y) = true then (!eqR (arX C (lo x y) (hi x y)) x || !eqR (arY C (lo x y) (hi x y)) y) else true
def rwL (C : Chg) (l : Lab) : Lab := if l.k = 2 then rfL C (top l) else arL C (top l) (tof l)
def rwC (C : Chg) (l : Lab) : Bool := if l.k = 2 then chR C (top l) else chA C (top l) (tof l)
section
variable (C : Chg) (H : Hm)
def rwF : F → F
 | .nil => .nil
 | .node _ _ l f r => if nm C H l = true then .node 0 0 (rwL C l) .nil (rwF r) else .node 0 0 l (rwF f) (rwF r)
def rwA : F → Bool
 | .nil => false
 | .node _ _ l f r => (if nm C H l = true then rwC C l else rwA f) || rwA r
def rwT (t : T) : T := if nm C H t.1 = true then (rwL C t.1, .nil) else (t.1, rwF C H t.2)
def rwB (t : T) : Bool := if nm C H t.1 = true then rwC C t.1 else rwA C H t.2
theorem kids_rw : ∀ f : F, kids (rwF C H f) = (kids f).map (rwT C H) := by
 intro f
 induction f with
 | nil => rfl
 | node b o l f r ihf ihr =>
  unfold rwF
  rw [kids, List.map_cons]
  unfold rwT
  show kids (if nm C H l = true then _ else _) = (if nm C H l = true then _ else _) :: _
  split <;> rw [kids, ihr] <;> rfl
theorem any_rw : ∀ f : F, rwA C H f = (kids f).any (rwB C H) := by
 intro f
 induction f with
 | nil => rfl
 | node b o l f r ihf ihr =>
  unfold rwA
  rw [kids, List.any_cons, ihr]
  rfl
theorem size_rw : ∀ f : F, size (rwF C H f) ≤ size f := by
 intro f
 induction f with
 | nil => exact Nat.le_refl _
 | node b o l f r ihf ihr =>
  unfold rwF
  split <;> simp only [size] <;> omega
theorem zT_rw (t : T) : zT (rwT C H t) ≤ zT t := by
 unfold rwT zT
 have := size_rw C H t.2
 split
 ·simp only [size]; omega
 ·simp only; omega
def nmF : F → Bool
 | .nil => false
 | .node _ _ l f r => nm C H l || nmF f || nmF r
def nmT (t : T) : Bool := nm C H t.1 || nmF C H t.2
theorem nmF_kids : ∀ f : F, nmF C H f = (kids f).any (nmT C H) := by
 intro f
 induction f with
 | nil => rfl
 | node b o l f r ihf ihr =>
  unfold nmF
  rw [kids, List.any_cons, ihr]
  rfl
end
end Go.Proofs.YtljmklbbngpllaaGreatDoor.Rw
namespace Go.Proofs.YtljmklbbngpllaaGreatDoor
open Go.RowKit Go.Fm
theorem InF.nk : ∀ {f : F} {w : World} {a : Addr}, InF w a f → InK (fun i => i < w.heap.size) w a f := by
 intro f
 induction f with
 | nil => intro w a _; trivial
 | node b o l f r ihf ihr =>
  intro w a h
  obtain ⟨⟨p, n, c, h1, h2, h3⟩, h4⟩ := h
  have hlt : a.block < w.heap.size := by
   have := World.block_lt_of_cell? w (a.add 0) (h1 0 _ rfl)
   rwa [show (a.add 0).block = a.block by unfold Addr.add; split <;> rfl] at this
  exact ⟨⟨p, n, c, hlt, h1, h2, h3.imp id fun ⟨a', e, hi⟩ => ⟨a', e, ihf hi⟩⟩, ihr h4⟩
theorem NT.nk {w : World} {es : Array Value} {t : T} (h : NT w es t) : NK (fun i => i < w.heap.size) w es t := by
 obtain ⟨p, n, c, e, h1, h2⟩ := h
 exact ⟨p, n, c, e, h1, h2.imp id fun ⟨a, e, hi⟩ => ⟨a, e, hi.nk⟩⟩
theorem InK.get {K : Nat → Prop} : ∀ {f : F} {w : World} {a : Addr}, InK K w a f → ∀ (k : Nat) (hk : k < (kids f).length), ∃ es, (Instr.loadAt 28 (.pointer (some (a.add (k * 18))))).run Tryz.prog w = .ok (.agg es) w ∧ NK K w es (kids f)[k] := by
 intro f
 induction f with
 | nil => intro w a _ k hk; simp [kids] at hk
 | node b o l f r ihf ihr =>
  intro w a h k hk
  obtain ⟨⟨p, n, c, h0, h1, h2, h3⟩, h4⟩ := h
  cases k with
  | zero =>
   refine ⟨lcs l (.slice p n c), ?_, p, n, c, rfl, h2, h3⟩
   have : a.add (0 * 18) = a.add 0 := by simp
   rw [this]
   refine run_loadVar_any w (a.add 0) 28 (lcl l (.slice p n c)) _ (fun j v hj => ?_) Tryz.underlying28 rfl (by rw [lcl_len]; exact inf28)
   rw [Go.Deep.add_add, Nat.zero_add]
   exact h1 j v hj
  | succ k =>
   obtain ⟨es, e1, e2⟩ := ihr h4 k (by simpa [kids] using hk)
   refine ⟨es, ?_, e2⟩
   rw [Go.Deep.add_add] at e1
   rw [show (k + 1) * 18 = 18 + k * 18 by omega]
   exact e1
def SK (K : Nat → Prop) (w : World) (p : Option Addr) (n : Nat) (f : F) : Prop := n = (kids f).length ∧ (f = .nil ∨ ∃ a, p = some a ∧ InK K w a f)
theorem SK.grown {K : Nat → Prop} {w w' : World} {p : Option Addr} {n : Nat} {f : F} {row : Option Nat} (h : SK K w p n f) (hg : w.grownBy w' row) (hr : ∀ g, row = some g → ¬ K g) : SK K w' p n f := ⟨h.1, h.2.imp id fun ⟨a, e, hi⟩ => ⟨a, e, hi.grown hg hr⟩⟩
theorem SK.get {K : Nat → Prop} {w : World} {p : Option Addr} {n : Nat} {f : F} (h : SK K w p n f) (k : Nat) (hk : k < n) : ∃ a es t, p = some a ∧ (Instr.loadAt 28 (.pointer (some (a.add (k * 18))))).run Tryz.prog w = .ok (.agg es) w ∧ (kids f)[k]? = some t ∧ NK K w es t := by
 obtain ⟨h1, h2⟩ := h
 rcases h2 with rfl | ⟨a, rfl, hi⟩
 ·simp [kids] at h1; omega
 ·obtain ⟨es, e1, e2⟩ := hi.get k (by omega)
  exact ⟨a, es, _, rfl, e1, List.getElem?_eq_getElem (by omega), e2⟩
def NA' (es : Array Value) : Prop := es.size = 18 ∧ es.all (·.oneCell') = true
end Go.Proofs.YtljmklbbngpllaaGreatDoor
namespace Go.Proofs.YtljmklbbngpllaaGreatDoor
open Go.RowKit Go.Fm
theorem InK.flat {K : Nat → Prop} : ∀ {f : F} {w : World} {a : Addr}, InK K w a f → ∃ L : List (Array Value × T), L.map (·.2) = kids f ∧ (∀ x ∈ L, NK K w x.1 x.2) ∧ ∀ j v, (L.flatMap (·.1.toList))[j]? = some v → w.cell? (a.add j) = some v := by
 intro f
 induction f with
 | nil => intro w a _; exact ⟨[], rfl, fun x hx => absurd hx List.not_mem_nil, fun j v hj => by simp at hj⟩
 | node b o l f r ihf ihr =>
  intro w a h
  obtain ⟨⟨p, n, c, h0, h1, h2, h3⟩, h4⟩ := h
  obtain ⟨L, e1, e2, e3⟩ := ihr h4
  refine ⟨(lcs l (.slice p n c), (l, f)) :: L, ?_, fun x hx => ?_, fun j v hj => ?_⟩
  ·rw [List.map_cons, e1]; rfl
  ·rcases List.mem_cons.1 hx with rfl | hx
   ·exact ⟨p, n, c, rfl, h2, h3⟩
   ·exact e2 x hx
  ·rw [List.flatMap_cons] at hj
   have hl : (lcs l (.slice p n c)).toList = lcl l (.slice p n c) := by simp [lcs]
   rw [show ((lcs l (.slice p n c), ((l, f) : T)).1).toList = lcl l (.slice p n c) from hl] at hj
   by_cases hjl : j < 18
   ·rw [List.getElem?_append_left (by rw [lcl_len]; exact hjl)] at hj
    exact h1 j v hj
   ·rw [List.getElem?_append_right (by rw [lcl_len]; omega), lcl_len] at hj
    have := e3 _ _ hj
    rw [Go.Deep.add_add, show 18 + (j - 18) = j by omega] at this
    exact this
theorem flat_len18 : ∀ M : List (Array Value × T), (∀ x ∈ M, NA' x.1) → (M.flatMap (·.1.toList)).length = M.length * 18 := by
 intro M
 induction M with
 | nil => intro _; rfl
 | cons x M ih =>
  intro hM
  rw [List.flatMap_cons, List.length_append, ih (fun y hy => hM y (by simp [hy])), List.length_cons]
  have := (hM x (by simp)).1
  simp at this ⊢
  omega
theorem slice_zero (w : World) : (Instr.buildSlice 26 0 #[]).run Tryz.prog w = .ok (.slice (some ⟨w.heap.size, 0, none⟩) 0 0) (w.alloc (.cells #[] 28)) := by kernel_rfl
theorem nil26 (w : World) (n c : Nat) : (binOp .eql 26 (.slice none n c) (.slice none 0 0)).run Tryz.prog w = .ok (.bool true) w := by kernel_rfl
theorem some26 (w : World) (a : Addr) (n c : Nat) : (binOp .eql 26 (.slice (some a) n c) (.slice none 0 0)).run Tryz.prog w = .ok (.bool false) w := by kernel_rfl
attribute [local go_sem] nil26 some26
theorem clone_any (K : Nat → Prop) (w : World) (p : Option Addr) (n c : Nat) (f : F) (h : SK K w p n f) (hn : n ≤ 900) (hK : ∀ i, K i → i < w.heap.size) : Calls Tryz.prog 71 #[.slice p n c] w fun e w' => ∃ v L, e = .returned v ∧ OwnN w.heap.size w' v L ∧ L.map (·.2) = kids f ∧ (∀ x ∈ L, NK K w' x.1 x.2) ∧ Below w.heap.size w w' := by
 obtain ⟨i0, hi, hz0, hz1, hz2⟩ := info_parts inf28z
 cases p with
 | none =>
  have hf : f = .nil := h.2.elim id (fun ⟨a, e, _⟩ => by cases e)
  subst hf
  have hn0 : n = 0 := h.1
  subst hn0
  go_enter Tryz.func71, Tryz.ntmps71
  go_wp2
  go_ret
  exact ⟨_, [], rfl, ⟨rfl, .inl ⟨rfl, rfl⟩⟩, rfl, fun x hx => absurd hx List.not_mem_nil, Below.refl _ _⟩
 | some a =>
  have RZ : Hid _ := slice_zero w
  have HX : ∃ L : List (Array Value × T), L.map (·.2) = kids f ∧ (∀ x ∈ L, NK K w x.1 x.2) ∧ ∀ j v, (L.flatMap (·.1.toList))[j]? = some v → w.cell? (a.add j) = some v := by
   rcases h.2 with rfl | ⟨a', e, hi⟩
   ·exact ⟨[], rfl, fun x hx => absurd hx List.not_mem_nil, fun j v hj => by simp at hj⟩
   ·cases e; exact hi.flat
  obtain ⟨L, l1, l2, l3⟩ := HX
  have hnL : n = L.length := by rw [h.1, ← l1, List.length_map]
  have hB1 : Below w.heap.size w (w.alloc (.cells #[] 28)) := bel_alloc (Below.refl _ _) _
  have hone : ∀ x ∈ L, NA' x.1 := fun x hx => ⟨(l2 x hx).size, (l2 x hx).one⟩
  obtain ⟨v', w', r1, o1, g1, _, g2⟩ := run_append_own_at (w.alloc (.cells #[] 28)) w.heap.size 26 26 28 i0 _ 18 192 Tryz.underlying26 hi hz0 hz1 hz2 rfl (by decide) (.slice (some ⟨w.heap.size, 0, none⟩) 0 0) 0 [] ⟨rfl, .inr ⟨w.heap.size, 0, #[], rfl, Nat.le_refl _, heap_alloc_new w _, Nat.le_refl _, by simp [maxLen], rfl, rfl⟩⟩ a n c (L.flatMap (·.1.toList)) (by rw [hnL]; exact flat_len18 L hone)
   (fun j x hj => cell_bel hB1 (l3 j x hj)) (by
    intro x hx
    obtain ⟨y, hy, hxy⟩ := List.mem_flatMap.1 hx
    have := (hone y hy).2
    rw [Array.all_eq_true_iff_forall_mem] at this
    exact this x (by simpa using hxy)) (by simp only [maxLen]; omega) (by omega) (by simp)
  have RA : Hid _ := r1
  have hown : ∀ g, (Value.slice (some ⟨w.heap.size, 0, none⟩) 0 0).ownBlock = some g → w.heap.size ≤ g := fun g hg => by cases hg; exact Nat.le_refl _
  have HO : Hid (OwnN w.heap.size w' v' L) := by
   show OwnN _ _ _ _
   unfold OwnN
   rw [Nat.zero_add, List.nil_append, hnL] at o1
   exact o1
  have HN : Hid (∀ x ∈ L, NK K w' x.1 x.2) := fun x hx => ((l2 x hx).below hB1).grown g1 (fun g hg hk => by have := hown g hg; have := hK g hk; omega)
  have HB : Hid (Below w.heap.size w w') := hB1.grown g1 hB1.size hown
  have HL1 : Hid (L.map (·.2) = kids f) := l1
  clear r1 o1 g1 g2 l3 l2 hone hi hz0 hz1 hz2 h hnL hown l1
  go_enter Tryz.func71, Tryz.ntmps71
  go_wp2_with (first
   | (refine wpList_bslice_run rfl 26 0 _ rfl _ _ _ (by go_simp) RZ.out ?_; clear RZ)
   | (at_builtin; refine wpList_append_run rfl _ _ 26 rfl _ _ _ _ rfl rfl RA.out ?_; clear RA))
  go_ret
  exact ⟨_, L, rfl, HO.out, HL1.out, HN.out, HB.out⟩
end Go.Proofs.YtljmklbbngpllaaGreatDoor
namespace Go.Proofs.YtljmklbbngpllaaGreatDoor
open Go.RowKit Go.Fm
def RowC (w : World) (g : Nat) (L : List (Array Value × T)) : Prop := ∀ k x, L[k]? = some x → ∀ j v, x.1.toList[j]? = some v → w.cell? ⟨g, k * 18 + j, none⟩ = some v
theorem flatN_at : ∀ (L : List (Array Value × T)), (∀ x ∈ L, x.1.size = 18) → ∀ k x, L[k]? = some x → ∀ j, j < 18 → (L.flatMap (·.1.toList))[k * 18 + j]? = x.1.toList[j]?
 | [], _, k, x, hk, j, hj => by simp at hk
 | y :: L, hL, 0, x, hk, j, hj => by
  simp only [List.getElem?_cons_zero, Option.some.injEq] at hk
  subst hk
  rw [List.flatMap_cons, Nat.zero_mul, Nat.zero_add, List.getElem?_append_left (by rw [Array.length_toList, hL y (by simp)]; exact hj)]
 | y :: L, hL, k + 1, x, hk, j, hj => by
  have hy : y.1.toList.length = 18 := by rw [Array.length_toList, hL y (by simp)]
  rw [List.flatMap_cons, List.getElem?_append_right (by rw [hy]; omega), hy, show (k + 1) * 18 + j - 18 = k * 18 + j by omega]
  exact flatN_at L (fun x hx => hL x (by simp [hx])) k x (by simpa using hk) j hj
theorem RowC.of {base : Nat} {w : World} {g n c : Nat} {L : List (Array Value × T)} (h : OwnN base w (.slice (some ⟨g, 0, none⟩) n c) L) (hL : ∀ x ∈ L, x.1.size = 18) : RowC w g L := fun k x hk j v hj => by
 have hx := hL x (List.mem_of_getElem? hk)
 have hj18 : j < 18 := by have := (List.getElem?_eq_some_iff.1 hj).1; rw [Array.length_toList, hx] at this; exact this
 have := World.ownsRow.cells h (g := g) rfl (k * 18 + j) v (by rw [flatN_at L hL k x hk j hj18]; exact hj)
 rwa [Addr.add_mid, Nat.zero_add] at this
theorem RowC.flat {w : World} {g : Nat} {L : List (Array Value × T)} (h : RowC w g L) (hL : ∀ x ∈ L, NA' x.1) : ∀ j v, (L.flatMap (·.1.toList))[j]? = some v → w.cell? ⟨g, 0 + j, none⟩ = some v := fun j v hj => by
 have hlt := (List.getElem?_eq_some_iff.1 hj).1
 rw [flat_len18 L hL] at hlt
 have hk : j / 18 < L.length := by omega
 have hx := List.getElem?_eq_getElem hk
 have hm : j / 18 * 18 + j % 18 = j := by omega
 have := flatN_at L (fun x hx => (hL x hx).1) (j / 18) _ hx (j % 18) (by omega)
 rw [hm, hj] at this
 have := h _ _ hx (j % 18) v this.symm
 rwa [hm, ← Nat.zero_add j] at this
theorem RowC.load {w : World} {g : Nat} {L : List (Array Value × T)} (h : RowC w g L) {k : Nat} {x : Array Value × T} (hk : L[k]? = some x) (hx : x.1.size = 18) : (Instr.loadAt 28 (.pointer (some ⟨g, k * 18, none⟩))).run Tryz.prog w = .ok (.agg x.1) w := by
 have := run_loadVar_any (P := Tryz.prog) w ⟨g, k * 18, none⟩ 28 x.1.toList _ (fun j v hj => by rw [Addr.add_mid]; exact h k x hk j v hj) Tryz.underlying28 rfl (by rw [Array.length_toList, hx]; exact inf28)
 simpa using this
theorem grown_setCells (b : Nat) : ∀ (vs : List Value) (o : Nat) (w : World), w.grownBy (w.setCells b o vs) (some b)
 | [], _, w => World.grownBy.refl w _
 | v :: r, o, w => (Go.Lib.grownBy_setCell w b o v).trans (grown_setCells b r (o + 1) _)
theorem RowC.set {w : World} {g k : Nat} {L : List (Array Value × T)} (h : RowC w g L) (hL : ∀ x ∈ L, x.1.size = 18) (hk : k < L.length) (es : Array Value) (t : T) (he : es.size = 18) : RowC (w.setCells g (k * 18) es.toList) g (L.set k (es, t)) := fun i x hi j v hj => by
 have hthere : ∀ j, j < es.toList.length → (w.cell? ⟨g, k * 18 + j, none⟩).isSome = true := fun j hj => by
  have hx := hL _ (List.getElem_mem hk)
  have hjl : j < L[k].1.toList.length := by rw [Array.length_toList] at hj ⊢; omega
  rw [h k _ (List.getElem?_eq_getElem hk) j _ (List.getElem?_eq_getElem hjl)]
  rfl
 by_cases hik : i = k
 ·subst hik
  rw [List.getElem?_set_self hk] at hi
  cases hi
  obtain ⟨hjl, rfl⟩ := List.getElem?_eq_some_iff.1 hj
  exact World.cell?_setCells_in g es.toList (i * 18) w hthere j hjl
 ·rw [List.getElem?_set_ne (fun e => hik e.symm)] at hi
  have hx := hL x (List.mem_of_getElem? hi)
  have hj18 : j < 18 := by have := (List.getElem?_eq_some_iff.1 hj).1; rw [Array.length_toList, hx] at this; exact this
  rw [World.cell?_setCells_out g es.toList (k * 18) w _ (fun _ _ => by
   show i * 18 + j < k * 18 ∨ k * 18 + es.toList.length ≤ i * 18 + j
   rw [Array.length_toList, he]
   omega)]
  exact h i x hi j v hj
theorem RowC.store {w : World} {g k : Nat} {L : List (Array Value × T)} (h : RowC w g L) (hL : ∀ x ∈ L, x.1.size = 18) (hk : k < L.length) (hf : ∀ o, w.frozen? ⟨g, o, none⟩ = false) {es : Array Value} (he : NA' es) :
  (Instr.storeAt 28 (.pointer (some ⟨g, k * 18, none⟩)) (.agg es)).run Tryz.prog w = .ok () (w.setCells g (k * 18) es.toList) :=
 run_storeAt_mid w g (k * 18) 28 es (fun j hj => ⟨by
  have hx := hL _ (List.getElem_mem hk)
  have hjl : j < L[k].1.toList.length := by rw [Array.length_toList]; have := he.1; omega
  rw [h k _ (List.getElem?_eq_getElem hk) j _ (List.getElem?_eq_getElem hjl)]
  rfl, hf _⟩) (by rw [he.1]; exact inf28) he.2
theorem RowC.grown {w w' : World} {g : Nat} {L : List (Array Value × T)} {row : Option Nat} (h : RowC w g L) (hg : w.grownBy w' row) (hr : row ≠ some g) : RowC w' g L := fun k x hk j v hj => hg.cell (h k x hk j v hj) (fun e => hr e.symm)
theorem InK.rowF {K : Nat → Prop} {u : World} {g : Nat} (hK : K g) : ∀ (f : F) (L : List (Array Value × T)) (o : Nat), L.map (·.2) = kids f → (∀ x ∈ L, NK K u x.1 x.2) → (∀ j v, (L.flatMap (·.1.toList))[j]? = some v → u.cell? ⟨g, o + j, none⟩ = some v) → InK K u ⟨g, o, none⟩ f := by
 intro f
 induction f with
 | nil => intro L o _ _ _; trivial
 | node b o' l f r ihf ihr =>
  intro L o h1 h2 h3
  cases L with
  | nil => simp [kids] at h1
  | cons x L =>
   rw [List.map_cons, kids, List.cons.injEq] at h1
   obtain ⟨e, h1⟩ := h1
   obtain ⟨p, n, c, e1, e2, e3⟩ := h2 x (by simp)
   rw [e] at e1 e2 e3
   have hl : x.1.toList = lcl l (.slice p n c) := by rw [e1]; simp [lcs]
   refine ⟨⟨p, n, c, hK, fun j v hj => ?_, e2, e3⟩, ?_⟩
   ·rw [Addr.add_mid]
    refine h3 j v ?_
    rw [List.flatMap_cons, hl, List.getElem?_append_left (List.getElem?_eq_some_iff.1 hj).1]
    exact hj
   ·rw [Addr.add_mid]
    refine ihr L (o + 18) h1 (fun y hy => h2 y (by simp [hy])) (fun j v hj => ?_)
    rw [Nat.add_assoc]
    refine h3 _ _ ?_
    rw [List.flatMap_cons, hl, List.getElem?_append_right (by rw [lcl_len]; omega), lcl_len, Nat.add_sub_cancel_left]
    exact hj
theorem frozen_of_heap {w w' : World} {g : Nat} (h : w'.heap[g]? = w.heap[g]?) (o : Nat) (hf : w.frozen? ⟨g, o, none⟩ = false) : w'.frozen? ⟨g, o, none⟩ = false := by
 unfold World.frozen? at hf ⊢
 rw [h]
 exact hf
structure CP (K : Nat → Prop) (w : World) (t : T) (q : Option Addr) (n cq k : Nat) (u : World) (L : List (Array Value × T)) : Prop where
 box : u.heap[w.heap.size]? = some (.cells (lcs t.1 (.slice q n cq)) 28)
 res : u.heap[w.heap.size + 1]? = some (.cells nd0 28)
 len : L.map (·.2) = kids t.2
 row : n = 0 ∨ ∃ g, q = some ⟨g, 0, none⟩ ∧ w.heap.size + 2 ≤ g ∧ g < u.heap.size ∧ RowC u g L ∧ (∀ o, u.frozen? ⟨g, o, none⟩ = false) ∧ ∀ i x, L[i]? = some x → (i < k → NK (fun i => w.heap.size + 2 ≤ i ∧ i ≠ g) u x.1 x.2) ∧ (k ≤ i → NK K u x.1 x.2)
 bel : Below w.heap.size w u
theorem CP.begin {K : Nat → Prop} {w u : World} {t : T} {q : Option Addr} {n cq : Nat} {L : List (Array Value × T)} (hz : w.heap.size + 2 ≤ u.heap.size) (h0 : u.heap[w.heap.size]? = some (.cells (lcs t.1 (.slice q n cq)) 28)) (h1 : u.heap[w.heap.size + 1]? = some (.cells nd0 28)) (hO : OwnN (w.heap.size + 2) u (.slice q n cq) L) (hL : L.map (·.2) = kids t.2) (hN : ∀ x ∈ L, NK K u x.1 x.2) (hb : Below w.heap.size w u) : CP K w t q n cq 0 u L := by
 refine ⟨h0, h1, hL, ?_, hb⟩
 rcases hO.2 with ⟨e, h⟩ | ⟨g, cap, cur, e, hg, hh, hle, hm, hc, ht⟩
 ·left; cases e; rfl
 ·right
  have hq : q = some ⟨g, 0, none⟩ := by cases e; rfl
  subst hq
  refine ⟨g, rfl, hg, lt_of hh, RowC.of hO (fun x hx => (hN x hx).size), fun o => ?_, fun i x hi => ⟨fun h => absurd h (Nat.not_lt_zero _), fun _ => hN x (List.mem_of_getElem? hi)⟩⟩
  unfold World.frozen?
  rw [hh]
  simp
theorem ld26 {u : World} {g : Nat} {v : Value} (h : u.cell? ⟨g, 17, none⟩ = some v) : (Instr.loadAt 26 (.pointer (some ⟨g, 17, none⟩))).run Tryz.prog u = .ok v u := by
 go_simp
 try simp [h]
theorem CP.clone {K : Nat → Prop} {w : World} {t : T} {p : Option Addr} {n c : Nat} (hn9 : n ≤ 900) (hK : ∀ i, K i → i < w.heap.size) (hs : SK K w p n t.2) :
  Calls Tryz.prog 71 #[.slice p n c] ((w.alloc (.cells (lcs t.1 (.slice p n c)) 28)).alloc (.cells nd0 28)) fun e w1 => ∃ q cq L, e = .returned (.slice q n cq) ∧ w1.cell? ⟨w.heap.size, 17, none⟩ = some (.slice p n c) ∧ w1.frozen? ⟨w.heap.size, 17, none⟩ = false ∧ Hid (CP K w t q n cq 0 (w1.setCell ⟨w.heap.size, 17, none⟩ (.slice q n cq)) L) := by
 have hB : Below w.heap.size w ((w.alloc (.cells (lcs t.1 (.slice p n c)) 28)).alloc (.cells nd0 28)) := bel_alloc (bel_alloc (Below.refl _ _) _) _
 have hz : ((w.alloc (.cells (lcs t.1 (.slice p n c)) 28)).alloc (.cells nd0 28)).heap.size = w.heap.size + 2 := by simp
 have hb0 : ((w.alloc (.cells (lcs t.1 (.slice p n c)) 28)).alloc (.cells nd0 28)).heap[w.heap.size]? = some (.cells (lcs t.1 (.slice p n c)) 28) := (Below.heap_alloc _ _ _ (by simp)).trans (heap_alloc_new w _)
 have hb1 : ((w.alloc (.cells (lcs t.1 (.slice p n c)) 28)).alloc (.cells nd0 28)).heap[w.heap.size + 1]? = some (.cells nd0 28) := by
  have := heap_alloc_new (w.alloc (.cells (lcs t.1 (.slice p n c)) 28)) (.cells nd0 28)
  simpa using this
 generalize (w.alloc (.cells (lcs t.1 (.slice p n c)) 28)).alloc (.cells nd0 28) = W2 at *
 refine (clone_any K W2 p n c t.2 (hs.grown (grown_below (row := none) hB) (fun g e => by cases e)) hn9 (fun i hi => by have := hK i hi; omega)).mono ?_
 rintro e w1 ⟨v, L, rfl, hO, hL, hN, hb⟩
 obtain ⟨q, cq, rfl⟩ := ownN_slice hO
 have hlen : L.length = n := by rw [hs.1, ← hL, List.length_map]
 have h0 : w1.heap[w.heap.size]? = some (.cells (lcs t.1 (.slice p n c)) 28) := (hb.block _ (by omega)).trans hb0
 have h1 : w1.heap[w.heap.size + 1]? = some (.cells nd0 28) := (hb.block _ (by omega)).trans hb1
 have hG : w1.grownBy (w1.setCell ⟨w.heap.size, 17, none⟩ (.slice q n cq)) (some w.heap.size) := Go.Lib.grownBy_setCell _ _ _ _
 have hz1 := hb.size
 rw [hlen] at hO
 refine ⟨q, cq, L, by rw [hlen], cell17 h0, ?_, CP.begin ?_ ?_ ?_ (ownsRow_setCell_below (base := w.heap.size + 2) (by rw [← hz]; exact hO) (by simp) _) hL (fun x hx => (hN x hx).grown hG (fun g e hk => by cases e; exact absurd (hK _ hk) (by omega))) ?_⟩
 ·unfold World.frozen?
  rw [h0]
  simp
 ·have := hG.size; omega
 ·rw [heap_setCell_same w1 w.heap.size 17 _ 28 _ h0]
  rfl
 ·rw [heap_setCell_other _ _ _ _ (by simp)]; exact h1
 ·exact (bel_step hB hb).setCell (by simp) _
end Go.Proofs.YtljmklbbngpllaaGreatDoor
namespace Go.Proofs.YtljmklbbngpllaaGreatDoor.Rw
open Go.RowKit Go.Fm
structure RP (f : T → T) (K : Nat → Prop) (w : World) (t : T) (q : Option Addr) (n cq k : Nat) (u : World) (L : List (Array Value × T)) : Prop where
 box : u.heap[w.heap.size]? = some (.cells (lcs t.1 (.slice q n cq)) 28)
 res : u.heap[w.heap.size + 1]? = some (.cells nd0 28)
 len : L.length = (kids t.2).length
 old : ∀ i x, L[i]? = some x → k ≤ i → (kids t.2)[i]? = some x.2
 new : ∀ i x, L[i]? = some x → i < k → ∃ s, (kids t.2)[i]? = some s ∧ x.2 = f s
 row : n = 0 ∨ ∃ g, q = some ⟨g, 0, none⟩ ∧ w.heap.size + 2 ≤ g ∧ g < u.heap.size ∧ RowC u g L ∧ (∀ o, u.frozen? ⟨g, o, none⟩ = false) ∧ ∀ i x, L[i]? = some x → (i < k → NK (fun i => w.heap.size + 2 ≤ i ∧ i ≠ g) u x.1 x.2) ∧ (k ≤ i → NK K u x.1 x.2)
 bel : Below w.heap.size w u
theorem RP.of {f : T → T} {K : Nat → Prop} {w u : World} {t : T} {q : Option Addr} {n cq : Nat} {L : List (Array Value × T)} (h : CP K w t q n cq 0 u L) : RP f K w t q n cq 0 u L :=
 ⟨h.box, h.res, by rw [← h.len, List.length_map], fun i x hi _ => by rw [← h.len, List.getElem?_map, hi]; rfl, fun i x _ hk => absurd hk (Nat.not_lt_zero _), h.row, h.bel⟩
theorem RP.map {f : T → T} {K : Nat → Prop} {w u : World} {t : T} {q : Option Addr} {n cq : Nat} {L : List (Array Value × T)} (h : RP f K w t q n cq n u L) (hn : n = (kids t.2).length) : L.map (·.2) = (kids t.2).map f := by
 refine List.ext_getElem? fun i => ?_
 rw [List.getElem?_map, List.getElem?_map]
 cases hi : L[i]? with
 | none =>
  have : L.length ≤ i := List.getElem?_eq_none_iff.1 hi
  rw [h.len] at this
  rw [List.getElem?_eq_none_iff.2 this]; rfl
 | some x =>
  have hlt : i < L.length := (List.getElem?_eq_some_iff.1 hi).1
  obtain ⟨s, e1, e2⟩ := h.new i x hi (by rw [hn, ← h.len]; exact hlt)
  rw [e1]; simp [e2]
theorem RP.done {f : T → T} {K : Nat → Prop} {w u : World} {t : T} {q : Option Addr} {n cq : Nat} {L : List (Array Value × T)} (h : RP f K w t q n cq n u L) (hn : n = (kids t.2).length) {F2 : F} (hF : kids F2 = (kids t.2).map f) : NK (fun i => w.heap.size + 2 ≤ i) u (lcs t.1 (.slice q n cq)) (t.1, F2) := by
 refine ⟨q, n, cq, rfl, by rw [hn]; simp [hF], ?_⟩
 have hlen : L.length = n := by rw [hn, h.len]
 rcases h.row with h0 | ⟨g, rfl, hg, hlt, hr, hf, hx⟩
 ·left
  rw [h0] at hn
  have h2 : (kids F2).length = 0 := by rw [hF, List.length_map, ← hn]
  cases F2 with
  | nil => rfl
  | node _ _ _ _ _ => simp [kids] at h2
 ·right
  have hxx : ∀ x ∈ L, NK (fun i => w.heap.size + 2 ≤ i) u x.1 x.2 := fun x hm => by
   obtain ⟨i, hi, e⟩ := List.getElem_of_mem hm
   exact ((hx i x (by rw [List.getElem?_eq_getElem hi, e])).1 (by omega)).mono (fun j hj _ => hj.1)
  refine ⟨_, rfl, InK.rowF (K := fun i => w.heap.size + 2 ≤ i) hg F2 L 0 (by rw [h.map hn, hF]) hxx (hr.flat fun x hm => ⟨(hxx x hm).size, (hxx x hm).one⟩)⟩
theorem RP.step {f : T → T} {K : Nat → Prop} {w u u2 : World} {t : T} {q : Option Addr} {n cq k : Nat} {L : List (Array Value × T)} (hK : ∀ i, K i → i < w.heap.size) (h : RP f K w t q n cq k u L) {g : Nat} (hq : q = some ⟨g, 0, none⟩) (hk : k < n) (hn : n = (kids t.2).length) (hb : Below u.heap.size u u2) {x : Array Value × T} (hx : L[k]? = some x) {es : Array Value} (hs : NK (fun i => u.heap.size ≤ i) u2 es (f x.2)) :
  (Instr.storeAt 28 (.pointer (some ⟨g, k * 18, none⟩)) (.agg es)).run Tryz.prog u2 = .ok () (u2.setCells g (k * 18) es.toList) ∧ RP f K w t q n cq (k + 1) (u2.setCells g (k * 18) es.toList) (L.set k (es, f x.2)) := by
 have hlen : L.length = n := by rw [hn, h.len]
 have hz := h.bel.size
 have hz3 := lt_of h.res
 rcases h.row with h0 | ⟨g', e, hg, hlt, hr, hf, hxx⟩
 ·omega
 ·rw [hq] at e
  cases e
  have hr2 : RowC u2 g L := hr.grown (grown_below (row := none) hb) (by simp)
  have hL : ∀ x ∈ L, x.1.size = 18 := fun x hm => by
   obtain ⟨i, hi, e⟩ := List.getElem_of_mem hm
   have := hxx i x (by rw [List.getElem?_eq_getElem hi, e])
   by_cases hik : i < k
   ·exact (this.1 hik).size
   ·exact (this.2 (by omega)).size
  have hf2 : ∀ o, u2.frozen? ⟨g, o, none⟩ = false := fun o => frozen_of_heap (hb.block g hlt) o (hf o)
  have hG : u2.grownBy (u2.setCells g (k * 18) es.toList) (some g) := grown_setCells g _ _ _
  have hz2 := hb.size
  have hNA : NA' es := ⟨hs.size, hs.one⟩
  refine ⟨hr2.store hL (by omega) hf2 hNA, ?_, ?_, ?_, fun i y hy hi => ?_, fun i y hy hi => ?_, .inr ⟨g, hq, hg, ?_, hr2.set hL (by omega) es (f x.2) hs.size, fun o => by rw [World.frozen?_setCells]; exact hf2 o, fun i y hy => ?_⟩, ?_⟩
  ·rw [hG.block _ (by omega) (by simp; omega), hb.block _ (by omega)]; exact h.box
  ·rw [hG.block _ (by omega) (by simp; omega), hb.block _ (by omega)]; exact h.res
  ·rw [List.length_set, h.len]
  ·rw [List.getElem?_set_ne (by omega)] at hy
   exact h.old i y hy (by omega)
  ·by_cases hik : k = i
   ·subst hik
    rw [List.getElem?_set_self (by omega)] at hy
    cases hy
    exact ⟨x.2, h.old k x hx (Nat.le_refl _), rfl⟩
   ·rw [List.getElem?_set_ne hik] at hy
    exact h.new i y hy (by omega)
  ·have := hG.size; omega
  ·by_cases hi : k = i
   ·subst hi
    rw [List.getElem?_set_self (by omega)] at hy
    cases hy
    exact ⟨fun _ => (hs.mono (fun i hi _ => ⟨by omega, by omega⟩)).grown hG (fun g' e hh => by cases e; exact hh.2 rfl), fun hh => absurd hh (by omega)⟩
   ·rw [List.getElem?_set_ne hi] at hy
    have := hxx i y hy
    refine ⟨fun hh => ((this.1 (by omega)).below hb).grown hG (fun g' e hh => by cases e; exact hh.2 rfl), fun hh => ((this.2 (by omega)).below hb).grown hG (fun g' e hh => ?_)⟩
    cases e
    have := hK _ hh
    omega
  ·exact (h.bel.trans (hb.mono hz)).grown hG (by omega) (fun g' e => by cases e; omega)
end Go.Proofs.YtljmklbbngpllaaGreatDoor.Rw
