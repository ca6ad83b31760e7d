/- RwOpen, RwPure, RList, FClone. -/
import Derived.Test.YtljmklbbngpllaaGreatDoorRwRfNd
set_option linter.unusedVariables false
set_option linter.unusedSimpArgs false
set_option maxHeartbeats 16000000
set_option maxRecDepth 100000
namespace Go.Proofs.YtljmklbbngpllaaGreatDoor.Rw
open Go.ChangeShapes Go.WideShapes Go.RowKit
theorem k9 : Tryz.prog.cellsOf 9 = 1 := by kernel_rfl
theorem k3 : Tryz.prog.cellsOf 3 = 1 := by kernel_rfl
theorem k4 : Tryz.prog.cellsOf 4 = 1 := by kernel_rfl
theorem k30 : Tryz.prog.cellsOf 30 = 4 := by kernel_rfl
theorem k32 : Tryz.prog.cellsOf 32 = 3 := by kernel_rfl
theorem k34 : Tryz.prog.cellsOf 34 = 7 := by kernel_rfl
theorem aKZ {α : Type} {cs : Array α} (h : cs.size = 7) : ∃ c0 c1 c2 c3 c4 c5 c6, cs = #[c0, c1, c2, c3, c4, c5, c6] := by
 obtain ⟨l⟩ := cs
 match l, h with
 | [c0, c1, c2, c3, c4, c5, c6], _ => exact ⟨c0, c1, c2, c3, c4, c5, c6, rfl⟩
theorem aK0 {α : Type} {cs : Array α} (h : cs.size = 4) : ∃ c0 c1 c2 c3, cs = #[c0, c1, c2, c3] := by
 obtain ⟨l⟩ := cs
 match l, h with
 | [c0, c1, c2, c3], _ => exact ⟨c0, c1, c2, c3, rfl⟩
section
variable {H : Type} {enc : TypeId × Value → H} {w : World} {base : Nat} {spare : Nat → Bool} {held : Bool}
theorem aFS {r : Reach} {b0 : Nat} {v : Value} {d : DataW H} {p : List MemPlace} (hv : Value.okWide Tryz.prog w r b0 30 v) (h : DataW.Trod enc Tryz.prog w base spare held 30 v d p) :
  ∃ (b s : ByteArray) (r c : Int), v = xD b s r c := by
 obtain ⟨cs, rfl, hsz⟩ := okWide_struct Tryz.underlying30 hv
 obtain ⟨c0, c1, c2, c3, rfl⟩ := aK0 (hsz.trans k30)
 obtain ⟨fuel, hf⟩ := h
 obtain ⟨xs, n, _, _, hl, hlen, sD⟩ := DataW.trod_struct Tryz.underlying30 hf
 have get : ∀ (i : Nat) (f : Field), _ → i < 4 → ∃ y, DataW.trod enc Tryz.prog w base spare held n f.type (((Value.agg #[c0, c1, c2, c3]).cells.toList.drop f.offset).take (Tryz.prog.cellsOf f.type)) = some y :=
  fun i f hf hi => ⟨_, (sD i f hf).trans (List.getElem?_eq_getElem (by rw [hlen]; exact hi))⟩
 obtain ⟨y0, h0⟩ := get 0 _ rfl (by decide)
 obtain ⟨y1, h1⟩ := get 1 _ rfl (by decide)
 obtain ⟨y2, h2⟩ := get 2 _ rfl (by decide)
 obtain ⟨y3, h3⟩ := get 3 _ rfl (by decide)
 obtain ⟨b, e0, _, w0⟩ := DataW.trod_string Tryz.underlying9 h0
 obtain ⟨s, e1, _, w1⟩ := DataW.trod_string Tryz.underlying9 h1
 obtain ⟨r', e2, _⟩ := DataW.trod_int Tryz.underlying3 h2
 obtain ⟨c', e3, _⟩ := DataW.trod_int Tryz.underlying3 h3
 simp [Value.cells, k9] at e0 e1
 simp [Value.cells, k3] at e2 e3
 subst e0 e1 e2 e3
 exact ⟨b, s, r', c', rfl⟩
theorem aAd {n : Nat} {c0 c1 c2 : Value} {x : DataW H × List MemPlace} (h : DataW.trod enc Tryz.prog w base spare held n 32 [c0, c1, c2] = some x) : ∃ a m k : Int, c0 = .int .i64 a ∧ c1 = .int .i64 m ∧ c2 = .int .i64 k := by
 obtain ⟨xs, n, _, _, hl, hlen, sD⟩ := DataW.trod_struct Tryz.underlying32 h
 have get : ∀ (i : Nat) (f : Field), _ → i < 3 → ∃ y, DataW.trod enc Tryz.prog w base spare held n f.type (([c0, c1, c2].drop f.offset).take (Tryz.prog.cellsOf f.type)) = some y :=
  fun i f hf hi => ⟨_, (sD i f hf).trans (List.getElem?_eq_getElem (by rw [hlen]; exact hi))⟩
 obtain ⟨y0, h0⟩ := get 0 _ rfl (by decide)
 obtain ⟨y1, h1⟩ := get 1 _ rfl (by decide)
 obtain ⟨y2, h2⟩ := get 2 _ rfl (by decide)
 obtain ⟨a, e0, _⟩ := DataW.trod_int Tryz.underlying3 h0
 obtain ⟨m, e1, _⟩ := DataW.trod_int Tryz.underlying3 h1
 obtain ⟨k, e2, _⟩ := DataW.trod_int Tryz.underlying3 h2
 simp [k3] at e0 e1 e2
 exact ⟨a, m, k, e0, e1, e2⟩
theorem aFT {r : Reach} {b0 : Nat} {v : Value} {d : DataW H} {p : List MemPlace} (hv : Value.okWide Tryz.prog w r b0 34 v) (h : DataW.Trod enc Tryz.prog w base spare held 34 v d p) : ∃ C : Chg, v = .agg #[.string C.bk, .string C.sh, .bool C.dr, .bool C.co, .int .i64 C.a, .int .i64 C.n, .int .i64 C.m] := by
 obtain ⟨cs, rfl, hsz⟩ := okWide_struct Tryz.underlying34 hv
 obtain ⟨d0, d1, d2, d3, d4, d5, d6, rfl⟩ := aKZ (hsz.trans k34)
 obtain ⟨fuel, hf⟩ := h
 obtain ⟨xs, n, _, _, hl, hlen, sD⟩ := DataW.trod_struct Tryz.underlying34 hf
 have get : ∀ (i : Nat) (f : Field), _ → i < 5 → ∃ y, DataW.trod enc Tryz.prog w base spare held n f.type (((Value.agg #[d0, d1, d2, d3, d4, d5, d6]).cells.toList.drop f.offset).take (Tryz.prog.cellsOf f.type)) = some y :=
  fun i f hf hi => ⟨_, (sD i f hf).trans (List.getElem?_eq_getElem (by rw [hlen]; exact hi))⟩
 obtain ⟨y0, h0⟩ := get 0 _ rfl (by decide)
 obtain ⟨y1, h1⟩ := get 1 _ rfl (by decide)
 obtain ⟨y2, h2⟩ := get 2 _ rfl (by decide)
 obtain ⟨y3, h3⟩ := get 3 _ rfl (by decide)
 obtain ⟨y4, h4⟩ := get 4 _ rfl (by decide)
 obtain ⟨b, e0, _, _⟩ := DataW.trod_string Tryz.underlying9 h0
 obtain ⟨s, e1, _, _⟩ := DataW.trod_string Tryz.underlying9 h1
 obtain ⟨dr, e2, _⟩ := DataW.trod_bool Tryz.underlying4 h2
 obtain ⟨co, e3, _⟩ := DataW.trod_bool Tryz.underlying4 h3
 simp [Value.cells, k9] at e0 e1
 simp [Value.cells, k4] at e2 e3
 simp [Value.cells, k32] at h4
 obtain ⟨a, m, k, e4, e5, e6⟩ := aAd h4
 subst e0 e1 e2 e3 e4 e5 e6
 exact ⟨⟨b, s, dr, co, a, m, k⟩, rfl⟩
end
end Go.Proofs.YtljmklbbngpllaaGreatDoor.Rw
namespace Go.Proofs.YtljmklbbngpllaaGreatDoor.Rw
open Go.RowKit Go.Fm
def top (l : Lab) : Rf := ⟨l.b1, l.h1, l.r1, l.c1, l.fr1, l.fc1⟩
def tof (l : Lab) : Rf := ⟨l.b2, l.h2, l.r2, l.c2, l.fr2, l.fc2⟩
def cK (x : Rf) : Lab := ⟨2, nb, 0, 0, nb, x.b, x.h, x.r, x.c, x.fr, x.fc, nb, nb, 0, 0, false, false⟩
def bN (x y : Rf) : Lab := ⟨3, nb, 0, 0, nb, x.b, x.h, x.r, x.c, x.fr, x.fc, y.b, y.h, y.r, y.c, y.fr, y.fc⟩
def gone : Lab := iH 4 3 nb
def kd (k : Int) : Bool := (k == 2) || (k == 3)
def nm (C : Chg) (H : Hm) (l : Lab) : Bool := kd l.k && ofR C H (top l)
def rfL (C : Chg) (x : Rf) : Lab := if mvB C x = true then cK (mvX C x) else gone
def chR (C : Chg) (x : Rf) : Bool := if mvB C x = true then !eqR (mvX C x) x else true
def arL (C : Chg) (x y : Rf) : Lab := if arB C (lo x y) (hi x y) = true then bN (arX C (lo x y) (hi x y)) (arY C (lo x y) (hi x y)) else gone
def chA (C : Chg) (x y : Rf) : Bool := if arB C (lo x y) (hi x y) = true then (!eqR (arX C (lo x y) (hi x y)) x || !eqR (arY C (lo x y) (hi x y)) y) else true
def rwL (C : Chg) (l : Lab) : Lab := if l.k = 2 then rfL C (top l) else arL C (top l) (tof l)
def rwC (C : Chg) (l : Lab) : Bool := if l.k = 2 then chR C (top l) else chA C (top l) (tof l)
section
variable (C : Chg) (H : Hm)
def rwF : F → F
 | .nil => .nil
 | .node _ _ l f r => if nm C H l = true then .node 0 0 (rwL C l) .nil (rwF r) else .node 0 0 l (rwF f) (rwF r)
def rwA : F → Bool
 | .nil => false
 | .node _ _ l f r => (if nm C H l = true then rwC C l else rwA f) || rwA r
def rwT (t : T) : T := if nm C H t.1 = true then (rwL C t.1, .nil) else (t.1, rwF C H t.2)
def rwB (t : T) : Bool := if nm C H t.1 = true then rwC C t.1 else rwA C H t.2
theorem aCi : ∀ f : F, kids (rwF C H f) = (kids f).map (rwT C H) := by
 intro f
 induction f with
 | nil => rfl
 | node b o l f r ihf ihr =>
  unfold rwF
  rw [kids, List.map_cons]
  unfold rwT
  show kids (if nm C H l = true then _ else _) = (if nm C H l = true then _ else _) :: _
  split <;> rw [kids, ihr] <;> rfl
theorem aJc : ∀ f : F, rwA C H f = (kids f).any (rwB C H) := by
 intro f
 induction f with
 | nil => rfl
 | node b o l f r ihf ihr =>
  unfold rwA
  rw [kids, List.any_cons, ihr]
  rfl
theorem aHO : ∀ f : F, size (rwF C H f) ≤ size f := by
 intro f
 induction f with
 | nil => exact Nat.le_refl _
 | node b o l f r ihf ihr =>
  unfold rwF
  split <;> simp only [size] <;> omega
theorem aIt (t : T) : zT (rwT C H t) ≤ zT t := by
 unfold rwT zT
 have := aHO C H t.2
 split
 ·simp only [size]; omega
 ·simp only; omega
def nmF : F → Bool
 | .nil => false
 | .node _ _ l f r => nm C H l || nmF f || nmF r
def nmT (t : T) : Bool := nm C H t.1 || nmF C H t.2
theorem aFU : ∀ f : F, nmF C H f = (kids f).any (nmT C H) := by
 intro f
 induction f with
 | nil => rfl
 | node b o l f r ihf ihr =>
  unfold nmF
  rw [kids, List.any_cons, ihr]
  rfl
theorem aHP : ∀ f : F, nmF C H f = (pre f).any (fun t => nm C H t.1) := by
 intro f
 induction f with
 | nil => rfl
 | node b o l f r ihf ihr =>
  unfold nmF
  rw [pre, List.any_cons, List.any_append, ihf, ihr, Bool.or_assoc]
theorem aHQ (t : T) : nmT C H t = (dQ t).any (fun t => nm C H t.1) := by
 unfold nmT dQ
 rw [List.any_cons, aHP]
end
end Go.Proofs.YtljmklbbngpllaaGreatDoor.Rw
namespace Go.Proofs.YtljmklbbngpllaaGreatDoor
open Go.RowKit Go.Fm
theorem InF.nk : ∀ {f : F} {w : World} {a : Addr}, InF w a f → InK (fun i => i < w.heap.size) w a f := by
 intro f
 induction f with
 | nil => intro w a _; trivial
 | node b o l f r ihf ihr =>
  intro w a h
  obtain ⟨⟨p, n, c, h1, h2, h3⟩, h4⟩ := h
  have hlt : a.block < w.heap.size := by
   have := World.block_lt_of_cell? w (a.add 0) (h1 0 _ rfl)
   rwa [show (a.add 0).block = a.block by unfold Addr.add; split <;> rfl] at this
  exact ⟨⟨p, n, c, hlt, h1, h2, h3.imp id fun ⟨a', e, hi⟩ => ⟨a', e, ihf hi⟩⟩, ihr h4⟩
theorem NT.nk {w : World} {es : Array Value} {t : T} (h : NT w es t) : NK (fun i => i < w.heap.size) w es t := by
 obtain ⟨p, n, c, e, h1, h2⟩ := h
 exact ⟨p, n, c, e, h1, h2.imp id fun ⟨a, e, hi⟩ => ⟨a, e, hi.nk⟩⟩
theorem InK.get {K : Nat → Prop} : ∀ {f : F} {w : World} {a : Addr}, InK K w a f → ∀ (k : Nat) (hk : k < (kids f).length), ∃ es, (Instr.loadAt 28 (.pointer (some (a.add (k * 18))))).run Tryz.prog w = .ok (.agg es) w ∧ NK K w es (kids f)[k] := by
 intro f
 induction f with
 | nil => intro w a _ k hk; simp [kids] at hk
 | node b o l f r ihf ihr =>
  intro w a h k hk
  obtain ⟨⟨p, n, c, h0, h1, h2, h3⟩, h4⟩ := h
  cases k with
  | zero =>
   refine ⟨lcs l (.slice p n c), ?_, p, n, c, rfl, h2, h3⟩
   have : a.add (0 * 18) = a.add 0 := by simp
   rw [this]
   refine bW w (a.add 0) 28 (lcl l (.slice p n c)) _ (fun j v hj => ?_) Tryz.underlying28 rfl (by rw [iB]; exact bS)
   rw [Go.Deep.add_add, Nat.zero_add]
   exact h1 j v hj
  | succ k =>
   obtain ⟨es, e1, e2⟩ := ihr h4 k (by simpa [kids] using hk)
   refine ⟨es, ?_, e2⟩
   rw [Go.Deep.add_add] at e1
   rw [show (k + 1) * 18 = 18 + k * 18 by omega]
   exact e1
def SK (K : Nat → Prop) (w : World) (p : Option Addr) (n : Nat) (f : F) : Prop := n = (kids f).length ∧ (f = .nil ∨ ∃ a, p = some a ∧ InK K w a f)
theorem SK.grown {K : Nat → Prop} {w w' : World} {p : Option Addr} {n : Nat} {f : F} {row : Option Nat} (h : SK K w p n f) (hg : w.grownBy w' row) (hr : ∀ g, row = some g → ¬ K g) : SK K w' p n f := ⟨h.1, h.2.imp id fun ⟨a, e, hi⟩ => ⟨a, e, hi.grown hg hr⟩⟩
theorem SK.get {K : Nat → Prop} {w : World} {p : Option Addr} {n : Nat} {f : F} (h : SK K w p n f) (k : Nat) (hk : k < n) : ∃ a es t, p = some a ∧ (Instr.loadAt 28 (.pointer (some (a.add (k * 18))))).run Tryz.prog w = .ok (.agg es) w ∧ (kids f)[k]? = some t ∧ NK K w es t := by
 obtain ⟨h1, h2⟩ := h
 rcases h2 with rfl | ⟨a, rfl, hi⟩
 ·simp [kids] at h1; omega
 ·obtain ⟨es, e1, e2⟩ := hi.get k (by omega)
  exact ⟨a, es, _, rfl, e1, List.getElem?_eq_getElem (by omega), e2⟩
def NA' (es : Array Value) : Prop := es.size = 18 ∧ es.all (·.oneCell') = true
theorem aDt {base aJ0 : Nat} {w : World} {v v2 : Value} {L L2 : List (Array Value × T)} (h : eO base w v L) (h2 : eO aJ0 w v2 L2) (hne : L2 ≠ []) (hone : ∀ x ∈ L2, NA' x.1) (hn : L.length + L2.length ≤ 100000) (hbase : base ≤ w.heap.size) :
  ∃ v' w', Hid ((Builtin.append_ #[26, 26] 26 #[v, v2]).run Tryz.prog w = .ok v' w') ∧ eO base w' v' (L ++ L2) ∧ w.grownBy w' v.ownBlock ∧ (v'.ownBlock = v.ownBlock ∨ v'.ownBlock = some w.heap.size) := by
 obtain ⟨i0, hi, hz0, hz1, hz2⟩ := info_parts aAY
 have aJ1 : ∀ M : List (Array Value × T), (∀ x ∈ M, NA' x.1) → (M.flatMap (·.1.toList)).length = M.length * 18 := by
  intro M
  induction M with
  | nil => intro _; rfl
  | cons x M ih =>
   intro hM
   rw [List.flatMap_cons, List.length_append, ih (fun y hy => hM y (by simp [hy])), List.length_cons]
   have := (hM x (by simp)).1
   simp at this ⊢
   omega
 have hc := fun g (hg : v2.ownBlock = some g) => World.ownsRow.cells h2 hg
 rcases h2.2 with ⟨e, h0⟩ | ⟨g, cap, cur, rfl, _, _, hle, _⟩
 ·exact absurd (List.eq_nil_of_length_eq_zero h0) hne
 ·obtain ⟨v', w', r1, o1, g1, _, g2⟩ := run_append_own_at w base 26 26 28 i0 _ 18 192 Tryz.underlying26 hi hz0 hz1 hz2 rfl (by decide) v _ _ h ⟨g, 0, none⟩ L2.length cap (L2.flatMap (·.1.toList)) (aJ1 L2 hone)
   (fun j x hj => hc g rfl j x hj) (by
    intro x hx
    obtain ⟨y, hy, hxy⟩ := List.mem_flatMap.1 hx
    have := (hone y hy).2
    rw [Array.all_eq_true_iff_forall_mem] at this
    exact this x (by simpa using hxy)) (by simp only [maxLen]; omega) (by have := List.length_pos_iff.2 hne; omega) hbase
  refine ⟨v', w', r1, ?_, g1, g2⟩
  unfold eO
  rw [List.length_append, List.flatMap_append]
  exact o1
theorem aDu : ∀ t : T, zT t ≤ 900 → ∀ (K : Nat → Prop) (w : World) (es : Array Value), NK K w es t → (∀ i, K i → i < w.heap.size) → Calls Tryz.prog 32 #[.agg es] w fun e w' => ∃ v L, e = .returned v ∧ eO w.heap.size w' v L ∧ L.map (·.2) = dQ t ∧ (∀ x ∈ L, NK K w' x.1 x.2) ∧ Below w.heap.size w w' := by
 refine ind ?_
 intro t ih hz K w es h hK
 have HK : Hid (∀ s ∈ kids t.2, ∀ (K : Nat → Prop) (w : World) (es : Array Value), NK K w es s → (∀ i, K i → i < w.heap.size) → Calls Tryz.prog 32 #[.agg es] w fun e w' => ∃ v L, e = .returned v ∧ eO w.heap.size w' v L ∧ L.map (·.2) = dQ s ∧ (∀ x ∈ L, NK K w' x.1 x.2) ∧ Below w.heap.size w w') := fun s hs => ih s hs (by have := iZ hs; omega)
 have hpre : (dQ t).length ≤ 900 := by rw [zC]; exact hz
 have hkl := jF t
 have h0 := h
 obtain ⟨p, n, c, rfl, hs⟩ := h
 have HSK : Hid (SK K w p n t.2) := hs
 have H0 := heap_alloc_new w (.cells (lcs t.1 (.slice p n c)) 28)
 have c17 := aY H0
 have HB0 : Below w.heap.size w (w.alloc (.cells (lcs t.1 (.slice p n c)) 28)) := aA (Below.refl _ _) _
 have RL : Hid _ := h0.lod H0
 have RB : Hid ((Instr.buildSlice 26 1 #[(0, .agg (lcs t.1 (.slice p n c)))]).run Tryz.prog (w.alloc (.cells (lcs t.1 (.slice p n c)) 28)) = .ok (.slice (some ⟨w.heap.size + 1, 0, none⟩) 1 1) ((w.alloc (.cells (lcs t.1 (.slice p n c)) 28)).alloc (.cells (lcs t.1 (.slice p n c)) 28))) := by
  have := iO (w.alloc (.cells (lcs t.1 (.slice p n c)) 28)) t.1 p n c
  rw [show (w.alloc (.cells (lcs t.1 (.slice p n c)) 28)).heap.size = w.heap.size + 1 by simp] at this
  exact this
 obtain ⟨W, hW⟩ : ∃ W, (w.alloc (.cells (lcs t.1 (.slice p n c)) 28)).alloc (.cells (lcs t.1 (.slice p n c)) 28) = W := ⟨_, rfl⟩
 have HBW : Hid (Below w.heap.size w W) := by show Below _ _ _; rw [← hW]; exact aA HB0 _
 have HO : Hid (eO w.heap.size W (.slice (some ⟨w.heap.size + 1, 0, none⟩) 1 1) [(lcs t.1 (.slice p n c), t)]) := by
  have := zR (base := w.heap.size) (w := w.alloc (.cells (lcs t.1 (.slice p n c)) 28)) h0 (by simp)
  rw [show (w.alloc (.cells (lcs t.1 (.slice p n c)) 28)).heap.size = w.heap.size + 1 by simp, hW] at this
  exact this
 have aK1 : W.cell? ⟨w.heap.size, 17, none⟩ = some (.slice p n c) := by rw [← hW]; exact bM (aA (Below.refl _ _) _) c17
 have HN0 : Hid (NK K W (lcs t.1 (.slice p n c)) t) := h0.below HBW.out
 rw [hW] at RB
 have HNn : Hid (n = (kids t.2).length) := hs.1
 have HKK : Hid (∀ i, K i → i < w.heap.size) := hK
 have HPR : Hid ((dQ t).length ≤ 900) := hpre
 have aAe : n ≤ 900 := by have := hs.1; omega
 clear ih h0 hs hK hz hkl hpre
 generalize lcs t.1 (.slice p n c) = bx at *
 go_enter Tryz.func32, Tryz.ntmps32
 go_wp2_with (first
  | (refine aB rfl 28 _ rfl _ _ rfl RL.out ?_; clear RL)
  | (refine aT rfl 26 1 _ rfl _ _ _ (by go_simp) RB.out ?_; clear RB))
 clear c17 H0 HB0
 go_loopw [3, 11] (fun v i wr => ∃ (k : Nat) (L : List (Array Value × T)), k ≤ n ∧ i = .int .i64 (k : Nat) ∧ Hid (eO w.heap.size wr v L) ∧ Hid (L.map (·.2) = t :: ((kids t.2).take k).flatMap dQ) ∧ Hid (∀ x ∈ L, NK K wr x.1 x.2) ∧ Hid (Below w.heap.size w wr)) (fun _ i _ => n - (intOf i).toNat)
 case atStart => exact ⟨0, [(bx, t)], Nat.zero_le _, rfl, HO, rfl, fun x hx => by rw [List.mem_singleton.1 hx]; exact HN0.out, HBW⟩
 case round =>
  obtain ⟨k, L, hk, rfl, HW, HL, HN, HB⟩ := hrel
  clear HO HN0 HBW aK1
  obtain ⟨va, vc, rfl⟩ := fU HW.out
  by_cases hlt : k < n
  ·have hki : (k : Int) < n := by omega
   have aJ2 : SK K wr p n t.2 := HSK.out.grown (aZ (row := none) HB.out) (fun g e => by cases e)
   obtain ⟨a', es, s, rfl, RL, HI, hNK⟩ := aJ2.get k hlt
   have RLh : Hid _ := RL
   obtain ⟨b1, b2⟩ := kC wr hNK.nt
   have RS : Hid _ := b1
   have RL2 : Hid _ := b2 _ (heap_alloc_new wr _)
   have HM : s ∈ kids t.2 := List.mem_of_getElem? HI
   have hKr : ∀ i, K i → i < (wr.alloc (.cells es 28)).heap.size := fun i hi => by have := HKK.out i hi; have := HB.out.size; simp; omega
   have C := HK.out s HM K (wr.alloc (.cells es 28)) es (hNK.below (aA (Below.refl _ _) _)) hKr
   have hlenL : L.length ≤ 900 := by
    have h1 := congrArg List.length HL.out
    rw [List.length_map] at h1
    have h2 := HPR.out
    unfold dQ at h2
    rw [gW] at h2
    have h3 : (((kids t.2).take k).flatMap dQ).length ≤ ((kids t.2).flatMap dQ).length := by
     conv => rhs; rw [← List.take_append_drop k (kids t.2), List.flatMap_append, List.length_append]
     omega
    simp only [List.length_cons] at h1 h2
    omega
   have aFa : (dQ s).length ≤ 900 := by
    have h2 := HPR.out
    unfold dQ at h2
    rw [gW] at h2
    have h3 : (dQ s).length ≤ ((kids t.2).flatMap dQ).length := by
     have : ∀ l : List T, s ∈ l → (dQ s).length ≤ (l.flatMap dQ).length := by
      intro l
      induction l with
      | nil => intro h; cases h
      | cons x l ihl =>
       intro h
       rw [List.flatMap_cons, List.length_append]
       rcases List.mem_cons.1 h with rfl | h
       ·omega
       ·have := ihl h; omega
     exact this _ HM
    simp only [List.length_cons] at h2
    omega
   have HT : Hid ((t :: ((kids t.2).take k).flatMap dQ) ++ dQ s = t :: ((kids t.2).take (k + 1)).flatMap dQ) := by
    show _ = _
    have hkl : k < (kids t.2).length := by have := HNn.out; omega
    have hsk : (kids t.2)[k] = s := by rw [List.getElem?_eq_getElem hkl] at HI; exact Option.some.inj HI
    rw [List.take_succ_eq_append_getElem hkl, List.flatMap_append, hsk]
    simp
   have C' : Calls Tryz.prog 32 #[.agg es] (wr.alloc (.cells es 28)) fun e w3 => ∃ v2 v' w5 L', e = .returned v2 ∧ Hid ((Builtin.append_ #[26, 26] 26 #[.slice va L.length vc, v2]).run Tryz.prog w3 = .ok v' w5) ∧ Hid (eO w.heap.size w5 v' L') ∧ Hid (L'.map (·.2) = t :: ((kids t.2).take (k + 1)).flatMap dQ) ∧ Hid (∀ x ∈ L', NK K w5 x.1 x.2) ∧ Hid (Below w.heap.size w w5) := C.mono (by
    rintro e w3 ⟨v2, L2, rfl, o2, m2, n2, b3⟩
    have hB3 : Below w.heap.size w w3 := aG (aA HB.out _) b3
    have hW3 : eO w.heap.size w3 (.slice va L.length vc) L := fV HW.out (aZ (row := none) (aG (aA (Below.refl _ _) (.cells es 28)) b3)) (by cases (Value.slice va L.length vc).ownBlock <;> simp)
    have hL2 : L2.length = (dQ s).length := by rw [← m2, List.length_map]
    have hne2 : L2 ≠ [] := by
     intro e
     rw [e] at hL2
     unfold dQ at hL2
     simp at hL2
    obtain ⟨v', w5, R, o5, g5, g6⟩ := aDt hW3 o2 hne2 (fun x hx => ⟨(n2 x hx).size, (n2 x hx).one⟩) (by omega) hB3.size
    have hown : ∀ g, (Value.slice va L.length vc).ownBlock = some g → w.heap.size ≤ g := fun g hg => (World.ownsRow.lt HW.out g hg).1
    have hnk : ∀ g, (Value.slice va L.length vc).ownBlock = some g → ¬ K g := fun g hg hk => by have := hown g hg; have := HKK.out g hk; omega
    refine ⟨v2, v', w5, L ++ L2, rfl, R, o5, ?_, fun x hx => ?_, hB3.grown g5 hB3.size hown⟩
    ·show _ = _
     rw [List.map_append, HL.out, m2, HT.out]
    ·rcases List.mem_append.1 hx with hx | hx
     ·exact ((HN.out x hx).below (aG (aA (Below.refl _ _) (.cells es 28)) b3)).grown g5 hnk
     ·exact (n2 x hx).grown g5 hnk)
   clear C HI hNK RL b1 b2 HM hKr aJ2 HT hlenL aFa HL HN HW
   go_wp2_with (first
    | (refine aB rfl 28 _ rfl _ _ rfl RLh.out ?_; clear RLh)
    | (refine aD rfl 28 _ _ rfl _ _ _ rfl rfl RS.out ?_; clear RS)
    | (refine aB rfl 28 _ rfl _ _ rfl RL2.out ?_; clear RL2)
    | (go_at_call 32; refine C'.mono ?_; rintro e w3 ⟨v2, v', w5, L', rfl, RA, HO5, HL5, HN5, HB5⟩)
    | (at_builtin; refine wpList_append_run rfl _ _ 26 rfl _ _ _ _ rfl rfl RA.out ?_))
   go_roundw
   case rel => exact ⟨k + 1, L', by omega, by go_num, HO5, HL5, HN5, HB5⟩
   case measure => simp [intOf]; omega
  ·have hki : ¬ (k : Int) < n := by omega
   have HE : Hid (L.map (·.2) = dQ t) := by
    show _ = _
    rw [HL.out, List.take_of_length_le (by have := HNn.out; omega)]
    unfold dQ
    rw [gW]
    rfl
   go_wp2
   go_ret
   exact ⟨_, rfl, L, HW.out, HE.out, fun _ _ _ h => HN.out _ h, HB.out⟩
end Go.Proofs.YtljmklbbngpllaaGreatDoor
namespace Go.Proofs.YtljmklbbngpllaaGreatDoor
open Go.RowKit Go.Fm
theorem InK.flat {K : Nat → Prop} : ∀ {f : F} {w : World} {a : Addr}, InK K w a f → ∃ L : List (Array Value × T), L.map (·.2) = kids f ∧ (∀ x ∈ L, NK K w x.1 x.2) ∧ ∀ j v, (L.flatMap (·.1.toList))[j]? = some v → w.cell? (a.add j) = some v := by
 intro f
 induction f with
 | nil => intro w a _; exact ⟨[], rfl, fun x hx => absurd hx List.not_mem_nil, fun j v hj => by simp at hj⟩
 | node b o l f r ihf ihr =>
  intro w a h
  obtain ⟨⟨p, n, c, h0, h1, h2, h3⟩, h4⟩ := h
  obtain ⟨L, e1, e2, e3⟩ := ihr h4
  refine ⟨(lcs l (.slice p n c), (l, f)) :: L, ?_, fun x hx => ?_, fun j v hj => ?_⟩
  ·rw [List.map_cons, e1]; rfl
  ·rcases List.mem_cons.1 hx with rfl | hx
   ·exact ⟨p, n, c, rfl, h2, h3⟩
   ·exact e2 x hx
  ·rw [List.flatMap_cons] at hj
   have hl : (lcs l (.slice p n c)).toList = lcl l (.slice p n c) := by simp [lcs]
   rw [show ((lcs l (.slice p n c), ((l, f) : T)).1).toList = lcl l (.slice p n c) from hl] at hj
   by_cases hjl : j < 18
   ·rw [List.getElem?_append_left (by rw [iB]; exact hjl)] at hj
    exact h1 j v hj
   ·rw [List.getElem?_append_right (by rw [iB]; omega), iB] at hj
    have := e3 _ _ hj
    rw [Go.Deep.add_add, show 18 + (j - 18) = j by omega] at this
    exact this
theorem sG : ∀ M : List (Array Value × T), (∀ x ∈ M, NA' x.1) → (M.flatMap (·.1.toList)).length = M.length * 18 := by
 intro M
 induction M with
 | nil => intro _; rfl
 | cons x M ih =>
  intro hM
  rw [List.flatMap_cons, List.length_append, ih (fun y hy => hM y (by simp [hy])), List.length_cons]
  have := (hM x (by simp)).1
  simp at this ⊢
  omega
theorem aBi (w : World) : (Instr.buildSlice 26 0 #[]).run Tryz.prog w = .ok (.slice (some ⟨w.heap.size, 0, none⟩) 0 0) (w.alloc (.cells #[] 28)) := by kernel_rfl
theorem aJ3 (w : World) (n c : Nat) : (binOp .eql 26 (.slice none n c) (.slice none 0 0)).run Tryz.prog w = .ok (.bool true) w := by kernel_rfl
theorem aJd (w : World) (a : Addr) (n c : Nat) : (binOp .eql 26 (.slice (some a) n c) (.slice none 0 0)).run Tryz.prog w = .ok (.bool false) w := by kernel_rfl
attribute [local go_sem] aJ3 aJd
theorem aDv (K : Nat → Prop) (w : World) (p : Option Addr) (n c : Nat) (f : F) (h : SK K w p n f) (hn : n ≤ 900) (hK : ∀ i, K i → i < w.heap.size) : Calls Tryz.prog 71 #[.slice p n c] w fun e w' => ∃ v L, e = .returned v ∧ eO w.heap.size w' v L ∧ L.map (·.2) = kids f ∧ (∀ x ∈ L, NK K w' x.1 x.2) ∧ Below w.heap.size w w' := by
 obtain ⟨i0, hi, hz0, hz1, hz2⟩ := info_parts aAY
 cases p with
 | none =>
  have hf : f = .nil := h.2.elim id (fun ⟨a, e, _⟩ => by cases e)
  subst hf
  have hn0 : n = 0 := h.1
  subst hn0
  go_enter Tryz.func71, Tryz.ntmps71
  go_wp2
  go_ret
  exact ⟨_, [], rfl, ⟨rfl, .inl ⟨rfl, rfl⟩⟩, rfl, fun x hx => absurd hx List.not_mem_nil, Below.refl _ _⟩
 | some a =>
  have RZ : Hid _ := aBi w
  have HX : ∃ L : List (Array Value × T), L.map (·.2) = kids f ∧ (∀ x ∈ L, NK K w x.1 x.2) ∧ ∀ j v, (L.flatMap (·.1.toList))[j]? = some v → w.cell? (a.add j) = some v := by
   rcases h.2 with rfl | ⟨a', e, hi⟩
   ·exact ⟨[], rfl, fun x hx => absurd hx List.not_mem_nil, fun j v hj => by simp at hj⟩
   ·cases e; exact hi.flat
  obtain ⟨L, l1, l2, l3⟩ := HX
  have hnL : n = L.length := by rw [h.1, ← l1, List.length_map]
  have hB1 : Below w.heap.size w (w.alloc (.cells #[] 28)) := aA (Below.refl _ _) _
  have hone : ∀ x ∈ L, NA' x.1 := fun x hx => ⟨(l2 x hx).size, (l2 x hx).one⟩
  obtain ⟨v', w', r1, o1, g1, _, g2⟩ := run_append_own_at (w.alloc (.cells #[] 28)) w.heap.size 26 26 28 i0 _ 18 192 Tryz.underlying26 hi hz0 hz1 hz2 rfl (by decide) (.slice (some ⟨w.heap.size, 0, none⟩) 0 0) 0 [] ⟨rfl, .inr ⟨w.heap.size, 0, #[], rfl, Nat.le_refl _, heap_alloc_new w _, Nat.le_refl _, by simp [maxLen], rfl, rfl⟩⟩ a n c (L.flatMap (·.1.toList)) (by rw [hnL]; exact sG L hone)
   (fun j x hj => bM hB1 (l3 j x hj)) (by
    intro x hx
    obtain ⟨y, hy, hxy⟩ := List.mem_flatMap.1 hx
    have := (hone y hy).2
    rw [Array.all_eq_true_iff_forall_mem] at this
    exact this x (by simpa using hxy)) (by simp only [maxLen]; omega) (by omega) (by simp)
  have RA : Hid _ := r1
  have hown : ∀ g, (Value.slice (some ⟨w.heap.size, 0, none⟩) 0 0).ownBlock = some g → w.heap.size ≤ g := fun g hg => by cases hg; exact Nat.le_refl _
  have HO : Hid (eO w.heap.size w' v' L) := by
   show eO _ _ _ _
   unfold eO
   rw [Nat.zero_add, List.nil_append, hnL] at o1
   exact o1
  have HN : Hid (∀ x ∈ L, NK K w' x.1 x.2) := fun x hx => ((l2 x hx).below hB1).grown g1 (fun g hg hk => by have := hown g hg; have := hK g hk; omega)
  have HB : Hid (Below w.heap.size w w') := hB1.grown g1 hB1.size hown
  have HL1 : Hid (L.map (·.2) = kids f) := l1
  clear r1 o1 g1 g2 l3 l2 hone hi hz0 hz1 hz2 h hnL hown l1
  go_enter Tryz.func71, Tryz.ntmps71
  go_wp2_with (first
   | (refine aT rfl 26 0 _ rfl _ _ _ (by go_simp) RZ.out ?_; clear RZ)
   | (at_builtin; refine wpList_append_run rfl _ _ 26 rfl _ _ _ _ rfl rfl RA.out ?_; clear RA))
  go_ret
  exact ⟨_, L, rfl, HO.out, HL1.out, HN.out, HB.out⟩
end Go.Proofs.YtljmklbbngpllaaGreatDoor
