/- FOpen, RgR. -/
import Derived.ChangeArms
import Derived.ChangeOld
import Derived.RangeFuncBound
import Derived.RangeFuncNested
import Derived.RangeFuncWrites
import Derived.WideShapes
import Derived.Test.YtnibldnfbikipaaGreatDoorFGoodFp
set_option linter.unusedVariables false
set_option linter.unusedSimpArgs false
set_option maxHeartbeats 16000000
set_option maxRecDepth 100000
namespace Go.Proofs.YtnibldnfbikipaaGreatDoor
open Go.ChangeShapes Go.WideShapes Go.RowKit Go.Fm
theorem wideF : Tryz.prog.cellsOf 3 = 1 ∧ Tryz.prog.cellsOf 4 = 1 ∧ Tryz.prog.cellsOf 9 = 1 ∧ Tryz.prog.cellsOf 62 = 3 ∧ Tryz.prog.cellsOf 64 = 6 ∧ Tryz.prog.cellsOf 65 = 1 ∧ Tryz.prog.cellsOf 67 = 18 := by
 refine ⟨?_, ?_, ?_, ?_, ?_, ?_, ?_⟩ <;> kernel_rfl
section
variable {H : Type} {enc : TypeId × Value → H} {w : World} {base : Nat} {spare : Nat → Bool} {held : Bool}
theorem open_valc {n : Nat} {c0 c1 c2 : Value} {x : DataW H × List MemPlace} (h : DataW.trod enc Tryz.prog w base spare held n 62 [c0, c1, c2] = some x) : ∃ (k m : Int) (s : ByteArray), c0 = .int .i64 k ∧ c1 = .int .i64 m ∧ c2 = .string s := by
 obtain ⟨f3, f4, f9, f23, f25, f26, f28⟩ := wideF
 obtain ⟨xs, n, _, _, hl, hlen, hfld⟩ := DataW.trod_struct Tryz.underlying62 h
 have get : ∀ (i : Nat) (f : Field), _ → i < 3 → ∃ y, DataW.trod enc Tryz.prog w base spare held n f.type (([c0, c1, c2].drop f.offset).take (Tryz.prog.cellsOf f.type)) = some y :=
  fun i f hf hi => ⟨_, (hfld i f hf).trans (List.getElem?_eq_getElem (by rw [hlen]; exact hi))⟩
 obtain ⟨y0, h0⟩ := get 0 _ rfl (by decide)
 obtain ⟨y1, h1⟩ := get 1 _ rfl (by decide)
 obtain ⟨y2, h2⟩ := get 2 _ rfl (by decide)
 obtain ⟨k, e0, _⟩ := DataW.trod_int Tryz.underlying3 h0
 obtain ⟨m, e1, _⟩ := DataW.trod_int Tryz.underlying3 h1
 obtain ⟨s, e2, _, _⟩ := DataW.trod_string Tryz.underlying9 h2
 simp [f3] at e0 e1
 simp [f9] at e2
 exact ⟨k, m, s, e0, e1, e2⟩
theorem open_refc {n : Nat} {c0 c1 c2 c3 c4 c5 : Value} {x : DataW H × List MemPlace} (h : DataW.trod enc Tryz.prog w base spare held n 64 [c0, c1, c2, c3, c4, c5] = some x) :
  ∃ (b s : ByteArray) (r c : Int) (fr fc : Bool), c0 = .string b ∧ c1 = .string s ∧ c2 = .int .i64 r ∧ c3 = .int .i64 c ∧ c4 = .bool fr ∧ c5 = .bool fc ∧ b.size ≤ maxLen ∧ s.size ≤ maxLen := by
 obtain ⟨f3, f4, f9, f23, f25, f26, f28⟩ := wideF
 obtain ⟨xs, n, _, _, hl, hlen, hfld⟩ := DataW.trod_struct Tryz.underlying64 h
 have get : ∀ (i : Nat) (f : Field), _ → i < 6 → ∃ y, DataW.trod enc Tryz.prog w base spare held n f.type (([c0, c1, c2, c3, c4, c5].drop f.offset).take (Tryz.prog.cellsOf f.type)) = some y :=
  fun i f hf hi => ⟨_, (hfld i f hf).trans (List.getElem?_eq_getElem (by rw [hlen]; exact hi))⟩
 obtain ⟨y0, h0⟩ := get 0 _ rfl (by decide)
 obtain ⟨y1, h1⟩ := get 1 _ rfl (by decide)
 obtain ⟨y2, h2⟩ := get 2 _ rfl (by decide)
 obtain ⟨y3, h3⟩ := get 3 _ rfl (by decide)
 obtain ⟨y4, h4⟩ := get 4 _ rfl (by decide)
 obtain ⟨y5, h5⟩ := get 5 _ rfl (by decide)
 obtain ⟨b, e0, _, w0⟩ := DataW.trod_string Tryz.underlying9 h0
 obtain ⟨s, e1, _, w1⟩ := DataW.trod_string Tryz.underlying9 h1
 obtain ⟨r', e2, _⟩ := DataW.trod_int Tryz.underlying3 h2
 obtain ⟨c', e3, _⟩ := DataW.trod_int Tryz.underlying3 h3
 obtain ⟨fr, e4, _⟩ := DataW.trod_bool Tryz.underlying4 h4
 obtain ⟨fc, e5, _⟩ := DataW.trod_bool Tryz.underlying4 h5
 simp [f9] at e0 e1
 simp [f3] at e2 e3
 simp [f4] at e4 e5
 exact ⟨b, s, r', c', fr, fc, e0, e1, e2, e3, e4, e5, w0, w1⟩
theorem rowIn {w : World} : ∀ (len : Nat) (a : Addr), (∀ i, i < len → ∃ (cs : List Value) (t : T), (∀ j v, cs[j]? = some v → w.cell? ((a.add (i * 18)).add j) = some v) ∧ NT w cs.toArray t ∧ ZT t) → ∃ ts : List T, ts.length = len ∧ InF w a (mk ts) ∧ ∀ t ∈ ts, ZT t
 | 0, a, _ => ⟨[], rfl, trivial, fun t h => by cases h⟩
 | len + 1, a, h => by
  obtain ⟨cs, t, h1, ⟨p, n, c, e, hs⟩, h3⟩ := h 0 (by omega)
  obtain ⟨ts, e1, e2, e3⟩ := rowIn len (a.add 18) fun i hi => by
   obtain ⟨cs, t, h1, h2, h3⟩ := h (i + 1) (by omega)
   refine ⟨cs, t, fun j v hj => ?_, h2, h3⟩
   have := h1 j v hj
   rw [Go.Deep.add_add] at this ⊢
   rw [Go.Deep.add_add]
   rw [show 18 + (i * 18 + j) = (i + 1) * 18 + j by omega]
   exact this
  refine ⟨t :: ts, by rw [List.length_cons, e1], ⟨⟨p, n, c, fun j v hj => ?_, hs.1, hs.2⟩, e2⟩, fun x hx => ?_⟩
  ·have e' : cs = lcl t.1 (.slice p n c) := by
    have := congrArg Array.toList e
    simpa [lcs] using this
   have := h1 j v (by rw [e']; exact hj)
   rw [Go.Deep.add_add] at this
   simpa using this
  ·rcases List.mem_cons.1 hx with rfl | hx
   ·exact h3
   ·exact e3 x hx
theorem zt_mk {a : Lab} {ts : List T} (h : LabZ a) (hs : ∀ t ∈ ts, ZT t) : ZT (a, mk ts) := by
 intro x hx
 rw [preT, pre_kids] at hx
 rcases List.mem_cons.1 hx with rfl | hx
 ·exact h
 ·obtain ⟨t, ht, hx⟩ := List.mem_flatMap.1 hx
  have : t ∈ ts := by
   have e : kids (mk ts) = ts := kids_mk ts
   rw [← e]; exact ht
  exact hs t this x hx
theorem list18 {α : Type} {l : List α} (h : l.length = 18) : ∃ c0 c1 c2 c3 c4 c5 c6 c7 c8 c9 c10 c11 c12 c13 c14 c15 c16 c17, l = [c0, c1, c2, c3, c4, c5, c6, c7, c8, c9, c10, c11, c12, c13, c14, c15, c16, c17] := by
 match l, h with
 | [c0, c1, c2, c3, c4, c5, c6, c7, c8, c9, c10, c11, c12, c13, c14, c15, c16, c17], _ => exact ⟨c0, c1, c2, c3, c4, c5, c6, c7, c8, c9, c10, c11, c12, c13, c14, c15, c16, c17, rfl⟩
theorem open_node : ∀ (N fuel : Nat), fuel ≤ N → ∀ (cs : List Value) (x : DataW H × List MemPlace), DataW.trod enc Tryz.prog w base spare held fuel 67 cs = some x → ∃ t : T, NT w cs.toArray t ∧ ZT t := by
 intro N
 induction N with
 | zero =>
  intro fuel hf cs x h
  obtain ⟨xs, n, e, _⟩ := DataW.trod_struct Tryz.underlying67 h
  omega
 | succ N ih =>
  intro fuel hf cs x h
  obtain ⟨f3, f4, f9, f23, f25, f26, f28⟩ := wideF
  obtain ⟨xs, n, hfu, _, hl, hlen, hfld⟩ := DataW.trod_struct Tryz.underlying67 h
  obtain ⟨c0, c1, c2, c3, c4, c5, c6, c7, c8, c9, c10, c11, c12, c13, c14, c15, c16, c17, rfl⟩ := list18 (hl.trans f28)
  have get : ∀ (i : Nat) (f : Field), _ → i < 6 → ∃ y, DataW.trod enc Tryz.prog w base spare held n f.type (([c0, c1, c2, c3, c4, c5, c6, c7, c8, c9, c10, c11, c12, c13, c14, c15, c16, c17].drop f.offset).take (Tryz.prog.cellsOf f.type)) = some y :=
   fun i f hf hi => ⟨_, (hfld i f hf).trans (List.getElem?_eq_getElem (by rw [hlen]; exact hi))⟩
  obtain ⟨y0, h0⟩ := get 0 _ rfl (by decide)
  obtain ⟨y1, h1⟩ := get 1 _ rfl (by decide)
  obtain ⟨y2, h2⟩ := get 2 _ rfl (by decide)
  obtain ⟨y3, h3⟩ := get 3 _ rfl (by decide)
  obtain ⟨y4, h4⟩ := get 4 _ rfl (by decide)
  obtain ⟨y5, h5⟩ := get 5 _ rfl (by decide)
  obtain ⟨k, e0, _⟩ := DataW.trod_int Tryz.underlying3 h0
  obtain ⟨s, e1, _, zs⟩ := DataW.trod_string Tryz.underlying9 h1
  simp [f3] at e0
  simp [f9] at e1
  replace h2 : DataW.trod enc Tryz.prog w base spare held n 62 [c2, c3, c4] = some y2 := by simpa [f23] using h2
  replace h3 : DataW.trod enc Tryz.prog w base spare held n 64 [c5, c6, c7, c8, c9, c10] = some y3 := by simpa [f25] using h3
  replace h4 : DataW.trod enc Tryz.prog w base spare held n 64 [c11, c12, c13, c14, c15, c16] = some y4 := by simpa [f25] using h4
  replace h5 : DataW.trod enc Tryz.prog w base spare held n 65 [c17] = some y5 := by simpa [f26] using h5
  obtain ⟨vk, vn, vs, rfl, rfl, rfl⟩ := open_valc h2
  obtain ⟨b1, s1, r1, q1, fr1, fc1, rfl, rfl, rfl, rfl, rfl, rfl, z1, z2⟩ := open_refc h3
  obtain ⟨b2, s2, r2, q2, fr2, fc2, rfl, rfl, rfl, rfl, rfl, rfl, z3, z4⟩ := open_refc h4
  subst e0 e1
  have hZ : LabZ ⟨k, s, vk, vn, vs, b1, s1, r1, q1, fr1, fc1, b2, s2, r2, q2, fr2, fc2⟩ := by
   simp only [maxLen] at zs z1 z2 z3 z4
   exact ⟨by show s.size ≤ _; omega, by show b1.size ≤ _; omega, by show s1.size ≤ _; omega, by show b2.size ≤ _; omega, by show s2.size ≤ _; omega⟩
  rcases DataW.trod_slice Tryz.underlying65 h5 with ⟨e5, _⟩ | ⟨a, len, cap, elems, rest, m, hm, e5, _, _, hlc, _, hel, hget, _, _⟩
  ·have e6 : c17 = .slice none 0 0 := by simpa using e5
   subst e6
   exact ⟨(⟨k, s, vk, vn, vs, b1, s1, r1, q1, fr1, fc1, b2, s2, r2, q2, fr2, fc2⟩, mk []), ⟨none, 0, 0, rfl, rfl, .inl rfl⟩, zt_mk hZ (fun t h => by cases h)⟩
  ·have e6 : c17 = .slice (some a) len cap := by simpa using e5
   subst e6
   obtain ⟨ts, t1, t2, t3⟩ := rowIn len a fun i hi => by
    have hg := hget i hi
    rw [f28, List.getElem?_eq_getElem (by omega)] at hg
    obtain ⟨cs, hc, ht⟩ := Option.bind_eq_some_iff.1 hg
    obtain ⟨t, hN, hz⟩ := ih m (by omega) cs _ ht
    refine ⟨cs, t, fun j v hj => ?_, hN, hz⟩
    obtain ⟨_, hcl, hcc⟩ := World.cells?_some hc
    rw [hcc j (by have := (List.getElem?_eq_some_iff.1 hj).1; omega)]
    exact hj
   refine ⟨(⟨k, s, vk, vn, vs, b1, s1, r1, q1, fr1, fc1, b2, s2, r2, q2, fr2, fc2⟩, mk ts), ⟨some a, len, cap, rfl, ?_, .inr ⟨a, rfl, t2⟩⟩, zt_mk hZ t3⟩
   rw [kids_mk]; exact t1.symm
theorem open_tree {r : Reach} {b0 : Nat} {v : Value} {d : DataW H} {p : List MemPlace} (hv : Value.okWide Tryz.prog w r b0 67 v) (h : DataW.Trod enc Tryz.prog w base spare held 67 v d p) : ∃ (es : Array Value) (t : T), v = .agg es ∧ NT w es t ∧ ZT t := by
 obtain ⟨cs, rfl, hsz⟩ := okWide_struct Tryz.underlying67 hv
 obtain ⟨fuel, hf⟩ := h
 obtain ⟨t, hN, hZ⟩ := open_node fuel fuel (Nat.le_refl _) _ _ hf
 refine ⟨cs, t, rfl, ?_, hZ⟩
 simpa [Value.cells] using hN
end
end Go.Proofs.YtnibldnfbikipaaGreatDoor
namespace Go
open Go.RowKit
variable {F : Fence} {n : Nat} {P : Program}
def LeftR (l : Nat) (r : Loop) (R : Ending → World → Prop) (e : Exit) (W : World) : Prop :=
 W.heap[l]? = some (.loop { r with state := .busy }) ∧ match e with
  | .normal => R (.returned (.bool true)) (W.putObj l (.loop { r with state := .ready, pending := none }))
  | .ret => R (.returned (.bool false)) (W.putObj l (.loop { r with state := .done, pending := some .ret }))
  | .exit id => R (.returned (.bool false)) (W.putObj l (.loop { r with state := .done, pending := some (.exit id) }))
  | .goto t => R (.returned (.bool false)) (W.putObj l (.loop { r with state := .done, pending := some (.goto t) }))
  | .panic _ => False
  | .outgrown => False
theorem roundR {l : Nat} {r : Loop} {args : Array Value} {W : World} {R : Ending → World → Prop} (hl : W.heap[l]? = some (.loop r)) (hr : r.state = .ready) (hs : args.size = r.params.size) (hF : F.fn r.fn) (A : Act → World → Prop) (hA : ∀ a1 W1, A a1 W1 → W1.heap[l]? = some (.loop r))
  (ha : ∀ K : Act → World → Prop, (∀ a1 W1, A a1 W1 → K a1 W1) → r.assign.wpIn (F.inRound l) n P (Exit.then K (fun _ _ _ => False)) { tmps := (r.params.zip args).foldl (fun t (p, v) => t.setIfInBounds p v) r.tmps, defers := [] } W)
  (hb : ∀ a1 W1, A a1 W1 → r.body.wpIn (F.inRound l) n P (fun e _ W' => LeftR l r R e W') a1 (W1.putObj l (.loop { r with state := .busy }))) : YieldAt F n P l args W R := by
 refine ⟨r.fn, _, r.assign, r.body, run_yield hl hs, roundIn_of_wpIn hF (ha _ fun a1 W1 h => ⟨_, run_beginRound (hA a1 W1 h) hr, wpIn_mono (hb a1 W1 h) ?_⟩)⟩
 rintro e a W' ⟨h1, h2⟩
 have done := fun j => run_endRound (P := P) j h1
 cases e with
 | normal => exact ⟨_, _, done none, h2⟩
 | ret => exact ⟨_, _, done (some .ret), h2⟩
 | exit id => exact ⟨_, _, done (some (.exit id)), h2⟩
 | goto t => exact ⟨_, _, done (some (.goto t)), h2⟩
 | panic c => exact h2
 | outgrown => exact h2
theorem keepsFrom_put {B l : Nat} (hl : l < B) (W : World) (o : Obj) : KeepsFrom B W (W.putObj l o) := KeepsFrom.of_grownBy (grownBy_putObj' W l o) (fun j e => by cases e; exact hl)
theorem KeepsFrom.up {B B' : Nat} {X Y : World} (h : KeepsFrom B X Y) (hB : B ≤ B') : KeepsFrom B' X Y := ⟨h.size, fun k o hk h0 ho => h.same k o (by omega) h0 ho⟩
def SeqR {α : Type} (F : Fence) (n : Nat) (P : Program) (g : Nat) (lb : Array Value) (encs : α → Array Value) (Rx : α → World → Prop) (K : α → World → World → Prop) (S Sp : List α → Prop) (N : Nat) (w : World) : Prop :=
 ∀ (l : Nat) (J Jx : List α → World → Prop) (W : World), Below w.heap.size w W → OwnFrom W.heap.size J → OwnFrom W.heap.size Jx →
  (∀ pre x W1, J pre W1 → Rx x W1 → pre.length < N → YieldAt F (n - 1) P l (encs x) W1 fun e W' => KeepsFrom W.heap.size W1 W' ∧ ((e = .returned (.bool true) ∧ J (pre ++ [x]) W' ∧ K x W1 W') ∨ (e = .returned (.bool false) ∧ Jx (pre ++ [x]) W'))) →
  J [] W → CallsIn F n P g (#[.func (.yield l) #[] #[]] ++ lb) W fun e W' => (∃ v, e = .returned v) ∧ ((∃ xs, S xs ∧ J xs W') ∨ (∃ pre, Sp pre ∧ Jx pre W'))
section
variable {α : Type} {g : Operand} {ps : Array Tmp} {assign body : Code} {Q : Exit → Act → World → Prop} {a : Act} {w : World}
def RecR (fn : Nat) (a : Act) (ps : Array Tmp) (assign body : Code) (w : World) (st : LoopState) (pe : Option Code) (u : World) : Prop :=
 u.heap[w.heap.size + 1]? = some (.loop { state := st, pending := pe, fn := fn, tmps := a.tmps, params := ps, assign := assign, body := body, defers := w.heap.size }) ∧ u.heap[w.heap.size]? = some (.deferred (some []))
theorem RecR.grown {fn : Nat} {st : LoopState} {pe : Option Code} {u u' : World} {row : Option Nat} (h : RecR fn a ps assign body w st pe u) (hg : u.grownBy u' row) (hr : ∀ r, row = some r → w.heap.size + 2 ≤ r) : RecR fn a ps assign body w st pe u' :=
 ⟨(hg.block _ (Array.getElem?_eq_some_iff.1 h.1).1 (fun e => by have := hr _ e.symm; omega)).trans h.1, (hg.block _ (Array.getElem?_eq_some_iff.1 h.2).1 (fun e => by have := hr _ e.symm; omega)).trans h.2⟩
theorem RecR.put {fn : Nat} {st st' : LoopState} {pe pe' : Option Code} {u : World} (h : RecR fn a ps assign body w st pe u) : RecR fn a ps assign body w st' pe' (u.putObj (w.heap.size + 1) (.loop { state := st', pending := pe', fn := fn, tmps := a.tmps, params := ps, assign := assign, body := body, defers := w.heap.size })) :=
 ⟨World.putObj_heap_same (Array.getElem?_eq_some_iff.1 h.1).1, (World.putObj_heap_other (by omega)).trans h.2⟩
theorem RecR.kept {fn : Nat} {st : LoopState} {pe : Option Code} {u u' : World} (h : RecR fn a ps assign body w st pe u) (hk : KeepsFrom w.heap.size u u') : RecR fn a ps assign body w st pe u' :=
 ⟨hk.same _ _ (by omega) h.1 rfl, hk.same _ _ (Nat.le_refl _) h.2 rfl⟩
theorem rangeR (hro : F.round = none) (h1 : 1 ≤ n) {gf : Nat} {lb : Array Value} (hg : a.eval g = .func (.func gf) #[] lb) (hFg : F.fn gf) (eg : ∀ args w, (callFunc gf args).run P w = .ok (.enter gf args) w)
  {encs : α → Array Value} {Rx : α → World → Prop} {K : α → World → World → Prop} {S Sp : List α → Prop} {N : Nat} {w0 : World} (hseq : SeqR F (n - 1) P gf lb encs Rx K S Sp N w0) (hb0 : Below w0.heap.size w0 w)
  (hKt : ∀ {x : α} {A B C : World}, K x A B → K x B C → K x A C) (hKo : ∀ (x : α) (W : World) (l : Nat) (o o' : Obj), w.heap.size ≤ l → W.heap[l]? = some o → o.isCells = false → o.isWalk = false → K x W (W.putObj l o'))
  (hRx : ∀ (x : α) (W : World) (l : Nat) (o o' : Obj), Rx x W → W.heap[l]? = some o → o.isCells = false → Rx x (W.putObj l o')) (hps : ∀ x, (encs x).size = ps.size)
  (I : List α → World → Prop) (Ix : Code → List α → World → Prop) (hI : OwnFrom w.heap.size I) (hIx : ∀ c, OwnFrom w.heap.size (Ix c)) (h0 : I [] w) (Ax : α → Act → World → Prop) (hAx : ∀ x a', OwnFrom w.heap.size (fun (_ : Unit) W => Ax x a' W))
  (hassign : ∀ (l : Nat) (pre : List α) (x : α) (W : World) (K' : Act → World → Prop), I pre W → Rx x W → (∀ a' W', KeepsFrom w.heap.size W W' → K x W W' → I pre W' → Rx x W' → Ax x a' W' → K' a' W') → assign.wpIn (F.inRound l) (n - 1 - 1) P (Exit.then K' (fun _ _ _ => False)) { tmps := (ps.zip (encs x)).foldl (fun t (p, v) => t.setIfInBounds p v) a.tmps, defers := [] } W)
  (hbody : ∀ (l : Nat) (pre : List α) (x : α) (a' : Act) (W : World), I pre W → Rx x W → Ax x a' W → pre.length < N → body.wpIn (F.inRound l) (n - 1 - 1) P (ownPostG w.heap.size (K x) I Ix (pre ++ [x]) W) a' W)
  (hdone : ∀ (D : Nat) (xs : List α) (W : World), w.heap.size ≤ D → S xs → I xs W → W.heap[D]? = some (.deferred (some [])) → Q .normal { a with defers := { target := .collected D, args := #[] } :: a.defers } W)
  (hstop : ∀ (D : Nat) (c : Code) (pre : List α) (W : World), w.heap.size ≤ D → Sp pre → Ix c pre W → W.heap[D]? = some (.deferred (some [])) → c.wpIn F n P Q { a with defers := { target := .collected D, args := #[] } :: a.defers } W) :
  (Code.rangeFunc g ps assign body).wpIn F n P Q a w := by
 refine wpIn_rangeFunc fun fn hfn => ?_
 have hent := run_enterLoop_outer (P := P) (w := w) fn a.tmps ps assign body
 rw [← hro] at hent
 have bel1 : Below w.heap.size w ((w.alloc (.deferred (some []))).alloc (.loop { state := .ready, pending := none, fn := fn, tmps := a.tmps, params := ps, assign := assign, body := body, defers := w.heap.size })) := ((Below.refl _ w).alloc (Nat.le_refl _) _).alloc (by simp) _
 have rec1 : RecR fn a ps assign body w .ready none ((w.alloc (.deferred (some []))).alloc (.loop { state := .ready, pending := none, fn := fn, tmps := a.tmps, params := ps, assign := assign, body := body, defers := w.heap.size })) :=
  ⟨by have := World.alloc_heap_new (w.alloc (.deferred (some []))) (.loop { state := .ready, pending := none, fn := fn, tmps := a.tmps, params := ps, assign := assign, body := body, defers := w.heap.size }); rwa [World.size_alloc] at this,
   (Below.heap_alloc _ _ _ (by simp)).trans (World.alloc_heap_new w _)⟩
 have inv1 : I [] ((w.alloc (.deferred (some []))).alloc (.loop { state := .ready, pending := none, fn := fn, tmps := a.tmps, params := ps, assign := assign, body := body, defers := w.heap.size })) := hI.alloc _ (hI.alloc _ h0)
 generalize (w.alloc (.deferred (some []))).alloc (.loop { state := .ready, pending := none, fn := fn, tmps := a.tmps, params := ps, assign := assign, body := body, defers := w.heap.size }) = U at *
 have hU : w.heap.size + 2 ≤ U.heap.size := by have := (Array.getElem?_eq_some_iff.1 rec1.1).1; omega
 refine ⟨_, _, U, { target := .fn (.func gf) lb, args := #[.func (.yield (w.heap.size + 1)) #[] #[]] }, U, gf, #[.func (.yield (w.heap.size + 1)) #[] #[]] ++ lb, U, hent, by simp only [resolve, hg]; simp [go_sem], fun f' hf' => by simp [Target.leads] at hf'; subst hf'; exact hFg, by simp [invoke, go_sem, eg], fun _ => h1, ?_⟩
 have C := hseq (w.heap.size + 1) (fun pre W => I pre W ∧ RecR fn a ps assign body w .ready none W) (fun pre W => ∃ c, Ix c pre W ∧ RecR fn a ps assign body w .done (some c) W) U (hb0.trans (bel1.mono hb0.size))
  (fun s A B row hs hg' hr => ⟨hI s A B row hs.1 hg' (fun r e => ⟨by have := (hr r e).1; omega, (hr r e).2⟩), hs.2.grown hg' (fun r e => by have := (hr r e).1; omega)⟩)
  (fun s A B row hs hg' hr => hs.imp fun c hc => ⟨hIx c s A B row hc.1 hg' (fun r e => ⟨by have := (hr r e).1; omega, (hr r e).2⟩), hc.2.grown hg' (fun r e => by have := (hr r e).1; omega)⟩)
  (fun pre x W hJ hx hlen => by
   obtain ⟨hi, hrec⟩ := hJ
   have hkp : ∀ W1 W3 o, KeepsFrom w.heap.size W W1 → KeepsFrom w.heap.size (W1.putObj (w.heap.size + 1) (.loop { state := .busy, pending := none, fn := fn, tmps := a.tmps, params := ps, assign := assign, body := body, defers := w.heap.size })) W3 → KeepsFrom U.heap.size W (W3.putObj (w.heap.size + 1) o) := fun W1 W3 o h1 h => (h1.up (by omega)).trans ((keepsFrom_put (by omega) W1 _).trans ((h.up (by omega)).trans (keepsFrom_put (by omega) W3 o)))
   refine roundR hrec.1 rfl (hps x) hfn (fun a1 W1 => KeepsFrom w.heap.size W W1 ∧ K x W W1 ∧ I pre W1 ∧ Rx x W1 ∧ Ax x a1 W1) (fun a1 W1 h => (hrec.kept h.1).1) (fun K' hK' => hassign _ pre x W K' hi hx fun a1 W1 g1 g2 g3 g4 g5 => hK' a1 W1 ⟨g1, g2, g3, g4, g5⟩) ?_
   rintro a1 W1 ⟨g1, g2, g3, g4, g5⟩
   have hrec1 := hrec.kept g1
   have hbusy := hrec1.put (st' := .busy) (pe' := none)
   have hKb := hKo x W1 _ _ (.loop { state := .busy, pending := none, fn := fn, tmps := a.tmps, params := ps, assign := assign, body := body, defers := w.heap.size }) (by omega) hrec1.1 rfl rfl
   refine wpIn_mono (hbody _ pre x a1 _ (hI.putObj _ g3 (by omega) hrec1.1 rfl) (hRx x W1 _ _ _ g4 hrec1.1 rfl) ((hAx x a1).putObj (s := ()) _ g5 (by omega) hrec1.1 rfl) hlen) ?_
   intro e a3 W3 hp
   cases e with
   | normal =>
    obtain ⟨k3, kk, i3⟩ := hp
    have r3 := hbusy.kept k3
    exact ⟨r3.1, hkp _ _ _ g1 k3, .inl ⟨rfl, ⟨hI.putObj _ i3 (by omega) r3.1 rfl, r3.put⟩, hKt g2 (hKt (hKt hKb kk) (hKo x _ _ _ _ (by omega) r3.1 rfl rfl))⟩⟩
   | ret =>
    have r3 := hbusy.kept hp.1
    exact ⟨r3.1, hkp _ _ _ g1 hp.1, .inr ⟨rfl, .ret, (hIx _).putObj _ hp.2 (by omega) r3.1 rfl, r3.put⟩⟩
   | exit id =>
    have r3 := hbusy.kept hp.1
    exact ⟨r3.1, hkp _ _ _ g1 hp.1, .inr ⟨rfl, .exit id, (hIx _).putObj _ hp.2 (by omega) r3.1 rfl, r3.put⟩⟩
   | goto t =>
    have r3 := hbusy.kept hp.1
    exact ⟨r3.1, hkp _ _ _ g1 hp.1, .inr ⟨rfl, .goto t, (hIx _).putObj _ hp.2 (by omega) r3.1 rfl, r3.put⟩⟩
   | panic c => exact hp.elim
   | outgrown => exact hp.elim)
  ⟨inv1, rec1⟩
 refine C.mono ?_
 rintro e W2 ⟨⟨v, rfl⟩, h | h⟩
 ·obtain ⟨xs, hS, hi, hr⟩ := h
  exact ⟨none, _, run_endLoop hr.1 (by simp), hdone _ xs _ (Nat.le_refl _) hS (hI.putObj _ hi (by omega) hr.1 rfl) ((World.putObj_heap_other (by omega)).trans hr.2)⟩
 ·obtain ⟨pre, hSp, c, hi, hr⟩ := h
  exact ⟨some c, _, run_endLoop hr.1 (by simp), hstop _ c pre _ (Nat.le_refl _) hSp ((hIx c).putObj _ hi (by omega) hr.1 rfl) ((World.putObj_heap_other (by omega)).trans hr.2)⟩
end
end Go
