/- FOpen, HPure, RwAt, RwRf. -/
import Derived.ChangeArms
import Derived.ChangeOld
import Derived.WideShapes
import Derived.Test.YtljmklbbngpllaaGreatDoorFGoodNd
set_option linter.unusedVariables false
set_option linter.unusedSimpArgs false
set_option maxHeartbeats 16000000
set_option maxRecDepth 100000
namespace Go.Proofs.YtljmklbbngpllaaGreatDoor
open Go.ChangeShapes Go.WideShapes Go.RowKit Go.Fm
theorem aFR : Tryz.prog.cellsOf 3 = 1 ∧ Tryz.prog.cellsOf 4 = 1 ∧ Tryz.prog.cellsOf 9 = 1 ∧ Tryz.prog.cellsOf 23 = 3 ∧ Tryz.prog.cellsOf 25 = 6 ∧ Tryz.prog.cellsOf 26 = 1 ∧ Tryz.prog.cellsOf 28 = 18 := by
 refine ⟨?_, ?_, ?_, ?_, ?_, ?_, ?_⟩ <;> kernel_rfl
section
variable {H : Type} {enc : TypeId × Value → H} {w : World} {base : Nat} {spare : Nat → Bool} {held : Bool}
theorem aDq {n : Nat} {c0 c1 c2 : Value} {x : DataW H × List MemPlace} (h : DataW.trod enc Tryz.prog w base spare held n 23 [c0, c1, c2] = some x) : ∃ (k m : Int) (s : ByteArray), c0 = .int .i64 k ∧ c1 = .int .i64 m ∧ c2 = .string s := by
 obtain ⟨f3, f4, f9, f23, f25, f26, f28⟩ := aFR
 obtain ⟨xs, n, _, _, hl, hlen, sD⟩ := DataW.trod_struct Tryz.underlying23 h
 have get : ∀ (i : Nat) (f : Field), _ → i < 3 → ∃ y, DataW.trod enc Tryz.prog w base spare held n f.type (([c0, c1, c2].drop f.offset).take (Tryz.prog.cellsOf f.type)) = some y :=
  fun i f hf hi => ⟨_, (sD i f hf).trans (List.getElem?_eq_getElem (by rw [hlen]; exact hi))⟩
 obtain ⟨y0, h0⟩ := get 0 _ rfl (by decide)
 obtain ⟨y1, h1⟩ := get 1 _ rfl (by decide)
 obtain ⟨y2, h2⟩ := get 2 _ rfl (by decide)
 obtain ⟨k, e0, _⟩ := DataW.trod_int Tryz.underlying3 h0
 obtain ⟨m, e1, _⟩ := DataW.trod_int Tryz.underlying3 h1
 obtain ⟨s, e2, _, _⟩ := DataW.trod_string Tryz.underlying9 h2
 simp [f3] at e0 e1
 simp [f9] at e2
 exact ⟨k, m, s, e0, e1, e2⟩
theorem uT {n : Nat} {c0 c1 c2 c3 c4 c5 : Value} {x : DataW H × List MemPlace} (h : DataW.trod enc Tryz.prog w base spare held n 25 [c0, c1, c2, c3, c4, c5] = some x) :
  ∃ (b s : ByteArray) (r c : Int) (fr fc : Bool), c0 = .string b ∧ c1 = .string s ∧ c2 = .int .i64 r ∧ c3 = .int .i64 c ∧ c4 = .bool fr ∧ c5 = .bool fc ∧ b.size ≤ maxLen ∧ s.size ≤ maxLen := by
 obtain ⟨f3, f4, f9, f23, f25, f26, f28⟩ := aFR
 obtain ⟨xs, n, _, _, hl, hlen, sD⟩ := DataW.trod_struct Tryz.underlying25 h
 have get : ∀ (i : Nat) (f : Field), _ → i < 6 → ∃ y, DataW.trod enc Tryz.prog w base spare held n f.type (([c0, c1, c2, c3, c4, c5].drop f.offset).take (Tryz.prog.cellsOf f.type)) = some y :=
  fun i f hf hi => ⟨_, (sD i f hf).trans (List.getElem?_eq_getElem (by rw [hlen]; exact hi))⟩
 obtain ⟨y0, h0⟩ := get 0 _ rfl (by decide)
 obtain ⟨y1, h1⟩ := get 1 _ rfl (by decide)
 obtain ⟨y2, h2⟩ := get 2 _ rfl (by decide)
 obtain ⟨y3, h3⟩ := get 3 _ rfl (by decide)
 obtain ⟨y4, h4⟩ := get 4 _ rfl (by decide)
 obtain ⟨y5, h5⟩ := get 5 _ rfl (by decide)
 obtain ⟨b, e0, _, w0⟩ := DataW.trod_string Tryz.underlying9 h0
 obtain ⟨s, e1, _, w1⟩ := DataW.trod_string Tryz.underlying9 h1
 obtain ⟨r', e2, _⟩ := DataW.trod_int Tryz.underlying3 h2
 obtain ⟨c', e3, _⟩ := DataW.trod_int Tryz.underlying3 h3
 obtain ⟨fr, e4, _⟩ := DataW.trod_bool Tryz.underlying4 h4
 obtain ⟨fc, e5, _⟩ := DataW.trod_bool Tryz.underlying4 h5
 simp [f9] at e0 e1
 simp [f3] at e2 e3
 simp [f4] at e4 e5
 exact ⟨b, s, r', c', fr, fc, e0, e1, e2, e3, e4, e5, w0, w1⟩
theorem jR {w : World} : ∀ (len : Nat) (a : Addr), (∀ i, i < len → ∃ (cs : List Value) (t : T), (∀ j v, cs[j]? = some v → w.cell? ((a.add (i * 18)).add j) = some v) ∧ NT w cs.toArray t ∧ ZT t) → ∃ ts : List T, ts.length = len ∧ InF w a (mk ts) ∧ ∀ t ∈ ts, ZT t
 | 0, a, _ => ⟨[], rfl, trivial, fun t h => by cases h⟩
 | len + 1, a, h => by
  obtain ⟨cs, t, h1, ⟨p, n, c, e, hs⟩, h3⟩ := h 0 (by omega)
  obtain ⟨ts, e1, e2, e3⟩ := jR len (a.add 18) fun i hi => by
   obtain ⟨cs, t, h1, h2, h3⟩ := h (i + 1) (by omega)
   refine ⟨cs, t, fun j v hj => ?_, h2, h3⟩
   have := h1 j v hj
   rw [Go.Deep.add_add] at this ⊢
   rw [Go.Deep.add_add]
   rw [show 18 + (i * 18 + j) = (i + 1) * 18 + j by omega]
   exact this
  refine ⟨t :: ts, by rw [List.length_cons, e1], ⟨⟨p, n, c, fun j v hj => ?_, hs.1, hs.2⟩, e2⟩, fun x hx => ?_⟩
  ·have e' : cs = lcl t.1 (.slice p n c) := by
    have := congrArg Array.toList e
    simpa [lcs] using this
   have := h1 j v (by rw [e']; exact hj)
   rw [Go.Deep.add_add] at this
   simpa using this
  ·rcases List.mem_cons.1 hx with rfl | hx
   ·exact h3
   ·exact e3 x hx
theorem aIs {a : Lab} {ts : List T} (h : nK a) (hs : ∀ t ∈ ts, ZT t) : ZT (a, mk ts) := by
 intro x hx
 rw [dQ, gW] at hx
 rcases List.mem_cons.1 hx with rfl | hx
 ·exact h
 ·obtain ⟨t, ht, hx⟩ := List.mem_flatMap.1 hx
  have : t ∈ ts := by
   have e : kids (mk ts) = ts := kR ts
   rw [← e]; exact ht
  exact hs t this x hx
theorem aJa {α : Type} {l : List α} (h : l.length = 18) : ∃ c0 c1 c2 c3 c4 c5 c6 c7 c8 c9 c10 c11 c12 c13 c14 c15 c16 c17, l = [c0, c1, c2, c3, c4, c5, c6, c7, c8, c9, c10, c11, c12, c13, c14, c15, c16, c17] := by
 match l, h with
 | [c0, c1, c2, c3, c4, c5, c6, c7, c8, c9, c10, c11, c12, c13, c14, c15, c16, c17], _ => exact ⟨c0, c1, c2, c3, c4, c5, c6, c7, c8, c9, c10, c11, c12, c13, c14, c15, c16, c17, rfl⟩
theorem aDr : ∀ (N fuel : Nat), fuel ≤ N → ∀ (cs : List Value) (x : DataW H × List MemPlace), DataW.trod enc Tryz.prog w base spare held fuel 28 cs = some x → ∃ t : T, NT w cs.toArray t ∧ ZT t := by
 intro N
 induction N with
 | zero =>
  intro fuel hf cs x h
  obtain ⟨xs, n, e, _⟩ := DataW.trod_struct Tryz.underlying28 h
  omega
 | succ N ih =>
  intro fuel hf cs x h
  obtain ⟨f3, f4, f9, f23, f25, f26, f28⟩ := aFR
  obtain ⟨xs, n, hfu, _, hl, hlen, sD⟩ := DataW.trod_struct Tryz.underlying28 h
  obtain ⟨c0, c1, c2, c3, c4, c5, c6, c7, c8, c9, c10, c11, c12, c13, c14, c15, c16, c17, rfl⟩ := aJa (hl.trans f28)
  have get : ∀ (i : Nat) (f : Field), _ → i < 6 → ∃ y, DataW.trod enc Tryz.prog w base spare held n f.type (([c0, c1, c2, c3, c4, c5, c6, c7, c8, c9, c10, c11, c12, c13, c14, c15, c16, c17].drop f.offset).take (Tryz.prog.cellsOf f.type)) = some y :=
   fun i f hf hi => ⟨_, (sD i f hf).trans (List.getElem?_eq_getElem (by rw [hlen]; exact hi))⟩
  obtain ⟨y0, h0⟩ := get 0 _ rfl (by decide)
  obtain ⟨y1, h1⟩ := get 1 _ rfl (by decide)
  obtain ⟨y2, h2⟩ := get 2 _ rfl (by decide)
  obtain ⟨y3, h3⟩ := get 3 _ rfl (by decide)
  obtain ⟨y4, h4⟩ := get 4 _ rfl (by decide)
  obtain ⟨y5, h5⟩ := get 5 _ rfl (by decide)
  obtain ⟨k, e0, _⟩ := DataW.trod_int Tryz.underlying3 h0
  obtain ⟨s, e1, _, zs⟩ := DataW.trod_string Tryz.underlying9 h1
  simp [f3] at e0
  simp [f9] at e1
  replace h2 : DataW.trod enc Tryz.prog w base spare held n 23 [c2, c3, c4] = some y2 := by simpa [f23] using h2
  replace h3 : DataW.trod enc Tryz.prog w base spare held n 25 [c5, c6, c7, c8, c9, c10] = some y3 := by simpa [f25] using h3
  replace h4 : DataW.trod enc Tryz.prog w base spare held n 25 [c11, c12, c13, c14, c15, c16] = some y4 := by simpa [f25] using h4
  replace h5 : DataW.trod enc Tryz.prog w base spare held n 26 [c17] = some y5 := by simpa [f26] using h5
  obtain ⟨vk, vn, vs, rfl, rfl, rfl⟩ := aDq h2
  obtain ⟨b1, s1, r1, q1, fr1, fc1, rfl, rfl, rfl, rfl, rfl, rfl, z1, z2⟩ := uT h3
  obtain ⟨b2, s2, r2, q2, fr2, fc2, rfl, rfl, rfl, rfl, rfl, rfl, z3, z4⟩ := uT h4
  subst e0 e1
  have hZ : nK ⟨k, s, vk, vn, vs, b1, s1, r1, q1, fr1, fc1, b2, s2, r2, q2, fr2, fc2⟩ := by
   simp only [maxLen] at zs z1 z2 z3 z4
   exact ⟨by show s.size ≤ _; omega, by show b1.size ≤ _; omega, by show s1.size ≤ _; omega, by show b2.size ≤ _; omega, by show s2.size ≤ _; omega⟩
  rcases DataW.trod_slice Tryz.underlying26 h5 with ⟨e5, _⟩ | ⟨a, len, cap, elems, rest, m, hm, e5, _, _, hlc, _, hel, hget, _, _⟩
  ·have e6 : c17 = .slice none 0 0 := by simpa using e5
   subst e6
   exact ⟨(⟨k, s, vk, vn, vs, b1, s1, r1, q1, fr1, fc1, b2, s2, r2, q2, fr2, fc2⟩, mk []), ⟨none, 0, 0, rfl, rfl, .inl rfl⟩, aIs hZ (fun t h => by cases h)⟩
  ·have e6 : c17 = .slice (some a) len cap := by simpa using e5
   subst e6
   obtain ⟨ts, t1, t2, t3⟩ := jR len a fun i hi => by
    have hg := hget i hi
    rw [f28, List.getElem?_eq_getElem (by omega)] at hg
    obtain ⟨cs, hc, ht⟩ := Option.bind_eq_some_iff.1 hg
    obtain ⟨t, hN, hz⟩ := ih m (by omega) cs _ ht
    refine ⟨cs, t, fun j v hj => ?_, hN, hz⟩
    obtain ⟨_, hcl, hcc⟩ := World.cells?_some hc
    rw [hcc j (by have := (List.getElem?_eq_some_iff.1 hj).1; omega)]
    exact hj
   refine ⟨(⟨k, s, vk, vn, vs, b1, s1, r1, q1, fr1, fc1, b2, s2, r2, q2, fr2, fc2⟩, mk ts), ⟨some a, len, cap, rfl, ?_, .inr ⟨a, rfl, t2⟩⟩, aIs hZ t3⟩
   rw [kR]; exact t1.symm
theorem open_tree {r : Reach} {b0 : Nat} {v : Value} {d : DataW H} {p : List MemPlace} (hv : Value.okWide Tryz.prog w r b0 28 v) (h : DataW.Trod enc Tryz.prog w base spare held 28 v d p) : ∃ (es : Array Value) (t : T), v = .agg es ∧ NT w es t ∧ ZT t := by
 obtain ⟨cs, rfl, hsz⟩ := okWide_struct Tryz.underlying28 hv
 obtain ⟨fuel, hf⟩ := h
 obtain ⟨t, hN, hZ⟩ := aDr fuel fuel (Nat.le_refl _) _ _ hf
 refine ⟨cs, t, rfl, ?_, hZ⟩
 simpa [Value.cells] using hN
end
end Go.Proofs.YtljmklbbngpllaaGreatDoor
namespace Go.Proofs.YtljmklbbngpllaaGreatDoor.Hs
open Go.RowKit
def bB (a n m : Int) : Bool := decide (1 ≤ m) && decide (m ≤ 1000) && decide (1 ≤ a) && decide (a ≤ m) && decide (n ≠ 0) && decide (-(m - a + 1) ≤ n) && decide (n ≤ m - a + 1)
theorem dA {a n m : Int} : bB a n m = true ↔ (1 ≤ m ∧ m ≤ 1000 ∧ 1 ≤ a ∧ a ≤ m ∧ n ≠ 0 ∧ -(m - a + 1) ≤ n ∧ n ≤ m - a + 1) := by
 unfold bB; simp; omega
def nxF (a n : Int) : Int := if n < 0 then a - n else a
def mvF (a n p : Int) : Int := if p < a then p else if p < nxF a n then a else p + n
def mvB (a n p : Int) : Bool := decide (p < a) || !decide (p < nxF a n)
def posB (a n m p : Int) : Bool := bB a n m && (decide (1 ≤ p) && decide (p ≤ m)) && mvB a n p && decide (mvF a n p ≤ m)
def dG (a n m p : Int) : Int := if posB a n m p = true then mvF a n p else 0
def loF (a n lo : Int) : Int := mvF a n lo
def hiF (a n m hi : Int) : Int := min (if mvB a n hi = true then mvF a n hi else mvF a n hi - 1) m
def spB (a n m lo hi : Int) : Bool := bB a n m && (decide (1 ≤ lo) && decide (lo ≤ m)) && (decide (1 ≤ hi) && decide (hi ≤ m)) && decide (lo ≤ hi) && decide (loF a n lo ≤ hiF a n m hi)
def spL (a n m lo hi : Int) : Int := if spB a n m lo hi = true then loF a n lo else 0
def spH (a n m lo hi : Int) : Int := if spB a n m lo hi = true then hiF a n m hi else 0
abbrev shV (a n m : Int) : Value := .agg #[.int .i64 a, .int .i64 n, .int .i64 m]
abbrev shO (a n m : Int) (t : TypeId) : Obj := .cells #[.int .i64 a, .int .i64 n, .int .i64 m] t
theorem bJ {a b : Bool} (h : a = b) : (Ending.returned (.bool a)) = .returned (.bool b) := by rw [h]
theorem aR {w w1 : World} {o : Obj} (hb : Below (w.alloc o).heap.size (w.alloc o) w1) : Below w.heap.size w w1 :=
 ((Below.refl _ _).alloc (Nat.le_refl _) o).trans (hb.mono (by simp))
theorem aG {w w1 w2 : World} (h : Below w.heap.size w w1) (hb : Below w1.heap.size w1 w2) : Below w.heap.size w w2 := h.trans (hb.mono h.size)
theorem aA {w w1 : World} (h : Below w.heap.size w w1) (o : Obj) : Below w.heap.size w (w1.alloc o) := h.alloc h.size _
theorem new1 {w x : World} {o : Obj} (h : Below (w.alloc o).heap.size (w.alloc o) x) : x.heap[w.heap.size]? = some o := by
 rw [h.block _ (by simp)]
 exact heap_alloc_new w o
theorem nL {u : World} {g : Nat} {a b c : Value} {t : TypeId} (h : u.heap[g]? = some (.cells #[a, b, c] t (0, 0))) : u.cell? ⟨g, 0, none⟩ = some a ∧ u.cell? ⟨g, 1, none⟩ = some b ∧ u.cell? ⟨g, 2, none⟩ = some c := by
 simp [World.cell?, h]
def RC (W : World) (f : Nat) (args : Array Value) (r : Value) : Prop := ∀ u, Below W.heap.size W u → Calls Tryz.prog f args u fun e w' => e = .returned r ∧ Below W.heap.size W w'
theorem RC.of {W : World} {f : Nat} {args : Array Value} {r : Value} (h : ∀ u, Calls Tryz.prog f args u fun e w' => e = .returned r ∧ Below u.heap.size u w') : RC W f args r := fun u hu =>
 (h u).mono fun _ _ ⟨h1, h2⟩ => ⟨h1, aG hu h2⟩
theorem qB (a n m p : Int) (w : World) : Calls Tryz.prog 39 #[shV a n m, .int .i64 p] w fun e w' => e = .returned (.bool (decide (1 ≤ p) && decide (p ≤ m))) ∧ Below w.heap.size w w' := by
 have HB : Hid (Below w.heap.size w (w.alloc (shO a n m 32))) := aA (Below.refl _ _) _
 go_enter Tryz.func39, Tryz.ntmps39
 go_wp2
 all_goals (go_ret; refine ⟨bJ ?_, HB.out⟩; rw [Bool.eq_iff_iff]; simp; omega)
theorem iM (a n m : Int) (w : World) : Calls Tryz.prog 19 #[shV a n m] w fun e w' => e = .returned (.bool (bB a n m)) ∧ Below w.heap.size w w' := by
 have HB0 : Hid (Below (w.alloc (shO a n m 32)).heap.size (w.alloc (shO a n m 32)) (w.alloc (shO a n m 32))) := Below.refl _ _
 have HB1 : Hid (Below w.heap.size w (w.alloc (shO a n m 32))) := aA (Below.refl _ _) _
 have HH : RC (w.alloc (shO a n m 32)) 39 #[shV a n m, .int .i64 a] _ := RC.of fun u => qB a n m a u
 generalize hR : bB a n m = R
 have HR : Hid (bB a n m = R) := hR
 clear hR
 by_cases h1 : m < 1
 ·go_enter Tryz.func19, Tryz.ntmps19
  go_wp2
  all_goals (go_ret; refine ⟨bJ ?_, by first | exact HB1.out | exact aR HB2.out⟩; rw [← HR.out]; rw [Bool.eq_iff_iff, dA]; simp; try omega)
 by_cases h2 : 1000 < m
 ·go_enter Tryz.func19, Tryz.ntmps19
  go_wp2
  all_goals (go_ret; refine ⟨bJ ?_, by first | exact HB1.out | exact aR HB2.out⟩; rw [← HR.out]; rw [Bool.eq_iff_iff, dA]; simp; try omega)
 rcases Bool.eq_false_or_eq_true (decide (1 ≤ a) && decide (a ≤ m)) with hx | hx
 ·rw [hx] at HH
  have hy : 1 ≤ a ∧ a ≤ m := by simpa using hx
  have hy1 := hy.1
  have hy2 := hy.2
  clear hy hx
  go_enter Tryz.func19, Tryz.ntmps19
  go_wp2_with (go_at_call 39; refine (HH _ HB0.out).mono ?_; rintro e w1 ⟨rfl, hb⟩; have HB2 : Hid (Below (w.alloc (shO a n m 32)).heap.size (w.alloc (shO a n m 32)) w1) := hb; clear hb; obtain ⟨c0, c1, c2⟩ := nL (new1 HB2.out))
  all_goals (go_ret; refine ⟨bJ ?_, by first | exact HB1.out | exact aR HB2.out⟩; rw [← HR.out]; rw [Bool.eq_iff_iff, dA]; simp; try omega)
 ·rw [hx] at HH
  have hy : Hid (¬ (1 ≤ a ∧ a ≤ m)) := by unfold Hid; simpa using hx
  clear hx
  go_enter Tryz.func19, Tryz.ntmps19
  go_wp2_with (go_at_call 39; refine (HH _ HB0.out).mono ?_; rintro e w1 ⟨rfl, hb⟩; have HB2 : Hid (Below (w.alloc (shO a n m 32)).heap.size (w.alloc (shO a n m 32)) w1) := hb; clear hb; obtain ⟨c0, c1, c2⟩ := nL (new1 HB2.out))
  all_goals (have hy2 := hy.out; go_ret; refine ⟨bJ ?_, by first | exact HB1.out | exact aR HB2.out⟩; rw [← HR.out]; rw [Bool.eq_iff_iff, dA]; simp; try omega)
end Go.Proofs.YtljmklbbngpllaaGreatDoor.Hs
namespace Go.Proofs.YtljmklbbngpllaaGreatDoor
open Go.RowKit
abbrev bF (b s : ByteArray) (r c : Int) : Obj := .cells #[.string b, .string s, .int .i64 r, .int .i64 c] 30
def orS (a b : ByteArray) : ByteArray := if a.toList = [] then b else a
theorem aDs (a b : ByteArray) : ((a.toList == []) = false ∧ orS a b = a) ∨ (a.toList = [] ∧ (b.toList == []) = false ∧ orS a b = b) ∨ (a.toList = [] ∧ b.toList = [] ∧ orS a b = b ∧ b = ⟨#[]⟩) := by
 unfold orS
 by_cases h : a.toList = []
 ·by_cases g : b.toList = []
  ·right; right
   refine ⟨h, g, by rw [if_pos h], ?_⟩
   apply Go.WideShapes.bytes_inj
   rw [← ByteArray.toList_eq, g]
  ·right; left
   exact ⟨h, by simpa using g, by rw [if_pos h]⟩
 ·left
  exact ⟨by simpa using h, by rw [if_neg h]⟩
theorem aHM {w : World} {g : Nat} {a b : ByteArray} (h0 : w.cell? ⟨g, 0, none⟩ = some (.string a)) (h1 : w.cell? ⟨g, 1, none⟩ = some (.string b)) :
  Calls Tryz.prog 111 #[.slice (some ⟨g, 0, none⟩) 2 2] w fun e w' => e = .returned (.string (orS a b)) ∧ w' = w := by
 rcases aDs a b with ⟨t1, e⟩ | ⟨t1, t2, e⟩ | ⟨t1, t2, e, e2⟩
 all_goals
  rw [e]
  clear e
  try rw [e2]
  go_enter Tryz.func111, Tryz.ntmps111
  go_wp2
  refine wp_loop_rounds 6 ?_
  rw [rounds_succ]
  go_wp2
  try (rw [rounds_succ]; go_wp2)
  try (rw [rounds_succ]; go_wp2)
  go_ret
  exact ⟨rfl, rfl⟩
abbrev gX (x y : ByteArray) : Obj := .cells #[.string x, .string y] 9
theorem wL {u : World} {g : Nat} {x y : ByteArray} (h : u.heap[g]? = some (gX x y)) : Calls Tryz.prog 111 #[.slice (some ⟨g, 0, none⟩) 2 2] u fun e w' => e = .returned (.string (orS x y)) ∧ w' = u := by
 have c := fun j => cell_of_row _ g j _ 9 _ h
 exact aHM ((c 0).trans rfl) ((c 1).trans rfl)
theorem aJb (b1 s1 : ByteArray) (r1 c1 : Int) (fr fc : Bool) (b2 s2 : ByteArray) (r2 c2 : Int) (w : World) :
  Calls Tryz.prog 70 #[bC b1 s1 r1 c1 fr fc, xD b2 s2 r2 c2] w fun e w' => e = .returned (xD (orS b1 b2) (orS s1 s2) r1 c1) ∧ Below w.heap.size w w' := by
 have HC : Hid (∀ u : World, Below ((w.alloc (aU b1 s1 r1 c1 fr fc)).alloc (bF b2 s2 r2 c2)).heap.size ((w.alloc (aU b1 s1 r1 c1 fr fc)).alloc (bF b2 s2 r2 c2)) u → (u.cell? ⟨w.heap.size, 0, none⟩ = some (.string b1) ∧ u.cell? ⟨w.heap.size, 1, none⟩ = some (.string s1) ∧ u.cell? ⟨w.heap.size, 2, none⟩ = some (.int .i64 r1) ∧ u.cell? ⟨w.heap.size, 3, none⟩ = some (.int .i64 c1)) ∧ (u.cell? ⟨w.heap.size + 1, 0, none⟩ = some (.string b2) ∧ u.cell? ⟨w.heap.size + 1, 1, none⟩ = some (.string s2))) :=
  fun u hu => ⟨⟨(aP (new2 hu).1).1, (aP (new2 hu).1).2.1, (aP (new2 hu).1).2.2.1, (aP (new2 hu).1).2.2.2.1⟩, (pW (new2 hu).2).1, (pW (new2 hu).2).2.1⟩
 have HR : Hid (Below ((w.alloc (aU b1 s1 r1 c1 fr fc)).alloc (bF b2 s2 r2 c2)).heap.size ((w.alloc (aU b1 s1 r1 c1 fr fc)).alloc (bF b2 s2 r2 c2)) ((w.alloc (aU b1 s1 r1 c1 fr fc)).alloc (bF b2 s2 r2 c2))) := Below.refl _ _
 have e3 : (((w.alloc (aU b1 s1 r1 c1 fr fc)).alloc (bF b2 s2 r2 c2)).alloc (bF ⟨#[]⟩ ⟨#[]⟩ 0 0)).heap.size = w.heap.size + 3 := by simp
 have F1 : ((((w.alloc (aU b1 s1 r1 c1 fr fc)).alloc (bF b2 s2 r2 c2)).alloc (bF ⟨#[]⟩ ⟨#[]⟩ 0 0)).alloc (gX b1 b2)).drew.heap[w.heap.size + 3]? = some (gX b1 b2) := e3 ▸ heap_alloc_new _ _
 have F2 : (((((w.alloc (aU b1 s1 r1 c1 fr fc)).alloc (bF b2 s2 r2 c2)).alloc (bF ⟨#[]⟩ ⟨#[]⟩ 0 0)).alloc (gX b1 b2)).alloc (gX s1 s2)).drew.heap[w.heap.size + 3]? = some (gX b1 b2) := e3 ▸ (new2 (Below.refl _ _)).1
 have F3 : (((((w.alloc (aU b1 s1 r1 c1 fr fc)).alloc (bF b2 s2 r2 c2)).alloc (bF ⟨#[]⟩ ⟨#[]⟩ 0 0)).alloc (gX s1 s2)).alloc (gX b1 b2)).drew.heap[w.heap.size + 4]? = some (gX b1 b2) := by
  have := (new2 (w := (((w.alloc (aU b1 s1 r1 c1 fr fc)).alloc (bF b2 s2 r2 c2)).alloc (bF ⟨#[]⟩ ⟨#[]⟩ 0 0))) (a := (gX s1 s2)) (b := (gX b1 b2)) (Below.refl _ _)).2
  rw [e3] at this
  exact this
 have F4 : (((((w.alloc (aU b1 s1 r1 c1 fr fc)).alloc (bF b2 s2 r2 c2)).alloc (bF ⟨#[]⟩ ⟨#[]⟩ 0 0)).alloc (gX b1 b2)).alloc (gX s1 s2)).drew.heap[w.heap.size + 4]? = some (gX s1 s2) := by
  have := (new2 (w := (((w.alloc (aU b1 s1 r1 c1 fr fc)).alloc (bF b2 s2 r2 c2)).alloc (bF ⟨#[]⟩ ⟨#[]⟩ 0 0))) (a := (gX b1 b2)) (b := (gX s1 s2)) (Below.refl _ _)).2
  rw [e3] at this
  exact this
 have F5 : (((((w.alloc (aU b1 s1 r1 c1 fr fc)).alloc (bF b2 s2 r2 c2)).alloc (bF ⟨#[]⟩ ⟨#[]⟩ 0 0)).alloc (gX s1 s2)).alloc (gX b1 b2)).drew.heap[w.heap.size + 3]? = some (gX s1 s2) := e3 ▸ (new2 (Below.refl _ _)).1
 clear e3
 have Z1 : (((((w.alloc (aU b1 s1 r1 c1 fr fc)).alloc (bF b2 s2 r2 c2)).alloc (bF ⟨#[]⟩ ⟨#[]⟩ 0 0)).alloc (gX b1 b2)).alloc (gX s1 s2)).drew.heap[w.heap.size + 2]? = some (bF ⟨#[]⟩ ⟨#[]⟩ 0 0) := (xE (aA (aA (Below.refl _ _) _) _)).2.2
 have Z2 : (((((w.alloc (aU b1 s1 r1 c1 fr fc)).alloc (bF b2 s2 r2 c2)).alloc (bF ⟨#[]⟩ ⟨#[]⟩ 0 0)).alloc (gX s1 s2)).alloc (gX b1 b2)).drew.heap[w.heap.size + 2]? = some (bF ⟨#[]⟩ ⟨#[]⟩ 0 0) := (xE (aA (aA (Below.refl _ _) _) _)).2.2
 obtain ⟨k0, k1, k2, k3⟩ := pW Z1
 obtain ⟨k4, k5, k6, k7⟩ := aEa Z1
 obtain ⟨l0, l1, l2, l3⟩ := pW Z2
 obtain ⟨l4, l5, l6, l7⟩ := aEa Z2
 clear Z1 Z2
 obtain ⟨g3, q3⟩ : ∃ g, w.heap.size + 3 = g := ⟨_, rfl⟩
 obtain ⟨g4, q4⟩ : ∃ g, w.heap.size + 4 = g := ⟨_, rfl⟩
 have q5 : g3 + 1 = g4 := by omega
 have n1 : ¬ w.heap.size + 2 = g3 := by omega
 have n2 : ¬ w.heap.size + 2 = g4 := by omega
 have n3 : ¬ g3 = w.heap.size + 2 := by omega
 have n4 : ¬ g4 = w.heap.size + 2 := by omega
 have n5 : w.heap.size + 2 < g3 := by omega
 have n6 : w.heap.size + 2 < g4 := by omega
 rw [q3] at F1 F2 F5
 rw [q4] at F3 F4
 have A1 := fun u h => wL (u := u) (g := g3) (x := b1) (y := b2) h
 have A2 := fun u h => wL (u := u) (g := g4) (x := b1) (y := b2) h
 have B1 := fun u h => wL (u := u) (g := g3) (x := s1) (y := s2) h
 have B2 := fun u h => wL (u := u) (g := g4) (x := s1) (y := s2) h
 generalize orS b1 b2 = x1 at *
 generalize orS s1 s2 = x2 at *
 go_enter Tryz.func70, Tryz.ntmps70
 go_wp2
 go_region_held_law (fun u => (u.cell? ⟨w.heap.size, 0, none⟩ = some (.string b1) ∧ u.cell? ⟨w.heap.size, 1, none⟩ = some (.string s1) ∧ u.cell? ⟨w.heap.size, 2, none⟩ = some (.int .i64 r1) ∧ u.cell? ⟨w.heap.size, 3, none⟩ = some (.int .i64 c1)) ∧ (u.cell? ⟨w.heap.size + 1, 0, none⟩ = some (.string b2) ∧ u.cell? ⟨w.heap.size + 1, 1, none⟩ = some (.string s2)))
  ((refine HC.out _ ?_; repeat (first | exact HR.out | refine Below.drew ?_ | refine Below.setCell ?_ (by simp) _ | refine aA ?_ _))) (first
  | (go_at_call_of 111 g3; refine (A1 _ ?hh).mono ?_; (case hh => with_reducible assumption); rintro e w' ⟨rfl, hw⟩; obtain rfl := hw.symm; clear hw)
  | (go_at_call_of 111 g4; refine (A2 _ ?hh).mono ?_; (case hh => with_reducible assumption); rintro e w' ⟨rfl, hw⟩; obtain rfl := hw.symm; clear hw)
  | (go_at_call_of 111 g3; refine (B1 _ ?hh).mono ?_; (case hh => with_reducible assumption); rintro e w' ⟨rfl, hw⟩; obtain rfl := hw.symm; clear hw)
  | (go_at_call_of 111 g4; refine (B2 _ ?hh).mono ?_; (case hh => with_reducible assumption); rintro e w' ⟨rfl, hw⟩; obtain rfl := hw.symm; clear hw))
 all_goals
  go_wp2
  refine bodyPost_ret (v := xD x1 x2 r1 c1) (by simp [results, Tryz.results70, go_sem, *]) rfl ?_
  refine ⟨rfl, ?_⟩
  repeat (first | exact Below.refl _ _ | refine Below.drew ?_ | refine aA ?_ _ | refine Below.setCell ?_ (by simp) _)
section
variable (b1 s1 : ByteArray) (r1 c1 : Int) (b2 s2 : ByteArray) (r2 c2 : Int) (w : World)
theorem aAc (a b : ByteArray) : (a.toList = [] ∧ orS a b = b) ∨ ((a.toList == []) = false ∧ orS a b = a) := by
 unfold orS
 by_cases h : a.toList = []
 ·left; exact ⟨h, if_pos h⟩
 ·right; exact ⟨by simpa using h, if_neg h⟩
theorem aHN (fr fc : Bool) : Calls Tryz.prog 50 #[bC b1 s1 r1 c1 fr fc, xD b2 s2 r2 c2] w fun e w' => e = .returned (xD (orS b1 b2) (orS s1 s2) r1 c1) ∧ Below w.heap.size w w' := by
 have HB : Hid (Below ((w.alloc (aU b1 s1 r1 c1 fr fc)).alloc (bF b2 s2 r2 c2)).heap.size ((w.alloc (aU b1 s1 r1 c1 fr fc)).alloc (bF b2 s2 r2 c2)) ((w.alloc (aU b1 s1 r1 c1 fr fc)).alloc (bF b2 s2 r2 c2))) := Below.refl _ _
 rcases aAc b1 b2 with ⟨h1, e1⟩ | ⟨h1, e1⟩ <;> rcases aAc s1 s2 with ⟨h2, e2⟩ | ⟨h2, e2⟩
 all_goals
  rw [e1, e2]
  clear e1 e2
  go_enter Tryz.func50, Tryz.ntmps50
  go_wp2
  refine bodyPost_ret (v := _) (by simp [results, Tryz.results50, go_sem]; try rfl) rfl ?_
  refine ⟨rfl, ?_⟩
  repeat (first | exact Below.refl _ _ | refine Below.drew ?_ | refine Below.setCell ?_ (by simp) _ | refine aA ?_ _)
end
end Go.Proofs.YtljmklbbngpllaaGreatDoor
namespace Go.Proofs.YtljmklbbngpllaaGreatDoor.Rw
open Go.RowKit
structure Chg where
 bk : ByteArray
 sh : ByteArray
 dr : Bool
 co : Bool
 a : Int
 n : Int
 m : Int
structure Hm where
 hb : ByteArray
 hs : ByteArray
 hr : Int
 hc : Int
structure Rf where
 b : ByteArray
 h : ByteArray
 r : Int
 c : Int
 fr : Bool
 fc : Bool
abbrev rfV (x : Rf) : Value := bC x.b x.h x.r x.c x.fr x.fc
abbrev rfO (x : Rf) : Obj := aU x.b x.h x.r x.c x.fr x.fc
abbrev hmV (H : Hm) : Value := xD H.hb H.hs H.hr H.hc
def z0 : Rf := ⟨⟨#[]⟩, ⟨#[]⟩, 0, 0, false, false⟩
def eqR (x y : Rf) : Bool := (x.b.toList == y.b.toList) && ((x.h.toList == y.h.toList) && ((x.r == y.r) && ((x.c == y.c) && ((x.fr == y.fr) && (x.fc == y.fc)))))
def ofR (C : Chg) (H : Hm) (x : Rf) : Bool := ((orS x.b H.hb).toList == C.bk.toList) && ((orS x.h H.hs).toList == C.sh.toList)
def ln (C : Chg) (x : Rf) : Int := if C.co = true then x.c else x.r
def gL (C : Chg) (x : Rf) (v : Int) : Rf := if C.co = true then ⟨x.b, x.h, x.r, v, x.fr, x.fc⟩ else ⟨x.b, x.h, v, x.c, x.fr, x.fc⟩
def mvB (C : Chg) (x : Rf) : Bool := !C.dr && Hs.posB C.a C.n C.m (ln C x)
def mvX (C : Chg) (x : Rf) : Rf := if C.dr = true then z0 else gL C x (Hs.dG C.a C.n C.m (ln C x))
def o1 (x y : Rf) : Rf := if y.r < x.r then ⟨x.b, x.h, y.r, x.c, y.fr, x.fc⟩ else x
def o2 (x y : Rf) : Rf := if y.r < x.r then ⟨y.b, y.h, x.r, y.c, x.fr, y.fc⟩ else y
def c1 (x y : Rf) : Rf := if y.c < x.c then ⟨x.b, x.h, x.r, y.c, x.fr, y.fc⟩ else x
def c2 (x y : Rf) : Rf := if y.c < x.c then ⟨y.b, y.h, y.r, x.c, y.fr, x.fc⟩ else y
def lo (x y : Rf) : Rf := c1 (o1 x y) (o2 x y)
def hi (x y : Rf) : Rf := c2 (o1 x y) (o2 x y)
def arB (C : Chg) (x y : Rf) : Bool := !C.dr && Hs.spB C.a C.n C.m (ln C x) (ln C y)
def arX (C : Chg) (x y : Rf) : Rf := if C.dr = true then z0 else gL C x (Hs.spL C.a C.n C.m (ln C x) (ln C y))
def arY (C : Chg) (x y : Rf) : Rf := if C.dr = true then z0 else gL C y (Hs.spH C.a C.n C.m (ln C x) (ln C y))
end Go.Proofs.YtljmklbbngpllaaGreatDoor.Rw
