/- FOpen. -/
import Derived.Test.YtljfkkpkcjigpaaGreatDoorFGooda
import Derived.ChangeArms
import Derived.ChangeOld
import Derived.WideShapes
set_option linter.unusedVariables false
set_option linter.unusedSimpArgs false
namespace Go.Proofs.YtljfkkpkcjigpaaGreatDoor
open Go.ChangeShapes Go.WideShapes Go.RowKit Go.Fm
set_option maxRecDepth 100000
theorem wideF : Tryz.prog.cellsOf 3 = 1 ∧ Tryz.prog.cellsOf 4 = 1 ∧ Tryz.prog.cellsOf 9 = 1 ∧ Tryz.prog.cellsOf 23 = 3 ∧ Tryz.prog.cellsOf 25 = 6 ∧ Tryz.prog.cellsOf 26 = 1 ∧ Tryz.prog.cellsOf 28 = 18 := by
  refine ⟨?_, ?_, ?_, ?_, ?_, ?_, ?_⟩ <;> kernel_rfl
section
variable {H : Type} {enc : TypeId × Value → H} {w : World} {base : Nat} {spare : Nat → Bool} {held : Bool}
theorem open_valc {n : Nat} {c0 c1 c2 : Value} {x : DataW H × List MemPlace} (h : DataW.trod enc Tryz.prog w base spare held n 23 [c0, c1, c2] = some x) : ∃ (k m : Int) (s : ByteArray), c0 = .int .i64 k ∧ c1 = .int .i64 m ∧ c2 = .string s := by
  obtain ⟨f3, f4, f9, f23, f25, f26, f28⟩ := wideF
  obtain ⟨xs, n, _, _, hl, hlen, hfld⟩ := DataW.trod_struct Tryz.underlying23 h
  have get : ∀ (i : Nat) (f : Field), _ → i < 3 → ∃ y, DataW.trod enc Tryz.prog w base spare held n f.type (([c0, c1, c2].drop f.offset).take (Tryz.prog.cellsOf f.type)) = some y :=
    fun i f hf hi => ⟨_, (hfld i f hf).trans (List.getElem?_eq_getElem (by rw [hlen]; exact hi))⟩
  obtain ⟨y0, h0⟩ := get 0 _ rfl (by decide)
  obtain ⟨y1, h1⟩ := get 1 _ rfl (by decide)
  obtain ⟨y2, h2⟩ := get 2 _ rfl (by decide)
  obtain ⟨k, e0, _⟩ := DataW.trod_int Tryz.underlying3 h0
  obtain ⟨m, e1, _⟩ := DataW.trod_int Tryz.underlying3 h1
  obtain ⟨s, e2, _, _⟩ := DataW.trod_string Tryz.underlying9 h2
  simp [f3] at e0 e1
  simp [f9] at e2
  exact ⟨k, m, s, e0, e1, e2⟩
theorem open_refc {n : Nat} {c0 c1 c2 c3 c4 c5 : Value} {x : DataW H × List MemPlace} (h : DataW.trod enc Tryz.prog w base spare held n 25 [c0, c1, c2, c3, c4, c5] = some x) :
    ∃ (b s : ByteArray) (r c : Int) (fr fc : Bool), c0 = .string b ∧ c1 = .string s ∧ c2 = .int .i64 r ∧ c3 = .int .i64 c ∧ c4 = .bool fr ∧ c5 = .bool fc ∧ b.size ≤ maxLen ∧ s.size ≤ maxLen := by
  obtain ⟨f3, f4, f9, f23, f25, f26, f28⟩ := wideF
  obtain ⟨xs, n, _, _, hl, hlen, hfld⟩ := DataW.trod_struct Tryz.underlying25 h
  have get : ∀ (i : Nat) (f : Field), _ → i < 6 → ∃ y, DataW.trod enc Tryz.prog w base spare held n f.type (([c0, c1, c2, c3, c4, c5].drop f.offset).take (Tryz.prog.cellsOf f.type)) = some y :=
    fun i f hf hi => ⟨_, (hfld i f hf).trans (List.getElem?_eq_getElem (by rw [hlen]; exact hi))⟩
  obtain ⟨y0, h0⟩ := get 0 _ rfl (by decide)
  obtain ⟨y1, h1⟩ := get 1 _ rfl (by decide)
  obtain ⟨y2, h2⟩ := get 2 _ rfl (by decide)
  obtain ⟨y3, h3⟩ := get 3 _ rfl (by decide)
  obtain ⟨y4, h4⟩ := get 4 _ rfl (by decide)
  obtain ⟨y5, h5⟩ := get 5 _ rfl (by decide)
  obtain ⟨b, e0, _, w0⟩ := DataW.trod_string Tryz.underlying9 h0
  obtain ⟨s, e1, _, w1⟩ := DataW.trod_string Tryz.underlying9 h1
  obtain ⟨r', e2, _⟩ := DataW.trod_int Tryz.underlying3 h2
  obtain ⟨c', e3, _⟩ := DataW.trod_int Tryz.underlying3 h3
  obtain ⟨fr, e4, _⟩ := DataW.trod_bool Tryz.underlying4 h4
  obtain ⟨fc, e5, _⟩ := DataW.trod_bool Tryz.underlying4 h5
  simp [f9] at e0 e1
  simp [f3] at e2 e3
  simp [f4] at e4 e5
  exact ⟨b, s, r', c', fr, fc, e0, e1, e2, e3, e4, e5, w0, w1⟩
theorem rowIn {w : World} : ∀ (len : Nat) (a : Addr), (∀ i, i < len → ∃ (cs : List Value) (t : T), (∀ j v, cs[j]? = some v → w.cell? ((a.add (i * 18)).add j) = some v) ∧ NT w cs.toArray t ∧ ZT t) → ∃ ts : List T, ts.length = len ∧ InF w a (mk ts) ∧ ∀ t ∈ ts, ZT t
  | 0, a, _ => ⟨[], rfl, trivial, fun t h => by cases h⟩
  | len + 1, a, h => by
    obtain ⟨cs, t, h1, ⟨p, n, c, e, hs⟩, h3⟩ := h 0 (by omega)
    obtain ⟨ts, e1, e2, e3⟩ := rowIn len (a.add 18) fun i hi => by
      obtain ⟨cs, t, h1, h2, h3⟩ := h (i + 1) (by omega)
      refine ⟨cs, t, fun j v hj => ?_, h2, h3⟩
      have := h1 j v hj
      rw [Go.Deep.add_add] at this ⊢
      rw [Go.Deep.add_add]
      rw [show 18 + (i * 18 + j) = (i + 1) * 18 + j by omega]
      exact this
    refine ⟨t :: ts, by rw [List.length_cons, e1], ⟨⟨p, n, c, fun j v hj => ?_, hs.1, hs.2⟩, e2⟩, fun x hx => ?_⟩
    · have e' : cs = lcl t.1 (.slice p n c) := by
        have := congrArg Array.toList e
        simpa [lcs] using this
      have := h1 j v (by rw [e']; exact hj)
      rw [Go.Deep.add_add] at this
      simpa using this
    · rcases List.mem_cons.1 hx with rfl | hx
      · exact h3
      · exact e3 x hx
theorem zt_mk {a : Lab} {ts : List T} (h : LabZ a) (hs : ∀ t ∈ ts, ZT t) : ZT (a, mk ts) := by
  intro x hx
  rw [preT, pre_kids] at hx
  rcases List.mem_cons.1 hx with rfl | hx
  · exact h
  · obtain ⟨t, ht, hx⟩ := List.mem_flatMap.1 hx
    have : t ∈ ts := by
      have e : kids (mk ts) = ts := kids_mk ts
      rw [← e]; exact ht
    exact hs t this x hx
theorem list18 {α : Type} {l : List α} (h : l.length = 18) : ∃ c0 c1 c2 c3 c4 c5 c6 c7 c8 c9 c10 c11 c12 c13 c14 c15 c16 c17, l = [c0, c1, c2, c3, c4, c5, c6, c7, c8, c9, c10, c11, c12, c13, c14, c15, c16, c17] := by
  match l, h with
  | [c0, c1, c2, c3, c4, c5, c6, c7, c8, c9, c10, c11, c12, c13, c14, c15, c16, c17], _ => exact ⟨c0, c1, c2, c3, c4, c5, c6, c7, c8, c9, c10, c11, c12, c13, c14, c15, c16, c17, rfl⟩
set_option maxHeartbeats 4000000 in
theorem open_node : ∀ (N fuel : Nat), fuel ≤ N → ∀ (cs : List Value) (x : DataW H × List MemPlace), DataW.trod enc Tryz.prog w base spare held fuel 28 cs = some x → ∃ t : T, NT w cs.toArray t ∧ ZT t := by
  intro N
  induction N with
  | zero =>
    intro fuel hf cs x h
    obtain ⟨xs, n, e, _⟩ := DataW.trod_struct Tryz.underlying28 h
    omega
  | succ N ih =>
    intro fuel hf cs x h
    obtain ⟨f3, f4, f9, f23, f25, f26, f28⟩ := wideF
    obtain ⟨xs, n, hfu, _, hl, hlen, hfld⟩ := DataW.trod_struct Tryz.underlying28 h
    obtain ⟨c0, c1, c2, c3, c4, c5, c6, c7, c8, c9, c10, c11, c12, c13, c14, c15, c16, c17, rfl⟩ := list18 (hl.trans f28)
    have get : ∀ (i : Nat) (f : Field), _ → i < 6 → ∃ y, DataW.trod enc Tryz.prog w base spare held n f.type (([c0, c1, c2, c3, c4, c5, c6, c7, c8, c9, c10, c11, c12, c13, c14, c15, c16, c17].drop f.offset).take (Tryz.prog.cellsOf f.type)) = some y :=
      fun i f hf hi => ⟨_, (hfld i f hf).trans (List.getElem?_eq_getElem (by rw [hlen]; exact hi))⟩
    obtain ⟨y0, h0⟩ := get 0 _ rfl (by decide)
    obtain ⟨y1, h1⟩ := get 1 _ rfl (by decide)
    obtain ⟨y2, h2⟩ := get 2 _ rfl (by decide)
    obtain ⟨y3, h3⟩ := get 3 _ rfl (by decide)
    obtain ⟨y4, h4⟩ := get 4 _ rfl (by decide)
    obtain ⟨y5, h5⟩ := get 5 _ rfl (by decide)
    obtain ⟨k, e0, _⟩ := DataW.trod_int Tryz.underlying3 h0
    obtain ⟨s, e1, _, zs⟩ := DataW.trod_string Tryz.underlying9 h1
    simp [f3] at e0
    simp [f9] at e1
    replace h2 : DataW.trod enc Tryz.prog w base spare held n 23 [c2, c3, c4] = some y2 := by simpa [f23] using h2
    replace h3 : DataW.trod enc Tryz.prog w base spare held n 25 [c5, c6, c7, c8, c9, c10] = some y3 := by simpa [f25] using h3
    replace h4 : DataW.trod enc Tryz.prog w base spare held n 25 [c11, c12, c13, c14, c15, c16] = some y4 := by simpa [f25] using h4
    replace h5 : DataW.trod enc Tryz.prog w base spare held n 26 [c17] = some y5 := by simpa [f26] using h5
    obtain ⟨vk, vn, vs, rfl, rfl, rfl⟩ := open_valc h2
    obtain ⟨b1, s1, r1, q1, fr1, fc1, rfl, rfl, rfl, rfl, rfl, rfl, z1, z2⟩ := open_refc h3
    obtain ⟨b2, s2, r2, q2, fr2, fc2, rfl, rfl, rfl, rfl, rfl, rfl, z3, z4⟩ := open_refc h4
    subst e0 e1
    have hZ : LabZ ⟨k, s, vk, vn, vs, b1, s1, r1, q1, fr1, fc1, b2, s2, r2, q2, fr2, fc2⟩ := by
      simp only [maxLen] at zs z1 z2 z3 z4
      exact ⟨by show s.size ≤ _; omega, by show b1.size ≤ _; omega, by show s1.size ≤ _; omega, by show b2.size ≤ _; omega, by show s2.size ≤ _; omega⟩
    rcases DataW.trod_slice Tryz.underlying26 h5 with ⟨e5, _⟩ | ⟨a, len, cap, elems, rest, m, hm, e5, _, _, hlc, _, hel, hget, _, _⟩
    · have e6 : c17 = .slice none 0 0 := by simpa using e5
      subst e6
      exact ⟨(⟨k, s, vk, vn, vs, b1, s1, r1, q1, fr1, fc1, b2, s2, r2, q2, fr2, fc2⟩, mk []), ⟨none, 0, 0, rfl, rfl, .inl rfl⟩, zt_mk hZ (fun t h => by cases h)⟩
    · have e6 : c17 = .slice (some a) len cap := by simpa using e5
      subst e6
      obtain ⟨ts, t1, t2, t3⟩ := rowIn len a fun i hi => by
        have hg := hget i hi
        rw [f28, List.getElem?_eq_getElem (by omega)] at hg
        obtain ⟨cs, hc, ht⟩ := Option.bind_eq_some_iff.1 hg
        obtain ⟨t, hN, hz⟩ := ih m (by omega) cs _ ht
        refine ⟨cs, t, fun j v hj => ?_, hN, hz⟩
        obtain ⟨_, hcl, hcc⟩ := World.cells?_some hc
        rw [hcc j (by have := (List.getElem?_eq_some_iff.1 hj).1; omega)]
        exact hj
      refine ⟨(⟨k, s, vk, vn, vs, b1, s1, r1, q1, fr1, fc1, b2, s2, r2, q2, fr2, fc2⟩, mk ts), ⟨some a, len, cap, rfl, ?_, .inr ⟨a, rfl, t2⟩⟩, zt_mk hZ t3⟩
      rw [kids_mk]; exact t1.symm
theorem open_tree {r : Reach} {b0 : Nat} {v : Value} {d : DataW H} {p : List MemPlace} (hv : Value.okWide Tryz.prog w r b0 28 v) (h : DataW.Trod enc Tryz.prog w base spare held 28 v d p) : ∃ (es : Array Value) (t : T), v = .agg es ∧ NT w es t ∧ ZT t := by
  obtain ⟨cs, rfl, hsz⟩ := okWide_struct Tryz.underlying28 hv
  obtain ⟨fuel, hf⟩ := h
  obtain ⟨t, hN, hZ⟩ := open_node fuel fuel (Nat.le_refl _) _ _ hf
  refine ⟨cs, t, rfl, ?_, hZ⟩
  simpa [Value.cells] using hN
end
end Go.Proofs.YtljfkkpkcjigpaaGreatDoor
