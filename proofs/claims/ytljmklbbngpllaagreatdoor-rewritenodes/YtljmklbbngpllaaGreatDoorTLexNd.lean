/- FPrint, TLex. -/
import Derived.Test.YtljmklbbngpllaaGreatDoorFWriteNd
set_option linter.unusedVariables false
set_option linter.unusedSimpArgs false
set_option maxHeartbeats 16000000
set_option maxRecDepth 100000
namespace Go.Proofs.YtljmklbbngpllaaGreatDoor
open Go.RowKit Go.Fm
theorem aBB {b h : ByteArray} {r c : Int} {fr fc : Bool} (hg : bB b h r c = true) : Tk.okT gnF trB okN (wY b h r c fr fc) := by
 obtain ⟨R, C, rfl, rfl, q1, q2, q3, q4, hw⟩ := jX hg
 show Ad.aD6 gnF ⟨b.toList, h.toList, ⟨R, C, fr, fc⟩⟩
 refine ⟨⟨q1, q2, q3, q4⟩, ?_, ?_⟩
 ·rcases hw with ⟨h1, h2⟩ | ⟨h1, h2, h3⟩ | ⟨h1, h2, h3, h4⟩
  ·exact .inl h1
  ·exact .inr (by show gnF h.toList = true; rw [ByteArray.toList_eq]; exact h2)
  ·exact .inr (by show gnF h.toList = true; rw [ByteArray.toList_eq]; exact h2)
 ·rcases hw with ⟨h1, h2⟩ | ⟨h1, h2, h3⟩ | ⟨h1, h2, h3, h4⟩
  ·exact .inl h2
  ·exact .inl h3
  ·exact .inr ⟨by rw [ByteArray.toList_eq]; exact h4, by simpa using h1⟩
theorem uZ (c : UInt8) (h : c ∈ Tk.ones) : Tk.okT gnF trB okN (Tk.Tok.op [c]) ∧ smT (Tk.Tok.op [c]) := ⟨.inl ⟨c, h, rfl⟩, trivial⟩
theorem aJA {l : List UInt8} (h : bY l ≠ 0) : Tk.okT gnF trB okN (Tk.Tok.op l) ∧ smT (Tk.Tok.op l) := by
 refine ⟨?_, trivial⟩
 have one : ∀ c ∈ Tk.ones, l = [c] → Tk.okT gnF trB okN (Tk.Tok.op l) := fun c hc e => .inl ⟨c, hc, e⟩
 have two : ∀ c d, Tk.two c d = true → l = [c, d] → Tk.okT gnF trB okN (Tk.Tok.op l) := fun c d hc e => .inr ⟨c, d, hc, e⟩
 unfold bY at h
 split at h
 ·rename_i hh
  rcases hh with e | e | e | e | e | e
  ·exact one _ (by decide) e
  ·exact two _ _ (by decide) e
  ·exact one _ (by decide) e
  ·exact two _ _ (by decide) e
  ·exact one _ (by decide) e
  ·exact two _ _ (by decide) e
 split at h
 ·rename_i e; exact one _ (by decide) e
 split at h
 ·rename_i hh
  rcases hh with e | e <;> exact one _ (by decide) e
 split at h
 ·rename_i hh
  rcases hh with e | e <;> exact one _ (by decide) e
 split at h
 ·rename_i e; exact one _ (by decide) e
 ·exact absurd rfl h
theorem aCr : trB [84, 82, 85, 69] = true ∧ trB [70, 65, 76, 83, 69] = true := by
 constructor <;> (unfold trB; decide)
theorem aGm {k n : Int} {s : ByteArray} (h : gcB k n s = true) : Tk.okT gnF trB okN (kG k n s) ∧ smT (kG k n s) := by
 rcases aAm h with ⟨rfl, h1, h2⟩ | ⟨rfl, h1⟩ | ⟨rfl, h1⟩ | ⟨rfl, h1, h2⟩
 ·exact ⟨⟨h1, h2⟩, trivial⟩
 ·refine ⟨trivial, ?_⟩
  show s.toList.length ≤ 255
  rw [ByteArray.toList_eq, cZ]; exact h1
 ·refine ⟨.inl ⟨rfl, .inr ?_⟩, trivial⟩
  show trB (jW 3 n s).toList = true
  rw [ByteArray.toList_eq]
  rcases h1 with rfl | rfl
  ·exact aCr.2
  ·exact aCr.1
 ·refine ⟨?_, trivial⟩
  show 1 ≤ n.toNat ∧ n.toNat ≤ 8
  omega
theorem wrap_mem {p : Nat × List Tk.Tok} {k : Nat} {x : Tk.Tok} (h : x ∈ dD p k) : x ∈ p.2 ∨ x = Tk.Tok.op [40] ∨ x = Tk.Tok.op [41] := by
 unfold dD at h
 split at h
 ·exact .inl h
 ·simp only [List.mem_cons, List.mem_append, List.not_mem_nil, or_false] at h
  rcases h with h | h | h
  ·exact .inr (.inl h)
  ·exact .inl h
  ·exact .inr (.inr h)
theorem vB : ∀ {l : List (List Tk.Tok)} {x : Tk.Tok}, x ∈ dK l → x = Tk.Tok.op [44] ∨ ∃ y ∈ l, x ∈ y
 | [], x, h => by simp [dK] at h
 | [y], x, h => .inr ⟨y, by simp, h⟩
 | y :: z :: r, x, h => by
  rw [dK, List.mem_append, List.mem_cons] at h
  rcases h with h | h | h
  ·exact .inr ⟨y, by simp, h⟩
  ·exact .inl h
  ·rcases vB h with h | ⟨q, hq, hx⟩
   ·exact .inl h
   ·exact .inr ⟨q, by simp [List.mem_cons] at hq ⊢; exact .inr hq, hx⟩
theorem aDN : ∀ t : T, ∀ d, gT okL d t = true → ∀ x ∈ tkT t, Tk.okT gnF trB okN x ∧ smT x := by
 refine ind ?_
 intro t ih d hg x hx
 obtain ⟨hok, aH5⟩ := sQ hg
 have o40 := uZ 40 (by decide)
 have o41 := uZ 41 (by decide)
 have hwrap : ∀ i lv, x ∈ dD (jK (lI t.2) i) lv → Tk.okT gnF trB okN x ∧ smT x := fun i lv h => by
  rcases wrap_mem h with h | h | h
  ·unfold jK at h
   rw [fJ, List.getElem?_map] at h
   cases hq : (kids t.2)[i]? with
   | none => rw [hq] at h; simp at h
   | some s =>
    rw [hq] at h
    have hm := List.mem_of_getElem? hq
    exact ih s hm _ (aH5 s hm) x h
  ·rw [h]; exact o40
  ·rw [h]; exact o41
 rw [jL t] at hx
 unfold iT at hx
 rcases aAl hok with ⟨hk, h1⟩ | ⟨hk, h1⟩ | ⟨hk, h1, h2, h3⟩ | ⟨hk, h1, h2⟩ | ⟨hk, h1, h2⟩ | ⟨hk, h1, h2⟩ | ⟨hk, h1, h2⟩
 ·rw [if_pos hk, List.mem_singleton] at hx
  rw [hx]; exact aGm h1
 ·rw [if_neg (by omega), if_pos hk, List.mem_singleton] at hx
  rw [hx]; exact ⟨aBB h1, trivial⟩
 ·rw [if_neg (by omega), if_neg (by omega), if_pos hk] at hx
  simp only [List.mem_cons, List.not_mem_nil, or_false] at hx
  rcases hx with hx | hx | hx
  ·rw [hx]; exact ⟨aBB h1, trivial⟩
  ·rw [hx]; exact uZ 58 (by decide)
  ·rw [hx]; exact ⟨aBB h2, trivial⟩
 ·rw [if_neg (by omega), if_neg (by omega), if_neg (by omega), if_pos hk, List.mem_singleton] at hx
  rw [hx]
  refine ⟨?_, trivial⟩
  rcases h2 with h2 | h2
  ·exact .inl ⟨h2, .inl (by rw [ByteArray.toList_eq]; exact h1)⟩
  ·exact .inr ⟨by rw [ByteArray.toList_eq]; exact h2, by rw [ByteArray.toList_eq]; exact h1⟩
 ·rw [if_neg (by omega), if_neg (by omega), if_neg (by omega), if_neg (by omega), if_pos hk] at hx
  split at hx
  ·rcases List.mem_cons.1 hx with hx | hx
   ·rw [hx]; exact uZ 45 (by decide)
   ·exact hwrap _ _ hx
  ·rcases List.mem_append.1 hx with hx | hx
   ·exact hwrap _ _ hx
   ·rw [List.mem_singleton.1 hx]; exact uZ 37 (by decide)
 ·rw [if_neg (by omega), if_neg (by omega), if_neg (by omega), if_neg (by omega), if_neg (by omega), if_pos hk] at hx
  rcases List.mem_append.1 hx with hx | hx
  ·exact hwrap _ _ hx
  rcases List.mem_cons.1 hx with hx | hx
  ·rw [hx]; exact aJA h2
  ·exact hwrap _ _ hx
 ·rw [if_neg (by omega), if_neg (by omega), if_neg (by omega), if_neg (by omega), if_neg (by omega), if_neg (by omega), if_pos hk] at hx
  rcases List.mem_cons.1 hx with hx | hx
  ·rw [hx]
   refine ⟨.inl ⟨rfl, ?_⟩, trivial⟩
   unfold gfB at h2
   rw [Bool.and_eq_true, Bool.or_eq_true] at h2
   rw [ByteArray.toList_eq]
   rcases h2.2 with h | h
   ·exact .inl h
   ·right
    unfold bO at h
    split at h
    ·cases h
    split at h
    ·cases h
    split at h
    ·cases h
    split at h
    ·rename_i ht; exact ht
    split at h
    ·cases h
    ·cases h
  rcases List.mem_cons.1 hx with hx | hx
  ·rw [hx]; exact o40
  rcases List.mem_append.1 hx with hx | hx
  ·rcases vB hx with h | ⟨y, hy, hxy⟩
   ·rw [h]; exact uZ 44 (by decide)
   ·rw [fJ, List.map_map] at hy
    obtain ⟨s, hs, rfl⟩ := List.mem_map.1 hy
    exact ih s hs _ (aH5 s hs) x hxy
  ·rw [List.mem_singleton.1 hx]; exact o41
def wZ (t : T) : List UInt8 := if gT okL 24 t = true then prT none (tkT t) else []
theorem aBC {t : T} (hz : zT t ≤ 900) (hZ : ZT t) {w : World} {es : Array Value} (h : NT w es t) (T : dB w) : Calls Tryz.prog 35 #[.agg es] w fun e w' => e = .returned (.string (ba (wZ t))) ∧ Below w.heap.size w w' := by
 have B1 := aA (Below.refl w.heap.size w) (.cells es 28)
 have G := aDp (by omega) hZ (h.below B1) (T.below B1).t.t
 have RL : Hid _ := (jG h).2 (heap_alloc_new w (.cells es 28))
 unfold wZ
 cases hq : gT okL 24 t
 ·rw [hq] at G
  rw [if_neg (by decide)]
  clear h T hq hZ hz
  go_enter Tryz.func35, Tryz.ntmps35
  go_wp2_with (first
   | (refine aB rfl 28 _ rfl _ _ rfl RL.out ?_; clear RL)
   | (go_at_call 58; refine G.mono ?_; rintro e w2 ⟨rfl, hs⟩; have HU2 : Hid (Below w.heap.size w w2) := aR hs; clear hs))
  go_ret
  exact ⟨rfl, HU2.out⟩
 ·rw [if_pos rfl]
  have OK := aDN t 24 hq
  have PT : ∀ (u : World) (v : Value), cO 123 0 u v ((tkT t).map tk) → dB u → Calls Tryz.prog 60 #[v] u fun e w' => e = .returned (.string (ba (prT none (tkT t)))) ∧ Below u.heap.size u w' := fun u v ho hT => aBx hT ho (by have := oQ t; omega) (fun x hx => (OK x hx).1) (fun x hx => (OK x hx).2)
  have NO := fun (W : World) (u : World) (hW : Below (w.alloc (.cells es 28)).heap.size (w.alloc (.cells es 28)) W) (X : WX W W.heap.size [] u) => sN t 24 hq W W.heap.size es [] u ((h.below B1).below hW) X ((T.below B1).below hW).t.t (by simp; omega)
  have G2 : Calls Tryz.prog 58 #[.agg es] (w.alloc (.cells es 28)) fun e W => e = .returned (.bool true) ∧ Hid ((Instr.loadAt 28 (.pointer (some ⟨w.heap.size, 0, none⟩))).run Tryz.prog (W.alloc (.cells #[.slice none 0 0] 101)) = .ok (.agg es) (W.alloc (.cells #[.slice none 0 0] 101))) ∧
    Calls Tryz.prog 59 #[.pointer (some ⟨W.heap.size, 0, none⟩), .agg es] (W.alloc (.cells #[.slice none 0 0] 101)) (fun e u' => e = .returned (.tuple #[]) ∧ ∃ v, u'.cell? ⟨W.heap.size, 0, none⟩ = some v ∧ Hid (cO 123 0 u' v ((tkT t).map tk) ∧ dB u' ∧ Below w.heap.size w u')) := G.mono (by
   rintro e W ⟨rfl, hW⟩
   have B2 := aA (Below.refl W.heap.size W) (.cells #[.slice none 0 0] 101)
   have aKb : W.heap[w.heap.size]? = some (.cells es 28) := (hW.block _ (by simp)).trans (heap_alloc_new _ _)
   refine ⟨by rw [hq], (jG h).2 ((B2.block _ (aS aKb)).trans aKb), (NO W _ hW ⟨B2, Nat.le_refl _, _, heap_alloc_new _ _, cO.nil _ _ _⟩).mono ?_⟩
   rintro e u' ⟨rfl, hs⟩
   obtain ⟨v, hv, ho⟩ := hs.1.blk
   have hb : Below w.heap.size w u' := by
    have b1 : Below w.heap.size w W := aR hW
    exact aG b1 hs.1.bel
   exact ⟨rfl, v, by rw [cell_of_row u' _ 0 _ _ _ hv]; rfl, ho.base (Nat.zero_le _), T.below hb, hb⟩)
  clear h T hq hZ hz G NO OK B1
  generalize prT none (tkT t) = X at *
  go_enter Tryz.func35, Tryz.ntmps35
  go_wp2_with (first
   | (refine aB rfl 28 _ rfl _ _ rfl RL.out ?_; clear RL)
   | (go_at_call 58; refine G2.mono ?_; rintro e W ⟨rfl, RL, NO⟩; clear G2)
   | (go_at_call 59; refine NO.mono ?_; rintro e u' ⟨rfl, v, cv, HO⟩; clear NO)
   | (go_at_call 60; refine (PT _ _ HO.out.1 HO.out.2.1).mono ?_; rintro e u2 ⟨rfl, hb⟩; have HF : Hid (Below w.heap.size w u2) := aG HO.out.2.2 hb; clear hb))
  go_ret
  exact ⟨rfl, HF.out⟩
end Go.Proofs.YtljmklbbngpllaaGreatDoor
namespace Go.Proofs.YtljmklbbngpllaaGreatDoor
open Go.RowKit
theorem LX.own {W w w' : World} {b : Nat} {l : List UInt8} {v : Value} {L : List TT} (h : LX W b l w) (ho : cO 123 W.heap.size w v L) (hg : w.grownBy w' v.ownBlock) : LX W b l w' :=
 h.grown hg fun k hk => ⟨(World.ownsRow.lt ho k hk).1, fun e => by
  rcases ho.ne h.blk (fun c z => by simp) with h1 | h1
  ·rw [h1] at hk; cases hk
  ·exact h1 (by rw [hk, e])⟩
theorem cO.aKc {W u u1 : World} {b : Nat} {l m : List UInt8} {v : Value} {L : List TT} (h : cO 123 W.heap.size u v L) (X : LX W b l u) (k : St W b m u u1) : cO 123 W.heap.size u1 v L :=
 h.kept k.2 (h.ne X.blk (fun c z => by simp))
def aK9 (w : World) (o : Option (List Tk.Tok)) (e : Ending) (w' : World) : Prop :=
 Below w.heap.size w w' ∧ match o with
  | none => e = .returned (.tuple #[.slice none 0 0, .int .i64 10])
  | some L => ∃ v, e = .returned (.tuple #[v, .int .i64 0]) ∧ cO 123 w.heap.size w' v (L.map tk) ∧ L.length ≤ 255
theorem aGn {l : List UInt8} {c : UInt8} {r : List UInt8} (h : l.dropWhile Tk.blank = c :: r) : Tk.blank c = false := oI h
theorem aH6 {W w2 : World} {b : Nat} {m : List UInt8} {v : Value} {L : List TT} (X : LX W b m w2) (ho : cO 123 W.heap.size w2 v L) (t : TT) (hn : L.length + 1 ≤ 1000000) :
  ∃ v' w4, Hid ((Builtin.append_ #[95, 95] 95 #[v, .slice (some ⟨w2.heap.size + 1, 0, none⟩) 1 1]).run Tryz.prog ((w2.alloc (.cells (tcs t.k t.n t.s t.b t.h t.r t.c t.fr t.fc) 123)).alloc (.cells (tcs t.k t.n t.s t.b t.h t.r t.c t.fr t.fc) 123)) = .ok v' w4) ∧ Hid (cO 123 W.heap.size w4 v' (L ++ [t])) ∧ Hid (LX W b m w4) := by
 have X3 := (X.alloc (.cells (tcs t.k t.n t.s t.b t.h t.r t.c t.fr t.fc) 123)).alloc (.cells (tcs t.k t.n t.s t.b t.h t.r t.c t.fr t.fc) 123)
 have o3 : cO 123 W.heap.size ((w2.alloc (.cells (tcs t.k t.n t.s t.b t.h t.r t.c t.fr t.fc) 123)).alloc (.cells (tcs t.k t.n t.s t.b t.h t.r t.c t.fr t.fc) 123)) v L :=
  (ho.below (aA (Below.refl _ _) _)).below (aA (Below.refl _ _) _)
 obtain ⟨v', w4, R, o4, g4, _⟩ := aFf (t := t) (g := w2.heap.size + 1) (e' := 123) (z := (0, 0)) Tryz.underlying95 aFe o3 (by
  have := heap_alloc_new (w2.alloc (.cells (tcs t.k t.n t.s t.b t.h t.r t.c t.fr t.fc) 123)) (.cells (tcs t.k t.n t.s t.b t.h t.r t.c t.fr t.fc) 123)
  rw [show (w2.alloc (.cells (tcs t.k t.n t.s t.b t.h t.r t.c t.fr t.fc) 123)).heap.size = w2.heap.size + 1 by simp] at this
  exact this) hn X3.bel.size
 exact ⟨v', w4, R, o4, X3.own o3 g4⟩
theorem aGo (l : List UInt8) (w : World) (hl : 255 < l.length) : Calls Tryz.prog 55 #[.string (ba l)] w fun e w' => e = .returned (.tuple #[.slice none 0 0, .int .i64 3]) ∧ w' = w := by
 have hs : (ba l).size = l.length := size_mk l
 have h1 : (255 : Int) < l.length := by omega
 generalize ba l = A at *
 generalize l.length = n at *
 go_enter Tryz.func55, Tryz.ntmps55
 go_wp2
 go_ret2
 exact ⟨rfl, rfl⟩
theorem oU (l : List UInt8) (w : World) (T : dB w) (hl : l.length ≤ 255) : Calls Tryz.prog 55 #[.string (ba l)] w (aK9 w (gM l)) := by
 have hs : (ba l).size = l.length := size_mk l
 have h1 : ¬ (255 : Int) < l.length := by omega
 have X0 : Hid (LX w w.heap.size l (w.alloc (aJI l))) := ⟨T, aA (Below.refl _ _) _, Nat.le_refl _, heap_alloc_new w _⟩
 generalize ho : gM l = o
 have HO : Hid (gM l = o) := ho
 clear ho T
 go_enter Tryz.func55, Tryz.ntmps55
 go_wp2
 clear hs h1
 go_loopw [4] (fun v wr => ∃ (L : List Tk.Tok) (m : List UInt8), L.length + m.length ≤ 255 ∧ Hid (o = (gM m).map (L ++ ·)) ∧ Hid (LX w w.heap.size m wr) ∧ Hid (cO 123 w.heap.size wr v (L.map tk))) (fun _ wr => aB7 w.heap.size wr)
 case atStart => exact ⟨[], l, by simpa using hl, by show _ = _; rw [← HO.out]; cases gM l <;> simp, X0, cO.nil _ _ _⟩
 case round =>
  obtain ⟨L, m, hlen, HQ, HX, HW⟩ := hrel
  clear HO X0
  have hm : m.length ≤ 255 := by omega
  have hlm := nD HX.out
  have MO := fun u (Y : LX w w.heap.size m u) => aEP Y hm
  have hdl := Tk.iA Tk.blank m
  cases hD : m.dropWhile Tk.blank with
  | nil =>
   rw [hD] at MO
   have HN : Hid (o = some L) := by
    show _ = _
    rw [HQ.out, ← rJ, hD]
    show some (L ++ []) = _
    rw [List.append_nil]
   have MO' : ∀ u, LX w w.heap.size m u → Calls Tryz.prog 77 #[.pointer (some ⟨w.heap.size, 0, none⟩)] u fun e w' => e = .returned (.bool false) ∧ St w w.heap.size [] u w' := MO
   clear MO HQ
   go_wp2_with (go_at_call 77; refine (MO' _ HX.out).mono ?_; rintro e w2 ⟨rfl, hs⟩; have H2 : Hid (St w w.heap.size [] wr w2) := hs; clear hs)
   go_ret2
   rw [HN.out]
   exact ⟨H2.out.1.bel, _, rfl, HW.out.aKc HX.out H2.out, by omega⟩
  | cons c r =>
   rw [hD] at MO hdl
   have MO' : ∀ u, LX w w.heap.size m u → Calls Tryz.prog 77 #[.pointer (some ⟨w.heap.size, 0, none⟩)] u fun e w' => e = .returned (.bool true) ∧ St w w.heap.size (c :: r) u w' := MO
   have hb := aGn hD
   have NX := fun u (Y : LX w w.heap.size (c :: r) u) => aFc Y (by omega)
   have hlx := aFh (r := r) hb
   rw [← hD, rJ] at hlx
   rw [hD] at hlx
   cases h1 : Tk.one gnF trB pnF (c :: r) with
   | none =>
    rw [h1] at NX hlx
    have HN : Hid (o = none) := by
     show _ = _
     rw [HQ.out, hlx]; rfl
    have NX' : ∀ u, LX w w.heap.size (c :: r) u → Calls Tryz.prog 78 #[.pointer (some ⟨w.heap.size, 0, none⟩)] u fun e w' => ∃ (t : TT) (q : List UInt8), e = .returned (.tuple #[.agg (tcs t.k t.n t.s t.b t.h t.r t.c t.fr t.fc), .bool false]) ∧ St w w.heap.size q u w' := fun u Y => (NX u Y).mono (by
     rintro e w' ⟨⟨t, rfl⟩, q, h⟩
     exact ⟨t, q, rfl, h⟩)
    clear MO NX HQ hlx
    go_wp2_with (first
     | (go_at_call 77; refine (MO' _ HX.out).mono ?_; rintro e w2 ⟨rfl, hs⟩; have H2 : Hid (St w w.heap.size (c :: r) wr w2) := hs; clear hs)
     | (go_at_call 78; refine (NX' _ H2.out.1).mono ?_; rintro e w3 ⟨t, q, rfl, hs⟩; have H3 : Hid (St w w.heap.size q wr w3) := H2.out.step hs; clear hs))
    go_ret2
    rw [HN.out]
    exact ⟨((H3.out.alloc _).1).bel, rfl⟩
   | some p =>
    obtain ⟨t, q⟩ := p
    have hql := nE h1
    rw [h1] at NX hlx
    have HN : Hid (o = (gM q).map ((L ++ [t]) ++ ·)) := by
     show _ = _
     rw [HQ.out, hlx]
     simp only
     cases gM q <;> simp
    have NX' : ∀ u, LX w w.heap.size (c :: r) u → Calls Tryz.prog 78 #[.pointer (some ⟨w.heap.size, 0, none⟩)] u fun e w' => e = .returned (.tuple #[.agg (tcs (tk t).k (tk t).n (tk t).s (tk t).b (tk t).h (tk t).r (tk t).c (tk t).fr (tk t).fc), .bool true]) ∧ St w w.heap.size q u w' := fun u Y => (NX u Y).mono (by
     rintro e w' ⟨rfl, h⟩
     exact ⟨rfl, h⟩)
    have HL : Hid ((L ++ [t]).length + q.length ≤ 255) := by show _ ≤ _; simp at hql hdl ⊢; omega
    have HM : Hid (q.length < m.length) := by show _ < _; simp at hql hdl ⊢; omega
    have HT : Hid (∀ x, x = tk t → (L ++ [t]).map tk = L.map tk ++ [x]) := fun x e => by rw [e]; simp
    clear MO NX HQ hlx h1 hql
    generalize htt : tk t = tt at *
    have HT2 : Hid ((L ++ [t]).map tk = L.map tk ++ [tt]) := HT.out tt rfl
    clear HT htt
    go_wp2_with (first
     | (go_at_call 77; refine (MO' _ HX.out).mono ?_; rintro e w2 ⟨rfl, hs⟩; have H2 : Hid (St w w.heap.size (c :: r) wr w2) := hs; clear hs)
     | (go_at_call 78; refine (NX' _ H2.out.1).mono ?_; rintro e w3 ⟨rfl, hs⟩; have H3 : Hid (St w w.heap.size q wr w3) := H2.out.step hs; clear hs; obtain ⟨v', w4, RR, HO4, HX4⟩ := aH6 H3.out.1 (HW.out.aKc HX.out H3.out) tt (by have := HL.out; simp at this ⊢; omega))
     | (at_builtin; refine wpList_append_run rfl _ _ 95 rfl _ _ _ _ rfl rfl RR.out ?_))
    go_roundw
    case rel => exact ⟨L ++ [t], q, HL.out, HN, HX4, by show cO _ _ _ _ _; rw [HT2.out]; exact HO4.out⟩
    case measure => rw [nD HX4.out, hlm]; exact HM.out
end Go.Proofs.YtljmklbbngpllaaGreatDoor
