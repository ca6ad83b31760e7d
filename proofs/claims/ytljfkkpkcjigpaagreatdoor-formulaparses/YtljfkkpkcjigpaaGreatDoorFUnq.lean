/- FPut, FHold, FUn. -/
import Derived.Test.YtljfkkpkcjigpaaGreatDoorFTokq
set_option linter.unusedVariables false
set_option linter.unusedSimpArgs false
namespace Go.Proofs.YtljfkkpkcjigpaaGreatDoor
open Go.RowKit Go.Fm
set_option maxRecDepth 100000
structure WX (W : World) (g : Nat) (L : List TT) (u : World) : Prop where
  bel : Below W.heap.size W u
  lo : W.heap.size ≤ g
  blk : ∃ v, u.heap[g]? = some (.cells #[v] 63) ∧ OwnT 70 W.heap.size u v L
def WS (W : World) (g : Nat) (L : List TT) (u u' : World) : Prop := WX W g L u' ∧ u.heap.size ≤ u'.heap.size ∧ ∀ (k : Nat) (es : Array Value), u.heap[k]? = some (.cells es 28) → u'.heap[k]? = some (.cells es 28)
theorem WX.lt {W u : World} {g : Nat} {L : List TT} (h : WX W g L u) : g < u.heap.size := by
  obtain ⟨v, hv, _⟩ := h.blk
  exact lt_of hv
theorem WX.below {W u u' : World} {g : Nat} {L : List TT} (h : WX W g L u) (hb : Below u.heap.size u u') : WX W g L u' := by
  obtain ⟨v, hv, ho⟩ := h.blk
  exact ⟨bel_step h.bel hb, h.lo, v, (hb.block g (lt_of hv)).trans hv, ho.below hb⟩
theorem WS.refl {W u : World} {g : Nat} {L : List TT} (h : WX W g L u) : WS W g L u u := ⟨h, Nat.le_refl _, fun _ _ h => h⟩
theorem WS.step {W u u1 u2 : World} {g : Nat} {L M : List TT} (h : WS W g L u u1) (k : WS W g M u1 u2) : WS W g M u u2 := ⟨k.1, Nat.le_trans h.2.1 k.2.1, fun i es hi => k.2.2 i es (h.2.2 i es hi)⟩
theorem WS.bel {W u u1 u2 : World} {g : Nat} {L : List TT} (h : WS W g L u u1) (hb : Below u1.heap.size u1 u2) : WS W g L u u2 :=
  ⟨h.1.below hb, Nat.le_trans h.2.1 hb.size, fun i es hi => by have := h.2.2 i es hi; exact (hb.block i (lt_of this)).trans this⟩
theorem WS.of {W u u1 : World} {g : Nat} {L : List TT} (h : WX W g L u) (hb : Below u.heap.size u u1) : WS W g L u u1 := (WS.refl h).bel hb
theorem WS.from {W u u1 u2 : World} {g : Nat} {L : List TT} (hb : Below u.heap.size u u1) (h : WS W g L u1 u2) : WS W g L u u2 :=
  ⟨h.1, Nat.le_trans hb.size h.2.1, fun i es hi => h.2.2 i es ((hb.block i (lt_of hi)).trans hi)⟩
theorem tok_one (t : TT) (w : World) : (Instr.buildSlice 46 1 #[(0, .agg t.cs)]).run Tryz.prog w = .ok (.slice (some ⟨w.heap.size, 0, none⟩) 1 1) (w.alloc (.cells ([t].flatMap TT.cl).toArray 70)) := by kernel_rfl
theorem ownT_apps {base : Nat} {w : World} {v : Value} {L M : List TT} (h : OwnT 70 base w v L) {g : Nat} (hg : w.heap[g]? = some (.cells (M.flatMap TT.cl).toArray 70)) (hn : L.length + M.length ≤ 1000000) (hm : 1 ≤ M.length) (hbase : base ≤ w.heap.size) :
    ∃ v' w', Hid ((Builtin.append_ #[46, 46] 46 #[v, .slice (some ⟨g, 0, none⟩) M.length M.length]).run Tryz.prog w = .ok v' w') ∧ OwnT 70 base w' v' (L ++ M) ∧ w.grownBy w' v.ownBlock ∧ Below base w w' := by
  obtain ⟨i0, hi, hz0, hz1, hz2⟩ := info_parts inf35z
  have hadd : ∀ k, (⟨g, 0, none⟩ : Addr).add k = ⟨g, k, none⟩ := fun k => by unfold Addr.add; split <;> simp_all
  obtain ⟨v', w', r1, o1, g1, _, _⟩ := run_append_own_at w base 46 46 70 i0 _ 9 88 Tryz.underlying46 hi hz0 hz1 hz2 rfl (by decide) v _ _ h ⟨g, 0, none⟩ M.length M.length (M.flatMap TT.cl) (by rw [flat_len])
    (fun j u hj => by rw [hadd, cell_of_row w g j _ _ _ hg, ← hj]; simp) (fun x hx => by
      obtain ⟨t, _, ht⟩ := List.mem_flatMap.1 hx
      exact cl_one t x ht) (by simp only [maxLen]; omega) (by omega) hbase
  refine ⟨v', w', r1, ?_, g1, (Below.refl base w).grown g1 hbase fun k hk => (World.ownsRow.lt h k hk).1⟩
  unfold OwnT
  rw [List.length_append, List.flatMap_append]
  simpa using o1
theorem own_ne {o : Option Nat} {k : Nat} (h : o = none ∨ o ≠ some k) : some k ≠ o := fun e => by
  rcases h with h | h
  · rw [h] at e; cases e
  · exact h e.symm
set_option maxHeartbeats 1000000 in
theorem put_any {W u : World} {g g2 : Nat} {L M : List TT} (X : WX W g L u) (h2 : u.heap[g2]? = some (.cells (M.flatMap TT.cl).toArray 70)) (hn : L.length + M.length ≤ 1000000) (hm : 1 ≤ M.length) :
    Calls Tryz.prog 55 #[.pointer (some ⟨g, 0, none⟩), .slice (some ⟨g2, 0, none⟩) M.length M.length] u fun e u' => e = .returned (.tuple #[]) ∧ WS W g (L ++ M) u u' := by
  obtain ⟨v, hv, ho⟩ := X.blk
  obtain ⟨v', w', R, o1, g1, _⟩ := ownT_apps ho h2 hn hm X.bel.size
  obtain ⟨a', c', hv'⟩ := o1.slice
  obtain ⟨q, hq⟩ : ∃ q, (L ++ M).length = q := ⟨_, rfl⟩
  rw [hq] at hv'
  subst hv'
  clear hq
  have hne := ho.ne hv (fun c z e => by cases e)
  have hv1 : w'.heap[g]? = some (.cells #[v] 63) := (g1.block g (lt_of hv) (own_ne hne)).trans hv
  have hcell : u.cell? ⟨g, 0, none⟩ = some v := by rw [cell_of_row u g 0 _ _ _ hv]; rfl
  have hcell1 : w'.cell? ⟨g, 0, none⟩ = some v := by rw [cell_of_row w' g 0 _ _ _ hv1]; rfl
  have hfz : w'.frozen? ⟨g, 0, none⟩ = false := by simp [World.frozen?, hv1]
  have HF : Hid (WS W g (L ++ M) u (w'.setCell ⟨g, 0, none⟩ (.slice a' q c'))) := by
    have G2 : w'.grownBy (w'.setCell ⟨g, 0, none⟩ (.slice a' q c')) (some g) := Lib.grownBy_setCell _ _ _ _
    have hlt := (World.ownsRow.lt ho)
    have hb1 : Below W.heap.size W w' := X.bel.grown g1 X.bel.size (fun k hk => (hlt k hk).1)
    have hb2 : Below W.heap.size W (w'.setCell ⟨g, 0, none⟩ (.slice a' q c')) := hb1.grown G2 hb1.size (fun k hk => by cases hk; exact X.lo)
    refine ⟨⟨hb2, X.lo, .slice a' q c', ?_, ?_⟩, ?_, ?_⟩
    · simp [World.setCell, Array.getElem?_modify, hv1]
    · exact o1.kept G2 (o1.ne hv1 (fun c z e => by cases e))
    · exact Nat.le_trans g1.size G2.size
    · intro k es hk
      have n1 : v.ownBlock = none ∨ v.ownBlock ≠ some k := ho.ne hk (fun c z e => by cases e)
      have k1 : w'.heap[k]? = some (.cells es 28) := (g1.block k (lt_of hk) (own_ne n1)).trans hk
      refine (G2.block k (lt_of k1) (fun e => ?_)).trans k1
      have : k = g := by cases e; rfl
      subst this
      rw [hv1] at k1; cases k1
  clear hne hv hv1 ho g1 o1 h2 X
  go_enter Tryz.func55, Tryz.ntmps55
  go_wp2_with (at_builtin; refine wpList_append_run rfl _ _ 46 rfl _ _ _ _ rfl rfl R.out ?_)
  go_end0
  exact ⟨rfl, HF.out⟩
structure ZZ (W : World) (g : Nat) (L : List TT) (u0 : World) (es : Array Value) (cur : World) : Prop where
  w : WS W g L u0 cur
  b : cur.heap[u0.heap.size]? = some (.cells es 28)
theorem ZZ.begin {W u : World} {g : Nat} {L : List TT} (X : WX W g L u) (es : Array Value) : ZZ W g L u es (u.alloc (.cells es 28)) := ⟨WS.of X (bel_alloc (Below.refl _ _) _), heap_alloc_new _ _⟩
theorem ZZ.bel {W u cur cur' : World} {g : Nat} {L : List TT} {es : Array Value} (h : ZZ W g L u es cur) (hb : Below cur.heap.size cur cur') : ZZ W g L u es cur' := ⟨h.w.bel hb, (hb.block _ (lt_of h.b)).trans h.b⟩
theorem ZZ.ws {W u cur cur' : World} {g : Nat} {L M : List TT} {es : Array Value} (h : ZZ W g L u es cur) (k : WS W g M cur cur') : ZZ W g M u es cur' := ⟨h.w.step k, k.2.2 _ _ h.b⟩
theorem ZZ.load {W u cur : World} {g : Nat} {L : List TT} {es : Array Value} (h : ZZ W g L u es cur) (hz : es.size = 18) : (Instr.loadAt 28 (.pointer (some ⟨u.heap.size, 0, none⟩))).run Tryz.prog cur = .ok (.agg es) cur :=
  lod (z := (0, 0)) h.b rfl Tryz.underlying28 (by rw [hz]; exact inf28)
theorem ZZ.put {W u cur : World} {g : Nat} {L M : List TT} {es : Array Value} (h : ZZ W g L u es cur) {m : Nat} (hm : M.length = m) (h1 : 1 ≤ m) (hn : L.length + m ≤ 1000000) :
    Calls Tryz.prog 55 #[.pointer (some ⟨g, 0, none⟩), .slice (some ⟨cur.heap.size, 0, none⟩) m m] (cur.alloc (.cells (M.flatMap TT.cl).toArray 70)) fun e u' => e = .returned (.tuple #[]) ∧ ZZ W g (L ++ M) u es u' := by
  subst hm
  have h2 := h.bel (bel_alloc (Below.refl _ _) (.cells (M.flatMap TT.cl).toArray 70))
  exact (put_any h2.w.1 (heap_alloc_new _ _) hn h1).mono (by rintro e u' ⟨rfl, hs⟩; exact ⟨rfl, h2.ws hs⟩)
abbrev tOp (s : ByteArray) : TT := ⟨5, 0, s, noB, noB, 0, 0, false, false⟩
abbrev tWd (b s : ByteArray) : TT := ⟨4, 0, s, b, noB, 0, 0, false, false⟩
abbrev tRf (b h : ByteArray) (r c : Int) (fr fc : Bool) : TT := ⟨3, 0, noB, b, h, r, c, fr, fc⟩
theorem top_one (s : ByteArray) (w : World) : (Instr.buildSlice 46 1 #[(0, .agg (tcs 5 0 s noB noB 0 0 false false))]).run Tryz.prog w = .ok (.slice (some ⟨w.heap.size, 0, none⟩) 1 1) (w.alloc (.cells ([tOp s].flatMap TT.cl).toArray 70)) := by kernel_rfl
theorem twd_one (b s : ByteArray) (w : World) : (Instr.buildSlice 46 1 #[(0, .agg (tcs 4 0 s b noB 0 0 false false))]).run Tryz.prog w = .ok (.slice (some ⟨w.heap.size, 0, none⟩) 1 1) (w.alloc (.cells ([tWd b s].flatMap TT.cl).toArray 70)) := by kernel_rfl
theorem trf_one (b h : ByteArray) (r c : Int) (fr fc : Bool) (w : World) : (Instr.buildSlice 46 1 #[(0, .agg (tcs 3 0 noB b h r c fr fc))]).run Tryz.prog w = .ok (.slice (some ⟨w.heap.size, 0, none⟩) 1 1) (w.alloc (.cells ([tRf b h r c fr fc].flatMap TT.cl).toArray 70)) := by kernel_rfl
theorem tcl_two (s b : ByteArray) (w : World) : (Instr.buildSlice 46 2 #[(0, .agg (tcs 4 0 s noB noB 0 0 false false)), (1, .agg (tcs 5 0 b noB noB 0 0 false false))]).run Tryz.prog w = .ok (.slice (some ⟨w.heap.size, 0, none⟩) 2 2) (w.alloc (.cells ([tWd noB s, tOp b].flatMap TT.cl).toArray 70)) := by kernel_rfl
end Go.Proofs.YtljfkkpkcjigpaaGreatDoor

namespace Go.Proofs.YtljfkkpkcjigpaaGreatDoor
open Go.RowKit Go.Fm
set_option maxRecDepth 100000
section
variable {a : Lab} {p : Option Addr} {n c : Nat} {w : World}
set_option maxHeartbeats 4000000 in
theorem hold_6 (hk : a.k = 6) : Calls Tryz.prog 148 #[.agg (lcs a (.slice p n c))] w fun e w' => e = .returned (.int .i64 (strn a.s.toList : Nat)) ∧ Below w.heap.size w w' := by
  have H0 := heap_alloc_new w (.cells (lcs a (.slice p n c)) 28)
  have HB0 : Hid (Below w.heap.size w (w.alloc (.cells (lcs a (.slice p n c)) 28))) := bel_alloc (Below.refl _ _) _
  obtain ⟨c0, c1, _, _, _⟩ := box_all H0
  rw [hk] at c0
  clear H0
  obtain ⟨w1, hw1⟩ : ∃ w1, w.alloc (.cells (lcs a (.slice p n c)) 28) = w1 := ⟨_, rfl⟩
  rw [hw1] at c0 c1 HB0
  have ST := strength_b a.s w1
  generalize lcs a (.slice p n c) = bx at *
  generalize strn a.s.toList = N at *
  go_enter Tryz.func148, Tryz.ntmps148
  go_wp2_with (go_at_call 95; refine ST.mono ?_; rintro e w2 ⟨rfl, hw⟩; obtain rfl := hw.symm; clear hw)
  go_ret
  exact ⟨rfl, HB0.out⟩
set_option maxHeartbeats 4000000 in
theorem hold_5a (hk : a.k = 5) (h1 : (a.s.toList == [45]) = true) : Calls Tryz.prog 148 #[.agg (lcs a (.slice p n c))] w fun e w' => e = .returned (.int .i64 6) ∧ Below w.heap.size w w' := by
  have H0 := heap_alloc_new w (.cells (lcs a (.slice p n c)) 28)
  have HB0 : Hid (Below w.heap.size w (w.alloc (.cells (lcs a (.slice p n c)) 28))) := bel_alloc (Below.refl _ _) _
  obtain ⟨c0, c1, _, _, _⟩ := box_all H0
  rw [hk] at c0
  clear H0
  obtain ⟨w1, hw1⟩ : ∃ w1, w.alloc (.cells (lcs a (.slice p n c)) 28) = w1 := ⟨_, rfl⟩
  rw [hw1] at c0 c1 HB0
  generalize lcs a (.slice p n c) = bx at *
  go_enter Tryz.func148, Tryz.ntmps148
  go_wp2
  go_ret
  exact ⟨rfl, HB0.out⟩
set_option maxHeartbeats 4000000 in
theorem hold_5b (hk : a.k = 5) (h1 : (a.s.toList == [45]) = false) : Calls Tryz.prog 148 #[.agg (lcs a (.slice p n c))] w fun e w' => e = .returned (.int .i64 7) ∧ Below w.heap.size w w' := by
  have H0 := heap_alloc_new w (.cells (lcs a (.slice p n c)) 28)
  have HB0 : Hid (Below w.heap.size w (w.alloc (.cells (lcs a (.slice p n c)) 28))) := bel_alloc (Below.refl _ _) _
  obtain ⟨c0, c1, _, _, _⟩ := box_all H0
  rw [hk] at c0
  clear H0
  obtain ⟨w1, hw1⟩ : ∃ w1, w.alloc (.cells (lcs a (.slice p n c)) 28) = w1 := ⟨_, rfl⟩
  rw [hw1] at c0 c1 HB0
  generalize lcs a (.slice p n c) = bx at *
  go_enter Tryz.func148, Tryz.ntmps148
  go_wp2
  go_ret
  exact ⟨rfl, HB0.out⟩
set_option maxHeartbeats 4000000 in
theorem hold_8 (h6 : (a.k == 6) = false) (h5 : (a.k == 5) = false) : Calls Tryz.prog 148 #[.agg (lcs a (.slice p n c))] w fun e w' => e = .returned (.int .i64 8) ∧ Below w.heap.size w w' := by
  have H0 := heap_alloc_new w (.cells (lcs a (.slice p n c)) 28)
  have HB0 : Hid (Below w.heap.size w (w.alloc (.cells (lcs a (.slice p n c)) 28))) := bel_alloc (Below.refl _ _) _
  obtain ⟨c0, c1, _, _, _⟩ := box_all H0
  clear H0
  obtain ⟨w1, hw1⟩ : ∃ w1, w.alloc (.cells (lcs a (.slice p n c)) 28) = w1 := ⟨_, rfl⟩
  rw [hw1] at c0 c1 HB0
  generalize lcs a (.slice p n c) = bx at *
  go_enter Tryz.func148, Tryz.ntmps148
  go_wp2
  go_ret
  exact ⟨rfl, HB0.out⟩
theorem hold_any : Calls Tryz.prog 148 #[.agg (lcs a (.slice p n c))] w fun e w' => e = .returned (.int .i64 (holdN a : Nat)) ∧ Below w.heap.size w w' := by
  unfold holdN
  by_cases h6 : a.k = 6
  · rw [if_pos h6]; exact hold_6 h6
  rw [if_neg h6]
  by_cases h5 : a.k = 5
  · rw [if_pos h5]
    by_cases h : a.s.toList = [45]
    · rw [if_pos h]; exact hold_5a h5 (by simp [h])
    · rw [if_neg h]; exact hold_5b h5 (by simpa using h)
  · rw [if_neg h5]; exact hold_8 (by simpa using h6) (by simpa using h5)
end
def NC (W : World) (g : Nat) (es : Array Value) (M : List TT) (m : Nat) : Prop := ∀ L u, L.length ≤ m → WX W g L u → Calls Tryz.prog 36 #[.pointer (some ⟨g, 0, none⟩), .agg es] u fun e u' => e = .returned (.tuple #[]) ∧ WS W g (L ++ M) u u'
section
variable {W u : World} {g : Nat} {L : List TT} {es : Array Value} {t : T}
theorem nt_size (h : NT W es t) : es.size = 18 := by obtain ⟨p, n, c, rfl, _⟩ := h; rfl
theorem nt_hold (h : NT W es t) (u : World) : Calls Tryz.prog 148 #[.agg es] u fun e w' => e = .returned (.int .i64 (holdN t.1 : Nat)) ∧ Below u.heap.size u w' := by
  obtain ⟨p, n, c, rfl, _⟩ := h
  exact hold_any
set_option maxHeartbeats 4000000 in
theorem holding_yes {M : List TT} (X : WX W g L u) (h : NT W es t) {m : Nat} (hm : L.length ≤ m) (C : NC W g es M m) {least : Nat} (hl : (least : Int) ≤ (holdN t.1 : Nat)) :
    Calls Tryz.prog 104 #[.pointer (some ⟨g, 0, none⟩), .agg es, .int .i64 (least : Nat)] u fun e u' => e = .returned (.tuple #[]) ∧ WS W g (L ++ M) u u' := by
  have hz := nt_size h
  have HH := nt_hold h
  have Zc : Hid (ZZ W g L u es (u.alloc (.cells es 28))) := ZZ.begin X es
  have RL : Hid _ := Zc.out.load hz
  have hlen : u.heap.size < (u.alloc (.cells es 28)).heap.size := by simp
  clear X h
  generalize holdN t.1 = N at *
  go_enter Tryz.func104, Tryz.ntmps104
  go_wp2_with (first
    | (refine wpList_load_run rfl 28 _ rfl _ _ rfl RL.out ?_)
    | (go_at_call 148; refine (HH _).mono ?_; rintro e w1 ⟨rfl, hb⟩; have Zc1 := Zc.out.bel hb; clear hb Zc RL; have RL : Hid _ := Zc1.load hz; have Zc : Hid _ := Zc1; clear Zc1)
    | (go_at_call 36; refine (C _ _ hm Zc.out.w.1).mono ?_; rintro e w1 ⟨rfl, hs⟩; have Zc1 := Zc.out.ws hs; clear hs Zc RL; have Zc : Hid _ := Zc1; clear Zc1))
  refine bodyPost_ret (results_none rfl _ _ _) rfl ?_
  exact ⟨rfl, Zc.out.w⟩
set_option maxHeartbeats 4000000 in
theorem holding_no {M : List TT} (X : WX W g L u) (h : NT W es t) {m : Nat} (hm : L.length + 1 ≤ m) (hn : L.length + M.length + 2 ≤ 1000000) (C : NC W g es M m) {least : Nat} (hl : ¬ (least : Int) ≤ (holdN t.1 : Nat)) :
    Calls Tryz.prog 104 #[.pointer (some ⟨g, 0, none⟩), .agg es, .int .i64 (least : Nat)] u fun e u' => e = .returned (.tuple #[]) ∧ WS W g (L ++ [tOp ⟨#[40]⟩] ++ M ++ [tOp ⟨#[41]⟩]) u u' := by
  have hz := nt_size h
  have HH := nt_hold h
  have Zc : Hid (ZZ W g L u es (u.alloc (.cells es 28))) := ZZ.begin X es
  have RL : Hid _ := Zc.out.load hz
  have N1 : Hid (L.length + 1 ≤ 1000000) := by show _ ≤ _; omega
  have N2 : Hid ((L ++ [tOp ⟨#[40]⟩]).length ≤ m) := by show _ ≤ _; simpa using hm
  have N3 : Hid ((L ++ [tOp ⟨#[40]⟩] ++ M).length + 1 ≤ 1000000) := by show _ ≤ _; simp; omega
  clear X h hm hn
  generalize holdN t.1 = N at *
  go_enter Tryz.func104, Tryz.ntmps104
  go_wp2_with (first
    | (refine wpList_load_run rfl 28 _ rfl _ _ rfl RL.out ?_)
    | (go_at_call 148; refine (HH _).mono ?_; rintro e w1 ⟨rfl, hb⟩; have Zc1 := Zc.out.bel hb; clear hb Zc RL; have RL : Hid _ := Zc1.load hz; have Zc : Hid _ := Zc1; clear Zc1)
    | (go_at_call 58; refine (optok_any _ _).mono ?_; rintro e w1 ⟨rfl, hb⟩; have Zc1 := Zc.out.bel hb; clear hb Zc RL; have Zc : Hid _ := Zc1; clear Zc1)
    | (refine wpList_bslice_run rfl 46 1 _ rfl _ _ _ (by go_simp) (top_one _ _) ?_)
    | (go_at_call 55; refine (Zc.out.put (M := [tOp ⟨#[40]⟩]) rfl (by decide) N1.out).mono ?_; rintro e w1 ⟨rfl, Zc1⟩; clear Zc; have RL : Hid _ := Zc1.load hz; have Zc : Hid _ := Zc1; clear Zc1)
    | (go_at_call 55; refine (Zc.out.put (M := [tOp ⟨#[41]⟩]) rfl (by decide) N3.out).mono ?_; rintro e w1 ⟨rfl, Zc1⟩; clear Zc; have RL : Hid _ := Zc1.load hz; have Zc : Hid _ := Zc1; clear Zc1)
    | (go_at_call 36; refine (C _ _ N2.out Zc.out.w.1).mono ?_; rintro e w1 ⟨rfl, hs⟩; have Zc1 := Zc.out.ws hs; clear hs Zc RL; have RL : Hid _ := Zc1.load hz; have Zc : Hid _ := Zc1; clear Zc1))
  go_end0
  exact ⟨rfl, Zc.out.w⟩
theorem holding_any {K : List Tk.Tok} (X : WX W g L u) (h : NT W es t) {m : Nat} (hm : L.length + 1 ≤ m) (hn : L.length + K.length + 2 ≤ 1000000) (C : NC W g es (K.map tk) m) (least : Nat) :
    Calls Tryz.prog 104 #[.pointer (some ⟨g, 0, none⟩), .agg es, .int .i64 (least : Nat)] u fun e u' => e = .returned (.tuple #[]) ∧ WS W g (L ++ (wrapK (holdN t.1, K) least).map tk) u u' := by
  unfold wrapK
  by_cases hl : least ≤ holdN t.1
  · rw [if_pos hl]
    exact holding_yes X h (by omega) C (by omega)
  · rw [if_neg hl]
    have := holding_no X h hm (by simpa using hn) C (least := least) (by omega)
    refine this.mono ?_
    rintro e u' ⟨rfl, hs⟩
    refine ⟨rfl, ?_⟩
    have e : (L ++ List.map tk (Tk.Tok.op [40] :: (K ++ [Tk.Tok.op [41]]))) = L ++ [tOp ⟨#[40]⟩] ++ K.map tk ++ [tOp ⟨#[41]⟩] := by
      simp only [List.map_cons, List.map_append, List.map_nil, List.append_assoc, List.cons_append, List.nil_append]
      rfl
    rw [e]; exact hs
end
end Go.Proofs.YtljfkkpkcjigpaaGreatDoor

namespace Go.Proofs.YtljfkkpkcjigpaaGreatDoor
open Go.RowKit Go.Fm
set_option maxRecDepth 100000
theorem ctok_1 (n : Int) (s : ByteArray) (w : World) : Calls Tryz.prog 56 #[val 1 n s] w fun e w' => e = .returned (.agg (tcs 1 n noB noB noB 0 0 false false)) ∧ Below w.heap.size w w' := by
  obtain ⟨h1, hb, h0⟩ := two_new (w := w) (o := .cells #[.int .i64 1, .int .i64 n, .string s] 23) (es := tcs 1 n noB noB noB 0 0 false false)
  have RS : Hid _ := sto (t := 70) (es := tcs 1 n noB noB noB 0 0 false false) h1 inf70 rfl (tcs_one _ _ _ _ _ _ _ _ _)
  have HF : Hid _ := hb
  have HG : Hid _ := h1
  clear h1 hb h0
  go_enter Tryz.func56, Tryz.ntmps56
  go_wp2_with (refine wpList_store_run rfl 70 _ _ rfl _ _ _ rfl rfl RS.out ?_)
  exact bodyPost_ret (tk_res HG.out rfl rfl rfl) rfl ⟨rfl, HF.out⟩
theorem ctok_2 (n : Int) (s : ByteArray) (w : World) : Calls Tryz.prog 56 #[val 2 n s] w fun e w' => e = .returned (.agg (tcs 2 0 s noB noB 0 0 false false)) ∧ Below w.heap.size w w' := by
  obtain ⟨h1, hb, h0⟩ := two_new (w := w) (o := .cells #[.int .i64 2, .int .i64 n, .string s] 23) (es := tcs 2 0 s noB noB 0 0 false false)
  have RS : Hid _ := sto (t := 70) (es := tcs 2 0 s noB noB 0 0 false false) h1 inf70 rfl (tcs_one _ _ _ _ _ _ _ _ _)
  have HF : Hid _ := hb
  have HG : Hid _ := h1
  clear h1 hb h0
  go_enter Tryz.func56, Tryz.ntmps56
  go_wp2_with (refine wpList_store_run rfl 70 _ _ rfl _ _ _ rfl rfl RS.out ?_)
  exact bodyPost_ret (tk_res HG.out rfl rfl rfl) rfl ⟨rfl, HF.out⟩
theorem ctok_0 (k n : Int) (s : ByteArray) (h1 : (k == 1) = false) (h2 : (k == 2) = false) (h3 : (k == 3) = false) (w : World) : Calls Tryz.prog 56 #[val k n s] w fun e w' => e = .returned (.agg (tcs 6 n noB noB noB 0 0 false false)) ∧ Below w.heap.size w w' := by
  obtain ⟨h1, hb, h0⟩ := two_new (w := w) (o := .cells #[.int .i64 k, .int .i64 n, .string s] 23) (es := tcs 6 n noB noB noB 0 0 false false)
  have RS : Hid _ := sto (t := 70) (es := tcs 6 n noB noB noB 0 0 false false) h1 inf70 rfl (tcs_one _ _ _ _ _ _ _ _ _)
  have HF : Hid _ := hb
  have HG : Hid _ := h1
  clear h1 hb h0
  go_enter Tryz.func56, Tryz.ntmps56
  go_wp2_with (refine wpList_store_run rfl 70 _ _ rfl _ _ _ rfl rfl RS.out ?_)
  exact bodyPost_ret (tk_res HG.out rfl rfl rfl) rfl ⟨rfl, HF.out⟩
set_option maxHeartbeats 2000000 in
theorem ctok_3 (n : Int) (s : ByteArray) (hn : In64 n) (w : World) (T : Tabs w) : Calls Tryz.prog 56 #[val 3 n s] w fun e w' => e = .returned (.agg (tcs 4 0 (textF 3 n s) noB noB 0 0 false false)) ∧ Below w.heap.size w w' := by
  obtain ⟨w2, hw2⟩ : ∃ w2, (w.alloc (.cells #[.int .i64 3, .int .i64 n, .string s] 23)).alloc (.cells tk0 70) = w2 := ⟨_, rfl⟩
  obtain ⟨h1, _, h0⟩ := two_new (w := w) (o := .cells #[.int .i64 3, .int .i64 n, .string s] 23) (es := tk0)
  rw [hw2] at h1 h0
  have hb : Below w.heap.size w w2 := by rw [← hw2]; exact bel_alloc (bel_alloc (Below.refl _ _) _) _
  have RL : Hid _ := lod (z := (0, 0)) h0 rfl Tryz.underlying23 (by kernel_rfl)
  have c0 : w2.cell? ⟨w.heap.size, 0, none⟩ = some (.int .i64 3) := by rw [cell_of_row w2 _ 0 _ _ _ h0]; rfl
  have TX := vtext_any 3 n s hn w2 (T.below hb)
  generalize textF 3 n s = tx at *
  have FIN : ∀ u : World, Below w2.heap.size w2 u → Hid ((Instr.storeAt 70 (.pointer (some ⟨w.heap.size + 1, 0, none⟩)) (.agg (tcs 4 0 tx noB noB 0 0 false false))).run Tryz.prog u = .ok () (u.setRow (w.heap.size + 1) (tcs 4 0 tx noB noB 0 0 false false))) ∧ Hid (u.heap[w.heap.size + 1]? = some (.cells tk0 70)) ∧ Hid (Below w.heap.size w (u.setRow (w.heap.size + 1) (tcs 4 0 tx noB noB 0 0 false false))) := fun u hu => by
    have hg : u.heap[w.heap.size + 1]? = some (.cells tk0 70) := (hu.block _ (lt_of h1)).trans h1
    have hb2 := bel_step hb hu
    exact ⟨sto (t := 70) hg inf70 rfl (tcs_one _ _ _ _ _ _ _ _ _), hg, hb2.grown (setRow_grown _ _ _) hb2.size (fun j e => by cases e; omega)⟩
  clear h1 h0 hb T
  go_enter Tryz.func56, Tryz.ntmps56
  go_wp2_with (first
    | (refine wpList_load_run rfl 23 _ rfl _ _ rfl RL.out ?_)
    | (go_at_call 103; refine TX.mono ?_; rintro e w3 ⟨rfl, hb3⟩)
    | (go_at_call 59; refine (wordtok_any _ _ _).mono ?_; rintro e w4 ⟨rfl, hb4⟩; obtain ⟨RS, HG, HF⟩ := FIN w4 (bel_step hb3 hb4); clear hb3 hb4)
    | (refine wpList_store_run rfl 70 _ _ rfl _ _ _ rfl rfl RS.out ?_))
  exact bodyPost_ret (tk_res HG.out rfl rfl rfl) rfl ⟨rfl, HF.out⟩
theorem ctok_any (k n : Int) (s : ByteArray) (h3 : k = 3 → In64 n) (h0 : k ≠ 1 → k ≠ 2 → k ≠ 3 → 0 ≤ n) (w : World) (T : Tabs w) : Calls Tryz.prog 56 #[val k n s] w fun e w' => e = .returned (.agg (tk (constT k n s)).cs) ∧ Below w.heap.size w w' := by
  unfold constT
  by_cases e1 : k = 1
  · rw [if_pos e1]; subst e1; exact ctok_1 n s w
  rw [if_neg e1]
  by_cases e2 : k = 2
  · rw [if_pos e2]; subst e2
    have := ctok_2 n s w
    have e : ba s.toList = s := by rw [ByteArray.toList_eq]
    show Calls _ _ _ _ fun e w' => e = .returned (.agg (tcs 2 0 (ba s.toList) noB noB 0 0 false false)) ∧ _
    rw [e]; exact this
  rw [if_neg e2]
  by_cases e3 : k = 3
  · rw [if_pos e3]; subst e3
    have := ctok_3 n s (h3 rfl) w T
    have e : ba (textF 3 n s).toList = textF 3 n s := by rw [ByteArray.toList_eq]
    show Calls _ _ _ _ fun e w' => e = .returned (.agg (tcs 4 0 (ba (textF 3 n s).toList) (ba []) noB 0 0 false false)) ∧ _
    rw [e]; exact this
  · rw [if_neg e3]
    have := ctok_0 k n s (by simpa using e1) (by simpa using e2) (by simpa using e3) w
    have e : ((n.toNat : Nat) : Int) = n := by have := h0 e1 e2 e3; omega
    show Calls _ _ _ _ fun e w' => e = .returned (.agg (tcs 6 ((n.toNat : Nat) : Int) noB noB noB 0 0 false false)) ∧ _
    rw [e]; exact this
theorem InF.getU : ∀ {f : F} {w : World} {a : Addr}, InF w a f → ∀ (k : Nat) (hk : k < (kids f).length), ∃ es, (∀ u, Below w.heap.size w u → Hid ((Instr.loadAt 28 (.pointer (some (a.add (k * 18))))).run Tryz.prog u = .ok (.agg es) u)) ∧ NT w es (kids f)[k] := by
  intro f
  induction f with
  | nil => intro w a _ k hk; simp [kids] at hk
  | node b o l f r ihf ihr =>
    intro w a h k hk
    obtain ⟨⟨p, n, c, h1, h2, h3⟩, h4⟩ := h
    cases k with
    | zero =>
      refine ⟨lcs l (.slice p n c), fun u hu => ?_, p, n, c, rfl, h2, h3⟩
      have : a.add (0 * 18) = a.add 0 := by simp
      show _ = _
      rw [this]
      refine run_loadVar_any u (a.add 0) 28 (lcl l (.slice p n c)) _ (fun j v hj => ?_) Tryz.underlying28 rfl (by rw [lcl_len]; exact inf28)
      rw [Go.Deep.add_add, Nat.zero_add]
      exact cell_bel hu (h1 j v hj)
    | succ k =>
      obtain ⟨es, e1, e2⟩ := ihr h4 k (by simpa [kids] using hk)
      refine ⟨es, fun u hu => ?_, e2⟩
      have := (e1 u hu).out
      rw [Go.Deep.add_add] at this
      show _ = _
      rw [show (k + 1) * 18 = 18 + k * 18 by omega]
      exact this
theorem SF.kid {W : World} {p : Option Addr} {n : Nat} {f : F} (h : SF W p n f) (k : Nat) (hk : k < n) : ∃ a es s, p = some a ∧ (∀ u, Below W.heap.size W u → Hid ((Instr.loadAt 28 (.pointer (some (a.add (k * 18))))).run Tryz.prog u = .ok (.agg es) u)) ∧ (kids f)[k]? = some s ∧ NT W es s := by
  obtain ⟨h1, h2⟩ := h
  rcases h2 with rfl | ⟨a, rfl, hi⟩
  · simp [kids] at h1; omega
  · obtain ⟨es, e1, e2⟩ := hi.getU k (by omega)
    exact ⟨a, es, _, rfl, e1, List.getElem?_eq_getElem (by omega), e2⟩
section
variable {W u : World} {g : Nat} {L : List TT} {a : Lab} {ad : Addr} {n c : Nat} {es : Array Value} {s : T} {K : List Tk.Tok}
theorem ZZ.cel {cur : World} {sl : Value} (h : ZZ W g L u (lcs a sl) cur) : cur.cell? ⟨u.heap.size, 1, none⟩ = some (.string a.s) ∧ cur.cell? ⟨u.heap.size, 17, none⟩ = some sl := ⟨(box_all h.b).2.1, cell17 h.b⟩
set_option maxHeartbeats 4000000 in
theorem un_minus (X : WX W g L u) (h1 : (a.s.toList == [45]) = true) (R : ∀ u, Below W.heap.size W u → Hid ((Instr.loadAt 28 (.pointer (some (ad.add (0 * 18))))).run Tryz.prog u = .ok (.agg es) u)) (hs : NT W es s)
    (hn : L.length + K.length + 4 ≤ 1000000) {m : Nat} (hm : L.length + 2 ≤ m) (C : NC W g es (K.map tk) m) :
    Calls Tryz.prog 60 #[.pointer (some ⟨g, 0, none⟩), .agg (lcs a (.slice (some ad) 1 c))] u fun e u' => e = .returned (.tuple #[]) ∧ WS W g (L ++ [tOp ⟨#[45]⟩] ++ (wrapK (holdN s.1, K) 6).map tk) u u' := by
  have Zc : Hid (ZZ W g L u (lcs a (.slice (some ad) 1 c)) (u.alloc (.cells (lcs a (.slice (some ad) 1 c)) 28))) := ZZ.begin X _
  obtain ⟨c1, c17⟩ := Zc.out.cel
  have ZC : ∀ (L : List TT) (cur : World), ZZ W g L u (lcs a (.slice (some ad) 1 c)) cur → cur.cell? ⟨u.heap.size, 17, none⟩ = some (.slice (some ad) 1 c) := fun L cur h => h.cel.2
  have N1 : Hid (L.length + 1 ≤ 1000000) := by show _ ≤ _; omega
  have HO := fun (u' : World) (Z : ZZ W g (L ++ [tOp ⟨#[45]⟩]) u (lcs a (.slice (some ad) 1 c)) u') => holding_any (K := K) Z.w.1 hs (m := m) (by simp; omega) (by simp; omega) C 6
  clear X hn hm C
  generalize lcs a (.slice (some ad) 1 c) = bx at *
  generalize (wrapK (holdN s.1, K) 6).map tk = M at *
  go_enter Tryz.func60, Tryz.ntmps60
  go_wp2_with (first
    | (go_at_call 58; refine (optok_any _ _).mono ?_; rintro e w1 ⟨rfl, hb⟩; have Zc1 := Zc.out.bel hb; clear hb Zc c17 c1; have Zc : Hid _ := Zc1; clear Zc1)
    | (refine wpList_bslice_run rfl 46 1 _ rfl _ _ _ (by go_simp) (top_one _ _) ?_)
    | (go_at_call 55; refine (Zc.out.put (M := [tOp ⟨#[45]⟩]) rfl (by decide) N1.out).mono ?_; rintro e w1 ⟨rfl, Zc1⟩; clear Zc; have c17 := ZC _ _ Zc1; have Zc : Hid _ := Zc1; clear Zc1; have RL := R _ Zc.out.w.1.bel)
    | (refine wpList_load_run rfl 28 _ rfl _ _ rfl RL.out ?_)
    | (go_at_call 104; refine (HO _ Zc.out).mono ?_; rintro e w1 ⟨rfl, hs1⟩; have Zf := Zc.out.w.step hs1; clear hs1))
  refine bodyPost_ret (results_none rfl _ _ _) rfl ?_
  exact ⟨rfl, Zf⟩
end
end Go.Proofs.YtljfkkpkcjigpaaGreatDoor
