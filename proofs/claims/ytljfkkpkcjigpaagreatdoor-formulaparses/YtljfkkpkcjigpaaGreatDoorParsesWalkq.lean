/- FSize, FLives, ParsesWalk. -/
import Derived.Test.YtljfkkpkcjigpaaGreatDoorFIterq
import Derived.Test.YtljfkkpkcjigpaaGreatDoorAAreaq
import Derived.Test.YtljfkkpkcjigpaaGreatDoorFParseq
import Derived.Test.YtljfkkpkcjigpaaGreatDoorFAlikeq
import Derived.Test.YtljfkkpkcjigpaaGreatDoorFBinq
set_option linter.unusedVariables false
set_option linter.unusedSimpArgs false
namespace Go.Proofs.YtljfkkpkcjigpaaGreatDoor
open Go.RowKit Go.Shelf Go.Fm
set_option maxRecDepth 100000
attribute [local go_sem] Oper.semAt_some
set_option maxHeartbeats 2000000 in
theorem nodes1_in (F : Fence) (hd : F.depth = none) (n : Nat) (h50 : F.fn 50) (h51 : F.fn 51) (hro : F.round = none) {α : Type} (enc : α → Array Value) (l Bt n0 B : Nat) (hB : n0 ≤ B) (es : Array Value) (t : T) (hz : zT t ≤ 1000000) (L : List α) (J Jx : List α → World → Prop) (hJ : ∀ s W o, J s W → J s (W.alloc o))
    (hY : ∀ pre x W, J pre W → pre.length < L.length → YieldAt F (n - 1) Tryz.prog l #[.agg (enc x)] W fun e W' =>
      (e = .returned (.bool true) ∧ J (pre ++ [x]) W' ∧ KC B W W') ∨ (e = .returned (.bool false) ∧ Jx (pre ++ [x]) W'))
    (W : World) (hBt : W.heap[Bt]? = some (.cells es 28)) (hT : PN n0 W es t (L.map enc)) (h0 : J [] W) (hBW : B < W.heap.size) :
    CallsIn F n Tryz.prog 50 #[.func (.yield l) #[] #[], .pointer (some ⟨Bt, 0, none⟩)] W fun e W' => (∃ v, e = .returned v) ∧
      ((∃ ys, ys = L ∧ J ys W') ∨ (∃ pre, pre <+: L ∧ Jx pre W')) := by
  have hdd : ∀ k : Nat, (F.depth.isSome = true → 1 ≤ k) := fun k h => by rw [hd] at h; cases h
  have RL : Hid _ := (nboxP W hT).2 W Bt hBt
  have hp := tell_in F hd h51 hro enc l n0 B L.length hB J Jx hJ (fun m pre x W hj hl => yield_any hd m (hY pre x W hj hl)) t (n - 1) es L [] W hz hT h0 hBW (by simp)
  clear hT hBt hY
  refine callsIn_of_wp Tryz.func50 rfl h50 ?_ hro
  simp only [Tryz.ntmps50, List.size_toArray, List.length_cons, List.length_nil, Nat.reduceAdd, Nat.reduceSub, Array.replicate_succ, Array.replicate_zero, List.push_toArray, List.append_toArray, List.nil_append, List.cons_append]
  gi_wp2_with (first
    | (refine wpListIn_load_run rfl 28 _ rfl _ _ rfl RL.out ?_)
    | ((try refine ⟨hdd _, ?_⟩); gi_at_call 51; refine hp.mono ?_; clear hp; rintro e W1 (⟨rfl, hJ1, _⟩ | ⟨rfl, q, hq, hx⟩)))
  · go_end0
    exact ⟨⟨_, rfl⟩, .inl ⟨_, rfl, by simpa using hJ1⟩⟩
  · go_end0
    exact ⟨⟨_, rfl⟩, .inr ⟨q, hq, by simpa using hx⟩⟩
theorem nodes_in (F : Fence) (n : Nat) (h33 : F.fn 33) (hro : F.round = none) (es : Array Value) (w : World) :
    CallsIn F n Tryz.prog 33 #[.agg es] w fun e w' => e = .returned (.func (.func 50) #[] #[.pointer (some ⟨w.heap.size, 0, none⟩)]) ∧ w' = w.alloc (.cells es 28) := by
  refine callsIn_of_wp Tryz.func33 rfl h33 ?_ hro
  simp only [Tryz.ntmps33, List.size_toArray, List.length_cons, List.length_nil, Nat.reduceAdd, Nat.reduceSub, Array.replicate_succ, Array.replicate_zero, List.push_toArray, List.append_toArray, List.nil_append, List.cons_append]
  gi_wp2
  go_ret
  exact ⟨rfl, rfl⟩
theorem nodes_stops (F : Fence) (hd : F.depth = none) (n : Nat) (h50 : F.fn 50) (h51 : F.fn 51) (hro : F.round = none) {α : Type} (enc : α → Array Value) (Bt n0 B : Nat) (hB : n0 ≤ B) (es : Array Value) (t : T) (hz : zT t ≤ 1000000) (L : List α) (w : World) (hBt : w.heap[Bt]? = some (.cells es 28)) (hT : PN n0 w es t (L.map enc)) (hBw : B < w.heap.size) :
    SeqStopsK F n Tryz.prog 50 #[.pointer (some ⟨Bt, 0, none⟩)] (fun x : α => #[Value.agg (enc x)]) (KC B) (fun ys => ys = L) (fun pre => pre <+: L) L.length w := fun l J Jx W hW hJ _ hY h0 =>
  nodes1_in F hd n h50 h51 hro enc l Bt n0 B hB es t hz L J Jx (fun s W1 o h => hJ s W1 _ none h (World.grownBy_alloc W1 o none) (fun r e => by cases e)) hY W ((hW.block _ (lt_of hBt)).trans hBt) (by
    obtain ⟨p', n', c', M', g1, g2, g3⟩ := hT
    exact ⟨p', n', c', M', g1, g2.keep hB (KC.below hW), g3⟩) h0 (by have := hW.size; omega)
theorem kc_set {B : Nat} {W : World} {v : Value} : KC B W (W.setCell ⟨B, 0, none⟩ v) := ⟨by simp [World.setCell], fun i o hi _ hne => by
  simp only [World.setCell]
  rw [Array.getElem?_modify, if_neg (fun e => hne e.symm)]
  exact hi⟩
set_option maxHeartbeats 4000000 in
theorem fsize_any (t : T) (hz : zT t ≤ 1000000) (w : World) (es : Array Value) (h : NT w es t) : Calls Tryz.prog 22 #[.agg es] w fun e w' => e = .returned (.int .i64 (zT t : Nat)) ∧ Below w.heap.size w w' := by
  obtain ⟨M, hP, hM⟩ := PN.of h
  refine (callsIn_wide (n := 100)).1 ?_
  have hro : Fence.wide.round = none := rfl
  have hd : Fence.wide.depth = none := rfl
  have hdd : ∀ k : Nat, (Fence.wide.depth.isSome = true → 1 ≤ k) := fun k h => by rw [hd] at h; cases h
  have HB0 : Hid (Below w.heap.size w (((w.alloc (.cells es 28)).alloc (.cells #[.int .i64 0] 3)).alloc (.cells es 28))) := bel_alloc (bel_alloc (bel_alloc (Below.refl _ _) _) _) _
  have hs := nodes_stops Fence.wide hd 99 trivial trivial hro (α := Array Value) id (w.heap.size + 2) w.heap.size (w.heap.size + 1) (by omega) es t hz M (((w.alloc (.cells es 28)).alloc (.cells #[.int .i64 0] 3)).alloc (.cells es 28)) (by
      have := heap_alloc_new ((w.alloc (.cells es 28)).alloc (.cells #[.int .i64 0] 3)) (.cells es 28)
      simpa using this) (by
    obtain ⟨p', n', c', M', g1, g2, g3⟩ := hP
    rw [List.map_id]
    exact ⟨p', n', c', M', g1, g2.keep (B := w.heap.size) (Nat.le_refl _) (KC.below HB0.out), g3⟩) (by simp)
  have RL : Hid _ := (nboxP w hP).2 ((w.alloc (.cells es 28)).alloc (.cells #[.int .i64 0] 3)) w.heap.size ((Below.heap_alloc _ _ _ (by simp)).trans (heap_alloc_new w _))
  clear hP h
  refine callsIn_of_wp_marks Tryz.func22 rfl trivial ?_ hro
  simp only [Tryz.ntmps22, List.size_toArray, List.length_cons, List.length_nil, Nat.reduceAdd, Nat.reduceSub, Array.replicate_succ, Array.replicate_zero, List.push_toArray, List.append_toArray, List.nil_append, List.cons_append]
  gi_wp2_with (first
    | (refine wpListIn_load_run rfl 28 _ rfl _ _ rfl RL.out ?_)
    | (refine ⟨trivial, ?_⟩; gi_at_call 33; refine (nodes_in Fence.wide _ trivial hro _ _).mono ?_; rintro e w' ⟨rfl, rfl⟩))
  have hc0 := cell_of_row (((w.alloc (.cells es 28)).alloc (.cells #[.int .i64 0] 3)).alloc (.cells es 28)) (w.heap.size + 1) 0 #[.int .i64 0] 3 (0, 0) ((Below.heap_alloc _ _ _ (by simp)).trans (by have := heap_alloc_new (w.alloc (.cells es 28)) (.cells #[.int .i64 0] 3); simpa using this))
  have hh0 : (((w.alloc (.cells es 28)).alloc (.cells #[.int .i64 0] 3)).alloc (.cells es 28)).heap[w.heap.size + 1]? = some (.cells #[.int .i64 0] 3) := (Below.heap_alloc _ _ _ (by simp)).trans (by have := heap_alloc_new (w.alloc (.cells es 28)) (.cells #[.int .i64 0] 3); simpa using this)
  refine wpIn_rangeFunc_ownF hro (by omega) (gf := 50) (lb := #[.pointer (some ⟨w.heap.size + 2, 0, none⟩)]) rfl trivial (enters_of Tryz.func50 (by kernel_rfl) rfl) hs KC.trans KC.put (Below.refl _ _) (fun _ => rfl)
    (fun pre W => (W.cell? ⟨w.heap.size + 1, 0, none⟩ = some (.int .i64 (pre.length : Nat)) ∧ W.frozen? ⟨w.heap.size + 1, 0, none⟩ = false) ∧ Below w.heap.size w W)
    (fun _ _ _ => False)
    (OwnFrom.and (Own.from (fun s A B row hs hg hr => ⟨cell_kept hs.1 hg hr, (frozen_kept hs.1 hg hr).trans hs.2⟩) _) (ownFrom_below (Nat.le_refl _) (by simp; omega)))
    (fun _ _ _ _ _ hs _ _ => hs)
    ⟨⟨by rw [hc0]; rfl, by unfold World.frozen?; rw [hh0]; rfl⟩, HB0.out⟩
    (fun x => { tmps := #[.agg es, .pointer (some ⟨w.heap.size, 0, none⟩), .int .i64 0, .pointer (some ⟨w.heap.size + 1, 0, none⟩), .agg es, .func (.func 50) #[] #[.pointer (some ⟨w.heap.size + 2, 0, none⟩)], .agg x, undef, undef, undef], defers := [] }) ?assign ?body ?done ?stop
  case assign =>
    intro l x W K hK
    gi_wp2
    simpa using hK
  case body =>
    rintro l pre x W ⟨⟨hc, hf⟩, hB⟩ hlt
    have hl : pre.length < 1000000 := by omega
    generalize hk : pre.length = k at *
    gi_wp2
    refine ⟨KeepsOthers.setCell _ _ _, kc_set, ⟨?_, by rw [World.frozen?_setCell]; exact hf⟩, hB.setCell (p := ⟨w.heap.size + 1, 0, none⟩) (by simp) _⟩
    rw [List.length_append, hk]
    exact World.cell?_setCell_same' _ _ _ (by rw [hc]; rfl)
  case done =>
    rintro D ys W hD rfl ⟨⟨hc, _⟩, hB⟩ hK
    rw [hM] at hc
    gi_wp2
    refine ⟨by simp, .inl ⟨_, _, rfl, run_takeDeferred hK, ?_⟩⟩
    exact ⟨_, results_tmp rfl _ _ _, rfl, hB.trans (belowK_b (w := w) (Nat.le_refl _) W D _ _ (by simp at hD; omega) hK rfl rfl)⟩
  case stop =>
    rintro D c pre W _ _ h _
    exact h.elim
end Go.Proofs.YtljfkkpkcjigpaaGreatDoor

namespace Go.Proofs.YtljfkkpkcjigpaaGreatDoor
open Go.RowKit Go.Fm
set_option maxRecDepth 100000
def exA : T := tree (lab0 6 (bs [42])) [tree (lab0 6 (bs [43])) [tree (labV 1 10000 nb) [], tree (labV 1 20000 nb) []], tree (labV 1 30000 nb) []]
theorem parA : parF [40, 49, 43, 50, 41, 42, 51] = (exA, 0) := by kernel_rfl
theorem parB : parF [83, 85, 77, 40, 65, 49, 58, 66, 50, 44, 41] = (zeroT, 10) := by kernel_rfl
theorem prA : printN exA = [40, 49, 43, 50, 41, 42, 51] := by kernel_rfl
theorem dA : dT exA = 3 := by kernel_rfl
theorem zA : zT exA = 5 := by kernel_rfl
def zB (a : Lab) : Bool := decide (a.s.size ≤ 9) && decide (a.b1.size ≤ 9) && decide (a.h1.size ≤ 9) && decide (a.b2.size ≤ 9) && decide (a.h2.size ≤ 9)
theorem zB_ok {a : Lab} (h : zB a = true) : LabZ a := by
  simp only [zB, Bool.and_eq_true, decide_eq_true_eq] at h
  exact ⟨by omega, by omega, by omega, by omega, by omega⟩
theorem zallA : ((preT exA).all fun x => zB x.1) = true := by kernel_rfl
theorem ztA : ZT exA := fun x hx => zB_ok (List.all_eq_true.1 zallA x hx)
set_option maxHeartbeats 8000000 in
theorem lives_any (w : World) (T : Tab9 w) : Calls Tryz.prog 12 #[] w fun e w' => e = .returned (.bool true) ∧ Below w.heap.size w w' := by
  have P1 : Calls Tryz.prog 8 #[.string ⟨#[40, 49, 43, 50, 41, 42, 51]⟩] w fun e w1 => ∃ p n c, e = .returned (.tuple #[.agg (lcs exA.1 (.slice p n c)), .int .i64 0]) ∧ Hid (NT w1 (lcs exA.1 (.slice p n c)) exA ∧ Below w.heap.size w w1) := by
    have := parseF_any [40, 49, 43, 50, 41, 42, 51] w T
    rw [parA] at this
    refine this.mono ?_
    rintro e w1 ⟨es, rfl, hN, _, hb⟩
    have hN' := hN
    obtain ⟨p, n, c, rfl, _⟩ := hN'
    exact ⟨p, n, c, rfl, hN, hb⟩
  have P2 : ∀ (w1 : World) (es : Array Value), NT w1 es exA → Below w.heap.size w w1 → Calls Tryz.prog 8 #[.string ⟨#[83, 85, 77, 40, 65, 49, 58, 66, 50, 44, 41]⟩] (w1.alloc (.cells es 28)) fun e w2 => ∃ es2, e = .returned (.tuple #[.agg es2, .int .i64 10]) ∧ Hid ((Instr.storeAt 28 (.pointer (some ⟨w2.heap.size, 0, none⟩)) (.agg es2)).run Tryz.prog (w2.alloc (.cells nd0 28)) = .ok () (w2.alloc (.cells es2 28))) ∧
      Hid ((w2.alloc (.cells es2 28)).heap[w1.heap.size]? = some (.cells es 28) ∧ NT (w2.alloc (.cells es2 28)) es exA ∧ Below w.heap.size w (w2.alloc (.cells es2 28))) := fun w1 es hN hb => by
    have B1 := bel_alloc (Below.refl w1.heap.size w1) (.cells es 28)
    have := parseF_any [83, 85, 77, 40, 65, 49, 58, 66, 50, 44, 41] (w1.alloc (.cells es 28)) (T.below (bel_step hb B1))
    rw [parB] at this
    refine this.mono ?_
    rintro e w2 ⟨es2, rfl, hN2, _, hb2⟩
    have B2 := bel_alloc (Below.refl w2.heap.size w2) (.cells es2 28)
    have hg : w2.heap[w1.heap.size]? = some (.cells es 28) := (hb2.block _ (by simp)).trans (heap_alloc_new _ _)
    exact ⟨es2, rfl, (nbox w2 hN2).1, (B2.block _ (lt_of hg)).trans hg, ((hN.below B1).below hb2).below B2, bel_step (bel_step (bel_step hb B1) hb2) B2⟩
  have CP := fun (u : World) (es : Array Value) (hN : NT u es exA) (hb : Below w.heap.size w u) => printF_any (by rw [zA]; omega) ztA hN (T.below hb)
  have CD := fun (u : World) (es : Array Value) (hN : NT u es exA) => depth_any exA (by rw [zA]; omega) u es hN
  have CS := fun (u : World) (es : Array Value) (hN : NT u es exA) => fsize_any exA (by rw [zA]; omega) u es hN
  have HB := fun (w1 : World) (es : Array Value) (hN : NT w1 es exA) => (nbox w1 hN).1
  have LD := fun (w1 u : World) (g : Nat) (es : Array Value) (hN : NT w1 es exA) (hg : u.heap[g]? = some (.cells es 28)) => (nbox_at hN).2 hg
  rw [dA] at CD
  rw [zA] at CS
  rw [prA] at CP
  have STP : ∀ (u u' : World) (g : Nat) (es : Array Value), u.heap[g]? = some (.cells es 28) ∧ NT u es exA ∧ Below w.heap.size w u → Below u.heap.size u u' → u'.heap[g]? = some (.cells es 28) ∧ NT u' es exA ∧ Below w.heap.size w u' := fun u u' g es h hb => ⟨(hb.block _ (lt_of h.1)).trans h.1, h.2.1.below hb, bel_step h.2.2 hb⟩
  have hsx : exA.1.s.toList = [42] := by kernel_rfl
  have hsb : (exA.1.s.toList == [42]) = true := by rw [hsx]; rfl
  clear T hsx
  go_enter Tryz.func12, Tryz.ntmps12
  go_wp2_with (first
    | (go_at_call 8; refine P1.mono ?_; rintro e w1 ⟨p, n, c, rfl, HN⟩; clear P1; have RS : Hid _ := HB _ _ HN.out.1)
    | (refine wpList_store_run rfl 28 _ _ rfl _ _ _ rfl rfl RS.out ?_; clear RS)
    | (go_at_call 8; refine (P2 _ _ HN.out.1 HN.out.2).mono ?_; rintro e w2 ⟨es2, rfl, RS, HX⟩; clear P2 HN; have c1 := (box_all HX.out.1).2.1; have RL : Hid _ := LD _ _ _ _ HX.out.2.1 HX.out.1)
    | (refine wpList_load_g 28 _ rfl _ _ rfl RL.out (by go_simp) ?_)
    | (go_at_call 18; refine (CP _ _ HX.out.2.1 HX.out.2.2).mono ?_; rintro e w3 ⟨rfl, hb⟩; have HX2 := STP _ _ _ _ HX.out hb; clear hb HX RL c1; have RL : Hid _ := LD _ _ _ _ HX2.2.1 HX2.1; have HX : Hid _ := HX2; clear HX2)
    | (go_at_call 20; refine (CD _ _ HX.out.2.1).mono ?_; rintro e w3 ⟨rfl, hb⟩; have HX2 := STP _ _ _ _ HX.out hb; clear hb HX RL; have RL : Hid _ := LD _ _ _ _ HX2.2.1 HX2.1; have HX : Hid _ := HX2; clear HX2)
    | (go_at_call 22; refine (CS _ _ HX.out.2.1).mono ?_; rintro e w3 ⟨rfl, hb⟩; have HX2 := STP _ _ _ _ HX.out hb; clear hb HX RL; have HX : Hid _ := HX2; clear HX2))
  go_ret
  exact ⟨rfl, HX.out.2.2⟩
end Go.Proofs.YtljfkkpkcjigpaaGreatDoor

namespace Go.Proofs.YtljfkkpkcjigpaaGreatDoor
open Go.RowKit Go.Fm
set_option maxRecDepth 100000
theorem sT_self (t : T) : sT t t = true := (sT_iff t t).2 (sameT_refl t)
structure D1 (w : World) (g : Nat) (fs : Array Value) (p : T) (u : World) : Prop where
  b : u.heap[g]? = some (.cells fs 28)
  n : NT u fs p
  l : Below w.heap.size w u
theorem D1.bel {w u u' : World} {g : Nat} {fs : Array Value} {p : T} (h : D1 w g fs p u) (hb : Below u.heap.size u u') : D1 w g fs p u' := ⟨(hb.block _ (lt_of h.b)).trans h.b, h.n.below hb, bel_step h.l hb⟩
theorem D1.begin {w u : World} {fs : Array Value} {p : T} (h : NT u fs p) (hb : Below w.heap.size w u) : Hid ((Instr.storeAt 28 (.pointer (some ⟨u.heap.size, 0, none⟩)) (.agg fs)).run Tryz.prog (u.alloc (.cells nd0 28)) = .ok () (u.alloc (.cells fs 28))) ∧ Hid (D1 w u.heap.size fs p (u.alloc (.cells fs 28))) :=
  ⟨(nbox u h).1, heap_alloc_new _ _, h.below (bel_alloc (Below.refl _ _) _), bel_alloc hb _⟩
theorem D1.load {w u : World} {g : Nat} {fs : Array Value} {p : T} (h : D1 w g fs p u) : (Instr.loadAt 28 (.pointer (some ⟨g, 0, none⟩))).run Tryz.prog u = .ok (.agg fs) u := (nbox_at h.n).2 h.b
set_option maxHeartbeats 8000000 in
theorem parses_walk {w : World} {A : ByteArray} (T : Tab9 w) : Calls Tryz.prog 3 #[.string A] w fun e w' => e = .returned (.bool true) ∧ Below w.heap.size w w' := by
  obtain ⟨l, rfl⟩ : ∃ l, A = ba l := ⟨A.data.toList, rfl⟩
  have CP : Calls Tryz.prog 8 #[.string (ba l)] w fun e w1 => ∃ fs, e = .returned (.tuple #[.agg fs, .int .i64 (parF l).2]) ∧ Hid ((Instr.storeAt 28 (.pointer (some ⟨w1.heap.size, 0, none⟩)) (.agg fs)).run Tryz.prog (w1.alloc (.cells nd0 28)) = .ok () (w1.alloc (.cells fs 28))) ∧ Hid (D1 w w1.heap.size fs (parF l).1 (w1.alloc (.cells fs 28))) ∧ Hid (zT (parF l).1 ≤ 256) := (parseF_any l w T).mono (by
    rintro e w1 ⟨fs, rfl, h1, h2, h3⟩
    obtain ⟨a1, a2⟩ := D1.begin h1 h3
    exact ⟨fs, rfl, a1, a2, h2⟩)
  have CR : Hid (∀ u g fs, D1 w g fs (parF l).1 u → Calls Tryz.prog 9 #[.string (ba l)] u fun e w1 => ∃ gs, e = .returned (.tuple #[.agg gs, .int .i64 (parF l).2]) ∧ Hid ((Instr.storeAt 28 (.pointer (some ⟨w1.heap.size, 0, none⟩)) (.agg gs)).run Tryz.prog (w1.alloc (.cells nd0 28)) = .ok () (w1.alloc (.cells gs 28))) ∧ Hid (D1 w w1.heap.size gs (parF l).1 (w1.alloc (.cells gs 28))) ∧ Hid (D1 w g fs (parF l).1 (w1.alloc (.cells gs 28)))) := fun u g fs hu => (fparse_ref l u (T.below hu.l)).mono (by
    rintro e w1 ⟨gs, rfl, h1, h2⟩
    obtain ⟨a1, a2⟩ := D1.begin h1 (bel_step hu.l h2)
    exact ⟨gs, rfl, a1, a2, (hu.bel h2).bel (bel_alloc (Below.refl _ _) _)⟩)
  have CS : Hid (∀ u g fs g' gs, zT (parF l).1 ≤ 256 → D1 w g fs (parF l).1 u → D1 w g' gs (parF l).1 u → Calls Tryz.prog 10 #[.agg fs, .agg gs] u fun e w' => e = .returned (.bool true) ∧ Below u.heap.size u w') := fun u g fs g' gs hz h1 h2 => by
    have := same_any (parF l).1 (by omega) (parF l).1 u fs gs h1.n h2.n
    rw [sT_self] at this
    exact this
  have CT : Hid (∀ u g fs g' gs, zT (parF l).1 ≤ 256 → D1 w g fs (parF l).1 u → D1 w g' gs (parF l).1 u → Calls Tryz.prog 11 #[.agg fs, .agg gs] u fun e w' => e = .returned (.bool true) ∧ Below u.heap.size u w') := fun u g fs g' gs hz h1 h2 => by
    have := rsame_any (parF l).1 (by omega) (parF l).1 u fs gs h1.n h2.n
    rw [sT_self] at this
    exact this
  have LV : Hid (∀ u g fs, D1 w g fs (parF l).1 u → Calls Tryz.prog 12 #[] u fun e w' => e = .returned (.bool true) ∧ Below u.heap.size u w') := fun u g fs hu => lives_any u (T.below hu.l)
  clear T
  generalize (parF l).1 = p at *
  generalize (parF l).2 = el at *
  have hel : (el == el) = true := by simp
  generalize ba l = S at *
  go_enter Tryz.func3, Tryz.ntmps3
  go_wp2_with (first
    | (go_at_call 8; refine CP.mono ?_; rintro e w1 ⟨fs, rfl, RS1, Y1, HZ⟩)
    | (refine wpList_store_run rfl 28 _ _ rfl _ _ _ rfl rfl RS1.out ?_; clear RS1)
    | (go_at_call 9; refine (CR.out _ _ _ Y1.out).mono ?_; rintro e w2 ⟨gs, rfl, RS2, Y2, Y3⟩)
    | (refine wpList_store_run rfl 28 _ _ rfl _ _ _ rfl rfl RS2.out ?_; clear RS2; have RL1 : Hid _ := Y3.out.load; have RL2 : Hid _ := Y2.out.load)
    | (refine wpList_load_g 28 _ rfl _ _ rfl RL1.out (by go_simp) ?_; clear RL1)
    | (refine wpList_load_g 28 _ rfl _ _ rfl RL2.out (by go_simp) ?_; clear RL2)
    | (go_at_call 10; refine (CS.out _ _ _ _ _ HZ.out Y3.out Y2.out).mono ?_; rintro e w3 ⟨rfl, hb⟩; have Y4 : Hid _ := Y3.out.bel hb; have Y5 : Hid _ := Y2.out.bel hb; clear hb; have RL3 : Hid _ := Y4.out.load; have RL4 : Hid _ := Y5.out.load)
    | (refine wpList_load_g 28 _ rfl _ _ rfl RL3.out (by go_simp) ?_; clear RL3)
    | (refine wpList_load_g 28 _ rfl _ _ rfl RL4.out (by go_simp) ?_; clear RL4)
    | (go_at_call 11; refine (CT.out _ _ _ _ _ HZ.out Y4.out Y5.out).mono ?_; rintro e w4 ⟨rfl, hb⟩; have Y6 : Hid _ := Y4.out.bel hb; clear hb)
    | (go_at_call 12; refine (LV.out _ _ _ Y6.out).mono ?_; rintro e w5 ⟨rfl, hb⟩; have HE : Hid (Below w.heap.size w w5) := bel_step Y6.out.l hb; clear hb))
  go_ret
  exact ⟨by first | rfl | (simp; done), HE.out⟩
end Go.Proofs.YtljfkkpkcjigpaaGreatDoor
