/- The walk of follow; the contracts of Scan and Add. -/
import Derived.Test.YtcheikpmhdliiaaDoorJFol
namespace Go.Proofs.YtcheikpmhdliiaaDoor
open Go.RowKit
set_option maxRecDepth 100000

def goodOf (b : Nat) (w : World) : Nat := match w.cell? ⟨b, 1, none⟩ with
  | some v => (intOf v).toNat
  | none => 0
theorem Fol.good {w : World} {l : List UInt8} {n0 : Nat} {wr : World} {gv : Value} {gs : List (List OpT)} {good : Nat} (h : Fol w l n0 wr gv gs good) : goodOf (w.heap.size + 1) wr = good := by
  unfold goodOf
  rw [cell_heap h.2.1 rfl]
  simp [intOf]

abbrev logZ : Array Value := #[.slice none 0 0, .int .i64 0, .bool false]
/-- What the walk holds of the log while the next frame is looked at. -/
structure Seen (w w1 : World) (gv : Value) (good : Nat) : Prop where
  c0 : ∀ X : Obj, (w1.alloc X).cell? ⟨w.heap.size + 1, 0, none⟩ = some gv
  c1 : ∀ X : Obj, (w1.alloc X).cell? ⟨w.heap.size + 1, 1, none⟩ = some (.int .i64 (good : Int))
  c2 : ∀ X : Obj, (w1.alloc X).cell? ⟨w.heap.size + 1, 2, none⟩ = some (.bool true)
  st : ∀ X : Obj, (Instr.storeAt 38 (.pointer (some ⟨w.heap.size, 0, none⟩)) (.agg #[gv, .int .i64 (good : Int), .bool true])).run Tryd.prog (w1.alloc X) = .ok () ((w1.alloc X).setRow w.heap.size #[gv, .int .i64 (good : Int), .bool true])
  hz : ∀ X : Obj, ((w1.alloc X).setRow w.heap.size #[gv, .int .i64 (good : Int), .bool true]).heap[w.heap.size]? = some (.cells #[gv, .int .i64 (good : Int), .bool true] 38 (0, 0))
theorem Fol.seen {w : World} {l : List UInt8} {n0 : Nat} {wr w1 : World} {gv : Value} {gs : List (List OpT)} {good : Nat} (h : Fol w l n0 wr gv gs good) (hb : Below wr.heap.size wr w1) : Seen w w1 gv good := by
  obtain ⟨h1, h2, h3, h4, h5, h6, _⟩ := h
  have k : ∀ (X : Obj) i, i < wr.heap.size → (w1.alloc X).heap[i]? = wr.heap[i]? := fun X i hi => (Below.heap_alloc w1 X i (Nat.lt_of_lt_of_le hi hb.size)).trans (hb.block i hi)
  have k1 : ∀ X : Obj, (w1.alloc X).heap[w.heap.size + 1]? = some (.cells #[gv, .int .i64 (good : Int), .bool true] 38 (0, 0)) := fun X => (k X _ (by omega)).trans h2
  have k0 : ∀ X : Obj, (w1.alloc X).heap[w.heap.size]? = some (.cells logZ 38 (0, 0)) := fun X => (k X _ (by omega)).trans h1
  obtain ⟨a, c, e, _, _⟩ := h3.gps.slice
  refine ⟨fun X => cell_heap (k1 X) rfl, fun X => cell_heap (k1 X) rfl, fun X => cell_heap (k1 X) rfl, fun X => ?_, fun X => setRow_heap _ _ _ _ _ _ (k0 X)⟩
  have hr := run_storeVar_row (P := Tryd.prog) (w1.alloc X) w.heap.size 38 38 logZ #[gv, .int .i64 (good : Int), .bool true] (k0 X) (by kernel_rfl) rfl (by rw [e]; simp [Value.oneCell'])
  simp only [Instr.storeAt, Instr.sureAddr, Sem.run_bind, Sem.run_pure, Result.andThen_ok, hr]

/-- The log that is answered. -/
def LgJ (w : World) (x : LogT) (e : Ending) (w' : World) : Prop :=
  ∃ a c, e = .returned (.agg #[.slice a x.groups.length c, .int .i64 (x.good : Int), .bool x.bound]) ∧ Gps w.heap.size w'.heap.size w' (.slice a x.groups.length c) x.groups ∧ (∀ g ∈ x.groups, ∀ o ∈ g, o.Ok) ∧ Below w.heap.size w w'
theorem Fol.log {w : World} {l : List UInt8} {n0 : Nat} {wr w1 : World} {ga : Option Addr} {gc : Nat} {gs : List (List OpT)} {good : Nat} (h : Fol w l n0 wr (.slice ga gs.length gc) gs good) (hx : nextJ (l.drop good) gs.length = none) (hb : Below wr.heap.size wr w1) (X : Obj) (es : Array Value) :
    LgJ w (followJ l n0) (.returned (.agg #[.slice ga gs.length gc, .int .i64 (good : Int), .bool true])) ((w1.alloc X).setRow w.heap.size es) := by
  rw [h.stop hx]
  obtain ⟨h1, h2, h3, h4, h5, h6, _⟩ := h
  have hb1 : Below wr.heap.size wr (w1.alloc X) := hb.alloc hb.size X
  refine ⟨ga, gc, rfl, ?_, h4, ?_⟩
  · have o1 : OwnGp (w.heap.size + 2) (w.heap.size + 2) (w1.alloc X) (.slice ga gs.length gc) gs := h3.kept hb1.block hb1.size
    have o2 : OwnGp (w.heap.size + 2) (w.heap.size + 2) ((w1.alloc X).setRow w.heap.size es) (.slice ga gs.length gc) gs := o1.kept2 (fun i hi _ => setRow_other (by omega)) (by simp [World.setRow])
    exact o2.gps2.mono (by omega) (Nat.le_refl _)
  · exact setRow_below (h5.trans (hb1.mono (by omega))) (Nat.le_refl _)

set_option maxHeartbeats 4000000 in
theorem follow_any {w : World} {a : Addr} {cap : Nat} {l : List UInt8} (h : Bts w (.slice (some a) l.length cap) l) (T : Tab w) {n0 : Nat} (hn0 : n0 ≤ l.length) (hl : l.length ≤ 1000000000) :
    Calls Tryd.prog 41 #[.slice (some a) l.length cap, .int .i64 (n0 : Int)] w fun e w' => LgJ w (followJ l n0) e w' := by
  have H : Hid (Bts w (.slice (some a) l.length cap) l) := h
  have HT : Hid (Tab w) := T
  have t1 := taG_yes
  have t2 := taG_hdr
  have t3 := taG_nil
  have hcap : l.length ≤ cap ∧ cap ≤ maxLen := by
    rcases h with ⟨e, _⟩ | ⟨a', cap', e, h2, h3, _⟩
    · cases e
    · cases e
      exact ⟨h2, h3⟩
  have hcap1 := hcap.1
  have hcap2 : cap ≤ 9223372036854775807 := hcap.2
  have HC : Hid (cap ≤ maxLen) := hcap.2
  clear h T hcap
  go_enter Tryd.func41, Tryd.ntmps41
  go_wp2
  go_loopw [7] (fun _ wr => ∃ gv gs good, Hid (Fol w l n0 wr gv gs good)) (fun _ wr => l.length - goodOf (w.heap.size + 1) wr)
  case atStart =>
    refine ⟨.slice none 0 0, [], n0, ?_⟩
    refine ⟨(Below.heap_alloc _ _ _ (by simp)).trans (heap_alloc_new w _), ?_, OwnGp.nil _ _ _, by simp, ((Below.refl _ w).alloc (Nat.le_refl _) _).alloc (by simp) _, by simp, Nat.le_refl _, hn0, by simp, by simp⟩
    have := heap_alloc_new (w.alloc (.cells logZ 38)) (.cells #[.slice none 0 0, .int .i64 (n0 : Int), .bool true] 38)
    simpa using this
  case round =>
    obtain ⟨gv, gs, good, HF⟩ := hrel
    obtain ⟨ga, gc, rfl, _, _⟩ := HF.out.2.2.1.gps.slice
    have g1 : good ≤ l.length := HF.out.2.2.2.2.2.2.2.1
    have g2 : gs.length < 1000000000 := by have := HF.out.2.2.2.2.2.2.2.2.1; omega
    have c1 : wr.cell? ⟨w.heap.size + 1, 1, none⟩ = some (.int .i64 (good : Int)) := cell_heap HF.out.2.1 rfl
    have NX : Hid (∀ tv, Bts wr tv (l.drop good) → Calls Tryd.prog 64 #[tv] wr fun e w1 => (Hid (Seen w w1 (.slice ga gs.length gc) good) ∧ True ∧ (e = .returned (.tuple #[.nilIface, .int .i64 0]) ∨ (∃ id n, e = .returned (.tuple #[.iface 92 (.agg #[.int .i64 id]), .int .i64 n])) ∨ ∃ s la lm lc n, ¬ s = (gs.length : Int) + 1 ∧ e = .returned (.tuple #[.iface 94 (.agg #[.int .i64 s, .slice la lm lc]), .int .i64 n])) ∧ Hid (∀ (X : Obj) (es : Array Value), LgJ w (followJ l n0) (.returned (.agg #[.slice ga gs.length gc, .int .i64 (good : Int), .bool true])) ((w1.alloc X).setRow w.heap.size es))) ∨
        (∃ (Ln n : Nat) (la : Option Addr) (lc : Nat) (v3 : Value) (w3 : World), e = .returned (.tuple #[.iface 94 (.agg #[.int .i64 ((gs.length : Int) + 1), .slice la Ln lc]), .int .i64 (n : Int)]) ∧ Hid (Seen w w1 (.slice ga gs.length gc) good) ∧
          Hid ((Builtin.append_ #[36, 36] 36 #[.slice ga gs.length gc, .slice (some ⟨w1.heap.size + 1, 0, none⟩) 1 1]).run Tryd.prog ((w1.alloc (.cells #[.int .i64 ((gs.length : Int) + 1), .slice la Ln lc] 94)).alloc (.cells #[.slice la Ln lc] 22)) = .ok v3 w3) ∧
          w3.cell? ⟨w.heap.size + 1, 0, none⟩ = some (.slice ga gs.length gc) ∧ w3.frozen? ⟨w.heap.size + 1, 0, none⟩ = false ∧ w3.cell? ⟨w.heap.size + 1, 1, none⟩ = some (.int .i64 (good : Int)) ∧ w3.frozen? ⟨w.heap.size + 1, 1, none⟩ = false ∧ w3.cell? ⟨w.heap.size + 1, 2, none⟩ = some (.bool true) ∧
          Hid (∃ L, Fol w l n0 ((w3.setCell ⟨w.heap.size + 1, 0, none⟩ v3).setCell ⟨w.heap.size + 1, 1, none⟩ (.int .i64 ((good : Int) + (n : Int)))) v3 (gs ++ [L]) (good + n)) ∧ good + n ≤ l.length ∧ 8 ≤ n ∧ ∃ va vn vc, v3 = .slice va vn vc)) := by
      intro tv hbt
      refine (next_any hbt (HT.out.below (Nat.le_refl _) HF.out.2.2.2.2.1) gs.length).mono ?_
      rintro e w1 (⟨q, he, b1⟩ | ⟨L, n, la, lc, q, rfl, ok, ol, b1⟩)
      · exact .inl ⟨HF.out.seen b1, trivial, he, fun X es => HF.out.log q b1 X es⟩
      · obtain ⟨v3, w3, r, d0, f0, d1, f1, d2, HS, hn1, hn8, hv⟩ := HF.out.step hl (s := (gs.length : Int) + 1) q ok ol b1
        exact .inr ⟨L.length, n, la, lc, v3, w3, rfl, HF.out.seen b1, r, d0, f0, d1, f1, d2, ⟨L, HS.out⟩, hn1, hn8, hv⟩
    have BTT : Hid (Bts wr (.slice (if cap = good then some a else some (a.add good)) (l.length - good) (cap - good)) (l.drop good)) := by
      rcases H.out.below HF.out.2.2.2.2.1 with ⟨e, _⟩ | ⟨a', cap', e, k2, k3, k4⟩
      · cases e
      · cases e
        exact Bts.tail g1 k2 k3 k4
    have n1 : (good : Int) ≤ (l.length : Int) := by omega
    have n2 : (good : Int) ≤ (cap : Int) := by omega
    by_cases hce : cap = good
    · have BT : Hid (Bts wr (.slice (some a) 0 0) (l.drop good)) := by
        have := BTT.out
        rw [if_pos hce, hce, Nat.sub_self, show l.length - good = 0 by omega] at this
        exact this
      clear BTT
      subst hce
      go_wp2_with fail
      refine (NX.out _ (BT.out)).mono ?_
      rintro e w1 ((⟨SN, hsl, rfl | ⟨id, n, rfl⟩ | ⟨s, la, lm, lc, n, hs, rfl⟩, LG⟩) | ⟨Ln, n, la, lc, v3, w3, rfl, SN, RA, d0, f0, d1, f1, d2, HS, hn1, hn8, va, vn, vc, rfl⟩)
      · have s0 := SN.out.c0
        have s1 := SN.out.c1
        have s2 := SN.out.c2
        clear NX BT
        go_wp2_with (refine wpList_store_run rfl 38 _ _ rfl _ _ _ rfl rfl (SN.out.st _) ?_)
        exact bodyPost_ret_by (results_cell_row rfl _ _ w.heap.size 38 _ (0, 0) _ rfl (SN.out.hz _) Tryd.underlying38 rfl (by kernel_rfl)) rfl (LG.out _ _)
      · have s0 := SN.out.c0
        have s1 := SN.out.c1
        have s2 := SN.out.c2
        clear NX BT
        go_wp2_with (refine wpList_store_run rfl 38 _ _ rfl _ _ _ rfl rfl (SN.out.st _) ?_)
        exact bodyPost_ret_by (results_cell_row rfl _ _ w.heap.size 38 _ (0, 0) _ rfl (SN.out.hz _) Tryd.underlying38 rfl (by kernel_rfl)) rfl (LG.out _ _)
      · have s0 := SN.out.c0
        have s1 := SN.out.c1
        have s2 := SN.out.c2
        clear NX BT
        go_wp2_with (refine wpList_store_run rfl 38 _ _ rfl _ _ _ rfl rfl (SN.out.st _) ?_)
        exact bodyPost_ret_by (results_cell_row rfl _ _ w.heap.size 38 _ (0, 0) _ rfl (SN.out.hz _) Tryd.underlying38 rfl (by kernel_rfl)) rfl (LG.out _ _)
      · exfalso
        omega
    · have BT : Hid (Bts wr (.slice (some (a.add good)) (l.length - good) (cap - good)) (l.drop good)) := by
        have := BTT.out
        rwa [if_neg hce] at this
      clear BTT
      go_wp2_with fail
      refine (NX.out _ (BT.out)).mono ?_
      rintro e w1 ((⟨SN, hsl, rfl | ⟨id, n, rfl⟩ | ⟨s, la, lm, lc, n, hs, rfl⟩, LG⟩) | ⟨Ln, n, la, lc, v3, w3, rfl, SN, RA, d0, f0, d1, f1, d2, HS, hn1, hn8, va, vn, vc, rfl⟩)
      · have s0 := SN.out.c0
        have s1 := SN.out.c1
        have s2 := SN.out.c2
        clear NX BT
        go_wp2_with (refine wpList_store_run rfl 38 _ _ rfl _ _ _ rfl rfl (SN.out.st _) ?_)
        exact bodyPost_ret_by (results_cell_row rfl _ _ w.heap.size 38 _ (0, 0) _ rfl (SN.out.hz _) Tryd.underlying38 rfl (by kernel_rfl)) rfl (LG.out _ _)
      · have s0 := SN.out.c0
        have s1 := SN.out.c1
        have s2 := SN.out.c2
        clear NX BT
        go_wp2_with (refine wpList_store_run rfl 38 _ _ rfl _ _ _ rfl rfl (SN.out.st _) ?_)
        exact bodyPost_ret_by (results_cell_row rfl _ _ w.heap.size 38 _ (0, 0) _ rfl (SN.out.hz _) Tryd.underlying38 rfl (by kernel_rfl)) rfl (LG.out _ _)
      · have s0 := SN.out.c0
        have s1 := SN.out.c1
        have s2 := SN.out.c2
        clear NX BT
        go_wp2_with (refine wpList_store_run rfl 38 _ _ rfl _ _ _ rfl rfl (SN.out.st _) ?_)
        exact bodyPost_ret_by (results_cell_row rfl _ _ w.heap.size 38 _ (0, 0) _ rfl (SN.out.hz _) Tryd.underlying38 rfl (by kernel_rfl)) rfl (LG.out _ _)
      · have s0 := SN.out.c0
        have hgn : (good : Int) + (n : Int) ≤ 1000000000 := by omega
        have GW : Hid (goodOf (w.heap.size + 1) wr = good) := HF.out.good
        clear NX BT SN
        go_wp2_with (at_builtin; refine wpList_append_run rfl _ _ 36 rfl _ _ _ _ rfl rfl RA.out ?_)
        go_roundw
        case rel => exact ⟨_, _, _, HS.out.choose_spec⟩
        case measure =>
          obtain ⟨L, HS1⟩ := HS.out
          have e1 := HS1.good
          have e2 := GW.out
          show l.length - goodOf (w.heap.size + 1) _ < l.length - goodOf (w.heap.size + 1) _
          rw [e1, e2]
          omega
end Go.Proofs.YtcheikpmhdliiaaDoor
