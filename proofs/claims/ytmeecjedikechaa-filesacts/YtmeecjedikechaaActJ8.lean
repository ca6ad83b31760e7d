/- octavolaw01.act, kind 8: both worlds stay alike. -/
import Derived.Test.YtmeecjedikechaaJB
import Derived.Test.YtmeecjedikechaaSame
namespace Go.Proofs.Ytmeecjedikechaa
open Go.RowKit Go.Maps Go.Sort
set_option maxRecDepth 100000
set_option linter.unusedVariables false
set_option linter.unusedSimpArgs false
/-- Behind the reads: what was read lies in memory that is kept, and that the reference has nothing to do with. -/
def T8 (base b bm rb : Nat) (w : World) (v : Value) (n : Nat) (u : World) : Prop :=
  ∃ K Kr r P, JB K Kr base b bm rb r P u ∧ Below base w u ∧ (∃ m : List UInt8, m.length = n ∧ Byt.Own base u v m) ∧ ∀ g, v.ownBlock = some g → K g ∧ ¬ Kr g
set_option maxHeartbeats 4000000 in
theorem actJ_8 {K : Nat → Prop} {base : Nat} {w : World} {b bm rb : Nat} {r : RS} {P : List PF} (h : JA K base b bm rb r P w) (nm to : ByteArray) (n1 m1 : Int) (hn : nm.size ≤ maxLen) (dv : Value) :
    Calls Try.prog 10 #[ptrOf b, ptrOf rb, .agg #[.int .i64 8, .string nm, .string to, .int .i64 n1, .int .i64 m1, dv]] w (AdJ base b bm rb w) := by
  generalize hC : (#[.int .i64 8, .string nm, .string to, .int .i64 n1, .int .i64 m1, dv] : Array Value) = C at *
  have J1 := h.box2 (.cells C 31)
  have B1 : Hid (Below base w (w.alloc (.cells C 31)) ∧ (w.alloc (.cells C 31)).heap[w.heap.size]? = some (.cells C 31 (0, 0)) ∧ base ≤ w.heap.size ∧ nm.size ≤ maxLen ∧ ∀ i, K i → i < w.heap.size) := ⟨(Below.refl base w).alloc h.bas _, heap_alloc_new w _, h.bas, hn, h.jb.kb⟩
  generalize hq1 : readP nm r P = q1
  obtain ⟨l, z1⟩ := q1
  have HQ1 : Hid (readP nm r P = (l, z1)) := hq1
  generalize hq2 : syncedP nm r P = q2
  obtain ⟨z2, z3⟩ := q2
  have HQ2 : Hid (syncedP nm r P = (z2, z3)) := hq2
  clear h hq1 hq2
  have R1 := J1.read nm hn HQ1.out
  have HJ1 : Hid (JB (Kg K w.heap.size) K base b bm rb r P (w.alloc (.cells C 31))) := J1
  clear J1 hn
  subst hC
  have e1 : (z1 == z1) = true := by simp
  have e2 : (z2 == z2) = true := by simp
  have e3 : (z3 == z3) = true := by simp
  go_enter Try.func10, Try.ntmps10
  go_wp2_with fail
  refine R1.mono ?_
  rintro e w2 ⟨v, rfl, o2, j2, b2⟩
  have R2 := j2.rread nm B1.out.2.2.2.1 HQ1.out
  have H2 : Hid (w2.heap[w.heap.size]? = some (.cells #[.int .i64 8, .string nm, .string to, .int .i64 n1, .int .i64 m1, dv] 31 (0, 0)) ∧ Below base w w2) := ⟨(b2.keep _ (.inr rfl)).trans B1.out.2.1, B1.out.1.trans b2.below⟩
  have HO2 : Hid (Byt.Own (w.alloc (.cells #[.int .i64 8, .string nm, .string to, .int .i64 n1, .int .i64 m1, dv] 31)).heap.size w2 v l) := o2
  clear R1 o2 j2 b2
  have k1 := (acell H2.out.1).2.1
  go_wp2_with fail
  clear k1
  refine R2.mono ?_
  rintro e w3 ⟨c, rfl, o3, j3, b3⟩
  have R3 := j3.synced nm B1.out.2.2.2.1 HQ2.out
  have H3 : Hid (w3.heap[w.heap.size]? = some (.cells #[.int .i64 8, .string nm, .string to, .int .i64 n1, .int .i64 m1, dv] 31 (0, 0)) ∧ Below base w w3) := ⟨(b3.block _ (lt_of_some H2.out.1)).trans H2.out.1, H2.out.2.trans (b3.mono (by have := H2.out.2.size; have := B1.out.2.2.1; omega))⟩
  have HO3 : Hid (Byt.Own (w.alloc (.cells #[.int .i64 8, .string nm, .string to, .int .i64 n1, .int .i64 m1, dv] 31)).heap.size w3 v l ∧ Byt.Own w2.heap.size w3 c l) := ⟨HO2.out.kept b3.block, o3⟩
  have HL3 : Hid (∀ g, v.ownBlock = some g → (w.alloc (.cells #[.int .i64 8, .string nm, .string to, .int .i64 n1, .int .i64 m1, dv] 31)).heap.size ≤ g ∧ g < w2.heap.size) := fun g hg => HO2.out.lt hg
  clear R2 o3 j3 b3
  have k1 := (acell H3.out.1).2.1
  go_wp2_with fail
  clear k1
  refine R3.mono ?_
  rintro e w4 ⟨rfl, j4, b4⟩
  have R4 := j4.rsynced nm B1.out.2.2.2.1 HQ2.out
  have H4 : Hid (w4.heap[w.heap.size]? = some (.cells #[.int .i64 8, .string nm, .string to, .int .i64 n1, .int .i64 m1, dv] 31 (0, 0)) ∧ Below base w w4) := ⟨(b4.keep _ (.inl (.inl (.inr rfl)))).trans H3.out.1, H3.out.2.trans b4.below⟩
  have HO4 : Hid (Byt.Own (w.alloc (.cells #[.int .i64 8, .string nm, .string to, .int .i64 n1, .int .i64 m1, dv] 31)).heap.size w4 v l ∧ Byt.Own w2.heap.size w4 c l) := ⟨HO3.out.1.of_block fun g hg => b4.keep _ (.inl (.inr (HL3.out g hg))), HO3.out.2.of_block fun g hg => b4.keep _ (.inr (HO3.out.2.lt hg))⟩
  clear R3 j4 b4
  have k1 := (acell H4.out.1).2.1
  go_wp2_with fail
  clear k1
  refine R4.mono ?_
  rintro e w5 ⟨rfl, j5, b5⟩
  have H5 : Hid (T8 base b bm rb w v l.length w5) := by
    refine ⟨_, _, _, _, j5, H4.out.2.trans (b5.mono (by have := H4.out.2.size; have := B1.out.2.2.1; omega)), ⟨l, rfl, own_low (HO4.out.1.kept b5.block) (by have := B1.out.2.2.1; simp; omega)⟩, fun g hg => ?_⟩
    have := HL3.out g hg
    exact ⟨.inl (.inr this), fun hk => by have h2 := B1.out.2.2.2.2 g hk; simp at this; omega⟩
  have SM := same_yes (bts_srcJ (HO4.out.1.kept b5.block).bts) (bts_srcJ (HO4.out.2.kept b5.block).bts)
  obtain ⟨va, vc, hv⟩ := HO4.out.1.slice
  obtain ⟨va', vc', hv', hle, hmx⟩ := (HO4.out.1.bts).slice
  have hll : l.length ≤ 9223372036854775807 := by unfold maxLen at hmx; omega
  clear R4 j5 b5 H4 HO4 HO3 HO2 HL3 H3 H2 HJ1 B1 HQ1 HQ2 hle hmx hv'
  subst hv
  clear va' vc'
  go_wp2_with fail
  refine SM.mono ?_
  rintro e w' ⟨rfl, hw⟩
  obtain rfl := hw.symm
  clear hw SM
  go_wp2_with fail
  go_loopw [198] (fun u198 wr => ∃ k : Nat, u198 = .int .i64 k ∧ k ≤ l.length ∧ Hid (T8 base b bm rb w (.slice va l.length vc) l.length wr)) (fun u198 _ => l.length - (intOf u198).toNat)
  case atStart => exact ⟨0, rfl, by omega, H5⟩
  case round =>
    obtain ⟨k, rfl, hk, HD⟩ := hrel
    clear H5
    by_cases hlt : k < l.length
    · obtain ⟨K1, Kr1, r1, P1, j1, bD, ⟨m, hm, oD⟩, hg⟩ := HD.out
      obtain ⟨g1, k1, e1', hg1, c1, f1, o1⟩ := Byt.own_store oD (p := k) (by omega) 8
      simp only [Value.slice.injEq] at e1'
      obtain ⟨rfl, -, rfl⟩ := e1'
      have o1' : Byt.Own base (wr.setCell ⟨g1, k, none⟩ (.int .u8 8)) (.slice (some ⟨g1, 0, none⟩) l.length vc) (m.set k 8) := o1
      have HE : Hid (T8 base b bm rb w (.slice (some ⟨g1, 0, none⟩) l.length vc) l.length (wr.setCell ⟨g1, k, none⟩ (.int .u8 8))) :=
        ⟨_, _, _, _, j1.store (hg g1 rfl).1 (hg g1 rfl).2 k _, bD.setCell hg1 _, ⟨_, by rw [List.length_set]; exact hm, o1'⟩, hg⟩
      generalize m[k].toNat = z at c1
      clear HD j1 bD hm oD o1 o1' hg1 hg
      go_wp2
      go_roundw
      case rel => exact ⟨k + 1, by go_num, by omega, HE⟩
      case measure => simp [intOf]; omega
    · go_wp2
      go_ret
      obtain ⟨K1, Kr1, r1, P1, j1, bD, _⟩ := HD.out
      exact ⟨rfl, ⟨_, _, _, j1.ja⟩, bD⟩
end Go.Proofs.Ytmeecjedikechaa
