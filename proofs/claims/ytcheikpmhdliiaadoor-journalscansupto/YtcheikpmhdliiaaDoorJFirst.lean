/- The contracts of first and ownId. -/
import Derived.Test.YtcheikpmhdliiaaDoorJGroup
namespace Go.Proofs.YtcheikpmhdliiaaDoor
open Go.RowKit
set_option maxRecDepth 100000

def FsJ (w : World) (l : List UInt8) (e : Ending) (w' : World) : Prop :=
  (firstJ l = none ∧ e = .returned (.tuple #[.nilIface, .int .i64 0]) ∧ Below w.heap.size w w') ∨
  (∃ id n, firstJ l = some (.hdr id, n) ∧ e = .returned (.tuple #[.iface 92 (.agg #[.int .i64 id]), .int .i64 (n : Int)]) ∧ In64 id ∧ Below w.heap.size w w') ∨
  (∃ s L n lv, firstJ l = some (.grp s L, n) ∧ e = .returned (.tuple #[.iface 94 (.agg #[.int .i64 s, lv]), .int .i64 (n : Int)]) ∧ In64 s ∧ (∀ o ∈ L, o.Ok) ∧ OwnOl w.heap.size w' lv L ∧ Below w.heap.size w w')

theorem readG_ok {l : List UInt8} {s : Int} {L : List OpT} (h : readG l = some (s, L)) : ∀ o ∈ L, o.Ok := by
  unfold readG at h
  split at h
  · split at h
    · rename_i hq
      cases h
      exact (readO_inv hq).2
    · cases h
  · cases h
theorem readH_in {l : List UInt8} {id : Int} (h : readH l = some id) : In64 id := by
  unfold readH at h
  split at h
  · rename_i hq
    split at h
    · cases h
      exact (readI_inv hq).2 _ (by simp)
    · cases h
  · cases h

set_option maxHeartbeats 2000000 in
theorem first_any {w : World} {v : Value} {l : List UInt8} (h : Bts w v l) (T : Tab w) : Calls Tryd.prog 64 #[v] w fun e w' => FsJ w l e w' := by
  have hub := unframe_bound l
  have HF : Hid (firstJ l = if (unframeB l).2.2 = 0 then (recJ (unframeB l).1).map fun r => (r, (unframeB l).2.1) else none) := rfl
  have U := unframe_any h T
  clear h T
  generalize unframeB l = u at *
  obtain ⟨c, n, er⟩ := u
  dsimp only at *
  have hcl : c.length ≤ 131072 := hub.2.2
  by_cases he : er = 0
  · subst he
    clear hub
    go_enter Tryd.func64, Tryd.ntmps64
    go_wp2_with fail
    refine U.mono ?_
    rintro e w1 ⟨cv, rfl, o1, b1⟩
    have G := readGroup_any o1.bts hcl
    have BC : Hid (Bts w1 cv c) := o1.bts
    have B1 : Hid (Below w.heap.size w w1) := b1
    clear U o1 b1
    go_wp2_with fail
    refine G.mono ?_
    rintro e w2 (⟨q, rfl, b2⟩ | ⟨s, L, lv, q, rfl, hs, ol, b2⟩)
    · have B2 : Hid (Below w.heap.size w w2) := B1.out.trans (b2.mono B1.out.size)
      have BC2 : Hid (Bts (w2.alloc (.cells #[.int .i64 0, .slice none 0 0] 94)) cv c) := (BC.out.below b2).alloc _
      rcases hq : readH c with _ | id
      · have Hd := readHeader_none BC2.out (by omega) hq
        have HN : Hid (firstJ l = none) := by
          show _ = _
          rw [HF.out]
          simp only [if_true, recJ, q, hq, Option.map_none]
        have B3 : Hid (∀ w3, Below (w2.alloc (.cells #[.int .i64 0, .slice none 0 0] 94)).heap.size (w2.alloc (.cells #[.int .i64 0, .slice none 0 0] 94)) w3 → Below w.heap.size w w3) := fun w3 hb => (B2.out.alloc B2.out.size _).trans (hb.mono (by have := B2.out.size; simp; omega))
        clear G b2 q HF BC BC2 B1 B2 hq
        go_wp2_with fail
        refine Hd.mono ?_
        rintro e w3 ⟨rfl, b3⟩
        have B4 : Hid (Below w.heap.size w w3) := B3.out w3 b3
        clear Hd b3 B3
        go_wp2_with fail
        go_ret2
        exact .inl ⟨HN.out, rfl, B4.out.alloc B4.out.size _⟩
      · have Hd := readHeader_some BC2.out (by omega) hq
        have HN : Hid (firstJ l = some (.hdr id, n)) := by
          show _ = _
          rw [HF.out]
          simp only [if_true, recJ, q, hq, Option.map_some]
        have HI : Hid (In64 id) := readH_in hq
        have B3 : Hid (∀ w3, Below (w2.alloc (.cells #[.int .i64 0, .slice none 0 0] 94)).heap.size (w2.alloc (.cells #[.int .i64 0, .slice none 0 0] 94)) w3 → Below w.heap.size w w3) := fun w3 hb => (B2.out.alloc B2.out.size _).trans (hb.mono (by have := B2.out.size; simp; omega))
        clear G b2 q HF BC BC2 B1 B2 hq
        go_wp2_with fail
        refine Hd.mono ?_
        rintro e w3 ⟨rfl, b3⟩
        have B4 : Hid (Below w.heap.size w w3) := B3.out w3 b3
        clear Hd b3 B3
        go_wp2_with fail
        go_ret2
        exact .inr (.inl ⟨id, n, HN.out, rfl, HI.out, B4.out.alloc B4.out.size _⟩)
    · have HN : Hid (firstJ l = some (.grp s L, n)) := by
        show _ = _
        rw [HF.out]
        simp only [if_true, recJ, q, Option.map_some]
      have HS : Hid (In64 s ∧ (∀ o ∈ L, o.Ok) ∧ OwnOl w.heap.size (w2.alloc (.cells #[.int .i64 s, lv] 94)) lv L ∧ Below w.heap.size w (w2.alloc (.cells #[.int .i64 s, lv] 94))) := by
        have B2 : Below w.heap.size w w2 := B1.out.trans (b2.mono B1.out.size)
        exact ⟨hs, readG_ok q, (ol.kept fun i _ hi => Below.heap_alloc w2 _ i hi).mono B1.out.size, B2.alloc B2.size _⟩
      obtain ⟨la, lc, rfl, _, _⟩ := ol.opl.slice
      clear G b2 q HF BC B1 ol hs
      go_wp2_with fail
      go_ret2
      exact .inr (.inr ⟨s, L, n, _, HN.out, rfl, HS.out⟩)
  · have he' : ¬ (er : Int) = 0 := by omega
    have HN : Hid (firstJ l = none) := by show _ = _; rw [HF.out, if_neg he]
    clear hub HF he
    go_enter Tryd.func64, Tryd.ntmps64
    go_wp2_with (go_at_call 26; refine U.mono ?_; rintro e w1 ⟨cv, rfl, o1, b1⟩)
    go_ret2
    exact .inl ⟨HN.out, rfl, b1⟩

theorem taH_yes (W : World) (v : Value) : (Instr.typeAssert (.iface 92 v) 117 92 true).run Tryd.prog W = .ok (.tuple #[v, .bool true]) W := by kernel_rfl
theorem taH_grp (W : World) (v : Value) : (Instr.typeAssert (.iface 94 v) 117 92 true).run Tryd.prog W = .ok (.tuple #[.agg #[.int .i64 0], .bool false]) W := by kernel_rfl
theorem taH_nil (W : World) : (Instr.typeAssert .nilIface 117 92 true).run Tryd.prog W = .ok (.tuple #[.agg #[.int .i64 0], .bool false]) W := by kernel_rfl
theorem taG_yes (W : World) (v : Value) : (Instr.typeAssert (.iface 94 v) 117 94 true).run Tryd.prog W = .ok (.tuple #[v, .bool true]) W := by kernel_rfl
theorem taG_hdr (W : World) (v : Value) : (Instr.typeAssert (.iface 92 v) 117 94 true).run Tryd.prog W = .ok (.tuple #[.agg #[.int .i64 0, .slice none 0 0], .bool false]) W := by kernel_rfl
theorem taG_nil (W : World) : (Instr.typeAssert .nilIface 117 94 true).run Tryd.prog W = .ok (.tuple #[.agg #[.int .i64 0, .slice none 0 0], .bool false]) W := by kernel_rfl

def OwJ (w : World) (l : List UInt8) (e : Ending) (w' : World) : Prop :=
  (ownJ l = none ∧ e = .returned (.tuple #[.int .i64 0, .int .i64 0, .bool false]) ∧ Below w.heap.size w w') ∨
  (∃ (id : Int) (n : Nat), ownJ l = some (id, n) ∧ e = .returned (.tuple #[.int .i64 id, .int .i64 (n : Int), .bool true]) ∧ In64 id ∧ 8 ≤ n ∧ n ≤ l.length ∧ Below w.heap.size w w')

set_option maxHeartbeats 1000000 in
theorem ownId_any {w : World} {v : Value} {l : List UInt8} (h : Bts w v l) (T : Tab w) : Calls Tryd.prog 39 #[v] w fun e w' => OwJ w l e w' := by
  have F := first_any h T
  have t1 := taH_yes
  have t2 := taH_grp
  have t3 := taH_nil
  clear h T
  go_enter Tryd.func39, Tryd.ntmps39
  go_wp2_with fail
  refine F.mono ?_
  rintro e w1 (⟨q, rfl, b1⟩ | ⟨id, n, q, rfl, hid, b1⟩ | ⟨s, L, n, lv, q, rfl, _, _, ol, b1⟩)
  · have HN : Hid (ownJ l = none ∧ Below w.heap.size w w1) := ⟨by unfold ownJ; rw [q], b1⟩
    clear q b1 F
    go_wp2_with fail
    go_ret3
    exact .inl ⟨HN.out.1, rfl, HN.out.2.alloc HN.out.2.size _⟩
  · have HN : Hid (ownJ l = some (id, n) ∧ In64 id ∧ 8 ≤ n ∧ n ≤ l.length ∧ Below w.heap.size w w1) := ⟨by unfold ownJ; rw [q], hid, (firstJ_bound q).1, (firstJ_bound q).2, b1⟩
    clear q b1 F hid
    go_wp2_with fail
    go_ret3
    exact .inr ⟨id, n, HN.out.1, rfl, HN.out.2.1, HN.out.2.2.1, HN.out.2.2.2.1, HN.out.2.2.2.2.alloc HN.out.2.2.2.2.size _⟩
  · have HN : Hid (ownJ l = none ∧ Below w.heap.size w w1) := ⟨by unfold ownJ; rw [q], b1⟩
    clear q b1 F ol
    go_wp2_with fail
    go_ret3
    exact .inl ⟨HN.out.1, rfl, HN.out.2.alloc HN.out.2.size _⟩
end Go.Proofs.YtcheikpmhdliiaaDoor
