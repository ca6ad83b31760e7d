/- The contracts of the reference's Begin and own. -/
import Derived.Test.YtcheikpmhdliiaaDoorRsPure
import Derived.Test.YtcheikpmhdliiaaDoorRefFrame
import Derived.Test.YtcheikpmhdliiaaDoorRefUnframe
import Derived.Test.YtcheikpmhdliiaaDoorRefInts
namespace Go.Proofs.YtcheikpmhdliiaaDoor
open Go.RowKit
set_option maxRecDepth 100000

set_option maxHeartbeats 1000000 in
theorem rbegin_any (w : World) {id : Int} (hid : In64 id) :
    Calls Tryd.prog 21 #[.int .i64 id] w fun e w' => ∃ v', e = .returned v' ∧ Own w.heap.size w' v' (beginJ id) ∧ Below w.heap.size w w' := by
  have hI : Its (w.alloc (.cells #[.int .i64 7, .int .i64 id] 3)) (.slice (some ⟨w.heap.size, 0, none⟩) 2 2) [7, id] := its_lit w [7, id] (0, 0) (by simp [maxLen]) _ rfl
  have C := refInts_any hI (two_in hid) (by simp)
  have hl := listB_two_len hid
  go_enter Tryd.func21, Tryd.ntmps21
  go_wp2_with fail
  refine C.mono ?_
  rintro e w1 ⟨v1, rfl, o1, b1⟩
  have B1 : Hid (Below w.heap.size w w1) := ((Below.refl _ w).alloc (Nat.le_refl _) _).trans (b1.mono (by simp))
  have C2 := refFrame_any o1.bts (by omega)
  clear C o1 b1
  go_wp2_with fail
  refine C2.mono ?_
  rintro e w2 ⟨v2, rfl, o2, b2⟩
  have O : Hid (Own w.heap.size w2 v2 (beginJ id) ∧ Below w.heap.size w w2) := ⟨o2.mono_base B1.out.size, B1.out.trans (b2.mono B1.out.size)⟩
  clear C2 o2 b2
  go_wp2_with fail
  go_ret
  exact ⟨v2, rfl, O.out⟩

def RwJ (w : World) (l : List UInt8) (e : Ending) (w' : World) : Prop :=
  (ownJ l = none ∧ e = .returned (.tuple #[.int .i64 0, .bool false]) ∧ Below w.heap.size w w') ∨
  (∃ (id : Int) (n : Nat), ownJ l = some (id, n) ∧ e = .returned (.tuple #[.int .i64 id, .bool true]) ∧ In64 id ∧ Below w.heap.size w w')

set_option maxHeartbeats 2000000 in
theorem rown_any {w : World} {v : Value} {l : List UInt8} (h : Bts w v l) : Calls Tryd.prog 40 #[v] w fun e w' => RwJ w l e w' := by
  have hub := unframe_bound l
  have E1 : Hid ((unframeB l).2.2 ≠ 0 → ownJ l = none) := own_err
  have E2 : Hid ((unframeB l).2.2 = 0 → ∀ id, readI (unframeB l).1 = some [7, id] → ownJ l = some (id, (unframeB l).2.1)) := fun h id => own_two h
  have E3 : Hid ((unframeB l).2.2 = 0 → (∀ id, readI (unframeB l).1 ≠ some [7, id]) → ownJ l = none) := own_bad
  have U := refUn_any h
  clear h
  generalize unframeB l = u at *
  obtain ⟨c, n, er⟩ := u
  dsimp only at *
  have hcl : c.length ≤ 131072 := hub.2.2
  by_cases he : er = 0
  · subst he
    clear hub
    go_enter Tryd.func40, Tryd.ntmps40
    go_wp2_with fail
    refine U.mono ?_
    rintro e w1 ⟨cv, rfl, o1, b1⟩
    have B1 : Hid (Below w.heap.size w w1) := b1
    have C := rints_any o1.bts (by omega)
    clear U o1 b1 E1
    go_wp2_with fail
    refine C.mono ?_
    rintro e w2 (⟨ns, nv, q, rfl, oi, b2⟩ | ⟨q, rfl, b2⟩)
    · have B2 : Hid (Below w.heap.size w w2) := B1.out.trans (b2.mono B1.out.size)
      have hin := (readI_inv q).2
      rcases ns with _ | ⟨m, _ | ⟨id, _ | ⟨z, r⟩⟩⟩
      · have HN : Hid (ownJ l = none) := E3.out (by simp) (by intro id hq; rw [q] at hq; cases hq)
        rcases oi.its with ⟨rfl, _⟩ | ⟨a, cap, rfl, _, _, _⟩
        · clear q oi b2 hin C E2 E3
          go_wp2_with fail
          go_ret2
          exact .inl ⟨HN.out, rfl, B2.out⟩
        · clear q oi b2 hin C E2 E3
          go_wp2_with fail
          go_ret2
          exact .inl ⟨HN.out, rfl, B2.out⟩
      · have HN : Hid (ownJ l = none) := E3.out (by simp) (by intro id hq; rw [q] at hq; cases hq)
        rcases oi.its with ⟨_, hq⟩ | ⟨a, cap, rfl, _, _, _⟩
        · cases hq
        clear q oi b2 hin C E2 E3
        go_wp2_with fail
        go_ret2
        exact .inl ⟨HN.out, rfl, B2.out⟩
      · rcases oi.its with ⟨_, hq⟩ | ⟨a, cap, rfl, k1, k2, k3⟩
        · cases hq
        have c0 : w2.cell? a = some (.int .i64 m) := by have := k3 0 m rfl; simpa [Addr.add] using this
        have c1 : w2.cell? (a.add 1) = some (.int .i64 id) := k3 1 id rfl
        have c2 : w2.cell? ⟨a.block, a.off + 1, none⟩ = some (.int .i64 id) := by have := k3 1 id rfl; simpa [Addr.add] using this
        have hcap : ¬ cap = 0 := by simp at k1; omega
        by_cases hm : m = 7
        · subst hm
          have HN : Hid (ownJ l = some (id, n)) := E2.out (by simp) id q
          have HI : Hid (In64 id) := hin id (by simp)
          clear q oi b2 hin C E2 E3 k3
          go_wp2_with fail
          go_ret2
          exact .inr ⟨id, n, HN.out, rfl, HI.out, B2.out⟩
        · have HN : Hid (ownJ l = none) := E3.out (by simp) (by intro id' hq; rw [q] at hq; cases hq; exact hm rfl)
          clear q oi b2 hin C E2 E3 k3
          go_wp2_with fail
          go_ret2
          exact .inl ⟨HN.out, rfl, B2.out⟩
      · have HN : Hid (ownJ l = none) := E3.out (by simp) (by intro id' hq; rw [q] at hq; cases hq)
        rcases oi.its with ⟨_, hq⟩ | ⟨a, cap, rfl, _, _, _⟩
        · cases hq
        have hz : ¬ (((m :: id :: z :: r).length : Nat) : Int) = 2 := by simp; omega
        generalize (m :: id :: z :: r).length = len at *
        clear q oi b2 hin C E2 E3
        go_wp2_with fail
        go_ret2
        exact .inl ⟨HN.out, rfl, B2.out⟩
    · have B2 : Hid (Below w.heap.size w w2) := B1.out.trans (b2.mono B1.out.size)
      have HN : Hid (ownJ l = none) := E3.out (by simp) (by intro id hq; rw [q] at hq; cases hq)
      clear q b2 C E2 E3
      go_wp2_with fail
      go_ret2
      exact .inl ⟨HN.out, rfl, B2.out⟩
  · have he' : ¬ (er : Int) = 0 := by omega
    have HN : Hid (ownJ l = none) := E1.out he
    clear hub E1 E2 E3 he
    go_enter Tryd.func40, Tryd.ntmps40
    go_wp2_with (go_at_call 42; refine U.mono ?_; rintro e w1 ⟨cv, rfl, o1, b1⟩)
    go_ret2
    exact .inl ⟨HN.out, rfl, b1⟩
end Go.Proofs.YtcheikpmhdliiaaDoor
