/- The contract of octavoref04.Group; the walk of JournalGroups. -/
import Derived.Test.YtcheikpmhdliiaaDoorJLives
import Derived.Test.YtcheikpmhdliiaaDoorRefOps
import Derived.Test.YtcheikpmhdliiaaDoorRefFrame
namespace Go.Proofs.YtcheikpmhdliiaaDoor
open Go.RowKit
set_option maxRecDepth 100000

set_option maxHeartbeats 2000000 in
theorem refGroup_any {w : World} {seq : Int} (hs : In64 seq) {lo hi : Nat} {lv : Value} {L : List OpT} (h : Opl lo hi w lv L) (hhi : hi ≤ w.heap.size) (ok : ∀ o ∈ L, o.Ok) (hl : (opsB L).length + 1000 ≤ 140737488355328) :
    Calls Tryd.prog 23 #[.int .i64 seq, lv] w fun e w' => ∃ v', e = .returned (.tuple #[v', .int .i64 (groupJ seq L).2]) ∧ Own w.heap.size w' v' (groupJ seq L).1 ∧ Below w.heap.size w w' := by
  obtain ⟨a, c, rfl, _, _⟩ := h.slice
  have hlen : L.length ≤ 140737488355328 := by
    have := flatMap_ge opB_pos L
    simp only [opsB, lstB, List.length_append] at hl
    omega
  by_cases h1 : seq < 1 ∨ L.length = 0
  · have HE : Hid (groupJ seq L = ([], 2)) := by show _ = _; unfold groupJ; rw [if_pos h1]
    clear h ok hl
    by_cases h0 : seq < 1
    · clear h1
      go_enter Tryd.func23, Tryd.ntmps23
      go_wp2
      go_ret2
      exact ⟨.slice none 0 0, by rw [HE.out]; rfl, by rw [HE.out]; exact Own.nil _ _, Below.refl _ _⟩
    · have h2 : L.length = 0 := by omega
      rw [h2] at *
      clear h1
      go_enter Tryd.func23, Tryd.ntmps23
      go_wp2
      go_ret2
      exact ⟨.slice none 0 0, by rw [HE.out]; rfl, by rw [HE.out]; exact Own.nil _ _, Below.refl _ _⟩
  · have hs1 : ¬ seq < 1 := by omega
    have hL : ¬ (L.length : Int) = 0 := by omega
    have hI : Its (w.alloc (.cells #[.int .i64 seq] 3)) (.slice (some ⟨w.heap.size, 0, none⟩) 1 1) [seq] := its_lit w [seq] (0, 0) (by simp [maxLen]) _ rfl
    have C1 := refInts_any hI (by simpa using hs) (by simp)
    have H : Hid (Opl lo hi w (.slice a L.length c) L) := h
    have HN : Hid (¬ (seq < 1 ∨ L.length = 0)) := h1
    clear h h1 hI
    go_enter Tryd.func23, Tryd.ntmps23
    go_wp2_with fail
    refine C1.mono ?_
    rintro e w1 ⟨v1, rfl, o1, b1⟩
    have hB1 : Below w.heap.size w w1 := ((Below.refl _ w).alloc (Nat.le_refl _) _).trans (b1.mono (by simp))
    have C2 := refOps_any (H.out.below hhi hB1) (Nat.le_trans hhi hB1.size) ok (by omega)
    have C2' : Calls Tryd.prog 12 #[.slice a L.length c] w1 fun e w2 => ∃ v2, e = .returned v2 ∧ ∃ a3 c3 w3, Hid ((Builtin.append_ #[24, 24] 24 #[v1, v2]).run Tryd.prog w2 = .ok (.slice a3 (groupC seq L).length c3) w3) ∧ Hid (Own w.heap.size w3 (.slice a3 (groupC seq L).length c3) (groupC seq L) ∧ Below w.heap.size w w3) := by
      refine C2.mono ?_
      rintro e w2 ⟨v2, rfl, o2, b2⟩
      have o1' : Own w.heap.size w2 v1 (listB [seq]) := (o1.kept b2.block).mono_base (by simp)
      have hB2 : Below w.heap.size w w2 := hB1.trans (b2.mono hB1.size)
      obtain ⟨v3, w3, r3, a3⟩ := own_app 24 o1' o2.bts (by have := groupC_len hs L; simp only [groupC, List.length_append] at this; omega) hB2.size
      obtain ⟨aa, cc, e3⟩ := a3.own.slice
      subst e3
      exact ⟨v2, rfl, aa, cc, w3, r3, a3.own, hB2.trans (a3.below o1' hB2.size)⟩
    have hgl : (groupC seq L).length ≤ 140737488355328 := by have := groupC_len hs L; omega
    clear C1 C2 o1 b1 hB1 ok hl H
    go_wp2_with fail
    refine C2'.mono ?_
    rintro e w2 ⟨v2, rfl, a3, c3, w3, R3, HO⟩
    clear C2'
    by_cases hbig : 131072 < (groupC seq L).length
    · have HE : Hid (groupJ seq L = ([], 9)) := by show _ = _; unfold groupJ; rw [if_neg HN.out, if_pos hbig]
      have hbig' : 131072 < ((groupC seq L).length : Int) := by omega
      generalize (groupC seq L).length = n at *
      go_wp2_with (at_builtin; refine wpList_append_run rfl _ _ 24 rfl _ _ _ _ rfl rfl R3.out ?_)
      go_ret2
      exact ⟨.slice none 0 0, by rw [HE.out]; rfl, by rw [HE.out]; exact Own.nil _ _, HO.out.2⟩
    · have HE : Hid (groupJ seq L = (frameB (groupC seq L), 0)) := by show _ = _; unfold groupJ; rw [if_neg HN.out, if_neg hbig]
      have hbig' : ¬ 131072 < ((groupC seq L).length : Int) := by omega
      have C4 := refFrame_any HO.out.1.bts (by omega)
      have C4' : Calls Tryd.prog 46 #[.slice a3 (groupC seq L).length c3] w3 fun e w4 => ∃ v4, e = .returned v4 ∧ Hid (Own w.heap.size w4 v4 (frameB (groupC seq L)) ∧ Below w.heap.size w w4) := by
        refine C4.mono ?_
        rintro e w4 ⟨v4, rfl, o4, b4⟩
        exact ⟨v4, rfl, o4.mono_base HO.out.2.size, HO.out.2.trans (b4.mono HO.out.2.size)⟩
      clear C4 HO
      generalize hn : (groupC seq L).length = n at *
      clear hn
      go_wp2_with (first
        | (at_builtin; refine wpList_append_run rfl _ _ 24 rfl _ _ _ _ rfl rfl R3.out ?_)
        | (go_at_call 46; refine C4'.mono ?_; rintro e w4 ⟨v4, rfl, HO4⟩))
      go_ret2
      exact ⟨v4, by rw [HE.out]; rfl, by rw [HE.out]; exact HO4.out.1, HO4.out.2⟩

set_option maxHeartbeats 1000000 in
theorem groups_walk {w : World} {seq : Int} (hs : In64 seq) {x : Value} {L : List OpT} (h : Opl 0 w.heap.size w x L) (ok : ∀ o ∈ L, o.Ok) (T : Tab w) (hl : (opsB L).length ≤ 10485760) :
    Calls Tryd.prog 5 #[.int .i64 seq, x] w fun e w' => e = .returned (.bool true) ∧ Below w.heap.size w w' := by
  obtain ⟨a, c, rfl, _, _⟩ := h.slice
  have hlen : L.length ≤ 10485760 := by
    have := flatMap_ge opB_pos L
    simp only [opsB, lstB, List.length_append] at hl
    omega
  by_cases hbig : 50 < L.length
  · have C := livesJ_any T
    clear h ok T
    go_enter Tryd.func5, Tryd.ntmps5
    go_wp2_with (go_at_call 14; refine C.mono ?_; rintro e w' ⟨rfl, hb⟩)
    go_ret
    exact ⟨rfl, hb⟩
  · have C1 := group_any T hs h (Nat.le_refl _) ok (by omega)
    have H : Hid (Opl 0 w.heap.size w (.slice a L.length c) L) := h
    have HT : Hid (Tab w) := T
    have HOK : Hid (∀ o ∈ L, o.Ok) := ok
    clear h T ok
    go_enter Tryd.func5, Tryd.ntmps5
    go_wp2_with fail
    refine C1.mono ?_
    rintro e w1 ⟨v1, rfl, o1, b1⟩
    have C2 := refGroup_any hs (H.out.below (Nat.le_refl _) b1) b1.size HOK.out (by omega)
    have C2' : Calls Tryd.prog 23 #[.int .i64 seq, .slice a L.length c] w1 fun e w2 => ∃ v2, e = .returned (.tuple #[v2, .int .i64 (groupJ seq L).2]) ∧ Hid (Bts w2 v1 (groupJ seq L).1 ∧ Bts w2 v2 (groupJ seq L).1 ∧ Below w.heap.size w w2) := by
      refine C2.mono ?_
      rintro e w2 ⟨v2, rfl, o2, b2⟩
      exact ⟨v2, rfl, o1.bts.below b2, o2.bts, b1.trans (b2.mono b1.size)⟩
    clear C1 C2 o1 b1 H
    generalize groupJ seq L = g at *
    obtain ⟨gb, ge⟩ := g
    dsimp only at *
    go_wp2_with fail
    refine C2'.mono ?_
    rintro e w2 ⟨v2, rfl, HO⟩
    have C3 := same_yes HO.out.1 HO.out.2.1
    have C4 := livesJ_any (HT.out.below (Nat.le_refl _) HO.out.2.2)
    clear C2'
    go_wp2_with (first
      | (go_at_call 11; refine C3.mono ?_; rintro e w' ⟨rfl, hw⟩; obtain rfl := hw.symm; clear hw)
      | (go_at_call 14; refine C4.mono ?_; rintro e w5 ⟨rfl, hb5⟩))
    go_ret
    exact ⟨rfl, HO.out.2.2.trans (hb5.mono HO.out.2.2.size)⟩
end Go.Proofs.YtcheikpmhdliiaaDoor
