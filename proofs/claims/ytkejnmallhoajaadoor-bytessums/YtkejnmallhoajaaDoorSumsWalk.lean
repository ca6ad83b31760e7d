/- The walk of BytesSums. -/
import Derived.Test.YtkejnmallhoajaaDoorLend
namespace Go.Proofs.YtkejnmallhoajaaDoor
open Go.RowKit
set_option maxRecDepth 100000

theorem lent_get (l : List UInt8) : (bcells (165 :: (l ++ [90])))[0]? = some (.int .u8 165) ∧ (bcells (165 :: (l ++ [90])))[l.length + 1]? = some (.int .u8 90) := by
  constructor
  · rfl
  · simp [bcells]
theorem lent_part {w : World} {b : Nat} {l : List UInt8} (h : Own b w (.slice (some ⟨b, 0, none⟩) (l.length + 2) (l.length + 2)) (165 :: (l ++ [90]))) (hl : l.length ≤ 150000) : Bts w (.slice (some ⟨b, 1, none⟩) l.length (l.length + 1)) l := by
  have hc := World.ownsRow.cells h (g := b) rfl
  have := Bts.later (w := w) (a := ⟨b, 0, none⟩) (m := 1) (n := l.length) (cap := l.length + 2) (l := 165 :: (l ++ [90])) (by decide) (by simp; omega) (by omega) (by simp only [maxLen]; omega) hc
  simpa [Addr.add] using this

set_option maxHeartbeats 2000000 in
theorem kept_any {w : World} {b : Nat} {x : Value} {l : List UInt8} (h : Bts w x l) (ho : Own b w (.slice (some ⟨b, 0, none⟩) (l.length + 2) (l.length + 2)) (165 :: (l ++ [90]))) (hl : l.length ≤ 150000) :
    Calls Tryd.prog 14 #[.slice (some ⟨b, 0, none⟩) (l.length + 2) (l.length + 2), x] w fun e w' => e = .returned (.bool true) ∧ w' = w.drew := by
  have hc := World.ownsRow.cells ho (g := b) rfl
  have c0 : w.cell? ⟨b, 0, none⟩ = some (.int .u8 165) := by simpa [Addr.add] using hc 0 _ (lent_get l).1
  have c1 : w.cell? ⟨b, l.length + 1, none⟩ = some (.int .u8 90) := by simpa [Addr.add] using hc (l.length + 1) _ (lent_get l).2
  have v1 := conv_bts (w := w.drew) (h.kept fun i _ => rfl)
  have v2 := conv_bts (w := w.drew) ((lent_part ho hl).kept fun i _ => rfl)
  obtain ⟨a, c, rfl, _, _⟩ := h.slice
  generalize (ByteArray.mk l.toArray) = s at v1 v2
  generalize l.length = n at *
  clear h ho hc
  have j1 : (n : Int) + 1 ≤ (n : Int) + 2 := by omega
  have j2 : (1 : Int) ≤ (n : Int) + 1 := by omega
  have j3 : n + 1 ≤ n + 2 := by omega
  have j4 : (0 : Int) ≤ (n : Int) + 1 := by omega
  have j5 : (n : Int) + 1 < (n : Int) + 2 := by omega
  have q1 : IntKind.i64.wrap ((n : Int) + 1) = (n : Int) + 1 := by rw [IntKind.wrap_i64]; omega
  have q2 : IntKind.i64.wrap ((n : Int) + 2) = (n : Int) + 2 := by rw [IntKind.wrap_i64]; omega
  go_enter Tryd.func14, Tryd.ntmps14
  go_wp2
  go_region_held_law (fun w' => w'.cell? ⟨b, 0, none⟩ = some (.int .u8 165) ∧ w'.cell? ⟨b, n + 1, none⟩ = some (.int .u8 90)) (exact ⟨c0, c1⟩) (fail)
  all_goals go_wp2
  all_goals go_ret
  all_goals exact ⟨by simp, rfl⟩

def frameO (l : List UInt8) : List UInt8 := if 131072 < l.length then [] else frameB l
theorem frame_both {w : World} {v : Value} {l : List UInt8} (h : Bts w v l) (T : Tab w) :
    Calls Tryd.prog 12 #[v] w fun e w' => ∃ v', e = .returned v' ∧ Own w.heap.size w' v' (frameO l) ∧ Below w.heap.size w w' := by
  unfold frameO
  by_cases hl : 131072 < l.length
  · rw [if_pos hl]
    refine (frame_long h hl).mono ?_
    rintro e w' ⟨rfl, rfl⟩
    exact ⟨_, rfl, Own.nil _ _, Below.refl _ _⟩
  · rw [if_neg hl]
    exact frame_any h T (by omega)
theorem refFrame_both {w : World} {v : Value} {l : List UInt8} (h : Bts w v l) :
    Calls Tryd.prog 13 #[v] w fun e w' => ∃ v', e = .returned v' ∧ Own w.heap.size w' v' (frameO l) ∧ Below w.heap.size w w' := by
  unfold frameO
  by_cases hl : 131072 < l.length
  · rw [if_pos hl]
    refine (refFrame_long h hl).mono ?_
    rintro e w' ⟨rfl, rfl⟩
    exact ⟨_, rfl, Own.nil _ _, Below.refl _ _⟩
  · rw [if_neg hl]
    exact refFrame_any h (by omega)

set_option maxHeartbeats 2000000 in
theorem sums_walk {w : World} {x : Value} {l : List UInt8} (h : Bts w x l) (T : Tab w) (hl : l.length ≤ 140737488355328) :
    Calls Tryd.prog 3 #[x] w fun e w' => e = .returned (.bool true) ∧ Below w.heap.size w w' := by
  by_cases hbig : 150000 < l.length
  · have L := lives_any w T
    obtain ⟨a, c, rfl, _, _⟩ := h.slice
    clear h T
    go_enter Tryd.func3, Tryd.ntmps3
    go_wp2_with (go_at_call 7; refine L.mono ?_; rintro e w' ⟨rfl, hb⟩)
    go_ret
    exact ⟨rfl, hb⟩
  · have C1 := lend_any h (by omega)
    have H : Hid (Bts w x l) := h
    have HT : Hid (Tab w) := T
    have hl2 : l.length ≤ 150000 := by omega
    obtain ⟨a, c, rfl, _, _⟩ := h.slice
    clear h T
    go_enter Tryd.func3, Tryd.ntmps3
    go_wp2_with fail
    refine C1.mono ?_
    rintro e w1 ⟨rfl, o1, b1⟩
    have O1 : Hid (Own w.heap.size w1 (.slice (some ⟨w.heap.size, 0, none⟩) (l.length + 2) (l.length + 2)) (165 :: (l ++ [90]))) := o1
    have B1 : Hid (Below w.heap.size w w1) := b1
    have p1 := lent_part o1 hl2
    have S1 := sum_any p1 (HT.out.below (Nat.le_refl _) b1)
    have S2 := refSum_any (H.out.below b1)
    have F1 := frame_both p1 (HT.out.below (Nat.le_refl _) b1)
    generalize sumB l = sm at S1 S2
    clear C1 o1 b1 p1
    go_wp2_with fail
    refine S1.mono ?_
    rintro e w' ⟨rfl, hw⟩
    obtain rfl := hw.symm
    clear S1 hw
    go_wp2_with fail
    refine S2.mono ?_
    rintro e w' ⟨rfl, hw⟩
    obtain rfl := hw.symm
    clear S2 hw
    go_wp2_with fail
    refine F1.mono ?_
    rintro e w2 ⟨v2, rfl, o2, b2⟩
    have B2 : Hid (Below w.heap.size w w2) := B1.out.trans (b2.mono B1.out.size)
    have O2 : Hid (Own w.heap.size w2 (.slice (some ⟨w.heap.size, 0, none⟩) (l.length + 2) (l.length + 2)) (165 :: (l ++ [90]))) := O1.out.kept b2.block
    have P2 : Hid (Bts w2 v2 (frameO l)) := o2.bts
    have F2 := refFrame_both (H.out.below B2.out)
    clear F1 o2 b2 O1 B1
    go_wp2_with fail
    refine F2.mono ?_
    rintro e w3 ⟨v3, rfl, o3, b3⟩
    have B3 : Hid (Below w.heap.size w w3) := B2.out.trans (b3.mono B2.out.size)
    have C3 := same_yes (P2.out.below b3) o3.bts
    have K3 := kept_any (H.out.below B3.out) (O2.out.kept b3.block) hl2
    have L := lives_any w3.drew (HT.out.below (Nat.le_refl _) B3.out).drew
    clear F2 o3 b3 O2 B2 P2
    go_wp2_with fail
    refine C3.mono ?_
    rintro e w' ⟨rfl, hw⟩
    obtain rfl := hw.symm
    clear C3 hw
    go_wp2_with fail
    refine K3.mono ?_
    rintro e w' ⟨rfl, hw⟩
    obtain rfl := hw.symm
    clear K3 hw
    go_wp2_with fail
    refine L.mono ?_
    rintro e w5 ⟨rfl, hb⟩
    have B5 : Hid (Below w.heap.size w w5) := B3.out.drew.trans (hb.mono B3.out.size)
    clear L hb
    go_wp2_with fail
    go_ret
    exact ⟨rfl, B5.out⟩
end Go.Proofs.YtkejnmallhoajaaDoor
