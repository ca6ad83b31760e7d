/- The contracts of the reference's Fourth and Unframe. -/
import Derived.Test.YtcheikpmhdliiaaDoorRefSum
import Derived.Deep.DeepCutAuto
import Derived.Deep.RegionHeldLaw
namespace Go.Proofs.YtcheikpmhdliiaaDoor
open Go.RowKit
set_option maxRecDepth 100000

set_option maxHeartbeats 2000000 in
theorem fourth_walk {w : World} {a : Addr} {n cap : Nat} (hk : 4 ≤ n) {x0 x1 x2 x3 : Nat} (b0 : x0 < 256) (b1 : x1 < 256) (b2 : x2 < 256) (b3 : x3 < 256)
    (c0 : w.cell? a = some (.int .u8 x0)) (e1 : w.cell? ⟨a.block, a.off + 1, none⟩ = some (.int .u8 x1)) (e2 : w.cell? ⟨a.block, a.off + 2, none⟩ = some (.int .u8 x2)) (e3 : w.cell? ⟨a.block, a.off + 3, none⟩ = some (.int .u8 x3)) :
    Calls Tryd.prog 66 #[.slice (some a) n cap] w fun e w' => e = .returned (.int .u32 (x0 + 256 * x1 + 65536 * x2 + 16777216 * x3 : Nat)) ∧ w' = w.drew := by
  have j0 : (0 : Int) < (n : Int) := by omega
  have j1 : (1 : Int) < (n : Int) := by omega
  have j2 : (2 : Int) < (n : Int) := by omega
  have j3 : (3 : Int) < (n : Int) := by omega
  have i0 : 0 < n := by omega
  have i1 : 1 < n := by omega
  have i2 : 2 < n := by omega
  have i3 : 3 < n := by omega
  go_enter Tryd.func66, Tryd.ntmps66
  go_wp2
  go_region
  go_wp2
  go_ret
  exact ⟨congrArg (fun z => Ending.returned (Value.int .u32 z)) (or_word b0 b1 b2 b3), rfl⟩

theorem fourth_any {w : World} {v : Value} {l : List UInt8} (h : Bts w v l) (hk : 4 ≤ l.length) :
    Calls Tryd.prog 66 #[v] w fun e w' => e = .returned (.int .u32 (wordOf l 0)) ∧ w' = w.drew := by
  rcases h with ⟨rfl, rfl⟩ | ⟨a, cap, rfl, h1, h2, h3⟩
  · simp at hk
  rw [wordOf_get (k := 0) (by omega)]
  exact fourth_walk hk (l[0].toNat_lt) (l[0 + 1].toNat_lt) (l[0 + 2].toNat_lt) (l[0 + 3].toNat_lt) (h3 0 _ (bcells_get (by omega))) (h3 1 _ (bcells_get (by omega))) (h3 2 _ (bcells_get (by omega))) (h3 3 _ (bcells_get (by omega)))

set_option maxHeartbeats 1000000 in
theorem refUn_short {w : World} {v : Value} {l : List UInt8} (h : Bts w v l) (hl : l.length < 4) :
    Calls Tryd.prog 42 #[v] w fun e w' => e = .returned (.tuple #[.slice none 0 0, .int .i64 0, .int .i64 16]) ∧ w' = w := by
  obtain ⟨a, c, rfl, _, _⟩ := h.slice
  clear h
  go_enter Tryd.func42, Tryd.ntmps42
  go_wp2
  go_ret3
  exact ⟨rfl, rfl⟩

set_option maxHeartbeats 1000000 in
theorem refUn_great {w : World} {v : Value} {l : List UInt8} (h : Bts w v l) (hl : 4 ≤ l.length) (hc : 131072 < wordOf l 0) :
    Calls Tryd.prog 42 #[v] w fun e w' => e = .returned (.tuple #[.slice none 0 0, .int .i64 0, .int .i64 9]) ∧ w' = w.drew := by
  have W0 := fourth_any h hl
  have hlt := wordOf_lt l 0
  obtain ⟨a, c, rfl, _, _⟩ := h.slice
  clear h
  generalize wordOf l 0 = n at *
  go_enter Tryd.func42, Tryd.ntmps42
  go_wp2_with (go_at_call 66; refine W0.mono ?_; rintro e w' ⟨rfl, hw⟩; obtain rfl := hw.symm; clear hw)
  go_ret3
  exact ⟨rfl, rfl⟩

set_option maxHeartbeats 1000000 in
theorem refUn_again {w : World} {v : Value} {l : List UInt8} (h : Bts w v l) (hl : 4 ≤ l.length) (hc : wordOf l 0 ≤ 131072) (hs : l.length < wordOf l 0 + 8) :
    Calls Tryd.prog 42 #[v] w fun e w' => e = .returned (.tuple #[.slice none 0 0, .int .i64 0, .int .i64 16]) ∧ w' = w.drew := by
  have W0 := fourth_any h hl
  obtain ⟨a, c, rfl, _, _⟩ := h.slice
  clear h
  generalize wordOf l 0 = n at *
  go_enter Tryd.func42, Tryd.ntmps42
  go_wp2_with (go_at_call 66; refine W0.mono ?_; rintro e w' ⟨rfl, hw⟩; obtain rfl := hw.symm; clear hw)
  go_ret3
  exact ⟨rfl, rfl⟩

theorem wordOf_drop (l : List UInt8) (k : Nat) : wordOf ((l.drop k).take 4) 0 = wordOf l k := by
  rw [wordOf_take (by omega)]
  unfold wordOf
  have e : ∀ j, (l.drop k).getD j 0 = l.getD (k + j) 0 := by
    intro j
    rw [List.getD_eq_getElem?_getD, List.getD_eq_getElem?_getD, List.getElem?_drop]
  rw [e, e, e, e]
  rfl

set_option maxHeartbeats 2000000 in
theorem refUn_full {w : World} {v : Value} {l : List UInt8} (h : Bts w v l) (hl : 4 ≤ l.length) (hc : wordOf l 0 ≤ 131072) (hs : wordOf l 0 + 8 ≤ l.length) :
    Calls Tryd.prog 42 #[v] w fun e w' => ∃ c, e = .returned (.tuple #[c, .int .i64 (unframeB l).2.1, .int .i64 (unframeB l).2.2]) ∧ Own w.heap.size w' c (unframeB l).1 ∧ Below w.heap.size w w' := by
  have W0 := fourth_any h hl
  rcases h with ⟨rfl, rfl⟩ | ⟨a, cap, rfl, h1, h2, h3⟩
  · simp at hl
  have h2' : cap ≤ 9223372036854775807 := h2
  have B1 := Bts.part (n := wordOf l 0 + 4) (by omega) (by omega) h2 h3
  have B2 := Bts.later (m := 4) (n := wordOf l 0) (by decide) (by omega) (by omega) h2 h3
  have B3 := Bts.later (m := wordOf l 0 + 4) (n := 4) (by omega) (by omega) (by omega) h2 h3
  have S1 : Hid (∀ u : World, u.heap = w.heap → Calls Tryd.prog 67 #[.slice (some a) (wordOf l 0 + 4) cap] u fun e w' => e = .returned (.int .u32 (sumB (l.take (wordOf l 0 + 4)))) ∧ w' = u) :=
    fun u hu => refSum_any (B1.kept fun i _ => by rw [hu])
  have W1 : Hid (∀ u : World, u.heap = w.heap → Calls Tryd.prog 66 #[.slice (some (a.add (wordOf l 0 + 4))) 4 (cap - (wordOf l 0 + 4))] u fun e w' => e = .returned (.int .u32 (wordOf l (wordOf l 0 + 4))) ∧ w' = u.drew) := by
    intro u hu
    have := fourth_any (w := u) (B3.kept fun i _ => by rw [hu]) (by simp; omega)
    rw [wordOf_drop] at this
    exact this
  have hE : Hid (unframeB l = if wordOf l (wordOf l 0 + 4) ≠ sumB (l.take (wordOf l 0 + 4)) then ([], 0, 12) else ((l.drop 4).take (wordOf l 0), wordOf l 0 + 8, 0)) := by
    show _ = _
    unfold unframeB
    rw [if_neg (by omega), if_neg (by omega), if_neg (by omega)]
  have hD : ((l.drop 4).take (wordOf l 0)).length = wordOf l 0 := by simp; omega
  have o0 : Own w.heap.size (w.drew.drew.drew.alloc (.cells #[] 5)) (.slice (some ⟨w.heap.size, 0, none⟩) 0 0) [] := World.ownsRow_made w.drew.drew.drew #[] 0 (Nat.le_refl _) (by decide) rfl
  obtain ⟨v3, w3, run3, ap3⟩ := own_app 24 o0 (Bts.alloc (w := w.drew.drew.drew) (B2.kept fun i _ => rfl) (.cells #[] 5)) (by simp only [hD, List.length_nil]; omega) (by simp)
  simp only [List.nil_append] at ap3
  have R3 : Hid _ := run3
  have E3 : Hid (Own w.heap.size w3 v3 ((l.drop 4).take (wordOf l 0)) ∧ Below w.heap.size w w3) := ⟨ap3.own, ((Below.refl _ w).drew.drew.drew.alloc (Nat.le_refl _) _).trans (ap3.below o0 (by simp))⟩
  generalize (l.drop 4).take (wordOf l 0) = D at *
  generalize hn1 : wordOf l (wordOf l 0 + 4) = x1 at *
  generalize hs1 : sumB (l.take (wordOf l 0 + 4)) = y1 at *
  generalize hn0 : wordOf l 0 = n at *
  clear B1 B2 B3 h3 hD ap3 run3 hn1 hs1 hn0 o0
  obtain ⟨m, hm⟩ : ∃ m, m = n + 4 := ⟨_, rfl⟩
  obtain ⟨M, hM⟩ : ∃ M, M = n + 8 := ⟨_, rfl⟩
  rw [← hm] at W1 S1
  have q4 : (n : Int) + 4 = (m : Int) := by omega
  have q8 : (n : Int) + 8 = (M : Int) := by omega
  have q4' : IntKind.i64.wrap (m : Int) = (m : Int) := by rw [IntKind.wrap_i64]; omega
  have q8' : IntKind.i64.wrap (M : Int) = (M : Int) := by rw [IntKind.wrap_i64]; omega
  have p0 : m ≤ cap := by omega
  have p0' : (m : Int) ≤ (cap : Int) := by omega
  have p1 : M ≤ cap := by omega
  have p1' : (M : Int) ≤ (cap : Int) := by omega
  have p2 : m ≤ M := by omega
  have p2' : (m : Int) ≤ (M : Int) := by omega
  have p3 : ¬ (cap = m) := by omega
  have p4 : M - m = 4 := by omega
  have p5 : 4 ≤ m := by omega
  have p5' : (4 : Int) ≤ (m : Int) := by omega
  have p6 : M ≤ l.length := by omega
  have R4 : Hid ((Builtin.append_ #[24, 24] 24 #[.slice (some ⟨w.heap.size, 0, none⟩) 0 0, .slice (some ⟨a.block, a.off + 4, none⟩) (m - 4) (cap - 4)]).run Tryd.prog (w.drew.drew.drew.alloc (.cells #[] 5)) = .ok v3 w3) := by
    rw [show m - 4 = n by omega]; exact R3.out
  have HM : Hid (M = n + 8) := hM
  clear hm hM R3
  by_cases hne : x1 = y1
  · have hE' : Hid (unframeB l = (D, n + 8, 0)) := by
      show _ = _
      rw [hE.out, if_neg (by omega)]
    subst hne
    clear hE
    go_enter Tryd.func42, Tryd.ntmps42
    go_wp2_with (go_at_call 66; refine W0.mono ?_; rintro e w' ⟨rfl, hw⟩; obtain rfl := hw.symm; clear hw)
    go_region_held_law (fun _ => True) (trivial) (first
      | (go_at_call 66; refine (W1.out _ ?hh).mono ?_; (case hh => rfl); rintro e w' ⟨rfl, rfl⟩)
      | (go_at_call 67; refine (S1.out _ ?hh).mono ?_; (case hh => rfl); rintro e w' ⟨rfl, hw⟩; obtain rfl := hw.symm; clear hw))
    go_wp2_with (at_builtin; refine wpList_append_run rfl _ _ 24 rfl _ _ _ _ rfl rfl R4.out ?_)
    go_ret3
    exact ⟨v3, by rw [hE'.out, ← HM.out]; rfl, by rw [hE'.out]; exact E3.out⟩
  · have hE' : Hid (unframeB l = ([], 0, 12)) := by
      show _ = _
      rw [hE.out, if_pos hne]
    have hx : ¬ ((y1 : Int) = (x1 : Int)) := by omega
    clear hE
    go_enter Tryd.func42, Tryd.ntmps42
    go_wp2_with (go_at_call 66; refine W0.mono ?_; rintro e w' ⟨rfl, hw⟩; obtain rfl := hw.symm; clear hw)
    go_region_held_law (fun _ => True) (trivial) (first
      | (go_at_call 66; refine (W1.out _ ?hh).mono ?_; (case hh => rfl); rintro e w' ⟨rfl, rfl⟩)
      | (go_at_call 67; refine (S1.out _ ?hh).mono ?_; (case hh => rfl); rintro e w' ⟨rfl, hw⟩; obtain rfl := hw.symm; clear hw))
    go_wp2_with fail
    go_ret3
    exact ⟨.slice none 0 0, by rw [hE'.out]; rfl, by rw [hE'.out]; exact Own.nil _ _, (Below.refl _ w).drew.drew.drew⟩

theorem refUn_any {w : World} {v : Value} {l : List UInt8} (h : Bts w v l) :
    Calls Tryd.prog 42 #[v] w fun e w' => ∃ c, e = .returned (.tuple #[c, .int .i64 (unframeB l).2.1, .int .i64 (unframeB l).2.2]) ∧ Own w.heap.size w' c (unframeB l).1 ∧ Below w.heap.size w w' := by
  by_cases h1 : l.length < 4
  · have e : unframeB l = ([], 0, 16) := by unfold unframeB; rw [if_pos h1]
    rw [e]
    refine (refUn_short h h1).mono ?_
    rintro e w' ⟨rfl, rfl⟩
    exact ⟨_, rfl, Own.nil _ _, Below.refl _ _⟩
  by_cases h2 : 131072 < wordOf l 0
  · have e : unframeB l = ([], 0, 9) := by unfold unframeB; rw [if_neg h1, if_pos h2]
    rw [e]
    refine (refUn_great h (by omega) h2).mono ?_
    rintro e w' ⟨rfl, rfl⟩
    exact ⟨_, rfl, Own.nil _ _, (Below.refl _ _).drew⟩
  by_cases h3 : l.length < wordOf l 0 + 8
  · have e : unframeB l = ([], 0, 16) := by unfold unframeB; rw [if_neg h1, if_neg h2, if_pos h3]
    rw [e]
    refine (refUn_again h (by omega) (by omega) h3).mono ?_
    rintro e w' ⟨rfl, rfl⟩
    exact ⟨_, rfl, Own.nil _ _, (Below.refl _ _).drew⟩
  exact refUn_full h (by omega) (by omega) (by omega)
end Go.Proofs.YtcheikpmhdliiaaDoor
