/- The contract of bytes.Unframe. -/
import Derived.Test.YtohndhmhgdelmaaDoorFrame
import Derived.Deep.DeepCutAuto
import Derived.Deep.RegionHeldLaw
namespace Go.Proofs.YtohndhmhgdelmaaDoor
open Go.RowKit
set_option maxRecDepth 100000

def unframeB (l : List UInt8) : List UInt8 × Nat × Nat :=
  if l.length < 4 then ([], 0, 16)
  else if 131072 < wordOf l 0 then ([], 0, 9)
  else if l.length < wordOf l 0 + 8 then ([], 0, 16)
  else if wordOf l (wordOf l 0 + 4) ≠ sumB (l.take (wordOf l 0 + 4)) then ([], 0, 12)
  else ((l.drop 4).take (wordOf l 0), wordOf l 0 + 8, 0)

theorem Bts.part {w : World} {a : Addr} {n cap : Nat} {l : List UInt8} (h2 : n ≤ l.length) (h3 : n ≤ cap) (h4 : cap ≤ maxLen) (h : ∀ j u, (bcells l)[j]? = some u → w.cell? (a.add j) = some u) : Bts w (.slice (some a) n cap) (l.take n) := by
  have hl : (l.take n).length = n := by simp; omega
  refine .inr ⟨a, cap, by rw [hl], by omega, h4, fun j u hj => h j u ?_⟩
  have : j < n := by
    rcases Nat.lt_or_ge j n with e | e
    · exact e
    · rw [List.getElem?_eq_none (by rw [bcells_length, hl]; exact e)] at hj; cases hj
  rw [← hj]
  simp [bcells, this]

theorem addr_add (a : Addr) (m j : Nat) (hm : m ≠ 0) : (a.add m).add j = a.add (m + j) := by
  unfold Addr.add
  split <;> simp_all <;> omega

theorem Bts.later {w : World} {a : Addr} {m n cap : Nat} {l : List UInt8} (hm : m ≠ 0) (h2 : m + n ≤ l.length) (h3 : m + n ≤ cap) (h4 : cap ≤ maxLen) (h : ∀ j u, (bcells l)[j]? = some u → w.cell? (a.add j) = some u) : Bts w (.slice (some (a.add m)) n (cap - m)) ((l.drop m).take n) := by
  refine Bts.part (by simp; omega) (by omega) (by omega) fun j u hj => ?_
  rw [addr_add _ _ _ hm]
  refine h (m + j) u ?_
  rw [← hj]
  simp [bcells]

set_option maxHeartbeats 1000000 in
theorem unframe_short {w : World} {v : Value} {l : List UInt8} (h : Bts w v l) (hl : l.length < 4) :
    Calls Tryd.prog 19 #[v] w fun e w' => e = .returned (.tuple #[.slice none 0 0, .int .i64 0, .int .i64 16]) ∧ w' = w := by
  obtain ⟨a, c, rfl, _, _⟩ := h.slice
  clear h
  go_enter Tryd.func19, Tryd.ntmps19
  go_wp2
  go_ret3
  exact ⟨rfl, rfl⟩

set_option maxHeartbeats 1000000 in
theorem unframe_great {w : World} {v : Value} {l : List UInt8} (h : Bts w v l) (hl : 4 ≤ l.length) (hc : 131072 < wordOf l 0) :
    Calls Tryd.prog 19 #[v] w fun e w' => e = .returned (.tuple #[.slice none 0 0, .int .i64 0, .int .i64 9]) ∧ w' = w.drew := by
  have W0 := wordAt_any h 0 (by omega)
  obtain ⟨a, c, rfl, _, _⟩ := h.slice
  clear h
  generalize wordOf l 0 = n at *
  go_enter Tryd.func19, Tryd.ntmps19
  go_wp2_with (go_at_call 43; refine W0.mono ?_; rintro e w' ⟨rfl, hw⟩; obtain rfl := hw.symm; clear hw)
  go_ret3
  exact ⟨rfl, rfl⟩

set_option maxHeartbeats 1000000 in
theorem unframe_again {w : World} {v : Value} {l : List UInt8} (h : Bts w v l) (hl : 4 ≤ l.length) (hc : wordOf l 0 ≤ 131072) (hs : l.length < wordOf l 0 + 8) :
    Calls Tryd.prog 19 #[v] w fun e w' => e = .returned (.tuple #[.slice none 0 0, .int .i64 0, .int .i64 16]) ∧ w' = w.drew := by
  have W0 := wordAt_any h 0 (by omega)
  obtain ⟨a, c, rfl, _, _⟩ := h.slice
  clear h
  generalize wordOf l 0 = n at *
  have SZ := fun w => size_any n (by omega) w
  go_enter Tryd.func19, Tryd.ntmps19
  go_wp2_with (first
    | (go_at_call 43; refine W0.mono ?_; rintro e w' ⟨rfl, hw⟩; obtain rfl := hw.symm; clear hw)
    | (go_at_call 44; refine (SZ _).mono ?_; rintro e w' ⟨rfl, hw⟩; obtain rfl := hw.symm; clear hw))
  go_ret3
  exact ⟨rfl, rfl⟩

set_option maxHeartbeats 2000000 in
theorem unframe_full {w : World} {v : Value} {l : List UInt8} (h : Bts w v l) (T : Tab w) (hl : 4 ≤ l.length) (hc : wordOf l 0 ≤ 131072) (hs : wordOf l 0 + 8 ≤ l.length) :
    Calls Tryd.prog 19 #[v] w fun e w' => ∃ c, e = .returned (.tuple #[c, .int .i64 (unframeB l).2.1, .int .i64 (unframeB l).2.2]) ∧ Own w.heap.size w' c (unframeB l).1 ∧ Below w.heap.size w w' := by
  have W0 := wordAt_any h 0 (by omega)
  have W1 : Hid (∀ u : World, u.heap = w.heap → Calls Tryd.prog 43 #[v, .int .i64 ((wordOf l 0 + 4 : Nat) : Int)] u fun e w' => e = .returned (.int .u32 (wordOf l (wordOf l 0 + 4))) ∧ w' = u.drew) :=
    fun u hu => wordAt_any (h.kept fun i _ => by rw [hu]) _ (by omega)
  rcases h with ⟨rfl, rfl⟩ | ⟨a, cap, rfl, h1, h2, h3⟩
  · simp at hl
  have h2' : cap ≤ 9223372036854775807 := h2
  have B1 := Bts.part (n := wordOf l 0 + 4) (by omega) (by omega) h2 h3
  have B2 := Bts.later (m := 4) (n := wordOf l 0) (by decide) (by omega) (by omega) h2 h3
  have S1 : Hid (∀ u : World, u.heap = w.heap → Calls Tryd.prog 22 #[.slice (some a) (wordOf l 0 + 4) cap] u fun e w' => e = .returned (.int .u32 (sumB (l.take (wordOf l 0 + 4)))) ∧ w' = u) :=
    fun u hu => sum_any (B1.kept fun i _ => by rw [hu]) (T.kept fun i _ => by rw [hu])
  have hE : Hid (unframeB l = if wordOf l (wordOf l 0 + 4) ≠ sumB (l.take (wordOf l 0 + 4)) then ([], 0, 12) else ((l.drop 4).take (wordOf l 0), wordOf l 0 + 8, 0)) := by
    show _ = _
    unfold unframeB
    rw [if_neg (by omega), if_neg (by omega), if_neg (by omega)]
  have hD : ((l.drop 4).take (wordOf l 0)).length = wordOf l 0 := by simp; omega
  obtain ⟨v3, w3, run3, ap3⟩ := own_app (base := w.heap.size) (w := w.drew.drew.drew) 29 (Own.nil _ _) (B2.kept fun i _ => rfl) (by simp only [hD, List.length_nil]; omega) (Nat.le_refl _)
  simp only [List.nil_append] at ap3
  have R3 : Hid _ := run3
  have E3 : Hid (Own w.heap.size w3 v3 ((l.drop 4).take (wordOf l 0)) ∧ Below w.heap.size w w3) := ⟨ap3.own, (Below.refl _ w).drew.drew.drew.grown ap3.gr (Nat.le_refl _) (by simp [Value.ownBlock])⟩
  generalize (l.drop 4).take (wordOf l 0) = D at *
  generalize hn1 : wordOf l (wordOf l 0 + 4) = x1 at *
  generalize hs1 : sumB (l.take (wordOf l 0 + 4)) = y1 at *
  generalize hn0 : wordOf l 0 = n at *
  have SZ := fun w => size_any n (by omega) w
  clear B1 B2 h3 hD ap3 run3 hn1 hs1 hn0 T
  obtain ⟨m, hm⟩ : ∃ m, m = n + 4 := ⟨_, rfl⟩
  rw [← hm] at W1 S1
  have e4 : Hid (((n : Int) + 8 - 4) = (m : Int)) := by show _ = _; omega
  have m1 : m ≤ cap := by omega
  have m1' : (m : Int) ≤ (cap : Int) := by omega
  have m2 : 4 ≤ m := by omega
  have m2' : (4 : Int) ≤ (m : Int) := by omega
  have m3 : Hid (m - 4 = n) := by show _ = _; omega
  have HM : Hid (m = n + 4) := hm
  have R4 : Hid ((Builtin.append_ #[29, 29] 29 #[.slice none 0 0, .slice (some ⟨a.block, a.off + 4, none⟩) (m - 4) (cap - 4)]).run Tryd.prog w.drew.drew.drew = .ok v3 w3) := by
    rw [m3.out]; exact R3.out
  clear R3
  clear hm
  by_cases hne : x1 = y1
  · have hE' : Hid (unframeB l = (D, n + 8, 0)) := by
      show _ = _
      rw [hE.out, if_neg (by omega)]
    subst hne
    clear hE
    go_enter Tryd.func19, Tryd.ntmps19
    go_wp2_with (first
      | (go_at_call 43; refine W0.mono ?_; rintro e w' ⟨rfl, hw⟩; obtain rfl := hw.symm; clear hw)
      | (go_at_call 44; refine (SZ _).mono ?_; rintro e w' ⟨rfl, hw⟩; obtain rfl := hw.symm; clear hw))
    simp only [e4.out]
    go_region_held_law (fun _ => True) (trivial) (first
      | (go_at_call 43; refine (W1.out _ ?hh).mono ?_; (case hh => rfl); rintro e w' ⟨rfl, rfl⟩)
      | (go_at_call 22; refine (S1.out _ ?hh).mono ?_; (case hh => rfl); rintro e w' ⟨rfl, hw⟩; obtain rfl := hw.symm; clear hw))
    go_wp2_with (at_builtin; refine wpList_append_run rfl _ _ 29 rfl _ _ _ _ rfl rfl R4.out ?_)
    go_ret3
    exact ⟨v3, by rw [hE'.out]; rfl, by rw [hE'.out]; exact E3.out⟩
  · have hE' : Hid (unframeB l = ([], 0, 12)) := by
      show _ = _
      rw [hE.out, if_pos hne]
    have hx : ¬ ((x1 : Int) = (y1 : Int)) := by omega
    clear hE
    go_enter Tryd.func19, Tryd.ntmps19
    go_wp2_with (first
      | (go_at_call 43; refine W0.mono ?_; rintro e w' ⟨rfl, hw⟩; obtain rfl := hw.symm; clear hw)
      | (go_at_call 44; refine (SZ _).mono ?_; rintro e w' ⟨rfl, hw⟩; obtain rfl := hw.symm; clear hw))
    simp only [e4.out]
    go_region_held_law (fun _ => True) (trivial) (first
      | (go_at_call 43; refine (W1.out _ ?hh).mono ?_; (case hh => rfl); rintro e w' ⟨rfl, rfl⟩)
      | (go_at_call 22; refine (S1.out _ ?hh).mono ?_; (case hh => rfl); rintro e w' ⟨rfl, hw⟩; obtain rfl := hw.symm; clear hw))
    go_wp2_with fail
    go_ret3
    exact ⟨.slice none 0 0, by rw [hE'.out]; rfl, by rw [hE'.out]; exact Own.nil _ _, (Below.refl _ w).drew.drew.drew⟩

theorem unframe_any {w : World} {v : Value} {l : List UInt8} (h : Bts w v l) (T : Tab w) :
    Calls Tryd.prog 19 #[v] w fun e w' => ∃ c, e = .returned (.tuple #[c, .int .i64 (unframeB l).2.1, .int .i64 (unframeB l).2.2]) ∧ Own w.heap.size w' c (unframeB l).1 ∧ Below w.heap.size w w' := by
  by_cases h1 : l.length < 4
  · have e : unframeB l = ([], 0, 16) := by unfold unframeB; rw [if_pos h1]
    rw [e]
    refine (unframe_short h h1).mono ?_
    rintro e w' ⟨rfl, rfl⟩
    exact ⟨_, rfl, Own.nil _ _, Below.refl _ _⟩
  by_cases h2 : 131072 < wordOf l 0
  · have e : unframeB l = ([], 0, 9) := by unfold unframeB; rw [if_neg h1, if_pos h2]
    rw [e]
    refine (unframe_great h (by omega) h2).mono ?_
    rintro e w' ⟨rfl, rfl⟩
    exact ⟨_, rfl, Own.nil _ _, (Below.refl _ _).drew⟩
  by_cases h3 : l.length < wordOf l 0 + 8
  · have e : unframeB l = ([], 0, 16) := by unfold unframeB; rw [if_neg h1, if_neg h2, if_pos h3]
    rw [e]
    refine (unframe_again h (by omega) (by omega) h3).mono ?_
    rintro e w' ⟨rfl, rfl⟩
    exact ⟨_, rfl, Own.nil _ _, (Below.refl _ _).drew⟩
  exact unframe_full h T (by omega) (by omega) (by omega)
end Go.Proofs.YtohndhmhgdelmaaDoor
