/- Cells of package shift. -/
import Derived.Test.YteafldbmeekpbaaCPure
namespace Go.Proofs.Yteafldbmeekpbaa
open Go.RowKit
set_option maxRecDepth 100000
set_option linter.unusedVariables false
set_option linter.unusedSimpArgs false
set_option maxHeartbeats 8000000 in
theorem cells_bad_false (a n m : Int) (L : List CT) (w : World) (v : Value) (hg : goodB a n m = false) : Calls Try.prog 17 #[shV a n m, .bool false, v] w fun e w' => CAns w.heap.size w' e (clF a n m false L) ∧ Below w.heap.size w w' := by
  have HB0 : Hid (Below (w.alloc (shO a n m 23)).heap.size (w.alloc (shO a n m 23)) (w.alloc (shO a n m 23))) := Below.refl _ _
  have C12 : Hid (∀ u, Calls Try.prog 12 #[shV a n m] u _) := fun u => good_any a n m u
  have hcl : clF a n m false L = none := by unfold clF; rw [hg]; rfl
  rw [hcl]
  rw [hg] at C12
  clear hg hcl
  obtain ⟨c0, c1, c2⟩ := box_cells HB0.out
  go_enter Try.func17, Try.ntmps17
  go_wp2_with (go_at_call 12; refine (C12.out _).mono ?_; clear C12; rintro e w1 ⟨rfl, hb⟩; have H1 : Hid (Below (w.alloc (shO a n m 23)).heap.size (w.alloc (shO a n m 23)) w1) := bel_step HB0.out hb; clear hb c0 c1 c2)
  go_ret3
  exact ⟨rfl, bel1 H1.out⟩
set_option maxHeartbeats 16000000 in
theorem cells_good_false (a n m : Int) (L : List CT) (w : World) (p : Option Addr) (len c : Nat) (h : Rds w p len L) (hlen : len * 32 ≤ 140737488355328) (hg : goodB a n m = true) : Calls Try.prog 17 #[shV a n m, .bool false, .slice p len c] w fun e w' => CAns w.heap.size w' e (clF a n m false L) ∧ Below w.heap.size w w' := by
  have hb := good_bd hg
  have HG : Hid (goodB a n m = true) := hg
  have HB0 : Hid (Below (w.alloc (shO a n m 23)).heap.size (w.alloc (shO a n m 23)) (w.alloc (shO a n m 23))) := Below.refl _ _
  have C12 : Hid (∀ u, Calls Try.prog 12 #[shV a n m] u _) := fun u => good_any a n m u
  have HM : Hid (∀ u, Calls Try.prog 21 #[shV a n m] u fun e w' => e = .returned (movF u.heap.size) ∧ Hid (Mov w' u.heap.size a n m) ∧ Hid (Below u.heap.size u w')) := fun u => mover_any a n m (by omega) (by omega) (by omega) (by omega) u
  have hcl : clF a n m false L = wkC a n m false L := by unfold clF; rw [hg]; rfl
  rw [hcl]
  rw [hg] at C12
  have HR : Hid (Rds w p len L) := h
  have HN : Hid (len = L.length) := h.1
  have HBD : Hid (1 ≤ a ∧ a ≤ 1000 ∧ -1000 ≤ n ∧ n ≤ 1000 ∧ m ≤ 1000) := ⟨by omega, by omega, by omega, by omega, by omega⟩
  clear hg hcl h hb
  obtain ⟨c0, c1, c2⟩ := box_cells HB0.out
  generalize hR : wkC a n m false L = R
  have HRR : Hid (wkC a n m false L = R) := hR
  clear hR
  go_enter Try.func17, Try.ntmps17
  go_wp2_with (first
    | (go_at_call 12; refine (C12.out _).mono ?_; clear C12; rintro e w1 ⟨rfl, hb⟩; have H1 : Hid (Below (w.alloc (shO a n m 23)).heap.size (w.alloc (shO a n m 23)) w1) := bel_step HB0.out hb; clear hb c0 c1 c2; obtain ⟨c0, c1, c2⟩ := box_cells H1.out)
    | (go_at_call 21; refine (HM.out _).mono ?_; clear HM; rintro e w2 ⟨rfl, Hm, hb⟩; have H2 : Hid (Below (w.alloc (shO a n m 23)).heap.size (w.alloc (shO a n m 23)) w2) := bel_step H1.out hb.out; clear hb c0 c1 c2))
  generalize w1.heap.size = g at *
  have HR2 : Hid (Rds w2 p len L) := HR.out.below (bel1 H2.out)
  clear HR HB0 H1
  go_loopw [10, 11, 24] (fun mv gv i wr => ∃ (k : Nat) (M G : List CT), k ≤ len ∧ i = .int .i64 (k : Nat) ∧ Hid (CQ w2 mv gv M G wr) ∧ Hid (wkC a n m false (L.take k) = some (M, G))) (fun _ _ i _ => len - (intOf i).toNat)
  case atStart => exact ⟨0, [], [], Nat.zero_le _, rfl, CQ.begin w2, by show _ = _; simp [wkC]⟩
  case round =>
    obtain ⟨k, M, G, hk, rfl, HZ, HK⟩ := hrel
    obtain ⟨va, vc, rfl, _⟩ := HZ.out.mo.slice
    obtain ⟨ga, gc, rfl, _⟩ := HZ.out.go.slice
    by_cases hlt : k < len
    · have hki : (k : Int) < len := by omega
      have hkL : k < L.length := by rw [← HN.out]; exact hlt
      have hMG := wk_len (by omega) HK.out
      obtain ⟨a', rfl, RL⟩ := (HR2.out.below HZ.out.bel).load hkL
      have RLh : Hid _ := RL
      have RS : Hid _ := mbox wr L[k]
      have HK2 : Hid (wkC a n m false (L.take (k + 1)) = stepC a n m false (some (M, G)) L[k]) := by show _ = _; rw [wk_succ hkL, HK.out]
      have HDEAD : Hid (stepC a n m false (some (M, G)) L[k] = none → R = none) := fun h => by rw [← HRR.out]; exact wk_dead (k := k + 1) (HK2.out.trans h)
      clear RL HK
      generalize L[k] = y at *
      obtain ⟨yr, yc, yt⟩ := y
      have HCF : Hid (∀ u, Below (wr.alloc (nmO ⟨yr, yc, yt⟩)).heap.size (wr.alloc (nmO ⟨yr, yc, yt⟩)) u → ((u.cell? ⟨w.heap.size, 0, none⟩ = some (.int .i64 a)) ∧ (u.cell? ⟨w.heap.size, 1, none⟩ = some (.int .i64 n)) ∧ (u.cell? ⟨w.heap.size, 2, none⟩ = some (.int .i64 m)) ∧ (u.cell? ⟨wr.heap.size, 0, none⟩ = some (.int .i64 yr)) ∧ (u.cell? ⟨wr.heap.size, 1, none⟩ = some (.int .i64 yc)) ∧ (u.cell? ⟨wr.heap.size, 2, none⟩ = some (.string yt)))) := fun u hu => by
        obtain ⟨q0, q1, q2⟩ := box_cells (bel_step (bel_step H2.out HZ.out.bel) (bel1 hu))
        obtain ⟨r0, r1, r2⟩ := s_cells (y_box hu)
        exact ⟨q0, q1, q2, r0, r1, r2⟩
      have HBQ : Hid (∀ u, Below (wr.alloc (nmO ⟨yr, yc, yt⟩)).heap.size (wr.alloc (nmO ⟨yr, yc, yt⟩)) u → Below w.heap.size w u) := fun u hu => bel1 (bel_step (bel_step H2.out HZ.out.bel) (bel1 hu))
      have HMF : Hid (∀ u, Below (wr.alloc (nmO ⟨yr, yc, yt⟩)).heap.size (wr.alloc (nmO ⟨yr, yc, yt⟩)) u → Mov u g a n m) := fun u hu => (Hm.out.below HZ.out.bel).below (bel1 hu)
      have HH : Hid (∀ u, Calls Try.prog 20 #[shV a n m, .int .i64 yr] u _) := fun u => has_any a n m yr u
      cases hh : (decide (1 ≤ yr) && decide (yr ≤ m))
      · have HNO : Hid (∀ u, CAns w.heap.size u (.returned (.tuple #[.slice none 0 0, .slice none 0 0, .bool false])) R) := fun u => by rw [HDEAD.out (way_out HG.out hh)]; rfl
        rw [hh] at HH
        clear hh HDEAD HK2 HMF
        go_wp2_with (first
          | (refine nl_load rfl 45 _ rfl _ _ rfl RLh.out ?_; clear RLh)
          | (refine nl_store rfl 45 _ _ rfl _ _ _ rfl rfl RS.out ?_; clear RS))
        have HD : Hid (Below (wr.alloc (nmO ⟨yr, yc, yt⟩)).heap.size (wr.alloc (nmO ⟨yr, yc, yt⟩)) (wr.alloc (nmO ⟨yr, yc, yt⟩)).drew) := (Below.refl _ _).drew
        have HCX : Hid (((((wr.alloc (nmO ⟨yr, yc, yt⟩)).drew).cell? ⟨w.heap.size, 0, none⟩ = some (.int .i64 a)) ∧ (((wr.alloc (nmO ⟨yr, yc, yt⟩)).drew).cell? ⟨w.heap.size, 1, none⟩ = some (.int .i64 n)) ∧ (((wr.alloc (nmO ⟨yr, yc, yt⟩)).drew).cell? ⟨w.heap.size, 2, none⟩ = some (.int .i64 m)) ∧ (((wr.alloc (nmO ⟨yr, yc, yt⟩)).drew).cell? ⟨wr.heap.size, 0, none⟩ = some (.int .i64 yr)) ∧ (((wr.alloc (nmO ⟨yr, yc, yt⟩)).drew).cell? ⟨wr.heap.size, 1, none⟩ = some (.int .i64 yc)) ∧ (((wr.alloc (nmO ⟨yr, yc, yt⟩)).drew).cell? ⟨wr.heap.size, 2, none⟩ = some (.string yt)))) := HCF.out _ HD.out
        go_region_held_law (fun u => ((u.cell? ⟨w.heap.size, 0, none⟩ = some (.int .i64 a)) ∧ (u.cell? ⟨w.heap.size, 1, none⟩ = some (.int .i64 n)) ∧ (u.cell? ⟨w.heap.size, 2, none⟩ = some (.int .i64 m)) ∧ (u.cell? ⟨wr.heap.size, 0, none⟩ = some (.int .i64 yr)) ∧ (u.cell? ⟨wr.heap.size, 1, none⟩ = some (.int .i64 yc)) ∧ (u.cell? ⟨wr.heap.size, 2, none⟩ = some (.string yt)))) (exact HCX.out) ((go_at_call 20; refine (HH.out _).mono ?_; rintro e w3 ⟨rfl, hb⟩; have HD3 : Hid (Below (wr.alloc (nmO ⟨yr, yc, yt⟩)).heap.size (wr.alloc (nmO ⟨yr, yc, yt⟩)) w3) := bel_step HD.out hb; clear hb; have HCX : Hid (((w3.cell? ⟨w.heap.size, 0, none⟩ = some (.int .i64 a)) ∧ (w3.cell? ⟨w.heap.size, 1, none⟩ = some (.int .i64 n)) ∧ (w3.cell? ⟨w.heap.size, 2, none⟩ = some (.int .i64 m)) ∧ (w3.cell? ⟨wr.heap.size, 0, none⟩ = some (.int .i64 yr)) ∧ (w3.cell? ⟨wr.heap.size, 1, none⟩ = some (.int .i64 yc)) ∧ (w3.cell? ⟨wr.heap.size, 2, none⟩ = some (.string yt)))) := HCF.out _ HD3.out))
        go_wp2
        go_ret3
        exact ⟨HNO.out _, HBQ.out _ HD3.out⟩
      have hp2 : 1 ≤ yr ∧ yr ≤ m := by simpa using hh
      have H1 : Hid (∀ (u : World) (g : Nat), Mov u g a n m → Calls Try.prog 22 #[.int .i64 yr, .pointer (some ⟨g, 0, none⟩), .pointer (some ⟨g + 1, 0, none⟩)] u fun e w' => e = .returned (.tuple #[.int .i64 (mvF a n yr), .bool (mvB a n yr)]) ∧ w' = u) := fun u g h => by
        obtain ⟨q1, q2, q3, q4, q5⟩ := HBD.out
        exact mov1_any h (by omega) (by omega) (by omega) (by omega) yr (by omega) (by omega)
      have hbd : 1 ≤ mvF a n yr ∧ mvF a n yr ≤ 2000 := by
        obtain ⟨q1, q2, q3, q4, q5⟩ := HBD.out
        exact mv_bd (by omega) (by omega) (by omega) (by omega) (by omega) (by omega)
      by_cases ho : m < mvF a n yr
      · have HNO : Hid (∀ u, CAns w.heap.size u (.returned (.tuple #[.slice none 0 0, .slice none 0 0, .bool false])) R) := fun u => by rw [HDEAD.out (way_over HG.out hh ho)]; rfl
        rw [hh] at HH
        clear hh HDEAD HK2
        generalize mvF a n yr = t at *
        generalize mvB a n yr = sb at *
        have ho' : t > m := ho
        go_wp2_with (first
          | (refine nl_load rfl 45 _ rfl _ _ rfl RLh.out ?_; clear RLh)
          | (refine nl_store rfl 45 _ _ rfl _ _ _ rfl rfl RS.out ?_; clear RS))
        have HD : Hid (Below (wr.alloc (nmO ⟨yr, yc, yt⟩)).heap.size (wr.alloc (nmO ⟨yr, yc, yt⟩)) (wr.alloc (nmO ⟨yr, yc, yt⟩)).drew) := (Below.refl _ _).drew
        have HCX : Hid (((((wr.alloc (nmO ⟨yr, yc, yt⟩)).drew).cell? ⟨w.heap.size, 0, none⟩ = some (.int .i64 a)) ∧ (((wr.alloc (nmO ⟨yr, yc, yt⟩)).drew).cell? ⟨w.heap.size, 1, none⟩ = some (.int .i64 n)) ∧ (((wr.alloc (nmO ⟨yr, yc, yt⟩)).drew).cell? ⟨w.heap.size, 2, none⟩ = some (.int .i64 m)) ∧ (((wr.alloc (nmO ⟨yr, yc, yt⟩)).drew).cell? ⟨wr.heap.size, 0, none⟩ = some (.int .i64 yr)) ∧ (((wr.alloc (nmO ⟨yr, yc, yt⟩)).drew).cell? ⟨wr.heap.size, 1, none⟩ = some (.int .i64 yc)) ∧ (((wr.alloc (nmO ⟨yr, yc, yt⟩)).drew).cell? ⟨wr.heap.size, 2, none⟩ = some (.string yt)))) := HCF.out _ HD.out
        go_region_held_law (fun u => ((u.cell? ⟨w.heap.size, 0, none⟩ = some (.int .i64 a)) ∧ (u.cell? ⟨w.heap.size, 1, none⟩ = some (.int .i64 n)) ∧ (u.cell? ⟨w.heap.size, 2, none⟩ = some (.int .i64 m)) ∧ (u.cell? ⟨wr.heap.size, 0, none⟩ = some (.int .i64 yr)) ∧ (u.cell? ⟨wr.heap.size, 1, none⟩ = some (.int .i64 yc)) ∧ (u.cell? ⟨wr.heap.size, 2, none⟩ = some (.string yt)))) (exact HCX.out) ((go_at_call 20; refine (HH.out _).mono ?_; rintro e w3 ⟨rfl, hb⟩; have HD3 : Hid (Below (wr.alloc (nmO ⟨yr, yc, yt⟩)).heap.size (wr.alloc (nmO ⟨yr, yc, yt⟩)) w3) := bel_step HD.out hb; clear hb; have HCX : Hid (((w3.cell? ⟨w.heap.size, 0, none⟩ = some (.int .i64 a)) ∧ (w3.cell? ⟨w.heap.size, 1, none⟩ = some (.int .i64 n)) ∧ (w3.cell? ⟨w.heap.size, 2, none⟩ = some (.int .i64 m)) ∧ (w3.cell? ⟨wr.heap.size, 0, none⟩ = some (.int .i64 yr)) ∧ (w3.cell? ⟨wr.heap.size, 1, none⟩ = some (.int .i64 yc)) ∧ (w3.cell? ⟨wr.heap.size, 2, none⟩ = some (.string yt)))) := HCF.out _ HD3.out))
        obtain ⟨c0, c1, c2, y0, y1, y2⟩ := HCX.out
        have HM3 : Hid (Mov w3 g a n m) := HMF.out _ HD3.out
        go_wp2_with (go_at_call 22; refine (H1.out _ _ HM3.out).mono ?_; rintro e w5 ⟨rfl, hw⟩; obtain rfl := hw.symm; clear hw)
        go_ret3
        exact ⟨HNO.out _, HBQ.out _ HD3.out⟩
      cases hs : mvB a n yr
      · have hst := way_gone (cols := false) (M := M) (G := G) (x := ⟨yr, yc, yt⟩) HG.out hh hs
        rw [hst] at HK2
        rw [hs] at H1
        rw [hh] at HH
        clear hh HDEAD hst hs
        generalize mvF a n yr = t at *
        go_wp2_with (first
          | (refine nl_load rfl 45 _ rfl _ _ rfl RLh.out ?_; clear RLh)
          | (refine nl_store rfl 45 _ _ rfl _ _ _ rfl rfl RS.out ?_; clear RS))
        have HD : Hid (Below (wr.alloc (nmO ⟨yr, yc, yt⟩)).heap.size (wr.alloc (nmO ⟨yr, yc, yt⟩)) (wr.alloc (nmO ⟨yr, yc, yt⟩)).drew) := (Below.refl _ _).drew
        have HCX : Hid (((((wr.alloc (nmO ⟨yr, yc, yt⟩)).drew).cell? ⟨w.heap.size, 0, none⟩ = some (.int .i64 a)) ∧ (((wr.alloc (nmO ⟨yr, yc, yt⟩)).drew).cell? ⟨w.heap.size, 1, none⟩ = some (.int .i64 n)) ∧ (((wr.alloc (nmO ⟨yr, yc, yt⟩)).drew).cell? ⟨w.heap.size, 2, none⟩ = some (.int .i64 m)) ∧ (((wr.alloc (nmO ⟨yr, yc, yt⟩)).drew).cell? ⟨wr.heap.size, 0, none⟩ = some (.int .i64 yr)) ∧ (((wr.alloc (nmO ⟨yr, yc, yt⟩)).drew).cell? ⟨wr.heap.size, 1, none⟩ = some (.int .i64 yc)) ∧ (((wr.alloc (nmO ⟨yr, yc, yt⟩)).drew).cell? ⟨wr.heap.size, 2, none⟩ = some (.string yt)))) := HCF.out _ HD.out
        go_region_held_law (fun u => ((u.cell? ⟨w.heap.size, 0, none⟩ = some (.int .i64 a)) ∧ (u.cell? ⟨w.heap.size, 1, none⟩ = some (.int .i64 n)) ∧ (u.cell? ⟨w.heap.size, 2, none⟩ = some (.int .i64 m)) ∧ (u.cell? ⟨wr.heap.size, 0, none⟩ = some (.int .i64 yr)) ∧ (u.cell? ⟨wr.heap.size, 1, none⟩ = some (.int .i64 yc)) ∧ (u.cell? ⟨wr.heap.size, 2, none⟩ = some (.string yt)))) (exact HCX.out) ((go_at_call 20; refine (HH.out _).mono ?_; rintro e w3 ⟨rfl, hb⟩; have HD3 : Hid (Below (wr.alloc (nmO ⟨yr, yc, yt⟩)).heap.size (wr.alloc (nmO ⟨yr, yc, yt⟩)) w3) := bel_step HD.out hb; clear hb; have HCX : Hid (((w3.cell? ⟨w.heap.size, 0, none⟩ = some (.int .i64 a)) ∧ (w3.cell? ⟨w.heap.size, 1, none⟩ = some (.int .i64 n)) ∧ (w3.cell? ⟨w.heap.size, 2, none⟩ = some (.int .i64 m)) ∧ (w3.cell? ⟨wr.heap.size, 0, none⟩ = some (.int .i64 yr)) ∧ (w3.cell? ⟨wr.heap.size, 1, none⟩ = some (.int .i64 yc)) ∧ (w3.cell? ⟨wr.heap.size, 2, none⟩ = some (.string yt)))) := HCF.out _ HD3.out))
        obtain ⟨c0, c1, c2, y0, y1, y2⟩ := HCX.out
        have HM3 : Hid (Mov w3 g a n m) := HMF.out _ HD3.out
        have HB3 : Hid (Below wr.heap.size wr w3) := bel1 HD3.out
        obtain ⟨v2, u2, u3, RL3, RB3, RA3, HQ3⟩ := HZ.out.swap.pack (y := ⟨yr, yc, yt⟩) HB3.out (y_box HD3.out) (by omega)
        go_wp2_with (first
          | (go_at_call 22; refine (H1.out _ _ HM3.out).mono ?_; rintro e w5 ⟨rfl, hw⟩; obtain rfl := hw.symm; clear hw)
          | (refine nl_load rfl 45 _ rfl _ _ rfl RL3.out ?_; clear RL3)
          | (refine nl_bslice rfl 39 1 _ rfl _ _ _ (by go_simp) RB3.out ?_; clear RB3)
          | (at_builtin; refine nl_append rfl _ _ 39 39 rfl _ _ _ _ rfl rfl RA3.out ?_; clear RA3))
        go_roundw
        case rel => exact ⟨k + 1, _, _, by omega, by go_num, HQ3.out.swap, HK2⟩
        case measure => simp [intOf]; omega
      · have hst := way_move (cols := false) (M := M) (G := G) (x := ⟨yr, yc, yt⟩) HG.out hh (by show mvF a n yr ≤ m; omega) hs
        rw [hst] at HK2
        rw [hs] at H1
        rw [hh] at HH
        clear hh HDEAD hst hs
        have HK2 : Hid (wkC a n m false (L.take (k + 1)) = some (M ++ [⟨mvF a n yr, yc, yt⟩], G)) := HK2.out
        generalize mvF a n yr = t at *
        go_wp2_with (first
          | (refine nl_load rfl 45 _ rfl _ _ rfl RLh.out ?_; clear RLh)
          | (refine nl_store rfl 45 _ _ rfl _ _ _ rfl rfl RS.out ?_; clear RS))
        have HD : Hid (Below (wr.alloc (nmO ⟨yr, yc, yt⟩)).heap.size (wr.alloc (nmO ⟨yr, yc, yt⟩)) (wr.alloc (nmO ⟨yr, yc, yt⟩)).drew) := (Below.refl _ _).drew
        have HCX : Hid (((((wr.alloc (nmO ⟨yr, yc, yt⟩)).drew).cell? ⟨w.heap.size, 0, none⟩ = some (.int .i64 a)) ∧ (((wr.alloc (nmO ⟨yr, yc, yt⟩)).drew).cell? ⟨w.heap.size, 1, none⟩ = some (.int .i64 n)) ∧ (((wr.alloc (nmO ⟨yr, yc, yt⟩)).drew).cell? ⟨w.heap.size, 2, none⟩ = some (.int .i64 m)) ∧ (((wr.alloc (nmO ⟨yr, yc, yt⟩)).drew).cell? ⟨wr.heap.size, 0, none⟩ = some (.int .i64 yr)) ∧ (((wr.alloc (nmO ⟨yr, yc, yt⟩)).drew).cell? ⟨wr.heap.size, 1, none⟩ = some (.int .i64 yc)) ∧ (((wr.alloc (nmO ⟨yr, yc, yt⟩)).drew).cell? ⟨wr.heap.size, 2, none⟩ = some (.string yt)))) := HCF.out _ HD.out
        go_region_held_law (fun u => ((u.cell? ⟨w.heap.size, 0, none⟩ = some (.int .i64 a)) ∧ (u.cell? ⟨w.heap.size, 1, none⟩ = some (.int .i64 n)) ∧ (u.cell? ⟨w.heap.size, 2, none⟩ = some (.int .i64 m)) ∧ (u.cell? ⟨wr.heap.size, 0, none⟩ = some (.int .i64 yr)) ∧ (u.cell? ⟨wr.heap.size, 1, none⟩ = some (.int .i64 yc)) ∧ (u.cell? ⟨wr.heap.size, 2, none⟩ = some (.string yt)))) (exact HCX.out) ((go_at_call 20; refine (HH.out _).mono ?_; rintro e w3 ⟨rfl, hb⟩; have HD3 : Hid (Below (wr.alloc (nmO ⟨yr, yc, yt⟩)).heap.size (wr.alloc (nmO ⟨yr, yc, yt⟩)) w3) := bel_step HD.out hb; clear hb; have HCX : Hid (((w3.cell? ⟨w.heap.size, 0, none⟩ = some (.int .i64 a)) ∧ (w3.cell? ⟨w.heap.size, 1, none⟩ = some (.int .i64 n)) ∧ (w3.cell? ⟨w.heap.size, 2, none⟩ = some (.int .i64 m)) ∧ (w3.cell? ⟨wr.heap.size, 0, none⟩ = some (.int .i64 yr)) ∧ (w3.cell? ⟨wr.heap.size, 1, none⟩ = some (.int .i64 yc)) ∧ (w3.cell? ⟨wr.heap.size, 2, none⟩ = some (.string yt)))) := HCF.out _ HD3.out))
        obtain ⟨c0, c1, c2, y0, y1, y2⟩ := HCX.out
        have HM3 : Hid (Mov w3 g a n m) := HMF.out _ HD3.out
        have HB3 : Hid (Below wr.heap.size wr (w3.setCell ⟨wr.heap.size, 0, none⟩ (.int .i64 t))) := (bel1 HD3.out).setCell (Nat.le_refl _) _
        have HY3 := set0 (v := .int .i64 t) (y_box HD3.out)
        obtain ⟨v2, u2, u3, RL3, RB3, RA3, HQ3⟩ := HZ.out.pack (y := ⟨t, yc, yt⟩) HB3.out HY3 (by omega)
        obtain ⟨f0, f1, f2⟩ := n_free (y_box HD3.out)
        have hsz3 : (w3.setCell ⟨wr.heap.size, 0, none⟩ (.int .i64 t)).heap.size = w3.heap.size := by simp [World.setCell]
        rw [hsz3] at RB3 RA3
        clear hsz3 HY3 HB3
        go_wp2_with (first
          | (go_at_call 22; refine (H1.out _ _ HM3.out).mono ?_; rintro e w5 ⟨rfl, hw⟩; obtain rfl := hw.symm; clear hw)
          | (refine nl_load rfl 45 _ rfl _ _ rfl RL3.out ?_; clear RL3)
          | (refine nl_bslice rfl 39 1 _ rfl _ _ _ (by go_simp) RB3.out ?_; clear RB3)
          | (at_builtin; refine nl_append rfl _ _ 39 39 rfl _ _ _ _ rfl rfl RA3.out ?_; clear RA3))
        go_roundw
        case rel => exact ⟨k + 1, _, _, by omega, by go_num, HQ3, HK2⟩
        case measure => simp [intOf]; omega
    · have hki : ¬ (k : Int) < len := by omega
      have hkl : L.take k = L := List.take_of_length_le (by rw [← HN.out]; omega)
      rw [hkl] at HK
      have HEND : Hid (CAns w.heap.size wr (.returned (.tuple #[.slice va M.length vc, .slice ga G.length gc, .bool true])) R) := by
        show CAns _ _ _ _
        rw [← HRR.out, HK.out]
        exact ⟨_, _, rfl, HZ.out.mo.base (bel1 H2.out).size, HZ.out.go.base (bel1 H2.out).size⟩
      have HBE : Hid (Below w.heap.size w wr) := bel1 (bel_step H2.out HZ.out.bel)
      clear HK HZ hkl
      go_wp2
      go_ret3
      exact ⟨HEND.out, HBE.out⟩
set_option maxHeartbeats 8000000 in
theorem cells_bad_true (a n m : Int) (L : List CT) (w : World) (v : Value) (hg : goodB a n m = false) : Calls Try.prog 17 #[shV a n m, .bool true, v] w fun e w' => CAns w.heap.size w' e (clF a n m true L) ∧ Below w.heap.size w w' := by
  have HB0 : Hid (Below (w.alloc (shO a n m 23)).heap.size (w.alloc (shO a n m 23)) (w.alloc (shO a n m 23))) := Below.refl _ _
  have C12 : Hid (∀ u, Calls Try.prog 12 #[shV a n m] u _) := fun u => good_any a n m u
  have hcl : clF a n m true L = none := by unfold clF; rw [hg]; rfl
  rw [hcl]
  rw [hg] at C12
  clear hg hcl
  obtain ⟨c0, c1, c2⟩ := box_cells HB0.out
  go_enter Try.func17, Try.ntmps17
  go_wp2_with (go_at_call 12; refine (C12.out _).mono ?_; clear C12; rintro e w1 ⟨rfl, hb⟩; have H1 : Hid (Below (w.alloc (shO a n m 23)).heap.size (w.alloc (shO a n m 23)) w1) := bel_step HB0.out hb; clear hb c0 c1 c2)
  go_ret3
  exact ⟨rfl, bel1 H1.out⟩
set_option maxHeartbeats 16000000 in
theorem cells_good_true (a n m : Int) (L : List CT) (w : World) (p : Option Addr) (len c : Nat) (h : Rds w p len L) (hlen : len * 32 ≤ 140737488355328) (hg : goodB a n m = true) : Calls Try.prog 17 #[shV a n m, .bool true, .slice p len c] w fun e w' => CAns w.heap.size w' e (clF a n m true L) ∧ Below w.heap.size w w' := by
  have hb := good_bd hg
  have HG : Hid (goodB a n m = true) := hg
  have HB0 : Hid (Below (w.alloc (shO a n m 23)).heap.size (w.alloc (shO a n m 23)) (w.alloc (shO a n m 23))) := Below.refl _ _
  have C12 : Hid (∀ u, Calls Try.prog 12 #[shV a n m] u _) := fun u => good_any a n m u
  have HM : Hid (∀ u, Calls Try.prog 21 #[shV a n m] u fun e w' => e = .returned (movF u.heap.size) ∧ Hid (Mov w' u.heap.size a n m) ∧ Hid (Below u.heap.size u w')) := fun u => mover_any a n m (by omega) (by omega) (by omega) (by omega) u
  have hcl : clF a n m true L = wkC a n m true L := by unfold clF; rw [hg]; rfl
  rw [hcl]
  rw [hg] at C12
  have HR : Hid (Rds w p len L) := h
  have HN : Hid (len = L.length) := h.1
  have HBD : Hid (1 ≤ a ∧ a ≤ 1000 ∧ -1000 ≤ n ∧ n ≤ 1000 ∧ m ≤ 1000) := ⟨by omega, by omega, by omega, by omega, by omega⟩
  clear hg hcl h hb
  obtain ⟨c0, c1, c2⟩ := box_cells HB0.out
  generalize hR : wkC a n m true L = R
  have HRR : Hid (wkC a n m true L = R) := hR
  clear hR
  go_enter Try.func17, Try.ntmps17
  go_wp2_with (first
    | (go_at_call 12; refine (C12.out _).mono ?_; clear C12; rintro e w1 ⟨rfl, hb⟩; have H1 : Hid (Below (w.alloc (shO a n m 23)).heap.size (w.alloc (shO a n m 23)) w1) := bel_step HB0.out hb; clear hb c0 c1 c2; obtain ⟨c0, c1, c2⟩ := box_cells H1.out)
    | (go_at_call 21; refine (HM.out _).mono ?_; clear HM; rintro e w2 ⟨rfl, Hm, hb⟩; have H2 : Hid (Below (w.alloc (shO a n m 23)).heap.size (w.alloc (shO a n m 23)) w2) := bel_step H1.out hb.out; clear hb c0 c1 c2))
  generalize w1.heap.size = g at *
  have HR2 : Hid (Rds w2 p len L) := HR.out.below (bel1 H2.out)
  clear HR HB0 H1
  go_loopw [10, 11, 24] (fun mv gv i wr => ∃ (k : Nat) (M G : List CT), k ≤ len ∧ i = .int .i64 (k : Nat) ∧ Hid (CQ w2 mv gv M G wr) ∧ Hid (wkC a n m true (L.take k) = some (M, G))) (fun _ _ i _ => len - (intOf i).toNat)
  case atStart => exact ⟨0, [], [], Nat.zero_le _, rfl, CQ.begin w2, by show _ = _; simp [wkC]⟩
  case round =>
    obtain ⟨k, M, G, hk, rfl, HZ, HK⟩ := hrel
    obtain ⟨va, vc, rfl, _⟩ := HZ.out.mo.slice
    obtain ⟨ga, gc, rfl, _⟩ := HZ.out.go.slice
    by_cases hlt : k < len
    · have hki : (k : Int) < len := by omega
      have hkL : k < L.length := by rw [← HN.out]; exact hlt
      have hMG := wk_len (by omega) HK.out
      obtain ⟨a', rfl, RL⟩ := (HR2.out.below HZ.out.bel).load hkL
      have RLh : Hid _ := RL
      have RS : Hid _ := mbox wr L[k]
      have HK2 : Hid (wkC a n m true (L.take (k + 1)) = stepC a n m true (some (M, G)) L[k]) := by show _ = _; rw [wk_succ hkL, HK.out]
      have HDEAD : Hid (stepC a n m true (some (M, G)) L[k] = none → R = none) := fun h => by rw [← HRR.out]; exact wk_dead (k := k + 1) (HK2.out.trans h)
      clear RL HK
      generalize L[k] = y at *
      obtain ⟨yr, yc, yt⟩ := y
      have HCF : Hid (∀ u, Below (wr.alloc (nmO ⟨yr, yc, yt⟩)).heap.size (wr.alloc (nmO ⟨yr, yc, yt⟩)) u → ((u.cell? ⟨w.heap.size, 0, none⟩ = some (.int .i64 a)) ∧ (u.cell? ⟨w.heap.size, 1, none⟩ = some (.int .i64 n)) ∧ (u.cell? ⟨w.heap.size, 2, none⟩ = some (.int .i64 m)) ∧ (u.cell? ⟨wr.heap.size, 0, none⟩ = some (.int .i64 yr)) ∧ (u.cell? ⟨wr.heap.size, 1, none⟩ = some (.int .i64 yc)) ∧ (u.cell? ⟨wr.heap.size, 2, none⟩ = some (.string yt)))) := fun u hu => by
        obtain ⟨q0, q1, q2⟩ := box_cells (bel_step (bel_step H2.out HZ.out.bel) (bel1 hu))
        obtain ⟨r0, r1, r2⟩ := s_cells (y_box hu)
        exact ⟨q0, q1, q2, r0, r1, r2⟩
      have HBQ : Hid (∀ u, Below (wr.alloc (nmO ⟨yr, yc, yt⟩)).heap.size (wr.alloc (nmO ⟨yr, yc, yt⟩)) u → Below w.heap.size w u) := fun u hu => bel1 (bel_step (bel_step H2.out HZ.out.bel) (bel1 hu))
      have HMF : Hid (∀ u, Below (wr.alloc (nmO ⟨yr, yc, yt⟩)).heap.size (wr.alloc (nmO ⟨yr, yc, yt⟩)) u → Mov u g a n m) := fun u hu => (Hm.out.below HZ.out.bel).below (bel1 hu)
      have HH : Hid (∀ u, Calls Try.prog 20 #[shV a n m, .int .i64 yc] u _) := fun u => has_any a n m yc u
      cases hh : (decide (1 ≤ yc) && decide (yc ≤ m))
      · have HNO : Hid (∀ u, CAns w.heap.size u (.returned (.tuple #[.slice none 0 0, .slice none 0 0, .bool false])) R) := fun u => by rw [HDEAD.out (way_out HG.out hh)]; rfl
        rw [hh] at HH
        clear hh HDEAD HK2 HMF
        go_wp2_with (first
          | (refine nl_load rfl 45 _ rfl _ _ rfl RLh.out ?_; clear RLh)
          | (refine nl_store rfl 45 _ _ rfl _ _ _ rfl rfl RS.out ?_; clear RS))
        have HD : Hid (Below (wr.alloc (nmO ⟨yr, yc, yt⟩)).heap.size (wr.alloc (nmO ⟨yr, yc, yt⟩)) (wr.alloc (nmO ⟨yr, yc, yt⟩)).drew) := (Below.refl _ _).drew
        have HCX : Hid (((((wr.alloc (nmO ⟨yr, yc, yt⟩)).drew).cell? ⟨w.heap.size, 0, none⟩ = some (.int .i64 a)) ∧ (((wr.alloc (nmO ⟨yr, yc, yt⟩)).drew).cell? ⟨w.heap.size, 1, none⟩ = some (.int .i64 n)) ∧ (((wr.alloc (nmO ⟨yr, yc, yt⟩)).drew).cell? ⟨w.heap.size, 2, none⟩ = some (.int .i64 m)) ∧ (((wr.alloc (nmO ⟨yr, yc, yt⟩)).drew).cell? ⟨wr.heap.size, 0, none⟩ = some (.int .i64 yr)) ∧ (((wr.alloc (nmO ⟨yr, yc, yt⟩)).drew).cell? ⟨wr.heap.size, 1, none⟩ = some (.int .i64 yc)) ∧ (((wr.alloc (nmO ⟨yr, yc, yt⟩)).drew).cell? ⟨wr.heap.size, 2, none⟩ = some (.string yt)))) := HCF.out _ HD.out
        go_region_held_law (fun u => ((u.cell? ⟨w.heap.size, 0, none⟩ = some (.int .i64 a)) ∧ (u.cell? ⟨w.heap.size, 1, none⟩ = some (.int .i64 n)) ∧ (u.cell? ⟨w.heap.size, 2, none⟩ = some (.int .i64 m)) ∧ (u.cell? ⟨wr.heap.size, 0, none⟩ = some (.int .i64 yr)) ∧ (u.cell? ⟨wr.heap.size, 1, none⟩ = some (.int .i64 yc)) ∧ (u.cell? ⟨wr.heap.size, 2, none⟩ = some (.string yt)))) (exact HCX.out) ((go_at_call 20; refine (HH.out _).mono ?_; rintro e w3 ⟨rfl, hb⟩; have HD3 : Hid (Below (wr.alloc (nmO ⟨yr, yc, yt⟩)).heap.size (wr.alloc (nmO ⟨yr, yc, yt⟩)) w3) := bel_step HD.out hb; clear hb; have HCX : Hid (((w3.cell? ⟨w.heap.size, 0, none⟩ = some (.int .i64 a)) ∧ (w3.cell? ⟨w.heap.size, 1, none⟩ = some (.int .i64 n)) ∧ (w3.cell? ⟨w.heap.size, 2, none⟩ = some (.int .i64 m)) ∧ (w3.cell? ⟨wr.heap.size, 0, none⟩ = some (.int .i64 yr)) ∧ (w3.cell? ⟨wr.heap.size, 1, none⟩ = some (.int .i64 yc)) ∧ (w3.cell? ⟨wr.heap.size, 2, none⟩ = some (.string yt)))) := HCF.out _ HD3.out))
        go_wp2
        go_ret3
        exact ⟨HNO.out _, HBQ.out _ HD3.out⟩
      have hp2 : 1 ≤ yc ∧ yc ≤ m := by simpa using hh
      have H1 : Hid (∀ (u : World) (g : Nat), Mov u g a n m → Calls Try.prog 22 #[.int .i64 yc, .pointer (some ⟨g, 0, none⟩), .pointer (some ⟨g + 1, 0, none⟩)] u fun e w' => e = .returned (.tuple #[.int .i64 (mvF a n yc), .bool (mvB a n yc)]) ∧ w' = u) := fun u g h => by
        obtain ⟨q1, q2, q3, q4, q5⟩ := HBD.out
        exact mov1_any h (by omega) (by omega) (by omega) (by omega) yc (by omega) (by omega)
      have hbd : 1 ≤ mvF a n yc ∧ mvF a n yc ≤ 2000 := by
        obtain ⟨q1, q2, q3, q4, q5⟩ := HBD.out
        exact mv_bd (by omega) (by omega) (by omega) (by omega) (by omega) (by omega)
      by_cases ho : m < mvF a n yc
      · have HNO : Hid (∀ u, CAns w.heap.size u (.returned (.tuple #[.slice none 0 0, .slice none 0 0, .bool false])) R) := fun u => by rw [HDEAD.out (way_over HG.out hh ho)]; rfl
        rw [hh] at HH
        clear hh HDEAD HK2
        generalize mvF a n yc = t at *
        generalize mvB a n yc = sb at *
        have ho' : t > m := ho
        go_wp2_with (first
          | (refine nl_load rfl 45 _ rfl _ _ rfl RLh.out ?_; clear RLh)
          | (refine nl_store rfl 45 _ _ rfl _ _ _ rfl rfl RS.out ?_; clear RS))
        have HD : Hid (Below (wr.alloc (nmO ⟨yr, yc, yt⟩)).heap.size (wr.alloc (nmO ⟨yr, yc, yt⟩)) (wr.alloc (nmO ⟨yr, yc, yt⟩)).drew) := (Below.refl _ _).drew
        have HCX : Hid (((((wr.alloc (nmO ⟨yr, yc, yt⟩)).drew).cell? ⟨w.heap.size, 0, none⟩ = some (.int .i64 a)) ∧ (((wr.alloc (nmO ⟨yr, yc, yt⟩)).drew).cell? ⟨w.heap.size, 1, none⟩ = some (.int .i64 n)) ∧ (((wr.alloc (nmO ⟨yr, yc, yt⟩)).drew).cell? ⟨w.heap.size, 2, none⟩ = some (.int .i64 m)) ∧ (((wr.alloc (nmO ⟨yr, yc, yt⟩)).drew).cell? ⟨wr.heap.size, 0, none⟩ = some (.int .i64 yr)) ∧ (((wr.alloc (nmO ⟨yr, yc, yt⟩)).drew).cell? ⟨wr.heap.size, 1, none⟩ = some (.int .i64 yc)) ∧ (((wr.alloc (nmO ⟨yr, yc, yt⟩)).drew).cell? ⟨wr.heap.size, 2, none⟩ = some (.string yt)))) := HCF.out _ HD.out
        go_region_held_law (fun u => ((u.cell? ⟨w.heap.size, 0, none⟩ = some (.int .i64 a)) ∧ (u.cell? ⟨w.heap.size, 1, none⟩ = some (.int .i64 n)) ∧ (u.cell? ⟨w.heap.size, 2, none⟩ = some (.int .i64 m)) ∧ (u.cell? ⟨wr.heap.size, 0, none⟩ = some (.int .i64 yr)) ∧ (u.cell? ⟨wr.heap.size, 1, none⟩ = some (.int .i64 yc)) ∧ (u.cell? ⟨wr.heap.size, 2, none⟩ = some (.string yt)))) (exact HCX.out) ((go_at_call 20; refine (HH.out _).mono ?_; rintro e w3 ⟨rfl, hb⟩; have HD3 : Hid (Below (wr.alloc (nmO ⟨yr, yc, yt⟩)).heap.size (wr.alloc (nmO ⟨yr, yc, yt⟩)) w3) := bel_step HD.out hb; clear hb; have HCX : Hid (((w3.cell? ⟨w.heap.size, 0, none⟩ = some (.int .i64 a)) ∧ (w3.cell? ⟨w.heap.size, 1, none⟩ = some (.int .i64 n)) ∧ (w3.cell? ⟨w.heap.size, 2, none⟩ = some (.int .i64 m)) ∧ (w3.cell? ⟨wr.heap.size, 0, none⟩ = some (.int .i64 yr)) ∧ (w3.cell? ⟨wr.heap.size, 1, none⟩ = some (.int .i64 yc)) ∧ (w3.cell? ⟨wr.heap.size, 2, none⟩ = some (.string yt)))) := HCF.out _ HD3.out))
        obtain ⟨c0, c1, c2, y0, y1, y2⟩ := HCX.out
        have HM3 : Hid (Mov w3 g a n m) := HMF.out _ HD3.out
        go_wp2_with (go_at_call 22; refine (H1.out _ _ HM3.out).mono ?_; rintro e w5 ⟨rfl, hw⟩; obtain rfl := hw.symm; clear hw)
        go_ret3
        exact ⟨HNO.out _, HBQ.out _ HD3.out⟩
      cases hs : mvB a n yc
      · have hst := way_gone (cols := true) (M := M) (G := G) (x := ⟨yr, yc, yt⟩) HG.out hh hs
        rw [hst] at HK2
        rw [hs] at H1
        rw [hh] at HH
        clear hh HDEAD hst hs
        generalize mvF a n yc = t at *
        go_wp2_with (first
          | (refine nl_load rfl 45 _ rfl _ _ rfl RLh.out ?_; clear RLh)
          | (refine nl_store rfl 45 _ _ rfl _ _ _ rfl rfl RS.out ?_; clear RS))
        have HD : Hid (Below (wr.alloc (nmO ⟨yr, yc, yt⟩)).heap.size (wr.alloc (nmO ⟨yr, yc, yt⟩)) (wr.alloc (nmO ⟨yr, yc, yt⟩)).drew) := (Below.refl _ _).drew
        have HCX : Hid (((((wr.alloc (nmO ⟨yr, yc, yt⟩)).drew).cell? ⟨w.heap.size, 0, none⟩ = some (.int .i64 a)) ∧ (((wr.alloc (nmO ⟨yr, yc, yt⟩)).drew).cell? ⟨w.heap.size, 1, none⟩ = some (.int .i64 n)) ∧ (((wr.alloc (nmO ⟨yr, yc, yt⟩)).drew).cell? ⟨w.heap.size, 2, none⟩ = some (.int .i64 m)) ∧ (((wr.alloc (nmO ⟨yr, yc, yt⟩)).drew).cell? ⟨wr.heap.size, 0, none⟩ = some (.int .i64 yr)) ∧ (((wr.alloc (nmO ⟨yr, yc, yt⟩)).drew).cell? ⟨wr.heap.size, 1, none⟩ = some (.int .i64 yc)) ∧ (((wr.alloc (nmO ⟨yr, yc, yt⟩)).drew).cell? ⟨wr.heap.size, 2, none⟩ = some (.string yt)))) := HCF.out _ HD.out
        go_region_held_law (fun u => ((u.cell? ⟨w.heap.size, 0, none⟩ = some (.int .i64 a)) ∧ (u.cell? ⟨w.heap.size, 1, none⟩ = some (.int .i64 n)) ∧ (u.cell? ⟨w.heap.size, 2, none⟩ = some (.int .i64 m)) ∧ (u.cell? ⟨wr.heap.size, 0, none⟩ = some (.int .i64 yr)) ∧ (u.cell? ⟨wr.heap.size, 1, none⟩ = some (.int .i64 yc)) ∧ (u.cell? ⟨wr.heap.size, 2, none⟩ = some (.string yt)))) (exact HCX.out) ((go_at_call 20; refine (HH.out _).mono ?_; rintro e w3 ⟨rfl, hb⟩; have HD3 : Hid (Below (wr.alloc (nmO ⟨yr, yc, yt⟩)).heap.size (wr.alloc (nmO ⟨yr, yc, yt⟩)) w3) := bel_step HD.out hb; clear hb; have HCX : Hid (((w3.cell? ⟨w.heap.size, 0, none⟩ = some (.int .i64 a)) ∧ (w3.cell? ⟨w.heap.size, 1, none⟩ = some (.int .i64 n)) ∧ (w3.cell? ⟨w.heap.size, 2, none⟩ = some (.int .i64 m)) ∧ (w3.cell? ⟨wr.heap.size, 0, none⟩ = some (.int .i64 yr)) ∧ (w3.cell? ⟨wr.heap.size, 1, none⟩ = some (.int .i64 yc)) ∧ (w3.cell? ⟨wr.heap.size, 2, none⟩ = some (.string yt)))) := HCF.out _ HD3.out))
        obtain ⟨c0, c1, c2, y0, y1, y2⟩ := HCX.out
        have HM3 : Hid (Mov w3 g a n m) := HMF.out _ HD3.out
        have HB3 : Hid (Below wr.heap.size wr w3) := bel1 HD3.out
        obtain ⟨v2, u2, u3, RL3, RB3, RA3, HQ3⟩ := HZ.out.swap.pack (y := ⟨yr, yc, yt⟩) HB3.out (y_box HD3.out) (by omega)
        go_wp2_with (first
          | (go_at_call 22; refine (H1.out _ _ HM3.out).mono ?_; rintro e w5 ⟨rfl, hw⟩; obtain rfl := hw.symm; clear hw)
          | (refine nl_load rfl 45 _ rfl _ _ rfl RL3.out ?_; clear RL3)
          | (refine nl_bslice rfl 39 1 _ rfl _ _ _ (by go_simp) RB3.out ?_; clear RB3)
          | (at_builtin; refine nl_append rfl _ _ 39 39 rfl _ _ _ _ rfl rfl RA3.out ?_; clear RA3))
        go_roundw
        case rel => exact ⟨k + 1, _, _, by omega, by go_num, HQ3.out.swap, HK2⟩
        case measure => simp [intOf]; omega
      · have hst := way_move (cols := true) (M := M) (G := G) (x := ⟨yr, yc, yt⟩) HG.out hh (by show mvF a n yc ≤ m; omega) hs
        rw [hst] at HK2
        rw [hs] at H1
        rw [hh] at HH
        clear hh HDEAD hst hs
        have HK2 : Hid (wkC a n m true (L.take (k + 1)) = some (M ++ [⟨yr, mvF a n yc, yt⟩], G)) := HK2.out
        generalize mvF a n yc = t at *
        go_wp2_with (first
          | (refine nl_load rfl 45 _ rfl _ _ rfl RLh.out ?_; clear RLh)
          | (refine nl_store rfl 45 _ _ rfl _ _ _ rfl rfl RS.out ?_; clear RS))
        have HD : Hid (Below (wr.alloc (nmO ⟨yr, yc, yt⟩)).heap.size (wr.alloc (nmO ⟨yr, yc, yt⟩)) (wr.alloc (nmO ⟨yr, yc, yt⟩)).drew) := (Below.refl _ _).drew
        have HCX : Hid (((((wr.alloc (nmO ⟨yr, yc, yt⟩)).drew).cell? ⟨w.heap.size, 0, none⟩ = some (.int .i64 a)) ∧ (((wr.alloc (nmO ⟨yr, yc, yt⟩)).drew).cell? ⟨w.heap.size, 1, none⟩ = some (.int .i64 n)) ∧ (((wr.alloc (nmO ⟨yr, yc, yt⟩)).drew).cell? ⟨w.heap.size, 2, none⟩ = some (.int .i64 m)) ∧ (((wr.alloc (nmO ⟨yr, yc, yt⟩)).drew).cell? ⟨wr.heap.size, 0, none⟩ = some (.int .i64 yr)) ∧ (((wr.alloc (nmO ⟨yr, yc, yt⟩)).drew).cell? ⟨wr.heap.size, 1, none⟩ = some (.int .i64 yc)) ∧ (((wr.alloc (nmO ⟨yr, yc, yt⟩)).drew).cell? ⟨wr.heap.size, 2, none⟩ = some (.string yt)))) := HCF.out _ HD.out
        go_region_held_law (fun u => ((u.cell? ⟨w.heap.size, 0, none⟩ = some (.int .i64 a)) ∧ (u.cell? ⟨w.heap.size, 1, none⟩ = some (.int .i64 n)) ∧ (u.cell? ⟨w.heap.size, 2, none⟩ = some (.int .i64 m)) ∧ (u.cell? ⟨wr.heap.size, 0, none⟩ = some (.int .i64 yr)) ∧ (u.cell? ⟨wr.heap.size, 1, none⟩ = some (.int .i64 yc)) ∧ (u.cell? ⟨wr.heap.size, 2, none⟩ = some (.string yt)))) (exact HCX.out) ((go_at_call 20; refine (HH.out _).mono ?_; rintro e w3 ⟨rfl, hb⟩; have HD3 : Hid (Below (wr.alloc (nmO ⟨yr, yc, yt⟩)).heap.size (wr.alloc (nmO ⟨yr, yc, yt⟩)) w3) := bel_step HD.out hb; clear hb; have HCX : Hid (((w3.cell? ⟨w.heap.size, 0, none⟩ = some (.int .i64 a)) ∧ (w3.cell? ⟨w.heap.size, 1, none⟩ = some (.int .i64 n)) ∧ (w3.cell? ⟨w.heap.size, 2, none⟩ = some (.int .i64 m)) ∧ (w3.cell? ⟨wr.heap.size, 0, none⟩ = some (.int .i64 yr)) ∧ (w3.cell? ⟨wr.heap.size, 1, none⟩ = some (.int .i64 yc)) ∧ (w3.cell? ⟨wr.heap.size, 2, none⟩ = some (.string yt)))) := HCF.out _ HD3.out))
        obtain ⟨c0, c1, c2, y0, y1, y2⟩ := HCX.out
        have HM3 : Hid (Mov w3 g a n m) := HMF.out _ HD3.out
        have HB3 : Hid (Below wr.heap.size wr (w3.setCell ⟨wr.heap.size, 1, none⟩ (.int .i64 t))) := (bel1 HD3.out).setCell (Nat.le_refl _) _
        have HY3 := set1 (v := .int .i64 t) (y_box HD3.out)
        obtain ⟨v2, u2, u3, RL3, RB3, RA3, HQ3⟩ := HZ.out.pack (y := ⟨yr, t, yt⟩) HB3.out HY3 (by omega)
        obtain ⟨f0, f1, f2⟩ := n_free (y_box HD3.out)
        have hsz3 : (w3.setCell ⟨wr.heap.size, 1, none⟩ (.int .i64 t)).heap.size = w3.heap.size := by simp [World.setCell]
        rw [hsz3] at RB3 RA3
        clear hsz3 HY3 HB3
        go_wp2_with (first
          | (go_at_call 22; refine (H1.out _ _ HM3.out).mono ?_; rintro e w5 ⟨rfl, hw⟩; obtain rfl := hw.symm; clear hw)
          | (refine nl_load rfl 45 _ rfl _ _ rfl RL3.out ?_; clear RL3)
          | (refine nl_bslice rfl 39 1 _ rfl _ _ _ (by go_simp) RB3.out ?_; clear RB3)
          | (at_builtin; refine nl_append rfl _ _ 39 39 rfl _ _ _ _ rfl rfl RA3.out ?_; clear RA3))
        go_roundw
        case rel => exact ⟨k + 1, _, _, by omega, by go_num, HQ3, HK2⟩
        case measure => simp [intOf]; omega
    · have hki : ¬ (k : Int) < len := by omega
      have hkl : L.take k = L := List.take_of_length_le (by rw [← HN.out]; omega)
      rw [hkl] at HK
      have HEND : Hid (CAns w.heap.size wr (.returned (.tuple #[.slice va M.length vc, .slice ga G.length gc, .bool true])) R) := by
        show CAns _ _ _ _
        rw [← HRR.out, HK.out]
        exact ⟨_, _, rfl, HZ.out.mo.base (bel1 H2.out).size, HZ.out.go.base (bel1 H2.out).size⟩
      have HBE : Hid (Below w.heap.size w wr) := bel1 (bel_step H2.out HZ.out.bel)
      clear HK HZ hkl
      go_wp2
      go_ret3
      exact ⟨HEND.out, HBE.out⟩
end Go.Proofs.Yteafldbmeekpbaa
