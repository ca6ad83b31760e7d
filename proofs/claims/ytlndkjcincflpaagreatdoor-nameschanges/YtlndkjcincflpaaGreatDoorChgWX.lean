/- NamesChanges: what is defined, removed and dropped, and what is found. -/
import Derived.Test.YtlndkjcincflpaaGreatDoorChgPX
namespace Go.Proofs.YtlndkjcincflpaaGreatDoor
open Go.RowKit Go.Nm
set_option maxRecDepth 100000
set_option linter.unusedVariables false
set_option linter.unusedSimpArgs false
theorem OwnM.rds {base : Nat} {u : World} {p : Option Addr} {n c : Nat} {L : List NM} (h : OwnM base u (.slice p n c) L) : Rds u p n L := by
  obtain ⟨q, d, e, hs⟩ := h.slice
  cases e
  exact hs
/-- Boxes of names behind a world. -/
structure BQ (K u : World) (B : List (Nat × NM)) : Prop where
  b : Below K.heap.size K u
  x : ∀ y ∈ B, u.heap[y.1]? = some (nmO y.2)
theorem BQ.below {K u u' : World} {B : List (Nat × NM)} (h : BQ K u B) (hb : Below u.heap.size u u') : BQ K u' B := ⟨bel_step h.b hb, fun y hy => (hb.block _ (lt_of (h.x y hy))).trans (h.x y hy)⟩
theorem BQ.more {K u : World} {B : List (Nat × NM)} (h : BQ K u B) (y : NM) : BQ K (u.alloc (nmO y)) ((u.heap.size, y) :: B) := ⟨bel_alloc h.b _, fun z hz => by
  rcases List.mem_cons.1 hz with rfl | hz
  · exact heap_alloc_new u _
  · exact (heap_alloc_old u _ (lt_of (h.x z hz))).trans (h.x z hz)⟩
set_option maxHeartbeats 16000000 in
theorem chg_small (L : List NM) (hn : L.length ≤ 100) (hzL : ∀ z ∈ L, ZN z) (x : NM) (hz : ZN x) (w : World) (T : Tab9 w) (p : Option Addr) (m c : Nat) (h : Slc w p m c L) :
    Calls Tryz.prog 3 #[.slice p m c, nmV x] w fun e w' => e = .returned (.bool true) ∧ Below w.heap.size w w' := by
  have HSL : Hid (Slc w p m c L) := h
  have HN : Hid (m = L.length) := h.r.1
  have hn2 : m ≤ 100 := by rw [h.r.1]; exact hn
  have HT : Hid (Tab9 w) := T
  have HZ : Hid (ZN x ∧ ∀ z ∈ L, ZN z) := ⟨hz, hzL⟩
  have CL : Hid (∀ u, Below w.heap.size w u → Calls Tryz.prog 8 #[] u fun e w' => e = .returned (.bool true) ∧ Below u.heap.size u w') := fun u hu => nlives_any u (T.below hu)
  have hmi : ¬ (100 : Int) < m := by omega
  have HB0 : Hid (Below w.heap.size w (w.alloc (nmO x))) := bel_alloc (Below.refl _ _) _
  clear h hn T hz hzL
  go_enter Tryz.func3, Tryz.ntmps3
  go_wp2
  go_loopw [5] (fun i wr => ∃ (k : Nat), k ≤ m + 1 ∧ 1 ≤ k ∧ i = .int .i64 (k : Nat) ∧ Hid (RiseTo L k) ∧ Hid (Below w.heap.size w wr) ∧ Hid (wr.heap[w.heap.size]? = some (nmO x))) (fun i _ => m + 1 - (intOf i).toNat)
  case atStart => exact ⟨1, by omega, Nat.le_refl _, rfl, RiseTo.begin L, HB0, heap_alloc_new w _⟩
  case round =>
    obtain ⟨k, hk, hk1, rfl, HT1, HBz, HX⟩ := hrel
    clear HB0
    by_cases hlt : k < m
    · have hki : (k : Int) < m := by omega
      have hkL : k < L.length := by rw [← HN.out]; exact hlt
      obtain ⟨j, hj⟩ : ∃ j, k = j + 1 := ⟨k - 1, by omega⟩
      have hjL : j < L.length := by omega
      have hji : (k : Int) - 1 = (j : Int) := by omega
      have hjw : IntKind.i64.wrap (j : Int) = (j : Int) := by rw [IntKind.wrap_i64]; omega
      have hjn : (j : Int) < m := by omega
      have HBd : Hid (Below w.heap.size w wr.drew) := HBz.out.drew
      have HXd : Hid (wr.drew.heap[w.heap.size]? = some (nmO x)) := HX.out
      obtain ⟨a', e1, RL⟩ := (HSL.out.r.below HBd.out).load hjL
      subst e1
      obtain ⟨b', e2, RK⟩ := (HSL.out.r.below HBd.out).load hkL
      cases e2
      have HS : Hid ((Instr.loadAt 24 (.pointer (some (a'.add (j * 3))))).run Tryz.prog wr.drew = .ok (nmV L[j]) wr.drew ∧ (Instr.loadAt 24 (.pointer (some (a'.add (k * 3))))).run Tryz.prog wr.drew = .ok (nmV L[k]) wr.drew) := ⟨RL, RK⟩
      have C := rcmp_any L[j] L[k] wr.drew
      have HG : Hid (cmpK L[j] L[k] < 0 → RiseTo L (k + 1)) := fun e => HT1.out.step hj hkL e
      clear RL RK HT1 hj HX
      generalize L[j] = y at *
      generalize L[k] = z at *
      generalize cmpK y z = cv at *
      by_cases hc : 0 ≤ cv
      · clear HG
        go_wp2
        refine wp_region_d (fun u => (Instr.loadAt 24 (.pointer (some (a'.add (j * 3))))).run Tryz.prog u = .ok (nmV y) u ∧ (Instr.loadAt 24 (.pointer (some (a'.add (k * 3))))).run Tryz.prog u = .ok (nmV z) u) (fun j => j == 9) (by kernel_rfl) ?_
        refine wpAnyD_pured (i := 0) (v := .slice (some a') m c) rfl rfl (by kernel_rfl) (by kernel_rfl) (by kernel_rfl) (fun _ _ _ h => h) (by go_simp) (by intro u; go_simp) ?_
        try simp only [Act.put, List.setIfInBounds_toArray, List.set_cons_zero, List.set_cons_succ]
        refine wpAnyD_pured (i := 1) (v := .int .i64 (k : Int)) rfl rfl (by kernel_rfl) (by kernel_rfl) (by kernel_rfl) (fun _ _ _ h => h) (by go_simp) (by intro u; go_simp) ?_
        try simp only [Act.put, List.setIfInBounds_toArray, List.set_cons_zero, List.set_cons_succ]
        refine wpAnyD_pured (i := 2) (v := .int .i64 (j : Int)) rfl rfl (by kernel_rfl) (by kernel_rfl) (by kernel_rfl) (fun _ _ _ h => h) (by go_simp) (by intro u; go_simp) ?_
        try simp only [Act.put, List.setIfInBounds_toArray, List.set_cons_zero, List.set_cons_succ]
        refine wpAnyD_pured (i := 3) (v := .pointer (some (a'.add (j * 3)))) rfl rfl (by kernel_rfl) (by kernel_rfl) (by kernel_rfl) (fun _ _ _ h => h) (by go_simp) (by intro u; go_simp) ?_
        try simp only [Act.put, List.setIfInBounds_toArray, List.set_cons_zero, List.set_cons_succ]
        refine wpAnyD_loadd (i := 4) (v := nmV y) rfl rfl (by kernel_rfl) (by kernel_rfl) (by kernel_rfl) (by kernel_rfl) (fun _ _ _ h => h) (by go_simp) (fun u hSu => nexec_load rfl rfl hSu.1) HS.out ?_
        try simp only [Act.put, List.setIfInBounds_toArray, List.set_cons_zero, List.set_cons_succ]
        refine wpAnyD_pured (i := 5) (v := .slice (some a') m c) rfl rfl (by kernel_rfl) (by kernel_rfl) (by kernel_rfl) (fun _ _ _ h => h) (by go_simp) (by intro u; go_simp) ?_
        try simp only [Act.put, List.setIfInBounds_toArray, List.set_cons_zero, List.set_cons_succ]
        refine wpAnyD_pured (i := 6) (v := .int .i64 (k : Int)) rfl rfl (by kernel_rfl) (by kernel_rfl) (by kernel_rfl) (fun _ _ _ h => h) (by go_simp) (by intro u; go_simp) ?_
        try simp only [Act.put, List.setIfInBounds_toArray, List.set_cons_zero, List.set_cons_succ]
        refine wpAnyD_pured (i := 7) (v := .pointer (some (a'.add (k * 3)))) rfl rfl (by kernel_rfl) (by kernel_rfl) (by kernel_rfl) (fun _ _ _ h => h) (by go_simp) (by intro u; go_simp) ?_
        try simp only [Act.put, List.setIfInBounds_toArray, List.set_cons_zero, List.set_cons_succ]
        refine wpAnyD_loadd (i := 8) (v := nmV z) rfl rfl (by kernel_rfl) (by kernel_rfl) (by kernel_rfl) (by kernel_rfl) (fun _ _ _ h => h) (by go_simp) (fun u hSu => nexec_load rfl rfl hSu.2) HS.out ?_
        try simp only [Act.put, List.setIfInBounds_toArray, List.set_cons_zero, List.set_cons_succ]
        refine wpAnyD_one (i := 9) (by kernel_rfl) rfl ?_
        intro K' hK'
        go_simp
        refine C.mono ?_
        rintro e w1 ⟨rfl, hb1⟩
        have HB1 : Hid (Below w.heap.size w w1) := bel_step HBd.out hb1
        have HX1 : Hid (w1.heap[w.heap.size]? = some (nmO x)) := (hb1.block _ (lt_of HXd.out)).trans HXd.out
        clear hb1
        refine hK' _ _ (.inl rfl) ?_
        clear hK'
        try simp only [Act.put, List.setIfInBounds_toArray, List.set_cons_zero, List.set_cons_succ]
        refine wpAnyD_pured (i := 10) (v := .bool true) rfl rfl (by kernel_rfl) (by kernel_rfl) (by kernel_rfl) (fun _ _ _ h => h) (by go_simp) (by intro u; go_simp) ?_
        try simp only [Act.put, List.setIfInBounds_toArray, List.set_cons_zero, List.set_cons_succ]
        refine wpAnyD_done (by kernel_rfl) ?_ _
        go_wp2_with (go_at_call 8; refine (CL.out _ HB1.out).mono ?_; rintro e w2 ⟨rfl, hb2⟩; have HB2 : Hid (Below w.heap.size w w2) := bel_step HB1.out hb2; clear hb2)
        go_ret
        exact ⟨rfl, HB2.out⟩
      · have HG2 : Hid _ := HG.out (by omega)
        clear HG
        go_wp2
        refine wp_region_d (fun u => (Instr.loadAt 24 (.pointer (some (a'.add (j * 3))))).run Tryz.prog u = .ok (nmV y) u ∧ (Instr.loadAt 24 (.pointer (some (a'.add (k * 3))))).run Tryz.prog u = .ok (nmV z) u) (fun j => j == 9) (by kernel_rfl) ?_
        refine wpAnyD_pured (i := 0) (v := .slice (some a') m c) rfl rfl (by kernel_rfl) (by kernel_rfl) (by kernel_rfl) (fun _ _ _ h => h) (by go_simp) (by intro u; go_simp) ?_
        try simp only [Act.put, List.setIfInBounds_toArray, List.set_cons_zero, List.set_cons_succ]
        refine wpAnyD_pured (i := 1) (v := .int .i64 (k : Int)) rfl rfl (by kernel_rfl) (by kernel_rfl) (by kernel_rfl) (fun _ _ _ h => h) (by go_simp) (by intro u; go_simp) ?_
        try simp only [Act.put, List.setIfInBounds_toArray, List.set_cons_zero, List.set_cons_succ]
        refine wpAnyD_pured (i := 2) (v := .int .i64 (j : Int)) rfl rfl (by kernel_rfl) (by kernel_rfl) (by kernel_rfl) (fun _ _ _ h => h) (by go_simp) (by intro u; go_simp) ?_
        try simp only [Act.put, List.setIfInBounds_toArray, List.set_cons_zero, List.set_cons_succ]
        refine wpAnyD_pured (i := 3) (v := .pointer (some (a'.add (j * 3)))) rfl rfl (by kernel_rfl) (by kernel_rfl) (by kernel_rfl) (fun _ _ _ h => h) (by go_simp) (by intro u; go_simp) ?_
        try simp only [Act.put, List.setIfInBounds_toArray, List.set_cons_zero, List.set_cons_succ]
        refine wpAnyD_loadd (i := 4) (v := nmV y) rfl rfl (by kernel_rfl) (by kernel_rfl) (by kernel_rfl) (by kernel_rfl) (fun _ _ _ h => h) (by go_simp) (fun u hSu => nexec_load rfl rfl hSu.1) HS.out ?_
        try simp only [Act.put, List.setIfInBounds_toArray, List.set_cons_zero, List.set_cons_succ]
        refine wpAnyD_pured (i := 5) (v := .slice (some a') m c) rfl rfl (by kernel_rfl) (by kernel_rfl) (by kernel_rfl) (fun _ _ _ h => h) (by go_simp) (by intro u; go_simp) ?_
        try simp only [Act.put, List.setIfInBounds_toArray, List.set_cons_zero, List.set_cons_succ]
        refine wpAnyD_pured (i := 6) (v := .int .i64 (k : Int)) rfl rfl (by kernel_rfl) (by kernel_rfl) (by kernel_rfl) (fun _ _ _ h => h) (by go_simp) (by intro u; go_simp) ?_
        try simp only [Act.put, List.setIfInBounds_toArray, List.set_cons_zero, List.set_cons_succ]
        refine wpAnyD_pured (i := 7) (v := .pointer (some (a'.add (k * 3)))) rfl rfl (by kernel_rfl) (by kernel_rfl) (by kernel_rfl) (fun _ _ _ h => h) (by go_simp) (by intro u; go_simp) ?_
        try simp only [Act.put, List.setIfInBounds_toArray, List.set_cons_zero, List.set_cons_succ]
        refine wpAnyD_loadd (i := 8) (v := nmV z) rfl rfl (by kernel_rfl) (by kernel_rfl) (by kernel_rfl) (by kernel_rfl) (fun _ _ _ h => h) (by go_simp) (fun u hSu => nexec_load rfl rfl hSu.2) HS.out ?_
        try simp only [Act.put, List.setIfInBounds_toArray, List.set_cons_zero, List.set_cons_succ]
        refine wpAnyD_one (i := 9) (by kernel_rfl) rfl ?_
        intro K' hK'
        go_simp
        refine C.mono ?_
        rintro e w1 ⟨rfl, hb1⟩
        have HB1 : Hid (Below w.heap.size w w1) := bel_step HBd.out hb1
        have HX1 : Hid (w1.heap[w.heap.size]? = some (nmO x)) := (hb1.block _ (lt_of HXd.out)).trans HXd.out
        clear hb1
        refine hK' _ _ (.inl rfl) ?_
        clear hK'
        try simp only [Act.put, List.setIfInBounds_toArray, List.set_cons_zero, List.set_cons_succ]
        refine wpAnyD_pured (i := 10) (v := .bool false) rfl rfl (by kernel_rfl) (by kernel_rfl) (by kernel_rfl) (fun _ _ _ h => h) (by go_simp) (by intro u; go_simp) ?_
        try simp only [Act.put, List.setIfInBounds_toArray, List.set_cons_zero, List.set_cons_succ]
        refine wpAnyD_done (by kernel_rfl) ?_ _
        go_wp2
        go_roundw
        case rel => exact ⟨k + 1, by omega, by omega, by go_num, HG2, HB1, HX1⟩
        case measure => simp [intOf]; omega
    · have hki : ¬ (k : Int) < m := by omega
      have HRI : Hid (Rise L) := HT1.out.done (by rw [← HN.out]; omega)
      clear HT1
      have RZ : Hid _ := nslice_zero wr
      have BZ : Below wr.heap.size wr (wr.alloc (.cells #[] 24)) := bel_alloc (Below.refl _ _) _
      have OZ : OwnM wr.heap.size (wr.alloc (.cells #[] 24)) (.slice (some ⟨wr.heap.size, 0, none⟩) 0 0) [] := ⟨rfl, .inr ⟨wr.heap.size, 0, #[], rfl, Nat.le_refl _, heap_alloc_new wr _, Nat.le_refl _, Nat.zero_le _, rfl, rfl⟩⟩
      obtain ⟨vk, K, RA, oK, gK, bK⟩ := ownM_cat (c := c) OZ (((HSL.out.r.below HBz.out)).below BZ) HSL.out.z (by have := HN.out; simp; omega) BZ.size
      rw [List.nil_append] at oK
      obtain ⟨pk, ck, rfl, sK⟩ := oK.slc
      have bwK : Below wr.heap.size wr K := BZ.trans bK
      have HK : Hid (Below w.heap.size w K) := bel_step HBz.out bwK
      have HXK : Hid (K.heap[w.heap.size]? = some (nmO x)) := (bwK.block _ (lt_of HX.out)).trans HX.out
      have HSK : Hid (Slc K p m c L) := (HSL.out.below HBz.out).below bwK
      have HKK : Hid (Slc K pk L.length ck L) := sK
      have hkl : Hid (L.length = m) := HN.out.symm
      clear oK gK bK BZ OZ bwK sK
      rw [hkl.out] at HKK RA
      -- what is called behind it
      have HCD : Hid (∀ u, Below K.heap.size K u → Calls Tryz.prog 10 #[.slice p m c, nmV x] u fun e w' => OutM u.heap.size w' e (defM L x) (defE L x) ∧ Below u.heap.size u w') := fun u hu => prog_def HRI.out HZ.out.1 (HT.out.below (bel_step HK.out hu)) (HSK.out.below hu) (by rw [hkl.out]; exact hn2)
      have HCE : Hid (∀ u, Below K.heap.size K u → Calls Tryz.prog 11 #[.slice p m c, nmV x] u fun e w' => OutM u.heap.size w' e (defM L x) (defE L x) ∧ Below u.heap.size u w') := fun u hu => ref_def HZ.out.1 (HT.out.below (bel_step HK.out hu)) (HSK.out.below hu).r (by rw [hkl.out]; exact hn2)
      have HCR : Hid (∀ u, Below K.heap.size K u → Calls Tryz.prog 12 #[.slice p m c, .string x.s, .string x.n] u fun e w' => OutM u.heap.size w' e (remM L x) (remE L x) ∧ Below u.heap.size u w') := fun u hu => prog_rem HRI.out (HSK.out.below hu) (by rw [hkl.out]; exact hn2)
      have HCS : Hid (∀ u, Below K.heap.size K u → Calls Tryz.prog 13 #[.slice p m c, .string x.s, .string x.n] u fun e w' => OutM u.heap.size w' e (remM L x) (remE L x) ∧ Below u.heap.size u w') := fun u hu => ref_rem (HSK.out.below hu).r (by rw [hkl.out]; exact hn2)
      have HCY : Hid (∀ u, Below K.heap.size K u → Calls Tryz.prog 14 #[.slice p m c, .string x.s] u fun e w' => ∃ v, e = .returned v ∧ OwnM u.heap.size w' v (drpK x.s L) ∧ Below u.heap.size u w') := fun u hu => drop_any L x.s (by rw [hkl.out]; omega) u p m c (HSK.out.below hu).r
      have HCW : Hid (∀ u, Below K.heap.size K u → Calls Tryz.prog 16 #[.slice p m c, .string x.s] u fun e w' => ∃ v, e = .returned v ∧ OwnM u.heap.size w' v (drpK x.s L) ∧ Below u.heap.size u w') := fun u hu => rdrop_any L x.s (by rw [hkl.out]; omega) u p m c (HSK.out.below hu).r
      have HCF : Hid (∀ u, Below K.heap.size K u → Calls Tryz.prog 17 #[.slice p m c, .string x.s, .string x.n] u fun e w' => e = .returned (fndV (findK ⟨x.s, x.n, ⟨#[]⟩⟩ L)) ∧ Below u.heap.size u w') := fun u hu => find_any L x.s x.n (by rw [hkl.out]; omega) u p m c (HSK.out.below hu).r
      have HCG : Hid (∀ u, Below K.heap.size K u → Calls Tryz.prog 18 #[.slice p m c, .string x.s, .string x.n] u fun e w' => e = .returned (fndV (findK ⟨x.s, x.n, ⟨#[]⟩⟩ L)) ∧ Below u.heap.size u w') := fun u hu => rfind_any L x.s x.n (by rw [hkl.out]; omega) u p m c (HSK.out.below hu).r
      have HCH : Hid (∀ u, Below K.heap.size K u → Calls Tryz.prog 19 #[.slice p m c, .string x.s, .string x.n] u fun e w' => e = .returned (fndV (resK x.s x.n L)) ∧ Below u.heap.size u w') := fun u hu => resolve_any L x.s x.n (by rw [hkl.out]; omega) u p m c (HSK.out.below hu).r
      have HCI : Hid (∀ u, Below K.heap.size K u → Calls Tryz.prog 20 #[.slice p m c, .string x.s, .string x.n] u fun e w' => e = .returned (fndV (resK x.s x.n L)) ∧ Below u.heap.size u w') := fun u hu => rresolve_any L x.s x.n (by rw [hkl.out]; omega) u p m c (HSK.out.below hu).r
      have HCJ : Hid (∀ u, Below K.heap.size K u → Calls Tryz.prog 21 #[.slice p m c] u fun e w' => e = .returned (.int .i64 (chkN true L)) ∧ Below u.heap.size u w') := fun u hu => check_any L (by rw [hkl.out]; omega) HZ.out.2 true ⟨fun _ => HRI.out, fun _ => rfl⟩ u (HT.out.below (bel_step HK.out hu)) p m c (HSK.out.below hu).r
      have HCL : Hid (∀ u, Below K.heap.size K u → Calls Tryz.prog 22 #[.slice p m c] u fun e w' => e = .returned (.int .i64 (chkN true L)) ∧ Below u.heap.size u w') := fun u hu => rcheck_any L (by rw [hkl.out]; omega) HZ.out.2 true ⟨fun _ => HRI.out, fun _ => rfl⟩ u (HT.out.below (bel_step HK.out hu)) p m c (HSK.out.below hu).r
      have HCM : Hid (∀ u, Below K.heap.size K u → Calls Tryz.prog 15 #[.slice p m c, .slice pk m ck] u fun e w' => e = .returned (.bool true) ∧ Below u.heap.size u w') := fun u hu => nsame_any L (by rw [hkl.out]; omega) u p pk m c m ck (HSK.out.below hu).r (HKK.out.below hu).r
      have HCN : Hid (∀ u, Below K.heap.size K u → Calls Tryz.prog 8 #[] u fun e w' => e = .returned (.bool true) ∧ Below u.heap.size u w') := fun u hu => CL.out u (bel_step HK.out hu)
      have HXX : Hid (∀ u, Below K.heap.size K u → u.heap[w.heap.size]? = some (nmO x)) := fun u hu => (hu.block _ (lt_of HXK.out)).trans HXK.out
      have HM1 : Hid ((defM L x).length ≤ 1000) := by have := defM_len L x; show _ ≤ _; rw [hkl.out] at this; omega
      have HM2 : Hid ((remM L x).length ≤ 1000) := by have := remM_len L x; show _ ≤ _; rw [hkl.out] at this; omega
      have HM3 : Hid ((drpK x.s L).length ≤ 1000) := by have := drp_len x.s L; show _ ≤ _; rw [hkl.out] at this; omega
      have HKw : Hid (Below w.heap.size w K) := HK.out
      generalize defM L x = M1 at *
      generalize defE L x = E1 at *
      generalize remM L x = M2 at *
      generalize remE L x = E2 at *
      generalize drpK x.s L = M3 at *
      generalize findK ⟨x.s, x.n, ⟨#[]⟩⟩ L = o1 at *
      generalize resK x.s x.n L = o2 at *
      generalize chkN true L = E3 at *
      clear HSL HN HZ HT HRI HSK HKK hkl CL HK HXK
      obtain ⟨xs, xn, xt⟩ := x
      obtain ⟨f1, b1, hf1⟩ : ∃ y b, fnd o1 = (y, b) := ⟨_, _, rfl⟩
      obtain ⟨f2, b2, hf2⟩ : ∃ y b, fnd o2 = (y, b) := ⟨_, _, rfl⟩
      have HF1 : Hid (fndV o1 = .tuple #[nmV f1, .bool b1]) := by show fndV o1 = _; unfold fndV; rw [hf1]
      have HF2 : Hid (fndV o2 = .tuple #[nmV f2, .bool b2]) := by show fndV o2 = _; unfold fndV; rw [hf2]
      clear hf1 hf2
      rw [HF1.out] at HCF HCG
      rw [HF2.out] at HCH HCI
      clear HF1 HF2
      have NE := fun y W => nrun_eq y W
      have HR : Hid (RWN K K []) := ⟨Below.refl _ _, fun y hy => absurd hy List.not_mem_nil⟩
      have RX : Hid _ := nload (HXX.out K (Below.refl _ _))
      clear HBz HX
      go_wp2_with (first
        | (refine nl_bslice rfl 22 0 _ rfl _ _ _ (by go_simp) RZ.out ?_; clear RZ)
        | (at_builtin; refine nl_append rfl _ _ 22 22 rfl _ _ _ _ rfl rfl RA.out ?_; clear RA)
        | (refine nl_load rfl 24 _ rfl _ _ rfl RX.out ?_; clear RX)
        | (go_at_call 10; refine (HCD.out _ HR.out.b).mono ?_; clear HCD; rintro e w2 ⟨⟨va, rfl, ho⟩, hb⟩; obtain ⟨qa, da, rfl, _⟩ := ho.slc; have HR2 : Hid (RWN K w2 [(.slice qa M1.length da, M1)]) := HR.out.more hb ho; clear HR ho hb; have RX : Hid _ := nload (HXX.out w2 HR2.out.b))
        | (go_at_call 11; refine (HCE.out _ HR2.out.b).mono ?_; clear HCE; rintro e w3 ⟨⟨vb, rfl, ho⟩, hb⟩; obtain ⟨qb, db, rfl, _⟩ := ho.slc; have HR3 : Hid (RWN K w3 [(.slice qb M1.length db, M1), (.slice qa M1.length da, M1)]) := HR2.out.more hb ho; clear HR2 ho hb; have hc3 := n_cells (HXX.out w3 HR3.out.b))
        | (go_at_call 12; refine (HCR.out _ HR3.out.b).mono ?_; clear HCR hc3; rintro e w4 ⟨⟨vc, rfl, ho⟩, hb⟩; obtain ⟨qc, dc, rfl, _⟩ := ho.slc; have HR4 : Hid (RWN K w4 [(.slice qc M2.length dc, M2), (.slice qb M1.length db, M1), (.slice qa M1.length da, M1)]) := HR3.out.more hb ho; clear HR3 ho hb; have hc4 := n_cells (HXX.out w4 HR4.out.b))
        | (go_at_call 13; refine (HCS.out _ HR4.out.b).mono ?_; clear HCS hc4; rintro e w5 ⟨⟨vd, rfl, ho⟩, hb⟩; obtain ⟨qd, dd, rfl, _⟩ := ho.slc; have HR5 : Hid (RWN K w5 [(.slice qd M2.length dd, M2), (.slice qc M2.length dc, M2), (.slice qb M1.length db, M1), (.slice qa M1.length da, M1)]) := HR4.out.more hb ho; clear HR4 ho hb; have hc5 := n_cells (HXX.out w5 HR5.out.b))
        | (go_at_call 14; refine (HCY.out _ HR5.out.b).mono ?_; clear HCY hc5; rintro e w6 ⟨vy, rfl, ho, hb⟩; obtain ⟨qy, dy, rfl, _⟩ := ho.slc; have HR6 : Hid (RWN K w6 [(.slice qy M3.length dy, M3), (.slice qd M2.length dd, M2), (.slice qc M2.length dc, M2), (.slice qb M1.length db, M1), (.slice qa M1.length da, M1)]) := HR5.out.more hb ho; clear HR5 ho hb
           have CS1 : Calls Tryz.prog 15 #[.slice qa M1.length da, .slice qb M1.length db] w6 fun e w' => e = .returned (.bool true) ∧ Hid (RWN K w' [(.slice qy M3.length dy, M3), (.slice qd M2.length dd, M2), (.slice qc M2.length dc, M2), (.slice qb M1.length db, M1), (.slice qa M1.length da, M1)]) := (nsame_any M1 HM1.out w6 qa qb M1.length da M1.length db (OwnM.rds (HR6.out.r (.slice qa M1.length da, M1) (by simp))) (OwnM.rds (HR6.out.r (.slice qb M1.length db, M1) (by simp)))).mono (fun e w' hh => ⟨hh.1, HR6.out.below hh.2⟩))
        | (go_at_call_of 15 qa; refine CS1.mono ?_; clear CS1 HR6; rintro e w7 ⟨rfl, HR7⟩
           have CS2 : Calls Tryz.prog 15 #[.slice qc M2.length dc, .slice qd M2.length dd] w7 fun e w' => e = .returned (.bool true) ∧ Hid (RWN K w' [(.slice qy M3.length dy, M3), (.slice qd M2.length dd, M2), (.slice qc M2.length dc, M2), (.slice qb M1.length db, M1), (.slice qa M1.length da, M1)]) := (nsame_any M2 HM2.out w7 qc qd M2.length dc M2.length dd (OwnM.rds (HR7.out.r (.slice qc M2.length dc, M2) (by simp))) (OwnM.rds (HR7.out.r (.slice qd M2.length dd, M2) (by simp)))).mono (fun e w' hh => ⟨hh.1, HR7.out.below hh.2⟩))
        | (go_at_call_of 15 qc; refine CS2.mono ?_; clear CS2 HR7; rintro e w8 ⟨rfl, HR8⟩; have hc8 := n_cells (HXX.out w8 HR8.out.b))
        | (go_at_call 16; refine (HCW.out _ HR8.out.b).mono ?_; clear HCW hc8; rintro e w9 ⟨vz, rfl, ho, hb⟩; obtain ⟨qz, dz, rfl, _⟩ := ho.slc; have HR9 : Hid (RWN K w9 [(.slice qz M3.length dz, M3), (.slice qy M3.length dy, M3), (.slice qd M2.length dd, M2), (.slice qc M2.length dc, M2), (.slice qb M1.length db, M1), (.slice qa M1.length da, M1)]) := HR8.out.more hb ho; clear HR8 ho hb
           have CS3 : Calls Tryz.prog 15 #[.slice qy M3.length dy, .slice qz M3.length dz] w9 fun e w' => e = .returned (.bool true) ∧ Hid (RWN K w' [(.slice qz M3.length dz, M3), (.slice qy M3.length dy, M3), (.slice qd M2.length dd, M2), (.slice qc M2.length dc, M2), (.slice qb M1.length db, M1), (.slice qa M1.length da, M1)]) := (nsame_any M3 HM3.out w9 qy qz M3.length dy M3.length dz (OwnM.rds (HR9.out.r (.slice qy M3.length dy, M3) (by simp))) (OwnM.rds (HR9.out.r (.slice qz M3.length dz, M3) (by simp)))).mono (fun e w' hh => ⟨hh.1, HR9.out.below hh.2⟩))
        | (go_at_call_of 15 qy; refine CS3.mono ?_; clear CS3 HR9; rintro e w10 ⟨rfl, HR10⟩))
      have HWA : Hid (Wr K w10 qa M1.length) := (HR10.out.r (.slice qa M1.length da, M1) (by simp)).wr
      have HWY : Hid (Wr K w10 qy M3.length) := (HR10.out.r (.slice qy M3.length dy, M3) (by simp)).wr
      have HB10 : Hid (Below K.heap.size K w10) := HR10.out.b
      have hl1 := HM1.out
      have hl3 := HM3.out
      clear HR10 HM1 HM2 HM3
      generalize M1.length = l1 at *
      generalize M3.length = l3 at *
      go_loopw [116] (fun i wz => ∃ (k : Nat), k ≤ l1 ∧ i = .int .i64 (k : Nat) ∧ Hid (Below K.heap.size K wz) ∧ Hid (Wr K wz qa l1) ∧ Hid (Wr K wz qy l3)) (fun i _ => l1 - (intOf i).toNat)
      case atStart => exact ⟨0, Nat.zero_le _, rfl, HB10, HWA, HWY⟩
      case round =>
        clear HB10 HWA HWY
        obtain ⟨k2, hk2, rfl, HB2, HWA, HWY⟩ := hrel
        by_cases hlt2 : k2 < l1
        · have hki2 : (k2 : Int) < l1 := by omega
          obtain ⟨a2, u2, rfl, RS2, hb2, hq2⟩ := HWA.out.store HB2.out hlt2
          have RB2 : Hid _ := nbuild0 wr
          have HB3 : Hid _ := hb2
          have HWA2 : Hid _ := hq2 _ _ HWA.out
          have HWY2 : Hid _ := hq2 _ _ HWY.out
          clear hb2 hq2
          go_wp2_with (first
            | (refine nl_build rfl 24 _ rfl _ _ (by go_simp) RB2.out ?_; clear RB2)
            | (refine nl_store rfl 24 _ _ rfl _ _ _ rfl rfl RS2.out ?_; clear RS2))
          go_roundw
          case rel => exact ⟨k2 + 1, by omega, by go_num, HB3, HWA2, HWY2⟩
          case measure => simp [intOf]; omega
        · have hki2 : ¬ (k2 : Int) < l1 := by omega
          clear HWA
          go_wp2
          go_loopw [126] (fun i wz => ∃ (k : Nat), k ≤ l3 ∧ i = .int .i64 (k : Nat) ∧ Hid (Below K.heap.size K wz) ∧ Hid (Wr K wz qy l3)) (fun i _ => l3 - (intOf i).toNat)
          case atStart => exact ⟨0, Nat.zero_le _, rfl, HB2, HWY⟩
          case round =>
            clear HB2 HWY
            obtain ⟨k3, hk3, rfl, HB3, HWY⟩ := hrel
            by_cases hlt3 : k3 < l3
            · have hki3 : (k3 : Int) < l3 := by omega
              obtain ⟨a3, u3, rfl, RS3, hb3, hq3⟩ := HWY.out.store HB3.out hlt3
              have RB3 : Hid _ := nbuild0 wr
              have HB4 : Hid _ := hb3
              have HWY2 : Hid _ := hq3 _ _ HWY.out
              clear hb3 hq3
              go_wp2_with (first
                | (refine nl_build rfl 24 _ rfl _ _ (by go_simp) RB3.out ?_; clear RB3)
                | (refine nl_store rfl 24 _ _ rfl _ _ _ rfl rfl RS3.out ?_; clear RS3))
              go_roundw
              case rel => exact ⟨k3 + 1, by omega, by go_num, HB4, HWY2⟩
              case measure => simp [intOf]; omega
            · have hki3 : ¬ (k3 : Int) < l3 := by omega
              clear HWY
              have hcz := n_cells (HXX.out wr HB3.out)
              have HQ0 : Hid (BQ K wr []) := ⟨HB3.out, fun y hy => absurd hy List.not_mem_nil⟩
              go_wp2_with (first
                | (go_at_call 17; refine (HCF.out _ HQ0.out.b).mono ?_; clear HCF hcz; rintro e w11 ⟨rfl, hb⟩; have RS1 : Hid _ := mbox w11 f1; have HQ1 : Hid (BQ K (w11.alloc (nmO f1)) [(w11.heap.size, f1)]) := (HQ0.out.below hb).more f1; clear HQ0 hb; have hc1 := n_cells (HXX.out _ HQ1.out.b))
                | (refine nl_store rfl 24 _ _ rfl _ _ _ rfl rfl RS1.out ?_; clear RS1)
                | (go_at_call 18; refine (HCG.out _ HQ1.out.b).mono ?_; clear HCG hc1; rintro e w12 ⟨rfl, hb⟩; have RS2 : Hid _ := mbox w12 f1; have HQ2 : Hid (BQ K (w12.alloc (nmO f1)) [(w12.heap.size, f1), (w11.heap.size, f1)]) := (HQ1.out.below hb).more f1; clear HQ1 hb; have hc2 := n_cells (HXX.out _ HQ2.out.b))
                | (refine nl_store rfl 24 _ _ rfl _ _ _ rfl rfl RS2.out ?_; clear RS2)
                | (go_at_call 19; refine (HCH.out _ HQ2.out.b).mono ?_; clear HCH hc2; rintro e w13 ⟨rfl, hb⟩; have RS3 : Hid _ := mbox w13 f2; have HQ3 : Hid (BQ K (w13.alloc (nmO f2)) [(w13.heap.size, f2), (w12.heap.size, f1), (w11.heap.size, f1)]) := (HQ2.out.below hb).more f2; clear HQ2 hb; have hc3 := n_cells (HXX.out _ HQ3.out.b))
                | (refine nl_store rfl 24 _ _ rfl _ _ _ rfl rfl RS3.out ?_; clear RS3)
                | (go_at_call 20; refine (HCI.out _ HQ3.out.b).mono ?_; clear HCI hc3; rintro e w14 ⟨rfl, hb⟩; have RS4 : Hid _ := mbox w14 f2; have HQ4 : Hid (BQ K (w14.alloc (nmO f2)) [(w14.heap.size, f2), (w13.heap.size, f2), (w12.heap.size, f1), (w11.heap.size, f1)]) := (HQ3.out.below hb).more f2; clear HQ3 hb)
                | (refine nl_store rfl 24 _ _ rfl _ _ _ rfl rfl RS4.out ?_; clear RS4)
                | (go_at_call 15; refine (HCM.out _ HQ4.out.b).mono ?_; clear HCM; rintro e w15 ⟨rfl, hb⟩; have HQ5 : Hid (BQ K w15 [(w14.heap.size, f2), (w13.heap.size, f2), (w12.heap.size, f1), (w11.heap.size, f1)]) := HQ4.out.below hb; clear HQ4 hb
                   have RL1 : Hid _ := nload (HQ5.out.x (w11.heap.size, f1) (by simp)); have RL2 : Hid _ := nload (HQ5.out.x (w12.heap.size, f1) (by simp)); have RL3 : Hid _ := nload (HQ5.out.x (w13.heap.size, f2) (by simp)); have RL4 : Hid _ := nload (HQ5.out.x (w14.heap.size, f2) (by simp)); have HB5 : Hid (Below K.heap.size K w15) := HQ5.out.b; clear HQ5)
                | (refine nl_loadg 24 _ rfl _ _ rfl RL1.out (by go_simp) ?_; clear RL1)
                | (refine nl_loadg 24 _ rfl _ _ rfl RL2.out (by go_simp) ?_; clear RL2)
                | (refine nl_loadg 24 _ rfl _ _ rfl RL3.out (by go_simp) ?_; clear RL3)
                | (refine nl_loadg 24 _ rfl _ _ rfl RL4.out (by go_simp) ?_; clear RL4)
                | (go_at_call 21; refine (HCJ.out _ HB5.out).mono ?_; clear HCJ; rintro e w16 ⟨rfl, hb⟩; have HB6 : Hid (Below K.heap.size K w16) := bel_step HB5.out hb; clear HB5 hb)
                | (go_at_call 22; refine (HCL.out _ HB6.out).mono ?_; clear HCL; rintro e w17 ⟨rfl, hb⟩; have HB7 : Hid (Below K.heap.size K w17) := bel_step HB6.out hb; clear HB6 hb)
                | (go_at_call 8; refine (HCN.out _ HB7.out).mono ?_; clear HCN; rintro e w18 ⟨rfl, hb⟩; have HB8 : Hid (Below w.heap.size w w18) := bel_step HKw.out (bel_step HB7.out hb); clear HB7 hb))
              go_ret
              exact ⟨rfl, HB8.out⟩
theorem chg_big (L : List NM) (hn : 100 < L.length) (x : NM) (w : World) (T : Tab9 w) (p : Option Addr) (m c : Nat) (h : Rds w p m L) :
    Calls Tryz.prog 3 #[.slice p m c, nmV x] w fun e w' => e = .returned (.bool true) ∧ Below w.heap.size w w' := by
  have HB0 : Below w.heap.size w (w.alloc (nmO x)) := bel_alloc (Below.refl _ _) _
  have C := nlives_any _ (T.below HB0)
  have hmi : (100 : Int) < m := by have := h.1; omega
  have HBh : Hid _ := HB0
  clear h hn T HB0
  go_enter Tryz.func3, Tryz.ntmps3
  go_wp2_with (go_at_call 8; refine C.mono ?_; rintro e w1 ⟨rfl, hb⟩; have HB : Hid _ := bel_step HBh.out hb; clear hb)
  go_ret
  exact ⟨rfl, HB.out⟩
theorem chg_walk {L : List NM} {x : NM} {w : World} (T : Tab9 w) {p : Option Addr} {m c : Nat} (h : Slc w p m c L) (hz : ∀ z ∈ L, ZN z) (hx : ZN x) :
    Calls Tryz.prog 3 #[.slice p m c, nmV x] w fun e w' => e = .returned (.bool true) ∧ Below w.heap.size w w' := by
  by_cases hn : 100 < L.length
  · exact chg_big L hn x w T p m c h.r
  · exact chg_small L (by omega) hz x hx w T p m c h
end Go.Proofs.YtlndkjcincflpaaGreatDoor
