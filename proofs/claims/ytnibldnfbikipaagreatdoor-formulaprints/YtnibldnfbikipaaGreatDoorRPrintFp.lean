/- RPrint2, RPrint3, RPrint. -/
import Derived.Test.YtnibldnfbikipaaGreatDoorRPrint1Fp
set_option linter.unusedVariables false
set_option linter.unusedSimpArgs false
set_option maxHeartbeats 16000000
set_option maxRecDepth 100000
namespace Go.Proofs.YtnibldnfbikipaaGreatDoor
open Go.RowKit Go.Fm
section
variable {a : Lab} {ad : Addr} {c : Nat} {w : World} {es es1 : Array Value} {R R1 : ByteArray}
theorem rp_minus (hk : a.k = 5) (h1 : (a.s.toList == [45]) = true) (RL : ∀ u, Below w.heap.size w u → Hid ((Instr.loadAt 67 (.pointer (some (ad.add (0 * 18))))).run Tryz.prog u = .ok (.agg es) u))
  (Q : ∀ u, Below w.heap.size w u → Calls Tryz.prog 140 #[.agg es, .int .i64 6, .bool false] u fun e w' => e = .returned (.string R) ∧ Below u.heap.size u w') (hR : R.size ≤ 1000000000) :
  Calls Tryz.prog 90 #[.agg (lcs a (.slice (some ad) 1 c))] w fun e w' => e = .returned (.string (⟨#[45]⟩ ++ R)) ∧ Below w.heap.size w w' := by
 have H0 := heap_alloc_new w (.cells (lcs a (.slice (some ad) 1 c)) 67)
 obtain ⟨c0, c1, _⟩ := box_all H0
 have c17 := cell17 H0
 have HB : Hid (Below w.heap.size w (w.alloc (.cells (lcs a (.slice (some ad) 1 c)) 67))) := bel_alloc (Below.refl _ _) _
 have RL0 := RL _ HB.out
 have Q' := Q _ HB.out
 rw [hk] at c0
 have n1 : ¬ 9223372036854775807 < 1 + R.size := by omega
 clear H0 hk Q hR RL
 generalize lcs a (.slice (some ad) 1 c) = bx at *
 generalize a.s = S at *
 go_enter Tryz.func90, Tryz.ntmps90
 go_wp2_with (first
  | (refine wpList_load_run rfl 67 _ rfl _ _ rfl RL0.out ?_; clear RL0)
  | (go_at_call 140; refine Q'.mono ?_; rintro e w1 ⟨rfl, hb⟩; have HB1 : Hid (Below w.heap.size w w1) := bel_step HB.out hb; clear hb))
 go_ret
 exact ⟨rfl, HB1.out⟩
theorem rp_pct (hk : a.k = 5) (h1 : (a.s.toList == [45]) = false) (RL : ∀ u, Below w.heap.size w u → Hid ((Instr.loadAt 67 (.pointer (some (ad.add (0 * 18))))).run Tryz.prog u = .ok (.agg es) u))
  (Q : ∀ u, Below w.heap.size w u → Calls Tryz.prog 140 #[.agg es, .int .i64 7, .bool false] u fun e w' => e = .returned (.string R) ∧ Below u.heap.size u w') (hR : R.size ≤ 1000000000) :
  Calls Tryz.prog 90 #[.agg (lcs a (.slice (some ad) 1 c))] w fun e w' => e = .returned (.string (R ++ ⟨#[37]⟩)) ∧ Below w.heap.size w w' := by
 have H0 := heap_alloc_new w (.cells (lcs a (.slice (some ad) 1 c)) 67)
 obtain ⟨c0, c1, _⟩ := box_all H0
 have c17 := cell17 H0
 have HB : Hid (Below w.heap.size w (w.alloc (.cells (lcs a (.slice (some ad) 1 c)) 67))) := bel_alloc (Below.refl _ _) _
 have RL0 := RL _ HB.out
 have Q' := Q _ HB.out
 rw [hk] at c0
 have n1 : ¬ 9223372036854775807 < R.size + 1 := by omega
 clear H0 hk Q hR RL
 generalize lcs a (.slice (some ad) 1 c) = bx at *
 generalize a.s = S at *
 go_enter Tryz.func90, Tryz.ntmps90
 go_wp2_with (first
  | (refine wpList_load_run rfl 67 _ rfl _ _ rfl RL0.out ?_; clear RL0)
  | (go_at_call 140; refine Q'.mono ?_; rintro e w1 ⟨rfl, hb⟩; have HB1 : Hid (Below w.heap.size w w1) := bel_step HB.out hb; clear hb))
 go_ret
 exact ⟨rfl, HB1.out⟩
theorem rp_bin (hk : a.k = 6) (RL : ∀ u, Below w.heap.size w u → Hid ((Instr.loadAt 67 (.pointer (some (ad.add (0 * 18))))).run Tryz.prog u = .ok (.agg es) u)) (RM : ∀ u, Below w.heap.size w u → Hid ((Instr.loadAt 67 (.pointer (some (ad.add (1 * 18))))).run Tryz.prog u = .ok (.agg es1) u))
  (Q : ∀ u, Below w.heap.size w u → Calls Tryz.prog 140 #[.agg es, .int .i64 (strn a.s.toList : Nat), .bool false] u fun e w' => e = .returned (.string R) ∧ Below u.heap.size u w') (Q1 : ∀ u, Below w.heap.size w u → Calls Tryz.prog 140 #[.agg es1, .int .i64 (strn a.s.toList : Nat), .bool true] u fun e w' => e = .returned (.string R1) ∧ Below u.heap.size u w')
  (hR : R.size ≤ 1000000000) (hR1 : R1.size ≤ 1000000000) (hS : a.s.size ≤ 1000000000) :
  Calls Tryz.prog 90 #[.agg (lcs a (.slice (some ad) 2 c))] w fun e w' => e = .returned (.string (R ++ a.s ++ R1)) ∧ Below w.heap.size w w' := by
 have H0 := heap_alloc_new w (.cells (lcs a (.slice (some ad) 2 c)) 67)
 obtain ⟨c0, c1, _⟩ := box_all H0
 have HB : Hid (Below w.heap.size w (w.alloc (.cells (lcs a (.slice (some ad) 2 c)) 67))) := bel_alloc (Below.refl _ _) _
 have SS : Hid (∀ u, Below (w.alloc (.cells (lcs a (.slice (some ad) 2 c)) 67)).heap.size (w.alloc (.cells (lcs a (.slice (some ad) 2 c)) 67)) u → (u.cell? ⟨w.heap.size, 1, none⟩ = some (.string a.s) ∧ u.cell? ⟨w.heap.size, 17, none⟩ = some (.slice (some ad) 2 c)) ∧ (Instr.loadAt 67 (.pointer (some (ad.add (0 * 18))))).run Tryz.prog u = .ok (.agg es) u ∧ (Instr.loadAt 67 (.pointer (some (ad.add (1 * 18))))).run Tryz.prog u = .ok (.agg es1) u) := fun u hu => by
  have hk := (hu.block _ (lt_of H0)).trans H0
  exact ⟨⟨(box_all hk).2.1, cell17 hk⟩, (RL u (bel_step HB.out hu)).out, (RM u (bel_step HB.out hu)).out⟩
 have ST : ∀ u, Calls Tryz.prog 141 #[.string a.s] u fun e w' => e = .returned (.int .i64 (strn a.s.toList : Nat)) ∧ w' = u := fun u => by
  have := rstrength_any a.s.toList u
  rw [show ba a.s.toList = a.s by rw [ByteArray.toList_eq]] at this
  exact this
 have CQ : Hid (∀ u, Below (w.alloc (.cells (lcs a (.slice (some ad) 2 c)) 67)).heap.size (w.alloc (.cells (lcs a (.slice (some ad) 2 c)) 67)) u → Calls Tryz.prog 140 #[.agg es, .int .i64 (strn a.s.toList : Nat), .bool false] u fun e w' => e = .returned (.string R) ∧ Below u.heap.size u w') := fun u hu => Q u (bel_step HB.out hu)
 have CQ1 : Hid (∀ u, Below (w.alloc (.cells (lcs a (.slice (some ad) 2 c)) 67)).heap.size (w.alloc (.cells (lcs a (.slice (some ad) 2 c)) 67)) u → Calls Tryz.prog 140 #[.agg es1, .int .i64 (strn a.s.toList : Nat), .bool true] u fun e w' => e = .returned (.string R1) ∧ Below u.heap.size u w') := fun u hu => Q1 u (bel_step HB.out hu)
 rw [hk] at c0
 obtain ⟨X, hX⟩ : ∃ X, R ++ a.s = X := ⟨_, rfl⟩
 have hXz : X.size = R.size + a.s.size := by rw [← hX]; simp
 rw [hX]
 have n1 : ¬ 9223372036854775807 < R.size + a.s.size := by omega
 have n2 : ¬ 9223372036854775807 < X.size + R1.size := by omega
 clear H0 hk Q Q1 hR hR1 hS RL RM hXz
 generalize lcs a (.slice (some ad) 2 c) = bx at *
 generalize a.s = S at *
 generalize ((strn S.toList : Nat) : Int) = K at *
 obtain ⟨W, hW⟩ : ∃ W, w.alloc (.cells bx 67) = W := ⟨_, rfl⟩
 rw [hW] at c0 c1 HB SS CQ CQ1
 go_enter Tryz.func90, Tryz.ntmps90
 go_wp2_with (first
  | (go_at_call 141; refine (ST _).mono ?_; rintro e w' ⟨rfl, hw⟩; obtain rfl := hw.symm; clear hw))
 refine wp_region_d (fun u => (u.cell? ⟨w.heap.size, 1, none⟩ = some (.string S) ∧ u.cell? ⟨w.heap.size, 17, none⟩ = some (.slice (some ad) 2 c)) ∧ (Instr.loadAt 67 (.pointer (some (ad.add (0 * 18))))).run Tryz.prog u = .ok (.agg es) u ∧ (Instr.loadAt 67 (.pointer (some (ad.add (1 * 18))))).run Tryz.prog u = .ok (.agg es1) u) (fun _ => false) (by kernel_rfl) ?_
 have HW : Hid (Below W.heap.size W W.drew) := (Below.refl _ _).drew
 refine dwp 0 (.pointer (some ⟨w.heap.size, 17, none⟩)) (h := ?_)
 refine wpAnyD_loadd (i := 1) (v := .slice (some ad) 2 c) rfl rfl (by kernel_rfl) (by kernel_rfl) (by kernel_rfl) (by kernel_rfl) (fun _ _ _ h => h) (by go_simp) (fun u hSu => by have h1 := hSu.1.2; go_simp) (SS.out _ HW.out) ?_
 try simp only [Act.put, List.setIfInBounds_toArray, List.set_cons_zero, List.set_cons_succ]
 refine dwp 2 (.pointer (some (ad.add (0 * 18)))) (h := ?_)
 refine wpAnyD_loadd (i := 3) (v := .agg es) rfl rfl (by kernel_rfl) (by kernel_rfl) (by kernel_rfl) (by kernel_rfl) (fun _ _ _ h => h) (by go_simp) (fun u hSu => exec_load_run rfl rfl hSu.2.1) (SS.out _ HW.out) ?_
 try simp only [Act.put, List.setIfInBounds_toArray, List.set_cons_zero, List.set_cons_succ]
 refine dwp 4 (.int .i64 K) (h := ?_)
 refine dwp 6 (.pointer (some ⟨w.heap.size, 1, none⟩)) (h := ?_)
 refine wpAnyD_loadd (i := 7) (v := .string S) rfl rfl (by kernel_rfl) (by kernel_rfl) (by kernel_rfl) (by kernel_rfl) (fun _ _ _ h => h) (by go_simp) (fun u hSu => by have h1 := hSu.1.1; go_simp) (SS.out _ HW.out) ?_
 try simp only [Act.put, List.setIfInBounds_toArray, List.set_cons_zero, List.set_cons_succ]
 refine dwp 9 (.pointer (some ⟨w.heap.size, 17, none⟩)) (h := ?_)
 refine wpAnyD_loadd (i := 10) (v := .slice (some ad) 2 c) rfl rfl (by kernel_rfl) (by kernel_rfl) (by kernel_rfl) (by kernel_rfl) (fun _ _ _ h => h) (by go_simp) (fun u hSu => by have h1 := hSu.1.2; go_simp) (SS.out _ HW.out) ?_
 try simp only [Act.put, List.setIfInBounds_toArray, List.set_cons_zero, List.set_cons_succ]
 refine dwp 11 (.pointer (some (ad.add (1 * 18)))) (h := ?_)
 refine wpAnyD_loadd (i := 12) (v := .agg es1) rfl rfl (by kernel_rfl) (by kernel_rfl) (by kernel_rfl) (by kernel_rfl) (fun _ _ _ h => h) (by go_simp) (fun u hSu => exec_load_run rfl rfl hSu.2.2) (SS.out _ HW.out) ?_
 try simp only [Act.put, List.setIfInBounds_toArray, List.set_cons_zero, List.set_cons_succ]
 refine dwp 13 (.int .i64 K) (h := ?_)
 refine wpAnyD_one (i := 5) (by kernel_rfl) rfl ?_
 intro K' hK
 go_simp
 refine (CQ.out _ HW.out).mono ?_
 rintro e w2 ⟨rfl, hb⟩
 have HW2 : Hid (Below W.heap.size W w2) := bel_step HW.out hb
 clear hb
 refine hK _ _ (.inr fun _ => SS.out _ HW2.out) ?_
 clear hK
 try simp only [Act.put, List.setIfInBounds_toArray, List.set_cons_zero, List.set_cons_succ]
 refine dwp 8 (.string X) (h := ?_)
 refine wpAnyD_one (i := 14) (by kernel_rfl) rfl ?_
 intro K' hK
 go_simp
 refine (CQ1.out _ HW2.out).mono ?_
 rintro e w3 ⟨rfl, hb⟩
 have HW3 : Hid (Below W.heap.size W w3) := bel_step HW2.out hb
 clear hb
 refine hK _ _ (.inr fun _ => SS.out _ HW3.out) ?_
 clear hK
 try simp only [Act.put, List.setIfInBounds_toArray, List.set_cons_zero, List.set_cons_succ]
 refine dwp 15 (.string (X ++ R1)) (h := ?_)
 refine dwp 16 (.string (X ++ R1)) (h := ?_)
 refine wpAnyD_done (by kernel_rfl) ?_ _
 go_wp2
 go_ret
 exact ⟨rfl, bel_step HB.out HW3.out⟩
end
theorem flK_app (L M : List Tk.Tok) : flK (L ++ M) = flK L ++ flK M := by unfold flK; rw [List.flatMap_append]
theorem flK_op (s : List UInt8) (L : List Tk.Tok) : flK (Tk.Tok.op s :: L) = s ++ flK L := by unfold flK; rw [List.flatMap_cons]; rfl
theorem rp_call {a : Lab} {p : Option Addr} {n c : Nat} {w : World} {f : F} {m : Nat} (hk : a.k = 7) (hs : SF w p n f) (hn : n ≤ 1000) (hS : a.s.size ≤ 1000) (hm : m ≤ 100000000) (hl : ∀ k, k ≤ n → lnK (argsK (kids f) k) ≤ m)
    (Q : ∀ s ∈ kids f, ∀ (u : World) (es : Array Value), Below w.heap.size w u → NT u es s → Calls Tryz.prog 90 #[.agg es] u fun e w' => e = .returned (.string (ba (flK (tkT s)))) ∧ Below u.heap.size u w') :
    Calls Tryz.prog 90 #[.agg (lcs a (.slice p n c))] w fun e w' => e = .returned (.string (a.s ++ ⟨#[40]⟩ ++ ba (flK (argsK (kids f) n)) ++ ⟨#[41]⟩)) ∧ Below w.heap.size w w' := by
  have H0 := heap_alloc_new w (.cells (lcs a (.slice p n c)) 67)
  obtain ⟨c0, c1, _⟩ := box_all H0
  have c17 := cell17 H0
  have HB0 : Hid (Below w.heap.size w (w.alloc (.cells (lcs a (.slice p n c)) 67))) := bel_alloc (Below.refl _ _) _
  have HSF : Hid (SF w p n f) := hs
  have HQ : Hid (∀ s ∈ kids f, ∀ (u : World) (es : Array Value), Below w.heap.size w u → NT u es s → Calls Tryz.prog 90 #[.agg es] u fun e w' => e = .returned (.string (ba (flK (tkT s)))) ∧ Below u.heap.size u w') := Q
  have HN : Hid (n = (kids f).length) := hs.1
  have HM : Hid (∀ k, k ≤ n → (ba (flK (argsK (kids f) k))).size ≤ m) := fun k hk => by rw [size_mk, flK_len]; exact hl k hk
  rw [hk] at c0
  obtain ⟨X, hX⟩ : ∃ X, a.s ++ (⟨#[40]⟩ : ByteArray) = X := ⟨_, rfl⟩
  have hXz : X.size ≤ 1001 := by rw [← hX]; have : (a.s ++ (⟨#[40]⟩ : ByteArray)).size = a.s.size + 1 := (by simp; rfl)
                                 omega
  rw [hX]
  have n1 : ¬ 9223372036854775807 < a.s.size + 1 := by omega
  have HX0 : Hid (X ++ ba (flK (argsK (kids f) 0)) = X) := by
    show _ = _
    rw [show argsK (kids f) 0 = [] from rfl, show flK [] = [] from rfl]
    exact ByteArray.append_empty
  clear H0 hk hs Q hl
  generalize lcs a (.slice p n c) = bx at *
  generalize a.s = S at *
  go_enter Tryz.func90, Tryz.ntmps90
  go_wp2
  go_loopw [4, 94] (fun s i wr => ∃ k : Nat, k ≤ n ∧ i = .int .i64 (k : Nat) ∧ s = .string (X ++ ba (flK (argsK (kids f) k))) ∧ Hid (Below w.heap.size w wr)) (fun _ i _ => n - (intOf i).toNat)
  case atStart => exact ⟨0, Nat.zero_le _, rfl, by rw [HX0.out], HB0⟩
  case round =>
    obtain ⟨k, hk, rfl, rfl, HB⟩ := hrel
    have hA := HM.out k hk
    obtain ⟨A, hA2⟩ : ∃ A, X ++ ba (flK (argsK (kids f) k)) = A := ⟨_, rfl⟩
    have hAz : A.size ≤ 1001 + m := by rw [← hA2]; have : (X ++ ba (flK (argsK (kids f) k))).size = X.size + (ba (flK (argsK (kids f) k))).size := (by simp)
                                       omega
    by_cases hlt : k < n
    · have hki : (k : Int) < n := by omega
      obtain ⟨a', es, s, rfl, RL, HI, RS, RL2, HNT, HMm⟩ := HSF.out.step HB.out hlt
      have C := HQ.out s HMm.out _ _ (bel_alloc HB.out (.cells es 67)) HNT.out
      have hE := HM.out (k + 1) (by omega)
      have hkl : k < (kids f).length := by have := HN.out; omega
      have hsk : (kids f)[k] = s := by have := HI.out; rw [List.getElem?_eq_getElem hkl] at this; exact Option.some.inj this
      obtain ⟨E, hEe⟩ : ∃ E, ba (flK (tkT s)) = E := ⟨_, rfl⟩
      rw [hEe] at C
      by_cases h0 : k = 0
      · have HA : Hid (X ++ ba (flK (argsK (kids f) (k + 1))) = A ++ E) := by
          show _ = _
          subst h0
          rw [argsK_one _ hkl, hsk, hEe, ← hA2, HX0.out]
        have hg : ¬ (0 : Int) < (k : Int) := by omega
        have hEz : E.size ≤ m := by
          rw [← hEe]
          subst h0
          rw [argsK_one _ hkl, hsk] at hE
          exact hE
        have n2 : ¬ 9223372036854775807 < A.size + E.size := by omega
        have HK0 : Hid (k = 0) := h0
        rw [hA2]
        clear h0 hA hA2 hAz hE hEz hEe hsk hkl HI
        go_wp2_with (first
          | (refine wpList_load_run rfl 67 _ rfl _ _ rfl RL.out ?_; clear RL)
          | (refine wpList_store_run rfl 67 _ _ rfl _ _ _ rfl rfl RS.out ?_; clear RS)
          | (refine wpList_load_run rfl 67 _ rfl _ _ rfl RL2.out ?_; clear RL2)
          | (go_at_call 90; refine C.mono ?_; rintro e w2 ⟨rfl, hs⟩; have HU2 : Hid (Below w.heap.size w w2) := bel_step (bel_alloc HB.out _) hs; clear hs))
        go_roundw
        case rel => exact ⟨k + 1, by omega, by go_num, by rw [HA.out], HU2⟩
        case measure => simp [intOf]; omega
      · obtain ⟨B, hB⟩ : ∃ B, A ++ (⟨#[44]⟩ : ByteArray) = B := ⟨_, rfl⟩
        have hBz : B.size = A.size + 1 := by rw [← hB]; simp; rfl
        have HA : Hid (X ++ ba (flK (argsK (kids f) (k + 1))) = B ++ E) := by
          show _ = _
          rw [argsK_succ _ _ hkl h0, hsk, flK_app, flK_op, ← hB, ← hA2, ← hEe]
          show _ = X ++ ba _ ++ ba [44] ++ ba _
          rw [ByteArray.append_assoc, ByteArray.append_assoc, ba_app, ba_app]
          simp
        have hg : (0 : Int) < (k : Int) := by omega
        have hEz : E.size ≤ m := by
          rw [← hEe, size_mk]
          rw [argsK_succ _ _ hkl h0, hsk, flK_app, flK_op, size_mk, List.length_append, List.length_append] at hE
          omega
        have n2 : ¬ 9223372036854775807 < A.size + 1 := by omega
        have n3 : ¬ 9223372036854775807 < B.size + E.size := by omega
        have HK0 : Hid (k ≠ 0) := h0
        rw [hA2]
        clear h0 hA hA2 hAz hE hEz hEe hsk hkl HI hBz
        go_wp2_with (first
          | (refine wpList_load_run rfl 67 _ rfl _ _ rfl RL.out ?_; clear RL)
          | (refine wpList_store_run rfl 67 _ _ rfl _ _ _ rfl rfl RS.out ?_; clear RS)
          | (refine wpList_load_run rfl 67 _ rfl _ _ rfl RL2.out ?_; clear RL2)
          | (go_at_call 90; refine C.mono ?_; rintro e w2 ⟨rfl, hs⟩; have HU2 : Hid (Below w.heap.size w w2) := bel_step (bel_alloc HB.out _) hs; clear hs))
        go_roundw
        case rel => exact ⟨k + 1, by omega, by go_num, by rw [HA.out], HU2⟩
        case measure => simp [intOf]; omega
    · have hki : ¬ (k : Int) < n := by omega
      have hkn : k = n := by omega
      have HE : Hid (X ++ ba (flK (argsK (kids f) n)) ++ ⟨#[41]⟩ = A ++ ⟨#[41]⟩) := by show _ = _; rw [← hkn, hA2]
      have n2 : ¬ 9223372036854775807 < A.size + 1 := by omega
      rw [hA2]
      clear hkn hA hA2 hAz
      go_wp2
      go_ret
      exact ⟨by rw [HE.out]; rfl, HB.out⟩
theorem rprint_tree : ∀ t : T, ∀ d, gT okL d t = true → zT t ≤ 900 → ∀ (w : World) (es : Array Value), NT w es t → Tab9 w → Calls Tryz.prog 90 #[.agg es] w fun e w' => e = .returned (.string (ba (flK (tkT t)))) ∧ Below w.heap.size w w' := by
  refine ind ?_
  intro t ih d hg hz w es h TT9
  obtain ⟨hok, hkid⟩ := good_split hg
  have hlz := ok_labz hok
  have htk := tkT_eq t
  obtain ⟨p, n, c, rfl, hs⟩ := h
  have hn := hs.1
  have small : ∀ s ∈ kids t.2, lnK (tkT s) ≤ 100000000 := fun s hsm => by
    have h1 := lnK_le (good_toks s _ (hkid s hsm))
    have h2 := tk_len s
    have h3 := zT_kid hsm
    omega
  have IH : ∀ s ∈ kids t.2, ∀ (u : World) (es : Array Value), Below w.heap.size w u → NT u es s → Calls Tryz.prog 90 #[.agg es] u fun e w' => e = .returned (.string (ba (flK (tkT s)))) ∧ Below u.heap.size u w' := fun s hsm u es hu hN => ih s hsm _ (hkid s hsm) (by have := zT_kid hsm; omega) u es hN (TT9.below hu)
  unfold nodeK at htk
  rcases ok_cases hok with ⟨hk, h1⟩ | ⟨hk, h1⟩ | ⟨hk, h1, h2, h3⟩ | ⟨hk, h1, h2⟩ | ⟨hk, h1, h2⟩ | ⟨hk, h1, h2⟩ | ⟨hk, h1, h2⟩
  · rw [if_pos hk] at htk
    rw [htk, flK_one]
    unfold gcB goodF at h1
    unfold constT
    by_cases v2 : t.1.vk = 2
    · rw [if_neg (by omega), if_pos v2]
      refine rp_str hk v2 (fun u => ?_)
      rw [if_neg (by omega), if_neg (by omega), if_neg (by omega), if_neg (by omega), if_pos v2, Bool.and_eq_true] at h1
      have hl : t.1.vs.toList.length ≤ 255 := by rw [← sz_list]; exact of_decide_eq_true h1.2
      have := rquote_any t.1.vs.toList hl u
      rw [show ba t.1.vs.toList = t.1.vs by rw [ByteArray.toList_eq]] at this
      exact this
    · have hv : (t.1.vk == 2) = false := by simpa using v2
      rw [if_neg v2]
      by_cases v1 : t.1.vk = 1
      · rw [if_pos v1]
        refine rp_val hk hv (fun u hu => ?_)
        rw [v1]
        rw [if_neg (by omega), if_pos v1, Bool.and_eq_true, if_neg (by omega), if_pos v1, Bool.and_eq_true] at h1
        have hgd := h1.2.2
        unfold gd at hgd
        simp only [Bool.and_eq_true, decide_eq_true_eq] at hgd
        exact rtext_num t.1.vn t.1.vs u _ (fun u2 hu2 => rprint_any t.1.vn ⟨by omega, by omega⟩ u2)
      · rw [if_neg v1]
        by_cases v3 : t.1.vk = 3
        · rw [if_pos v3]
          refine rp_val hk hv (fun u hu => ?_)
          rw [v3]
          have := rtext_bool t.1.vn t.1.vs u
          have e : txT (Tk.Tok.word [] (textF 3 t.1.vn t.1.vs).toList) = (textF 3 t.1.vn t.1.vs).toList := rfl
          rw [e, show ba (textF 3 t.1.vn t.1.vs).toList = textF 3 t.1.vn t.1.vs by rw [ByteArray.toList_eq]]
          exact this
        · rw [if_neg v3]
          have v0 : t.1.vk ≠ 0 := by
            intro e
            rw [if_pos e] at h1
            cases h1
          rw [if_neg v0, if_neg v1, if_neg v0, if_neg v1, if_neg v2, if_neg v3] at h1
          have v4 : t.1.vk = 4 := by
            by_cases e : t.1.vk = 4
            · exact e
            · rw [if_neg e] at h1; cases h1
          rw [if_pos v4, Bool.and_eq_true] at h1
          refine rp_val hk hv (fun u hu => ?_)
          rw [v4]
          have hkn := h1.2
          have := rtext_bad t.1.vn t.1.vs u
          unfold fnB at this
          rw [if_pos hkn] at this
          unfold knB at hkn
          simp only [Bool.and_eq_true, decide_eq_true_eq] at hkn
          rw [fnm_err _ (by omega)] at this
          exact this
  · rw [if_neg (by omega), if_pos hk] at htk
    rw [htk, flK_one]
    refine rp_ref hk (fun u => ?_)
    have := raprint_any t.1.b1 t.1.h1 t.1.r1 t.1.c1 t.1.fr1 t.1.fc1 hlz.b1 hlz.h1 u
    unfold prB at this
    rw [if_pos h1] at this
    unfold refT at this
    unfold refK
    rw [ByteArray.toList_eq, ByteArray.toList_eq]
    exact this
  · rw [if_neg (by omega), if_neg (by omega), if_pos hk] at htk
    rw [htk]
    refine rp_area hk (fun u => ?_)
    have := rarea_any t.1.b1 t.1.h1 t.1.r1 t.1.c1 t.1.fr1 t.1.fc1 t.1.b2 t.1.h2 t.1.r2 t.1.c2 t.1.fr2 t.1.fc2 hlz.b1 hlz.h1 hlz.b2 hlz.h2 u
    unfold paB at this
    rw [if_pos ⟨h1, h2, h3⟩] at this
    have hb2 : t.1.b2.toList = [] := by
      unfold goodB at h2
      rw [Bool.and_eq_true] at h2
      have h4 := h2.2
      rw [if_pos h3] at h4
      exact of_decide_eq_true h4
    have e : flK [refK t.1.b1 t.1.h1 t.1.r1 t.1.c1 t.1.fr1 t.1.fc1, Tk.Tok.op [58], refK t.1.b2 t.1.h2 t.1.r2 t.1.c2 t.1.fr2 t.1.fc2] = txT (refK t.1.b1 t.1.h1 t.1.r1 t.1.c1 t.1.fr1 t.1.fc1) ++ ([58] ++ txT (refK t.1.b2 t.1.h2 t.1.r2 t.1.c2 t.1.fr2 t.1.fc2)) := by unfold flK; simp; rfl
    have e1 : ba (txT (refK t.1.b1 t.1.h1 t.1.r1 t.1.c1 t.1.fr1 t.1.fc1)) = refT t.1.b1 t.1.h1 t.1.r1.toNat t.1.c1.toNat t.1.fr1 t.1.fc1 := by
      unfold refT refK
      rw [ByteArray.toList_eq, ByteArray.toList_eq]; rfl
    have e2 : ba (txT (refK t.1.b2 t.1.h2 t.1.r2 t.1.c2 t.1.fr2 t.1.fc2)) = cellB t.1.r2.toNat t.1.c2.toNat t.1.fr2 t.1.fc2 := by
      unfold cellB refK
      rw [h3, hb2]
      rfl
    rw [e, ← ba_app, ← ba_app, e1, e2, ← ByteArray.append_assoc]
    exact this
  · rw [if_neg (by omega), if_neg (by omega), if_neg (by omega), if_pos hk] at htk
    rw [htk, flK_one]
    have hs16 : t.1.s.size ≤ 1000 := by rw [sz_list, ByteArray.toList_eq]; have := (gn_parts h1).1; omega
    by_cases he : t.1.b1.toList = []
    · have := rp_name0 (p := p) (n := n) (c := c) (w := w) hk (by rw [he]; rfl)
      have e : txT (Tk.Tok.word t.1.b1.toList t.1.s.toList) = t.1.s.toList := if_pos he
      rw [e, show ba t.1.s.toList = t.1.s by rw [ByteArray.toList_eq]]
      exact this
    · have hb16 : t.1.b1.size ≤ 1000 := by rw [sz_list, ByteArray.toList_eq]; have := (gn_parts (h2.resolve_left he)).1; omega
      have := rp_name1 (p := p) (n := n) (c := c) (w := w) hk (by cases hx : t.1.b1.toList with
        | nil => exact absurd hx he
        | cons _ _ => rfl) hb16 hs16
      have e : txT (Tk.Tok.word t.1.b1.toList t.1.s.toList) = 91 :: (t.1.b1.toList ++ 93 :: t.1.s.toList) := if_neg he
      have e2 : ba (91 :: (t.1.b1.toList ++ 93 :: t.1.s.toList)) = (⟨#[91]⟩ : ByteArray) ++ t.1.b1 ++ ⟨#[93]⟩ ++ t.1.s := by
        have a1 : t.1.b1 = ba t.1.b1.toList := by rw [ByteArray.toList_eq]
        have a2 : t.1.s = ba t.1.s.toList := by rw [ByteArray.toList_eq]
        conv => rhs; rw [a1, a2]
        show _ = ba [91] ++ ba _ ++ ba [93] ++ ba _
        rw [ba_app, ba_app, ba_app]
        simp
      rw [e, e2]
      exact this
  · obtain ⟨s, hks⟩ := List.length_eq_one_iff.1 h1
    have hm : s ∈ kids t.2 := by rw [hks]; simp
    have hA : argK (tksF t.2) 0 = (holdN s.1, tkT s) := argK_kid (by rw [hks]; rfl)
    rw [if_neg (by omega), if_neg (by omega), if_neg (by omega), if_neg (by omega), if_pos hk, hA] at htk
    have hn1 : n = 1 := by rw [hn, hks]; rfl
    subst hn1
    obtain ⟨ad, es, s', rfl, RL, hI, hN⟩ := hs.kid 0 (by omega)
    have hs' : s' = s := by rw [hks] at hI; exact (Option.some.inj hI).symm
    subst hs'
    have wsz : ∀ lv, (ba (flK (wrapK (holdN s'.1, tkT s') lv))).size ≤ 1000000000 := fun lv => by
      rw [size_mk, flK_len]
      have h3 := cost_le lv s'
      unfold cost at h3
      have := small s' hm
      omega
    by_cases hm45 : t.1.s.toList = [45]
    · rw [if_pos hm45] at htk
      rw [htk, flK_op, ← ba_app]
      exact rp_minus hk (by rw [hm45]; rfl) RL (fun u hu => under_any (hkid s' hm) (hN.below hu) (small s' hm) (much := 6) (side := false) (by omega) (fun h => by cases h) (by omega) (fun u2 es2 hb2 hn2 => IH s' hm u2 es2 (bel_step hu hb2) hn2)) (wsz 6)
    · rw [if_neg hm45] at htk
      rw [htk, flK_app, ← ba_app]
      exact rp_pct hk (by simpa using hm45) RL (fun u hu => under_any (hkid s' hm) (hN.below hu) (small s' hm) (much := 7) (side := false) (by omega) (fun h => by cases h) (by omega) (fun u2 es2 hb2 hn2 => IH s' hm u2 es2 (bel_step hu hb2) hn2)) (wsz 7)
  · obtain ⟨x, y, hks⟩ := two_of h1
    have hmx : x ∈ kids t.2 := by rw [hks]; simp
    have hmy : y ∈ kids t.2 := by rw [hks]; simp
    have hA : argK (tksF t.2) 0 = (holdN x.1, tkT x) := argK_kid (by rw [hks]; rfl)
    have hA1 : argK (tksF t.2) 1 = (holdN y.1, tkT y) := argK_kid (by rw [hks]; rfl)
    rw [if_neg (by omega), if_neg (by omega), if_neg (by omega), if_neg (by omega), if_neg (by omega), if_pos hk, hA, hA1] at htk
    have hn2 : n = 2 := by rw [hn, hks]; rfl
    subst hn2
    obtain ⟨ad, es, x', rfl, RL, hI, hN⟩ := hs.kid 0 (by omega)
    obtain ⟨ad2, es1, y', e2, RM, hI1, hN1⟩ := hs.kid 1 (by omega)
    cases e2
    have hx' : x' = x := by rw [hks] at hI; exact (Option.some.inj hI).symm
    have hy' : y' = y := by rw [hks] at hI1; exact (Option.some.inj hI1).symm
    subst hx' hy'
    have h5 := Go.Fm.strn_le t.1.s.toList
    have wsz : ∀ s ∈ kids t.2, ∀ lv, (ba (flK (wrapK (holdN s.1, tkT s) lv))).size ≤ 1000000000 := fun s hsm lv => by
      rw [size_mk, flK_len]
      have h3 := cost_le lv s
      unfold cost at h3
      have := small s hsm
      omega
    have hSz : t.1.s.size ≤ 1000000000 := by
      rw [sz_list]
      rcases strn_cases t.1.s.toList with e | e
      · rcases e with e | e | e | e | e | e | e | e | e | e | e | e <;> rw [e] <;> decide
      · exact absurd e.1 h2
    have hbin := rp_bin (c := c) hk RL RM (fun u hu => under_any (hkid x' hmx) (hN.below hu) (small x' hmx) (much := strn t.1.s.toList) (side := false) (by omega) (fun h => by cases h) (by omega) (fun u2 es2 hb2 hn2 => IH x' hmx u2 es2 (bel_step hu hb2) hn2)) (fun u hu => under_any (hkid y' hmy) (hN1.below hu) (small y' hmy) (much := strn t.1.s.toList) (side := true) (by omega) (fun _ => h5) (by omega) (fun u2 es2 hb2 hn2 => IH y' hmy u2 es2 (bel_step hu hb2) hn2)) (wsz x' hmx _) (wsz y' hmy _) hSz
    have e : ba (flK (tkT t)) = ba (flK (wrapK (holdN x'.1, tkT x') (strn t.1.s.toList))) ++ t.1.s ++ ba (flK (wrapK (holdN y'.1, tkT y') (strn t.1.s.toList + 1))) := by
      have a2 : t.1.s = ba t.1.s.toList := by rw [ByteArray.toList_eq]
      rw [htk, flK_app, flK_op, ← ba_app, ← ba_app, ← a2, ByteArray.append_assoc]
    rw [e]
    exact hbin
  · rw [if_neg (by omega), if_neg (by omega), if_neg (by omega), if_neg (by omega), if_neg (by omega), if_neg (by omega), if_pos hk, tks_kids, List.map_map] at htk
    have hs1000 : t.1.s.size ≤ 1000 := by
      unfold gfB at h2
      rw [Bool.and_eq_true, Bool.or_eq_true] at h2
      have hS : t.1.s.toList = upF t.1.s.toList := by
        have := bytes_eq h2.1
        unfold upF
        rw [ByteArray.toList_eq]
        have h9 := congrArg (fun b : ByteArray => b.data.toList) this
        exact h9
      rcases h2.2 with hgn | hgn
      · rw [sz_list, ByteArray.toList_eq]; have := (gn_parts hgn).1; omega
      · have ht : trB t.1.s.toList = true := by
          unfold trB
          rw [show ba t.1.s.toList = t.1.s by rw [ByteArray.toList_eq]]
          unfold typedF at hgn
          split at hgn
          · cases hgn
          split at hgn
          · cases hgn
          split at hgn
          · cases hgn
          split at hgn
          · rename_i ht; exact ht
          split at hgn
          · cases hgn
          · cases hgn
        rw [sz_list, hS]
        rcases tr_up ht with e | e <;> rw [e] <;> decide
    have htl := lnK_le (good_toks t _ hg)
    have htl2 := tk_len t
    have hargs : ∀ k, k ≤ n → lnK (argsK (kids t.2) k) ≤ 100000000 := fun k hkn => by
      have hmono : ∀ j, k ≤ j → j ≤ (kids t.2).length → lnK (argsK (kids t.2) k) ≤ lnK (argsK (kids t.2) j) := by
        intro j hkj
        obtain ⟨i, rfl⟩ : ∃ i, j = k + i := ⟨j - k, by omega⟩
        clear hkj
        induction i with
        | zero => intro _; exact Nat.le_refl _
        | succ i ihi =>
          intro hj
          have h4 := ihi (by omega)
          refine Nat.le_trans h4 ?_
          by_cases h0 : k + i = 0
          · have e0 : argsK (kids t.2) (k + i) = [] := by rw [h0]; rfl
            rw [e0]; exact Nat.zero_le _
          · rw [show k + (i + 1) = (k + i) + 1 from rfl, argsK_succ _ _ (by omega) h0, lnK_app]; omega
      have h5 := hmono (kids t.2).length (by omega) (Nat.le_refl _)
      have h6 : lnK (argsK (kids t.2) (kids t.2).length) ≤ lnK (tkT t) := by
        rw [htk, lnK_cons, lnK_op, lnK_app, args_all]
        have : (List.map ((fun x => x.2) ∘ fun t : T => (holdN t.1, tkT t)) (kids t.2)) = (kids t.2).map tkT := rfl
        rw [this]
        omega
      omega
    have hcall := rp_call (c := c) hk hs (by omega) hs1000 (Nat.le_refl _) hargs IH
    have e : ba (flK (tkT t)) = t.1.s ++ ⟨#[40]⟩ ++ ba (flK (argsK (kids t.2) n)) ++ ⟨#[41]⟩ := by
      have a2 : t.1.s = ba t.1.s.toList := by rw [ByteArray.toList_eq]
      have e3 : (List.map ((fun x => x.2) ∘ fun t : T => (holdN t.1, tkT t)) (kids t.2)) = (kids t.2).map tkT := rfl
      rw [htk, e3, hn, args_all]
      conv => rhs; rw [a2]
      show _ = ba _ ++ ba [40] ++ ba _ ++ ba [41]
      rw [ba_app, ba_app, ba_app]
      unfold flK
      rw [List.flatMap_cons, List.flatMap_cons, List.flatMap_append]
      simp
      rfl
    rw [e]
    exact hcall
theorem rprintR_any (RC : RightC) {t : T} (hz : zT t ≤ 900) (hZ : ZT t) {w : World} {es : Array Value} (h : NT w es t) (T : Tab9 w) : Calls Tryz.prog 43 #[.agg es] w fun e w' => e = .returned (.string (ba (printN t))) ∧ Below w.heap.size w w' := by
 have B1 : Below w.heap.size w (w.alloc (.cells es 67)) := bel_alloc (Below.refl _ _) _
 have RL : Hid _ := (nbox_at h).2 (heap_alloc_new w (.cells es 67))
 have C := rgood_tree RC (by omega) hZ (h.below B1) (T.below B1)
 have HNB : Hid (∀ u : World, u.heap[w.heap.size]? = some (.cells es 67) → (Instr.loadAt 67 (.pointer (some ⟨w.heap.size, 0, none⟩))).run Tryz.prog u = .ok (.agg es) u) := (nbox w h).2
 cases hg : gT okL 24 t
 ·rw [hg] at C
  have HP : Hid (printN t = []) := by show _ = _; unfold printN; rw [hg]; rfl
  clear h T RC hg
  go_enter Tryz.func43, Tryz.ntmps43
  go_wp2_with (first
   | (refine wpList_load_run rfl 67 _ rfl _ _ rfl RL.out ?_; clear RL)
   | (go_at_call 41; refine C.mono ?_; rintro e w2 ⟨rfl, hs⟩; have HU2 : Hid (Below w.heap.size w w2) := bel1 hs; clear hs))
  go_ret
  exact ⟨by rw [HP.out]; rfl, HU2.out⟩
 ·rw [hg] at C
  have HP : Hid (printN t = flK (tkT t)) := print_flat hg
  have C' : Calls Tryz.prog 41 #[.agg es] (w.alloc (.cells es 67)) fun e w2 => e = .returned (.bool true) ∧ Hid ((Instr.loadAt 67 (.pointer (some ⟨w.heap.size, 0, none⟩))).run Tryz.prog w2 = .ok (.agg es) w2) ∧ Calls Tryz.prog 90 #[.agg es] w2 (fun e w' => e = .returned (.string (ba (flK (tkT t)))) ∧ Below w2.heap.size w2 w') ∧ Hid (Below w.heap.size w w2) := C.mono (by
   rintro e w2 ⟨rfl, hs⟩
   exact ⟨rfl, HNB.out _ (new1 hs), rprint_tree t 24 hg hz w2 es (h.below (bel1 hs)) (T.below (bel1 hs)), bel1 hs⟩)
  clear h T RC hg C HNB
  go_enter Tryz.func43, Tryz.ntmps43
  go_wp2_with (first
   | (refine wpList_load_run rfl 67 _ rfl _ _ rfl RL.out ?_; clear RL)
   | (go_at_call 41; refine C'.mono ?_; rintro e w2 ⟨rfl, RL2, P2, HU2⟩; clear C')
   | (refine wpList_load_run rfl 67 _ rfl _ _ rfl RL2.out ?_; clear RL2)
   | (go_at_call 90; refine P2.mono ?_; rintro e w3 ⟨rfl, hs⟩; have HU3 : Hid (Below w.heap.size w w3) := bel_step HU2.out hs; clear hs))
  go_ret
  exact ⟨by rw [HP.out]; rfl, HU3.out⟩
end Go.Proofs.YtnibldnfbikipaaGreatDoor
