/- SMay. -/
import Derived.Test.YtpafokmkcblcnaaGreatDoorSCopyCr
import Derived.Test.YtpafokmkcblcnaaGreatDoorFParseCr
import Derived.Test.YtpafokmkcblcnaaGreatDoorVKindCr
set_option linter.unusedVariables false
set_option linter.unusedSimpArgs false
namespace Go.Proofs.YtpafokmkcblcnaaGreatDoor.Sh
open Go.RowKit Go.Fm
set_option maxRecDepth 100000
def mayF (s : ByteArray) : Int := if 255 < s.size then 3 else if (Ad.strip 61 s.data.toList).1 = true then (if (parF (Ad.strip 61 s.data.toList).2).2 = 0 then 0 else 10) else 0
set_option maxHeartbeats 4000000 in
theorem may_any (s : ByteArray) (w : World) (T : Tab9 w) : Calls Tryz.prog 26 #[.string s] w fun e w' => e = .returned (.int .i64 (mayF s)) ∧ Below w.heap.size w w' := by
  have hs : s = ⟨s.data.toList.toArray⟩ := by cases s; rfl
  have CP := strip_any 61 s.data.toList w
  rw [← hs] at CP
  have PR := parseF_any (Ad.strip 61 s.data.toList).2 w T
  have P2 : Calls Tryz.prog 74 #[.string ⟨(Ad.strip 61 s.data.toList).2.toArray⟩] w fun e w' => ∃ es, e = .returned (.tuple #[.agg es, .int .i64 (parF (Ad.strip 61 s.data.toList).2).2]) ∧ Hid ((Instr.storeAt 67 (.pointer (some ⟨w'.heap.size, 0, none⟩)) (.agg es)).run Tryz.prog (w'.alloc (.cells nd0 67)) = .ok () (w'.alloc (.cells es 67))) ∧ Hid (Below w.heap.size w (w'.alloc (.cells es 67))) := PR.mono (by
    rintro e w1 ⟨es, rfl, hN, _, hb⟩
    exact ⟨es, rfl, (nbox w1 hN).1, Sh.bel_alloc hb (Nat.le_refl _) _⟩)
  unfold mayF
  generalize (parF (Ad.strip 61 s.data.toList).2).2 = pe at *
  generalize (Ad.strip 61 s.data.toList).2 = rs at *
  generalize (Ad.strip 61 s.data.toList).1 = sb at *
  clear PR hs T
  generalize hz : s.size = n at *
  have HZ : (s.size : Int) = (n : Int) := by omega
  clear hz
  by_cases hlong : 255 < n
  · rw [if_pos hlong]
    have hli : (255 : Int) < n := by omega
    go_enter Tryz.func26, Tryz.ntmps26
    go_wp2
    go_ret
    exact ⟨rfl, Below.refl _ _⟩
  · rw [if_neg hlong]
    have hli : ¬ (255 : Int) < n := by omega
    cases sb with
    | false =>
      rw [if_neg (by decide)]
      go_enter Tryz.func26, Tryz.ntmps26
      go_wp2_with (go_at_call 73; refine CP.mono ?_; clear CP; rintro e w1 ⟨rfl, hw⟩; obtain rfl := hw.symm; clear hw)
      go_ret
      exact ⟨rfl, Below.refl _ _⟩
    | true =>
      rw [if_pos rfl]
      by_cases hp : pe = 0
      · subst hp
        rw [if_pos rfl]
        go_enter Tryz.func26, Tryz.ntmps26
        go_wp2_with (first
          | (go_at_call 73; refine CP.mono ?_; clear CP; rintro e w1 ⟨rfl, hw⟩; obtain rfl := hw.symm; clear hw)
          | (go_at_call 74; refine P2.mono ?_; clear P2; rintro e w1 ⟨es, rfl, RS, HB⟩)
          | (refine wpList_store_run rfl 67 _ _ rfl _ _ _ rfl rfl RS.out ?_; clear RS))
        go_ret
        exact ⟨rfl, HB.out⟩
      · rw [if_neg hp]
        have hpb : (pe != 0) = true := by simpa using hp
        go_enter Tryz.func26, Tryz.ntmps26
        go_wp2_with (first
          | (go_at_call 73; refine CP.mono ?_; clear CP; rintro e w1 ⟨rfl, hw⟩; obtain rfl := hw.symm; clear hw)
          | (go_at_call 74; refine P2.mono ?_; clear P2; rintro e w1 ⟨es, rfl, RS, HB⟩)
          | (refine wpList_store_run rfl 67 _ _ rfl _ _ _ rfl rfl RS.out ?_; clear RS))
        go_ret
        exact ⟨rfl, HB.out⟩
def textsF : List CellT → Int
  | [] => 0
  | c :: r => if mayF c.text ≠ 0 then mayF c.text else textsF r
set_option maxHeartbeats 4000000 in
theorem texts_any {lo hi : Nat} {w : World} {a : Option Addr} {c : Nat} {L : List CellT} (h : Cls lo hi w (.slice a L.length c) L) (hhi : hi ≤ w.heap.size) (T : Tab9 w) :
    Calls Tryz.prog 55 #[.slice a L.length c] w fun e w' => e = .returned (.int .i64 (textsF L)) ∧ Below w.heap.size w w' := by
  obtain ⟨_, _, he, hz1, hz2⟩ := h.slice
  cases he
  have hlen : L.length ≤ 9223372036854775807 := by unfold maxLen at hz2; omega
  have HS : Hid (Cls lo hi w (.slice a L.length c) L) := h
  have HT : Hid (Tab9 w) := T
  generalize hO : textsF L = tf
  have HO : Hid (textsF (L.drop 0) = tf) := by show _ = _; rw [List.drop_zero]; exact hO
  clear h hz1 hz2 hO T
  go_enter Tryz.func55, Tryz.ntmps55
  go_wp2
  go_loopw [8] (fun i wr => ∃ (k : Nat), k ≤ L.length ∧ i = .int .i64 (k : Nat) ∧ Hid (textsF (L.drop k) = tf) ∧ Hid (Below w.heap.size w wr)) (fun i _ => L.length - (intOf i).toNat)
  case atStart => exact ⟨0, Nat.zero_le _, rfl, HO, Below.refl _ _⟩
  case round =>
    obtain ⟨k, hk, rfl, HA, HD⟩ := hrel
    clear HO
    by_cases hkL : k < L.length
    · have hki : (k : Int) < L.length := by omega
      obtain ⟨a', ov, W', rfl, rfl, hW', R2, R3, -⟩ := (HS.out.below hhi HD.out).runs hkL
      obtain ⟨_, _, c2⟩ := c_cells (show W'.heap[wr.heap.size]? = some (.cells (cellC L[k]).toArray 57) by rw [hW']; exact heap_alloc_new wr _)
      have HD2 : Hid (Below w.heap.size w W') := by rw [hW']; exact Sh.bel_alloc HD.out (Nat.le_refl _) _
      have C := may_any L[k].text W' (HT.out.below HD2.out)
      have hk63 : k < 9223372036854775807 := by omega
      have HX : Hid (mayF L[k].text ≠ 0 → tf = mayF L[k].text) := fun e => by rw [← HA.out, List.drop_eq_getElem_cons hkL]; unfold textsF; rw [if_pos e]
      have HY : Hid (mayF L[k].text = 0 → textsF (L.drop (k + 1)) = tf) := fun e => by rw [← HA.out, List.drop_eq_getElem_cons hkL, textsF, if_neg (by simpa using e)]
      clear hW'
      generalize L[k] = y at *
      obtain ⟨yr, yc, yt⟩ := y
      dsimp only at *
      generalize mayF yt = me at *
      by_cases e1 : me = 0
      · have HY2 : Hid _ := HY.out e1
        subst e1
        clear HX HY
        go_wp2_with (first
          | (refine wpList_load_run rfl 57 _ rfl _ _ rfl R2.out ?_; clear R2)
          | (refine wpList_store_run rfl 57 _ _ rfl _ _ _ rfl rfl R3.out ?_; clear R3)
          | (go_at_call 26; refine C.mono ?_; clear C; rintro e w1 ⟨rfl, hb⟩; have HB1 : Hid _ := Sh.bel_step HD2.out HD2.out.size hb; clear hb))
        go_roundw
        case rel => exact ⟨k + 1, by omega, by go_num, HY2, HB1⟩
        case measure => simp [intOf]; omega
      · have hpb : (me != 0) = true := by simpa using e1
        obtain rfl := HX.out e1
        clear HX HY
        go_wp2_with (first
          | (refine wpList_load_run rfl 57 _ rfl _ _ rfl R2.out ?_; clear R2)
          | (refine wpList_store_run rfl 57 _ _ rfl _ _ _ rfl rfl R3.out ?_; clear R3)
          | (go_at_call 26; refine C.mono ?_; clear C; rintro e w1 ⟨rfl, hb⟩; have HB1 : Hid _ := Sh.bel_step HD2.out HD2.out.size hb; clear hb))
        go_ret
        exact ⟨rfl, HB1.out⟩
    · have hki : ¬ (k : Int) < L.length := by omega
      obtain rfl : tf = 0 := by rw [← HA.out, List.drop_of_length_le (by omega)]; rfl
      go_wp2
      go_ret
      exact ⟨rfl, HD.out⟩
theorem stB_zero {L : List CellT} {k : Nat} (hk : k < L.length) (h0 : k = 0) : stB L k = (insB L[k].row L[k].col && !(L[k].text.toList == [])) := by
  subst h0
  unfold stB
  simp only [List.getElem?_eq_getElem hk]
  simp
theorem stB_succ {L : List CellT} {k j : Nat} (hk : k < L.length) (hj : k = j + 1) : stB L k = (insB L[k].row L[k].col && (!(L[k].text.toList == []) && decide (ordC (L[j]'(by omega)) L[k] < 0))) := by
  subst hj
  unfold stB
  simp only [List.getElem?_eq_getElem hk, Nat.add_sub_cancel, List.getElem?_eq_getElem (show j < L.length by omega)]
  simp
set_option maxHeartbeats 16000000 in
theorem laid_any {lo hi : Nat} {w : World} {a : Option Addr} {c : Nat} {L : List CellT} (h : Cls lo hi w (.slice a L.length c) L) (hhi : hi ≤ w.heap.size) :
    Calls Tryz.prog 77 #[.slice a L.length c] w fun e w' => e = .returned (.bool (laidB L)) ∧ Below w.heap.size w w' := by
  obtain ⟨_, _, he, hz1, hz2⟩ := h.slice
  cases he
  have hlen : L.length ≤ 9223372036854775807 := by unfold maxLen at hz2; omega
  have HS0 : Hid (Cls lo hi w (.slice a L.length c) L) := h
  generalize hO : laidB L = lb
  have HO : Hid (laidB L = lb) := hO
  clear h hz1 hz2 hO
  go_enter Tryz.func77, Tryz.ntmps77
  go_wp2
  go_loopw [7] (fun i wr => ∃ (k : Nat), k ≤ L.length ∧ i = .int .i64 (k : Nat) ∧ Hid (∀ j, j < k → stB L j = true) ∧ Hid (Below w.heap.size w wr)) (fun i _ => L.length - (intOf i).toNat)
  case atStart => exact ⟨0, Nat.zero_le _, rfl, fun j hj => by omega, Below.refl _ _⟩
  case round =>
    obtain ⟨k, hk, rfl, HA, HD⟩ := hrel
    by_cases hkL : k < L.length
    · have hki : (k : Int) < L.length := by omega
      have HF := HS0.out.below hhi HD.out
      obtain ⟨a', ov, W', rfl, rfl, hW', R2, R3, R4⟩ := HF.runs hkL
      have HD2 : Hid (Below w.heap.size w W') := by rw [hW']; exact Sh.bel_alloc HD.out (Nat.le_refl _) _
      have HDd : Hid (Below w.heap.size w W'.drew) := HD2.out.drew
      have hX : W'.drew.heap[wr.heap.size]? = some (.cells (cellC L[k]).toArray 57) := by rw [hW']; exact heap_alloc_new wr _
      obtain ⟨c0, c1, c2⟩ := c_cells hX
      have C1 := inside_any L[k].row L[k].col W'.drew
      have hk63 : k < 9223372036854775807 := by omega
      have HNO : Hid (stB L k = false → lb = false) := fun e => by rw [← HO.out]; exact laid_no hkL e
      have HYES : Hid (stB L k = true → ∀ j, j < k + 1 → stB L j = true) := fun e j hj => by
        by_cases hjk : j = k
        · subst hjk; exact e
        · exact HA.out j (by omega)
      have hLX := ldC hX
      by_cases hk0 : k = 0
      · have hkz : decide ((0 : Int) < (k : Int)) = false := by simpa using hk0
        have hst2 := stB_zero hkL hk0
        have HST : Hid (stB L k = (insB L[k].row L[k].col && !(L[k].text.toList == []))) := hst2
        have HK0 : Hid (k = 0) := hk0
        clear hst2 HF hW' R4 hX hk0
        generalize L[k] = y at *
        obtain ⟨yr, yc, yt⟩ := y
        dsimp only at *
        have HS : Hid (W'.drew.cell? ⟨wr.heap.size, 0, none⟩ = some (.int .i64 yr) ∧ W'.drew.cell? ⟨wr.heap.size, 1, none⟩ = some (.int .i64 yc) ∧ W'.drew.cell? ⟨wr.heap.size, 2, none⟩ = some (.string yt) ∧ (Instr.loadAt 57 (.pointer (some ⟨wr.heap.size, 0, none⟩))).run Tryz.prog W'.drew = .ok (cellV ⟨yr, yc, yt⟩) W'.drew) := ⟨c0, c1, c2, hLX⟩
        clear c0 c1 c2 hLX
        cases hin : insB yr yc with
        | false =>
          rw [hin] at C1 HST
          obtain rfl := HNO.out (by rw [HST.out]; rfl)
          clear HNO HYES
          go_wp2_with (first
            | (refine wpList_load_run rfl 57 _ rfl _ _ rfl R2.out ?_; clear R2)
            | (refine wpList_store_run rfl 57 _ _ rfl _ _ _ rfl rfl R3.out ?_; clear R3))
          refine wp_region_d (fun u => u.cell? ⟨wr.heap.size, 0, none⟩ = some (.int .i64 yr) ∧ u.cell? ⟨wr.heap.size, 1, none⟩ = some (.int .i64 yc) ∧ u.cell? ⟨wr.heap.size, 2, none⟩ = some (.string yt) ∧ (Instr.loadAt 57 (.pointer (some ⟨wr.heap.size, 0, none⟩))).run Tryz.prog u = .ok (cellV ⟨yr, yc, yt⟩) u) (fun j => false) (by kernel_rfl) ?_
          refine wpAnyD_pured (i := 0) (v := (.pointer (some ⟨wr.heap.size, 0, none⟩))) rfl rfl (by kernel_rfl) (by kernel_rfl) (by kernel_rfl) (fun _ _ _ h => h) (by go_simp) (by intro u; go_simp) ?_
          try simp only [Act.put, List.setIfInBounds_toArray, List.set_cons_zero, List.set_cons_succ]
          refine wpAnyD_loadd (i := 1) (v := (.int .i64 yr)) rfl rfl (by kernel_rfl) (by kernel_rfl) (by kernel_rfl) (by kernel_rfl) (fun _ _ _ h => h) (by go_simp) (fun u hSu => exec_load rfl rfl (ld1 hSu.1 (Tryz.isAgg3 _))) HS.out ?_
          try simp only [Act.put, List.setIfInBounds_toArray, List.set_cons_zero, List.set_cons_succ]
          refine wpAnyD_pured (i := 2) (v := (.pointer (some ⟨wr.heap.size, 1, none⟩))) rfl rfl (by kernel_rfl) (by kernel_rfl) (by kernel_rfl) (fun _ _ _ h => h) (by go_simp) (by intro u; go_simp) ?_
          try simp only [Act.put, List.setIfInBounds_toArray, List.set_cons_zero, List.set_cons_succ]
          refine wpAnyD_loadd (i := 3) (v := (.int .i64 yc)) rfl rfl (by kernel_rfl) (by kernel_rfl) (by kernel_rfl) (by kernel_rfl) (fun _ _ _ h => h) (by go_simp) (fun u hSu => exec_load rfl rfl (ld1 hSu.2.1 (Tryz.isAgg3 _))) HS.out ?_
          try simp only [Act.put, List.setIfInBounds_toArray, List.set_cons_zero, List.set_cons_succ]
          refine wpAnyD_one (i := 4) (by kernel_rfl) rfl ?_
          intro K' hK'
          go_simp
          refine C1.mono ?_
          clear C1
          rintro e w1 ⟨rfl, hw⟩
          obtain rfl := hw.symm
          clear hw
          refine hK' _ _ (.inr id) ?_
          clear hK'
          try simp only [Act.put, List.setIfInBounds_toArray, List.set_cons_zero, List.set_cons_succ]
          refine wpAnyD_pured (i := 5) (v := (.bool true)) rfl rfl (by kernel_rfl) (by kernel_rfl) (by kernel_rfl) (fun _ _ _ h => h) (by go_simp) (by intro u; go_simp) ?_
          try simp only [Act.put, List.setIfInBounds_toArray, List.set_cons_zero, List.set_cons_succ]
          refine wpAnyD_pured (i := 6) (v := (.bool true)) rfl rfl (by kernel_rfl) (by kernel_rfl) (by kernel_rfl) (fun _ _ _ h => h) (by go_simp) (by intro u; go_simp) ?_
          try simp only [Act.put, List.setIfInBounds_toArray, List.set_cons_zero, List.set_cons_succ]
          refine wpAnyD_skipd (i := 7) rfl rfl (by kernel_rfl) (by kernel_rfl) (by kernel_rfl) (fun _ _ _ h => h) (by go_simp <;> simp [undef]) ?_
          try simp only [Act.put, List.setIfInBounds_toArray, List.set_cons_zero, List.set_cons_succ]
          refine wpAnyD_skipd (i := 8) rfl rfl (by kernel_rfl) (by kernel_rfl) (by kernel_rfl) (fun _ _ _ h => h) (by go_simp <;> simp [undef]) ?_
          try simp only [Act.put, List.setIfInBounds_toArray, List.set_cons_zero, List.set_cons_succ]
          refine wpAnyD_skipd (i := 9) rfl rfl (by kernel_rfl) (by kernel_rfl) (by kernel_rfl) (fun _ _ _ h => h) (by go_simp <;> simp [undef]) ?_
          try simp only [Act.put, List.setIfInBounds_toArray, List.set_cons_zero, List.set_cons_succ]
          refine wpAnyD_pured (i := 10) (v := (.bool true)) rfl rfl (by kernel_rfl) (by kernel_rfl) (by kernel_rfl) (fun _ _ _ h => h) (by go_simp) (by intro u; go_simp) ?_
          try simp only [Act.put, List.setIfInBounds_toArray, List.set_cons_zero, List.set_cons_succ]
          refine wpAnyD_pured (i := 11) (v := (.bool true)) rfl rfl (by kernel_rfl) (by kernel_rfl) (by kernel_rfl) (fun _ _ _ h => h) (by go_simp) (by intro u; go_simp) ?_
          try simp only [Act.put, List.setIfInBounds_toArray, List.set_cons_zero, List.set_cons_succ]
          refine wpAnyD_skipd (i := 12) rfl rfl (by kernel_rfl) (by kernel_rfl) (by kernel_rfl) (fun _ _ _ h => h) (by go_simp <;> simp [undef]) ?_
          try simp only [Act.put, List.setIfInBounds_toArray, List.set_cons_zero, List.set_cons_succ]
          refine wpAnyD_skipd (i := 13) rfl rfl (by kernel_rfl) (by kernel_rfl) (by kernel_rfl) (fun _ _ _ h => h) (by go_simp <;> simp [undef]) ?_
          try simp only [Act.put, List.setIfInBounds_toArray, List.set_cons_zero, List.set_cons_succ]
          refine wpAnyD_skipd (i := 14) rfl rfl (by kernel_rfl) (by kernel_rfl) (by kernel_rfl) (fun _ _ _ h => h) (by go_simp <;> simp [undef]) ?_
          try simp only [Act.put, List.setIfInBounds_toArray, List.set_cons_zero, List.set_cons_succ]
          refine wpAnyD_skipd (i := 15) rfl rfl (by kernel_rfl) (by kernel_rfl) (by kernel_rfl) (fun _ _ _ h => h) (by go_simp <;> simp [undef]) ?_
          try simp only [Act.put, List.setIfInBounds_toArray, List.set_cons_zero, List.set_cons_succ]
          refine wpAnyD_skipd (i := 16) rfl rfl (by kernel_rfl) (by kernel_rfl) (by kernel_rfl) (fun _ _ _ h => h) (by go_simp <;> simp [undef]) ?_
          try simp only [Act.put, List.setIfInBounds_toArray, List.set_cons_zero, List.set_cons_succ]
          refine wpAnyD_skipd (i := 17) rfl rfl (by kernel_rfl) (by kernel_rfl) (by kernel_rfl) (fun _ _ _ h => h) (by go_simp <;> simp [undef]) ?_
          try simp only [Act.put, List.setIfInBounds_toArray, List.set_cons_zero, List.set_cons_succ]
          refine wpAnyD_skipd (i := 18) rfl rfl (by kernel_rfl) (by kernel_rfl) (by kernel_rfl) (fun _ _ _ h => h) (by go_simp <;> simp [undef]) ?_
          try simp only [Act.put, List.setIfInBounds_toArray, List.set_cons_zero, List.set_cons_succ]
          refine wpAnyD_skipd (i := 19) rfl rfl (by kernel_rfl) (by kernel_rfl) (by kernel_rfl) (fun _ _ _ h => h) (by go_simp <;> simp [undef]) ?_
          try simp only [Act.put, List.setIfInBounds_toArray, List.set_cons_zero, List.set_cons_succ]
          refine wpAnyD_skipd (i := 20) rfl rfl (by kernel_rfl) (by kernel_rfl) (by kernel_rfl) (fun _ _ _ h => h) (by go_simp <;> simp [undef]) ?_
          try simp only [Act.put, List.setIfInBounds_toArray, List.set_cons_zero, List.set_cons_succ]
          refine wpAnyD_skipd (i := 21) rfl rfl (by kernel_rfl) (by kernel_rfl) (by kernel_rfl) (fun _ _ _ h => h) (by go_simp <;> simp [undef]) ?_
          try simp only [Act.put, List.setIfInBounds_toArray, List.set_cons_zero, List.set_cons_succ]
          refine wpAnyD_skipd (i := 22) rfl rfl (by kernel_rfl) (by kernel_rfl) (by kernel_rfl) (fun _ _ _ h => h) (by go_simp <;> simp [undef]) ?_
          try simp only [Act.put, List.setIfInBounds_toArray, List.set_cons_zero, List.set_cons_succ]
          refine wpAnyD_skipd (i := 23) rfl rfl (by kernel_rfl) (by kernel_rfl) (by kernel_rfl) (fun _ _ _ h => h) (by go_simp <;> simp [undef]) ?_
          try simp only [Act.put, List.setIfInBounds_toArray, List.set_cons_zero, List.set_cons_succ]
          refine wpAnyD_pured (i := 24) (v := (.bool true)) rfl rfl (by kernel_rfl) (by kernel_rfl) (by kernel_rfl) (fun _ _ _ h => h) (by go_simp) (by intro u; go_simp) ?_
          try simp only [Act.put, List.setIfInBounds_toArray, List.set_cons_zero, List.set_cons_succ]
          refine wpAnyD_done (by kernel_rfl) ?_ _
          go_wp2
          go_ret
          exact ⟨rfl, HDd.out⟩
        | true =>
          rw [hin] at C1 HST
          cases hte : yt.toList == [] with
          | true =>
            rw [hte] at HST
            obtain rfl := HNO.out (by rw [HST.out]; rfl)
            clear HNO HYES
            go_wp2_with (first
              | (refine wpList_load_run rfl 57 _ rfl _ _ rfl R2.out ?_; clear R2)
              | (refine wpList_store_run rfl 57 _ _ rfl _ _ _ rfl rfl R3.out ?_; clear R3))
            refine wp_region_d (fun u => u.cell? ⟨wr.heap.size, 0, none⟩ = some (.int .i64 yr) ∧ u.cell? ⟨wr.heap.size, 1, none⟩ = some (.int .i64 yc) ∧ u.cell? ⟨wr.heap.size, 2, none⟩ = some (.string yt) ∧ (Instr.loadAt 57 (.pointer (some ⟨wr.heap.size, 0, none⟩))).run Tryz.prog u = .ok (cellV ⟨yr, yc, yt⟩) u) (fun j => false) (by kernel_rfl) ?_
            refine wpAnyD_pured (i := 0) (v := (.pointer (some ⟨wr.heap.size, 0, none⟩))) rfl rfl (by kernel_rfl) (by kernel_rfl) (by kernel_rfl) (fun _ _ _ h => h) (by go_simp) (by intro u; go_simp) ?_
            try simp only [Act.put, List.setIfInBounds_toArray, List.set_cons_zero, List.set_cons_succ]
            refine wpAnyD_loadd (i := 1) (v := (.int .i64 yr)) rfl rfl (by kernel_rfl) (by kernel_rfl) (by kernel_rfl) (by kernel_rfl) (fun _ _ _ h => h) (by go_simp) (fun u hSu => exec_load rfl rfl (ld1 hSu.1 (Tryz.isAgg3 _))) HS.out ?_
            try simp only [Act.put, List.setIfInBounds_toArray, List.set_cons_zero, List.set_cons_succ]
            refine wpAnyD_pured (i := 2) (v := (.pointer (some ⟨wr.heap.size, 1, none⟩))) rfl rfl (by kernel_rfl) (by kernel_rfl) (by kernel_rfl) (fun _ _ _ h => h) (by go_simp) (by intro u; go_simp) ?_
            try simp only [Act.put, List.setIfInBounds_toArray, List.set_cons_zero, List.set_cons_succ]
            refine wpAnyD_loadd (i := 3) (v := (.int .i64 yc)) rfl rfl (by kernel_rfl) (by kernel_rfl) (by kernel_rfl) (by kernel_rfl) (fun _ _ _ h => h) (by go_simp) (fun u hSu => exec_load rfl rfl (ld1 hSu.2.1 (Tryz.isAgg3 _))) HS.out ?_
            try simp only [Act.put, List.setIfInBounds_toArray, List.set_cons_zero, List.set_cons_succ]
            refine wpAnyD_one (i := 4) (by kernel_rfl) rfl ?_
            intro K' hK'
            go_simp
            refine C1.mono ?_
            clear C1
            rintro e w1 ⟨rfl, hw⟩
            obtain rfl := hw.symm
            clear hw
            refine hK' _ _ (.inr id) ?_
            clear hK'
            try simp only [Act.put, List.setIfInBounds_toArray, List.set_cons_zero, List.set_cons_succ]
            refine wpAnyD_pured (i := 5) (v := (.bool false)) rfl rfl (by kernel_rfl) (by kernel_rfl) (by kernel_rfl) (fun _ _ _ h => h) (by go_simp) (by intro u; go_simp) ?_
            try simp only [Act.put, List.setIfInBounds_toArray, List.set_cons_zero, List.set_cons_succ]
            refine wpAnyD_pured (i := 6) (v := (.bool false)) rfl rfl (by kernel_rfl) (by kernel_rfl) (by kernel_rfl) (fun _ _ _ h => h) (by go_simp) (by intro u; go_simp) ?_
            try simp only [Act.put, List.setIfInBounds_toArray, List.set_cons_zero, List.set_cons_succ]
            refine wpAnyD_pured (i := 7) (v := (.pointer (some ⟨wr.heap.size, 2, none⟩))) rfl rfl (by kernel_rfl) (by kernel_rfl) (by kernel_rfl) (fun _ _ _ h => h) (by go_simp) (by intro u; go_simp) ?_
            try simp only [Act.put, List.setIfInBounds_toArray, List.set_cons_zero, List.set_cons_succ]
            refine wpAnyD_loadd (i := 8) (v := (.string yt)) rfl rfl (by kernel_rfl) (by kernel_rfl) (by kernel_rfl) (by kernel_rfl) (fun _ _ _ h => h) (by go_simp) (fun u hSu => exec_load rfl rfl (ld1 hSu.2.2.1 (Tryz.isAgg9 _))) HS.out ?_
            try simp only [Act.put, List.setIfInBounds_toArray, List.set_cons_zero, List.set_cons_succ]
            refine wpAnyD_pured (i := 9) (v := (.bool true)) rfl rfl (by kernel_rfl) (by kernel_rfl) (by kernel_rfl) (fun _ _ _ h => h) (by go_simp) (by intro u; go_simp) ?_
            try simp only [Act.put, List.setIfInBounds_toArray, List.set_cons_zero, List.set_cons_succ]
            refine wpAnyD_pured (i := 10) (v := (.bool true)) rfl rfl (by kernel_rfl) (by kernel_rfl) (by kernel_rfl) (fun _ _ _ h => h) (by go_simp) (by intro u; go_simp) ?_
            try simp only [Act.put, List.setIfInBounds_toArray, List.set_cons_zero, List.set_cons_succ]
            refine wpAnyD_pured (i := 11) (v := (.bool true)) rfl rfl (by kernel_rfl) (by kernel_rfl) (by kernel_rfl) (fun _ _ _ h => h) (by go_simp) (by intro u; go_simp) ?_
            try simp only [Act.put, List.setIfInBounds_toArray, List.set_cons_zero, List.set_cons_succ]
            refine wpAnyD_skipd (i := 12) rfl rfl (by kernel_rfl) (by kernel_rfl) (by kernel_rfl) (fun _ _ _ h => h) (by go_simp <;> simp [undef]) ?_
            try simp only [Act.put, List.setIfInBounds_toArray, List.set_cons_zero, List.set_cons_succ]
            refine wpAnyD_skipd (i := 13) rfl rfl (by kernel_rfl) (by kernel_rfl) (by kernel_rfl) (fun _ _ _ h => h) (by go_simp <;> simp [undef]) ?_
            try simp only [Act.put, List.setIfInBounds_toArray, List.set_cons_zero, List.set_cons_succ]
            refine wpAnyD_skipd (i := 14) rfl rfl (by kernel_rfl) (by kernel_rfl) (by kernel_rfl) (fun _ _ _ h => h) (by go_simp <;> simp [undef]) ?_
            try simp only [Act.put, List.setIfInBounds_toArray, List.set_cons_zero, List.set_cons_succ]
            refine wpAnyD_skipd (i := 15) rfl rfl (by kernel_rfl) (by kernel_rfl) (by kernel_rfl) (fun _ _ _ h => h) (by go_simp <;> simp [undef]) ?_
            try simp only [Act.put, List.setIfInBounds_toArray, List.set_cons_zero, List.set_cons_succ]
            refine wpAnyD_skipd (i := 16) rfl rfl (by kernel_rfl) (by kernel_rfl) (by kernel_rfl) (fun _ _ _ h => h) (by go_simp <;> simp [undef]) ?_
            try simp only [Act.put, List.setIfInBounds_toArray, List.set_cons_zero, List.set_cons_succ]
            refine wpAnyD_skipd (i := 17) rfl rfl (by kernel_rfl) (by kernel_rfl) (by kernel_rfl) (fun _ _ _ h => h) (by go_simp <;> simp [undef]) ?_
            try simp only [Act.put, List.setIfInBounds_toArray, List.set_cons_zero, List.set_cons_succ]
            refine wpAnyD_skipd (i := 18) rfl rfl (by kernel_rfl) (by kernel_rfl) (by kernel_rfl) (fun _ _ _ h => h) (by go_simp <;> simp [undef]) ?_
            try simp only [Act.put, List.setIfInBounds_toArray, List.set_cons_zero, List.set_cons_succ]
            refine wpAnyD_skipd (i := 19) rfl rfl (by kernel_rfl) (by kernel_rfl) (by kernel_rfl) (fun _ _ _ h => h) (by go_simp <;> simp [undef]) ?_
            try simp only [Act.put, List.setIfInBounds_toArray, List.set_cons_zero, List.set_cons_succ]
            refine wpAnyD_skipd (i := 20) rfl rfl (by kernel_rfl) (by kernel_rfl) (by kernel_rfl) (fun _ _ _ h => h) (by go_simp <;> simp [undef]) ?_
            try simp only [Act.put, List.setIfInBounds_toArray, List.set_cons_zero, List.set_cons_succ]
            refine wpAnyD_skipd (i := 21) rfl rfl (by kernel_rfl) (by kernel_rfl) (by kernel_rfl) (fun _ _ _ h => h) (by go_simp <;> simp [undef]) ?_
            try simp only [Act.put, List.setIfInBounds_toArray, List.set_cons_zero, List.set_cons_succ]
            refine wpAnyD_skipd (i := 22) rfl rfl (by kernel_rfl) (by kernel_rfl) (by kernel_rfl) (fun _ _ _ h => h) (by go_simp <;> simp [undef]) ?_
            try simp only [Act.put, List.setIfInBounds_toArray, List.set_cons_zero, List.set_cons_succ]
            refine wpAnyD_skipd (i := 23) rfl rfl (by kernel_rfl) (by kernel_rfl) (by kernel_rfl) (fun _ _ _ h => h) (by go_simp <;> simp [undef]) ?_
            try simp only [Act.put, List.setIfInBounds_toArray, List.set_cons_zero, List.set_cons_succ]
            refine wpAnyD_pured (i := 24) (v := (.bool true)) rfl rfl (by kernel_rfl) (by kernel_rfl) (by kernel_rfl) (fun _ _ _ h => h) (by go_simp) (by intro u; go_simp) ?_
            try simp only [Act.put, List.setIfInBounds_toArray, List.set_cons_zero, List.set_cons_succ]
            refine wpAnyD_done (by kernel_rfl) ?_ _
            go_wp2
            go_ret
            exact ⟨rfl, HDd.out⟩
          | false =>
            rw [hte] at HST
            have HY2 : Hid _ := HYES.out (by rw [HST.out]; rfl)
            clear HNO HYES
            go_wp2_with (first
              | (refine wpList_load_run rfl 57 _ rfl _ _ rfl R2.out ?_; clear R2)
              | (refine wpList_store_run rfl 57 _ _ rfl _ _ _ rfl rfl R3.out ?_; clear R3))
            refine wp_region_d (fun u => u.cell? ⟨wr.heap.size, 0, none⟩ = some (.int .i64 yr) ∧ u.cell? ⟨wr.heap.size, 1, none⟩ = some (.int .i64 yc) ∧ u.cell? ⟨wr.heap.size, 2, none⟩ = some (.string yt) ∧ (Instr.loadAt 57 (.pointer (some ⟨wr.heap.size, 0, none⟩))).run Tryz.prog u = .ok (cellV ⟨yr, yc, yt⟩) u) (fun j => false) (by kernel_rfl) ?_
            refine wpAnyD_pured (i := 0) (v := (.pointer (some ⟨wr.heap.size, 0, none⟩))) rfl rfl (by kernel_rfl) (by kernel_rfl) (by kernel_rfl) (fun _ _ _ h => h) (by go_simp) (by intro u; go_simp) ?_
            try simp only [Act.put, List.setIfInBounds_toArray, List.set_cons_zero, List.set_cons_succ]
            refine wpAnyD_loadd (i := 1) (v := (.int .i64 yr)) rfl rfl (by kernel_rfl) (by kernel_rfl) (by kernel_rfl) (by kernel_rfl) (fun _ _ _ h => h) (by go_simp) (fun u hSu => exec_load rfl rfl (ld1 hSu.1 (Tryz.isAgg3 _))) HS.out ?_
            try simp only [Act.put, List.setIfInBounds_toArray, List.set_cons_zero, List.set_cons_succ]
            refine wpAnyD_pured (i := 2) (v := (.pointer (some ⟨wr.heap.size, 1, none⟩))) rfl rfl (by kernel_rfl) (by kernel_rfl) (by kernel_rfl) (fun _ _ _ h => h) (by go_simp) (by intro u; go_simp) ?_
            try simp only [Act.put, List.setIfInBounds_toArray, List.set_cons_zero, List.set_cons_succ]
            refine wpAnyD_loadd (i := 3) (v := (.int .i64 yc)) rfl rfl (by kernel_rfl) (by kernel_rfl) (by kernel_rfl) (by kernel_rfl) (fun _ _ _ h => h) (by go_simp) (fun u hSu => exec_load rfl rfl (ld1 hSu.2.1 (Tryz.isAgg3 _))) HS.out ?_
            try simp only [Act.put, List.setIfInBounds_toArray, List.set_cons_zero, List.set_cons_succ]
            refine wpAnyD_one (i := 4) (by kernel_rfl) rfl ?_
            intro K' hK'
            go_simp
            refine C1.mono ?_
            clear C1
            rintro e w1 ⟨rfl, hw⟩
            obtain rfl := hw.symm
            clear hw
            refine hK' _ _ (.inr id) ?_
            clear hK'
            try simp only [Act.put, List.setIfInBounds_toArray, List.set_cons_zero, List.set_cons_succ]
            refine wpAnyD_pured (i := 5) (v := (.bool false)) rfl rfl (by kernel_rfl) (by kernel_rfl) (by kernel_rfl) (fun _ _ _ h => h) (by go_simp) (by intro u; go_simp) ?_
            try simp only [Act.put, List.setIfInBounds_toArray, List.set_cons_zero, List.set_cons_succ]
            refine wpAnyD_pured (i := 6) (v := (.bool false)) rfl rfl (by kernel_rfl) (by kernel_rfl) (by kernel_rfl) (fun _ _ _ h => h) (by go_simp) (by intro u; go_simp) ?_
            try simp only [Act.put, List.setIfInBounds_toArray, List.set_cons_zero, List.set_cons_succ]
            refine wpAnyD_pured (i := 7) (v := (.pointer (some ⟨wr.heap.size, 2, none⟩))) rfl rfl (by kernel_rfl) (by kernel_rfl) (by kernel_rfl) (fun _ _ _ h => h) (by go_simp) (by intro u; go_simp) ?_
            try simp only [Act.put, List.setIfInBounds_toArray, List.set_cons_zero, List.set_cons_succ]
            refine wpAnyD_loadd (i := 8) (v := (.string yt)) rfl rfl (by kernel_rfl) (by kernel_rfl) (by kernel_rfl) (by kernel_rfl) (fun _ _ _ h => h) (by go_simp) (fun u hSu => exec_load rfl rfl (ld1 hSu.2.2.1 (Tryz.isAgg9 _))) HS.out ?_
            try simp only [Act.put, List.setIfInBounds_toArray, List.set_cons_zero, List.set_cons_succ]
            refine wpAnyD_pured (i := 9) (v := (.bool false)) rfl rfl (by kernel_rfl) (by kernel_rfl) (by kernel_rfl) (fun _ _ _ h => h) (by go_simp) (by intro u; go_simp) ?_
            try simp only [Act.put, List.setIfInBounds_toArray, List.set_cons_zero, List.set_cons_succ]
            refine wpAnyD_pured (i := 10) (v := (.bool false)) rfl rfl (by kernel_rfl) (by kernel_rfl) (by kernel_rfl) (fun _ _ _ h => h) (by go_simp) (by intro u; go_simp) ?_
            try simp only [Act.put, List.setIfInBounds_toArray, List.set_cons_zero, List.set_cons_succ]
            refine wpAnyD_pured (i := 11) (v := (.bool false)) rfl rfl (by kernel_rfl) (by kernel_rfl) (by kernel_rfl) (fun _ _ _ h => h) (by go_simp) (by intro u; go_simp) ?_
            try simp only [Act.put, List.setIfInBounds_toArray, List.set_cons_zero, List.set_cons_succ]
            refine wpAnyD_pured (i := 12) (v := (.int .i64 (k : Int))) rfl rfl (by kernel_rfl) (by kernel_rfl) (by kernel_rfl) (fun _ _ _ h => h) (by go_simp) (by intro u; go_simp) ?_
            try simp only [Act.put, List.setIfInBounds_toArray, List.set_cons_zero, List.set_cons_succ]
            refine wpAnyD_pured (i := 13) (v := (.bool false)) rfl rfl (by kernel_rfl) (by kernel_rfl) (by kernel_rfl) (fun _ _ _ h => h) (by go_simp) (by intro u; go_simp; have := HK0.out; omega) ?_
            try simp only [Act.put, List.setIfInBounds_toArray, List.set_cons_zero, List.set_cons_succ]
            refine wpAnyD_pured (i := 14) (v := (.bool false)) rfl rfl (by kernel_rfl) (by kernel_rfl) (by kernel_rfl) (fun _ _ _ h => h) (by go_simp) (by intro u; go_simp) ?_
            try simp only [Act.put, List.setIfInBounds_toArray, List.set_cons_zero, List.set_cons_succ]
            refine wpAnyD_skipd (i := 15) rfl rfl (by kernel_rfl) (by kernel_rfl) (by kernel_rfl) (fun _ _ _ h => h) (by go_simp <;> simp [undef]) ?_
            try simp only [Act.put, List.setIfInBounds_toArray, List.set_cons_zero, List.set_cons_succ]
            refine wpAnyD_skipd (i := 16) rfl rfl (by kernel_rfl) (by kernel_rfl) (by kernel_rfl) (fun _ _ _ h => h) (by go_simp <;> simp [undef]) ?_
            try simp only [Act.put, List.setIfInBounds_toArray, List.set_cons_zero, List.set_cons_succ]
            refine wpAnyD_skipd (i := 17) rfl rfl (by kernel_rfl) (by kernel_rfl) (by kernel_rfl) (fun _ _ _ h => h) (by go_simp <;> simp [undef]) ?_
            try simp only [Act.put, List.setIfInBounds_toArray, List.set_cons_zero, List.set_cons_succ]
            refine wpAnyD_skipd (i := 18) rfl rfl (by kernel_rfl) (by kernel_rfl) (by kernel_rfl) (fun _ _ _ h => h) (by go_simp <;> simp [undef]) ?_
            try simp only [Act.put, List.setIfInBounds_toArray, List.set_cons_zero, List.set_cons_succ]
            refine wpAnyD_skipd (i := 19) rfl rfl (by kernel_rfl) (by kernel_rfl) (by kernel_rfl) (fun _ _ _ h => h) (by go_simp <;> simp [undef]) ?_
            try simp only [Act.put, List.setIfInBounds_toArray, List.set_cons_zero, List.set_cons_succ]
            refine wpAnyD_skipd (i := 20) rfl rfl (by kernel_rfl) (by kernel_rfl) (by kernel_rfl) (fun _ _ _ h => h) (by go_simp <;> simp [undef]) ?_
            try simp only [Act.put, List.setIfInBounds_toArray, List.set_cons_zero, List.set_cons_succ]
            refine wpAnyD_skipd (i := 21) rfl rfl (by kernel_rfl) (by kernel_rfl) (by kernel_rfl) (fun _ _ _ h => h) (by go_simp <;> simp [undef]) ?_
            try simp only [Act.put, List.setIfInBounds_toArray, List.set_cons_zero, List.set_cons_succ]
            refine wpAnyD_skipd (i := 22) rfl rfl (by kernel_rfl) (by kernel_rfl) (by kernel_rfl) (fun _ _ _ h => h) (by go_simp <;> simp [undef]) ?_
            try simp only [Act.put, List.setIfInBounds_toArray, List.set_cons_zero, List.set_cons_succ]
            refine wpAnyD_pured (i := 23) (v := (.bool false)) rfl rfl (by kernel_rfl) (by kernel_rfl) (by kernel_rfl) (fun _ _ _ h => h) (by go_simp) (by intro u; go_simp) ?_
            try simp only [Act.put, List.setIfInBounds_toArray, List.set_cons_zero, List.set_cons_succ]
            refine wpAnyD_pured (i := 24) (v := (.bool false)) rfl rfl (by kernel_rfl) (by kernel_rfl) (by kernel_rfl) (fun _ _ _ h => h) (by go_simp) (by intro u; go_simp) ?_
            try simp only [Act.put, List.setIfInBounds_toArray, List.set_cons_zero, List.set_cons_succ]
            refine wpAnyD_done (by kernel_rfl) ?_ _
            go_wp2
            go_roundw
            case rel => exact ⟨k + 1, by omega, by go_num, HY2, HDd⟩
            case measure => simp [intOf]; omega
      · obtain ⟨j, hj⟩ : ∃ j, k = j + 1 := ⟨k - 1, by omega⟩
        have hjL : j < L.length := by omega
        have hkz : (0 : Int) < k := by omega
        have hji : (k : Int) - 1 = (j : Int) := by omega
        have hjw : IntKind.i64.wrap (j : Int) = (j : Int) := by rw [IntKind.wrap_i64]; omega
        have hjn : (j : Int) < L.length := by omega
        have HFd := HS0.out.below hhi HDd.out
        obtain ⟨b', _, _, e2, rfl, _, RJ, -, -⟩ := HFd.runs hjL
        cases e2
        have hst2 := stB_succ hkL hj
        have HST : Hid (stB L k = (insB L[k].row L[k].col && (!(L[k].text.toList == []) && decide (ordC L[j] L[k] < 0)))) := hst2
        have C2 := order_any L[j] L[k] W'.drew
        have HKEEP : Hid (∀ u, Below W'.drew.heap.size W'.drew u → u.cell? ⟨wr.heap.size, 0, none⟩ = some (.int .i64 L[k].row) ∧ u.cell? ⟨wr.heap.size, 1, none⟩ = some (.int .i64 L[k].col) ∧ u.cell? ⟨wr.heap.size, 2, none⟩ = some (.string L[k].text) ∧ (Instr.loadAt 57 (.pointer (some ⟨wr.heap.size, 0, none⟩))).run Tryz.prog u = .ok (cellV L[k]) u ∧ (Instr.loadAt 57 (.pointer (some (a'.add (j * 3))))).run Tryz.prog u = .ok (cellV L[j]) u) := fun u hu => by
          have hXu := (hu.block _ (blk_lt hX)).trans hX
          obtain ⟨q0, q1, q2⟩ := c_cells hXu
          obtain ⟨_, _, _, e3, rfl, _, RJ2, -, -⟩ := (HS0.out.below hhi (Sh.bel_step HDd.out HDd.out.size hu)).runs hjL
          cases e3
          exact ⟨q0, q1, q2, ldC hXu, RJ2.out⟩
        clear hst2 HF HFd hW' R4 hX hk0 hj
        generalize L[j] = p at *
        generalize L[k] = y at *
        obtain ⟨yr, yc, yt⟩ := y
        dsimp only at *
        have HS : Hid (W'.drew.cell? ⟨wr.heap.size, 0, none⟩ = some (.int .i64 yr) ∧ W'.drew.cell? ⟨wr.heap.size, 1, none⟩ = some (.int .i64 yc) ∧ W'.drew.cell? ⟨wr.heap.size, 2, none⟩ = some (.string yt) ∧ (Instr.loadAt 57 (.pointer (some ⟨wr.heap.size, 0, none⟩))).run Tryz.prog W'.drew = .ok (cellV ⟨yr, yc, yt⟩) W'.drew ∧ (Instr.loadAt 57 (.pointer (some (a'.add (j * 3))))).run Tryz.prog W'.drew = .ok (cellV p) W'.drew) := ⟨c0, c1, c2, hLX, RJ.out⟩
        clear c0 c1 c2 hLX RJ
        generalize ordC p ⟨yr, yc, yt⟩ = cv at *
        cases hin : insB yr yc with
        | false =>
          rw [hin] at C1 HST
          obtain rfl := HNO.out (by rw [HST.out]; rfl)
          clear HNO HYES C2 HKEEP
          go_wp2_with (first
            | (refine wpList_load_run rfl 57 _ rfl _ _ rfl R2.out ?_; clear R2)
            | (refine wpList_store_run rfl 57 _ _ rfl _ _ _ rfl rfl R3.out ?_; clear R3))
          refine wp_region_d (fun u => u.cell? ⟨wr.heap.size, 0, none⟩ = some (.int .i64 yr) ∧ u.cell? ⟨wr.heap.size, 1, none⟩ = some (.int .i64 yc) ∧ u.cell? ⟨wr.heap.size, 2, none⟩ = some (.string yt) ∧ (Instr.loadAt 57 (.pointer (some ⟨wr.heap.size, 0, none⟩))).run Tryz.prog u = .ok (cellV ⟨yr, yc, yt⟩) u ∧ (Instr.loadAt 57 (.pointer (some (a'.add (j * 3))))).run Tryz.prog u = .ok (cellV p) u) (fun j => false) (by kernel_rfl) ?_
          refine wpAnyD_pured (i := 0) (v := (.pointer (some ⟨wr.heap.size, 0, none⟩))) rfl rfl (by kernel_rfl) (by kernel_rfl) (by kernel_rfl) (fun _ _ _ h => h) (by go_simp) (by intro u; go_simp) ?_
          try simp only [Act.put, List.setIfInBounds_toArray, List.set_cons_zero, List.set_cons_succ]
          refine wpAnyD_loadd (i := 1) (v := (.int .i64 yr)) rfl rfl (by kernel_rfl) (by kernel_rfl) (by kernel_rfl) (by kernel_rfl) (fun _ _ _ h => h) (by go_simp) (fun u hSu => exec_load rfl rfl (ld1 hSu.1 (Tryz.isAgg3 _))) HS.out ?_
          try simp only [Act.put, List.setIfInBounds_toArray, List.set_cons_zero, List.set_cons_succ]
          refine wpAnyD_pured (i := 2) (v := (.pointer (some ⟨wr.heap.size, 1, none⟩))) rfl rfl (by kernel_rfl) (by kernel_rfl) (by kernel_rfl) (fun _ _ _ h => h) (by go_simp) (by intro u; go_simp) ?_
          try simp only [Act.put, List.setIfInBounds_toArray, List.set_cons_zero, List.set_cons_succ]
          refine wpAnyD_loadd (i := 3) (v := (.int .i64 yc)) rfl rfl (by kernel_rfl) (by kernel_rfl) (by kernel_rfl) (by kernel_rfl) (fun _ _ _ h => h) (by go_simp) (fun u hSu => exec_load rfl rfl (ld1 hSu.2.1 (Tryz.isAgg3 _))) HS.out ?_
          try simp only [Act.put, List.setIfInBounds_toArray, List.set_cons_zero, List.set_cons_succ]
          refine wpAnyD_one (i := 4) (by kernel_rfl) rfl ?_
          intro K' hK'
          go_simp
          refine C1.mono ?_
          clear C1
          rintro e w1 ⟨rfl, hw⟩
          obtain rfl := hw.symm
          clear hw
          refine hK' _ _ (.inr id) ?_
          clear hK'
          try simp only [Act.put, List.setIfInBounds_toArray, List.set_cons_zero, List.set_cons_succ]
          refine wpAnyD_pured (i := 5) (v := (.bool true)) rfl rfl (by kernel_rfl) (by kernel_rfl) (by kernel_rfl) (fun _ _ _ h => h) (by go_simp) (by intro u; go_simp) ?_
          try simp only [Act.put, List.setIfInBounds_toArray, List.set_cons_zero, List.set_cons_succ]
          refine wpAnyD_pured (i := 6) (v := (.bool true)) rfl rfl (by kernel_rfl) (by kernel_rfl) (by kernel_rfl) (fun _ _ _ h => h) (by go_simp) (by intro u; go_simp) ?_
          try simp only [Act.put, List.setIfInBounds_toArray, List.set_cons_zero, List.set_cons_succ]
          refine wpAnyD_skipd (i := 7) rfl rfl (by kernel_rfl) (by kernel_rfl) (by kernel_rfl) (fun _ _ _ h => h) (by go_simp <;> simp [undef]) ?_
          try simp only [Act.put, List.setIfInBounds_toArray, List.set_cons_zero, List.set_cons_succ]
          refine wpAnyD_skipd (i := 8) rfl rfl (by kernel_rfl) (by kernel_rfl) (by kernel_rfl) (fun _ _ _ h => h) (by go_simp <;> simp [undef]) ?_
          try simp only [Act.put, List.setIfInBounds_toArray, List.set_cons_zero, List.set_cons_succ]
          refine wpAnyD_skipd (i := 9) rfl rfl (by kernel_rfl) (by kernel_rfl) (by kernel_rfl) (fun _ _ _ h => h) (by go_simp <;> simp [undef]) ?_
          try simp only [Act.put, List.setIfInBounds_toArray, List.set_cons_zero, List.set_cons_succ]
          refine wpAnyD_pured (i := 10) (v := (.bool true)) rfl rfl (by kernel_rfl) (by kernel_rfl) (by kernel_rfl) (fun _ _ _ h => h) (by go_simp) (by intro u; go_simp) ?_
          try simp only [Act.put, List.setIfInBounds_toArray, List.set_cons_zero, List.set_cons_succ]
          refine wpAnyD_pured (i := 11) (v := (.bool true)) rfl rfl (by kernel_rfl) (by kernel_rfl) (by kernel_rfl) (fun _ _ _ h => h) (by go_simp) (by intro u; go_simp) ?_
          try simp only [Act.put, List.setIfInBounds_toArray, List.set_cons_zero, List.set_cons_succ]
          refine wpAnyD_skipd (i := 12) rfl rfl (by kernel_rfl) (by kernel_rfl) (by kernel_rfl) (fun _ _ _ h => h) (by go_simp <;> simp [undef]) ?_
          try simp only [Act.put, List.setIfInBounds_toArray, List.set_cons_zero, List.set_cons_succ]
          refine wpAnyD_skipd (i := 13) rfl rfl (by kernel_rfl) (by kernel_rfl) (by kernel_rfl) (fun _ _ _ h => h) (by go_simp <;> simp [undef]) ?_
          try simp only [Act.put, List.setIfInBounds_toArray, List.set_cons_zero, List.set_cons_succ]
          refine wpAnyD_skipd (i := 14) rfl rfl (by kernel_rfl) (by kernel_rfl) (by kernel_rfl) (fun _ _ _ h => h) (by go_simp <;> simp [undef]) ?_
          try simp only [Act.put, List.setIfInBounds_toArray, List.set_cons_zero, List.set_cons_succ]
          refine wpAnyD_skipd (i := 15) rfl rfl (by kernel_rfl) (by kernel_rfl) (by kernel_rfl) (fun _ _ _ h => h) (by go_simp <;> simp [undef]) ?_
          try simp only [Act.put, List.setIfInBounds_toArray, List.set_cons_zero, List.set_cons_succ]
          refine wpAnyD_skipd (i := 16) rfl rfl (by kernel_rfl) (by kernel_rfl) (by kernel_rfl) (fun _ _ _ h => h) (by go_simp <;> simp [undef]) ?_
          try simp only [Act.put, List.setIfInBounds_toArray, List.set_cons_zero, List.set_cons_succ]
          refine wpAnyD_skipd (i := 17) rfl rfl (by kernel_rfl) (by kernel_rfl) (by kernel_rfl) (fun _ _ _ h => h) (by go_simp <;> simp [undef]) ?_
          try simp only [Act.put, List.setIfInBounds_toArray, List.set_cons_zero, List.set_cons_succ]
          refine wpAnyD_skipd (i := 18) rfl rfl (by kernel_rfl) (by kernel_rfl) (by kernel_rfl) (fun _ _ _ h => h) (by go_simp <;> simp [undef]) ?_
          try simp only [Act.put, List.setIfInBounds_toArray, List.set_cons_zero, List.set_cons_succ]
          refine wpAnyD_skipd (i := 19) rfl rfl (by kernel_rfl) (by kernel_rfl) (by kernel_rfl) (fun _ _ _ h => h) (by go_simp <;> simp [undef]) ?_
          try simp only [Act.put, List.setIfInBounds_toArray, List.set_cons_zero, List.set_cons_succ]
          refine wpAnyD_skipd (i := 20) rfl rfl (by kernel_rfl) (by kernel_rfl) (by kernel_rfl) (fun _ _ _ h => h) (by go_simp <;> simp [undef]) ?_
          try simp only [Act.put, List.setIfInBounds_toArray, List.set_cons_zero, List.set_cons_succ]
          refine wpAnyD_skipd (i := 21) rfl rfl (by kernel_rfl) (by kernel_rfl) (by kernel_rfl) (fun _ _ _ h => h) (by go_simp <;> simp [undef]) ?_
          try simp only [Act.put, List.setIfInBounds_toArray, List.set_cons_zero, List.set_cons_succ]
          refine wpAnyD_skipd (i := 22) rfl rfl (by kernel_rfl) (by kernel_rfl) (by kernel_rfl) (fun _ _ _ h => h) (by go_simp <;> simp [undef]) ?_
          try simp only [Act.put, List.setIfInBounds_toArray, List.set_cons_zero, List.set_cons_succ]
          refine wpAnyD_skipd (i := 23) rfl rfl (by kernel_rfl) (by kernel_rfl) (by kernel_rfl) (fun _ _ _ h => h) (by go_simp <;> simp [undef]) ?_
          try simp only [Act.put, List.setIfInBounds_toArray, List.set_cons_zero, List.set_cons_succ]
          refine wpAnyD_pured (i := 24) (v := (.bool true)) rfl rfl (by kernel_rfl) (by kernel_rfl) (by kernel_rfl) (fun _ _ _ h => h) (by go_simp) (by intro u; go_simp) ?_
          try simp only [Act.put, List.setIfInBounds_toArray, List.set_cons_zero, List.set_cons_succ]
          refine wpAnyD_done (by kernel_rfl) ?_ _
          go_wp2
          go_ret
          exact ⟨rfl, HDd.out⟩
        | true =>
          rw [hin] at C1 HST
          cases hte : yt.toList == [] with
          | true =>
            rw [hte] at HST
            obtain rfl := HNO.out (by rw [HST.out]; rfl)
            clear HNO HYES C2 HKEEP
            go_wp2_with (first
              | (refine wpList_load_run rfl 57 _ rfl _ _ rfl R2.out ?_; clear R2)
              | (refine wpList_store_run rfl 57 _ _ rfl _ _ _ rfl rfl R3.out ?_; clear R3))
            refine wp_region_d (fun u => u.cell? ⟨wr.heap.size, 0, none⟩ = some (.int .i64 yr) ∧ u.cell? ⟨wr.heap.size, 1, none⟩ = some (.int .i64 yc) ∧ u.cell? ⟨wr.heap.size, 2, none⟩ = some (.string yt) ∧ (Instr.loadAt 57 (.pointer (some ⟨wr.heap.size, 0, none⟩))).run Tryz.prog u = .ok (cellV ⟨yr, yc, yt⟩) u ∧ (Instr.loadAt 57 (.pointer (some (a'.add (j * 3))))).run Tryz.prog u = .ok (cellV p) u) (fun j => false) (by kernel_rfl) ?_
            refine wpAnyD_pured (i := 0) (v := (.pointer (some ⟨wr.heap.size, 0, none⟩))) rfl rfl (by kernel_rfl) (by kernel_rfl) (by kernel_rfl) (fun _ _ _ h => h) (by go_simp) (by intro u; go_simp) ?_
            try simp only [Act.put, List.setIfInBounds_toArray, List.set_cons_zero, List.set_cons_succ]
            refine wpAnyD_loadd (i := 1) (v := (.int .i64 yr)) rfl rfl (by kernel_rfl) (by kernel_rfl) (by kernel_rfl) (by kernel_rfl) (fun _ _ _ h => h) (by go_simp) (fun u hSu => exec_load rfl rfl (ld1 hSu.1 (Tryz.isAgg3 _))) HS.out ?_
            try simp only [Act.put, List.setIfInBounds_toArray, List.set_cons_zero, List.set_cons_succ]
            refine wpAnyD_pured (i := 2) (v := (.pointer (some ⟨wr.heap.size, 1, none⟩))) rfl rfl (by kernel_rfl) (by kernel_rfl) (by kernel_rfl) (fun _ _ _ h => h) (by go_simp) (by intro u; go_simp) ?_
            try simp only [Act.put, List.setIfInBounds_toArray, List.set_cons_zero, List.set_cons_succ]
            refine wpAnyD_loadd (i := 3) (v := (.int .i64 yc)) rfl rfl (by kernel_rfl) (by kernel_rfl) (by kernel_rfl) (by kernel_rfl) (fun _ _ _ h => h) (by go_simp) (fun u hSu => exec_load rfl rfl (ld1 hSu.2.1 (Tryz.isAgg3 _))) HS.out ?_
            try simp only [Act.put, List.setIfInBounds_toArray, List.set_cons_zero, List.set_cons_succ]
            refine wpAnyD_one (i := 4) (by kernel_rfl) rfl ?_
            intro K' hK'
            go_simp
            refine C1.mono ?_
            clear C1
            rintro e w1 ⟨rfl, hw⟩
            obtain rfl := hw.symm
            clear hw
            refine hK' _ _ (.inr id) ?_
            clear hK'
            try simp only [Act.put, List.setIfInBounds_toArray, List.set_cons_zero, List.set_cons_succ]
            refine wpAnyD_pured (i := 5) (v := (.bool false)) rfl rfl (by kernel_rfl) (by kernel_rfl) (by kernel_rfl) (fun _ _ _ h => h) (by go_simp) (by intro u; go_simp) ?_
            try simp only [Act.put, List.setIfInBounds_toArray, List.set_cons_zero, List.set_cons_succ]
            refine wpAnyD_pured (i := 6) (v := (.bool false)) rfl rfl (by kernel_rfl) (by kernel_rfl) (by kernel_rfl) (fun _ _ _ h => h) (by go_simp) (by intro u; go_simp) ?_
            try simp only [Act.put, List.setIfInBounds_toArray, List.set_cons_zero, List.set_cons_succ]
            refine wpAnyD_pured (i := 7) (v := (.pointer (some ⟨wr.heap.size, 2, none⟩))) rfl rfl (by kernel_rfl) (by kernel_rfl) (by kernel_rfl) (fun _ _ _ h => h) (by go_simp) (by intro u; go_simp) ?_
            try simp only [Act.put, List.setIfInBounds_toArray, List.set_cons_zero, List.set_cons_succ]
            refine wpAnyD_loadd (i := 8) (v := (.string yt)) rfl rfl (by kernel_rfl) (by kernel_rfl) (by kernel_rfl) (by kernel_rfl) (fun _ _ _ h => h) (by go_simp) (fun u hSu => exec_load rfl rfl (ld1 hSu.2.2.1 (Tryz.isAgg9 _))) HS.out ?_
            try simp only [Act.put, List.setIfInBounds_toArray, List.set_cons_zero, List.set_cons_succ]
            refine wpAnyD_pured (i := 9) (v := (.bool true)) rfl rfl (by kernel_rfl) (by kernel_rfl) (by kernel_rfl) (fun _ _ _ h => h) (by go_simp) (by intro u; go_simp) ?_
            try simp only [Act.put, List.setIfInBounds_toArray, List.set_cons_zero, List.set_cons_succ]
            refine wpAnyD_pured (i := 10) (v := (.bool true)) rfl rfl (by kernel_rfl) (by kernel_rfl) (by kernel_rfl) (fun _ _ _ h => h) (by go_simp) (by intro u; go_simp) ?_
            try simp only [Act.put, List.setIfInBounds_toArray, List.set_cons_zero, List.set_cons_succ]
            refine wpAnyD_pured (i := 11) (v := (.bool true)) rfl rfl (by kernel_rfl) (by kernel_rfl) (by kernel_rfl) (fun _ _ _ h => h) (by go_simp) (by intro u; go_simp) ?_
            try simp only [Act.put, List.setIfInBounds_toArray, List.set_cons_zero, List.set_cons_succ]
            refine wpAnyD_skipd (i := 12) rfl rfl (by kernel_rfl) (by kernel_rfl) (by kernel_rfl) (fun _ _ _ h => h) (by go_simp <;> simp [undef]) ?_
            try simp only [Act.put, List.setIfInBounds_toArray, List.set_cons_zero, List.set_cons_succ]
            refine wpAnyD_skipd (i := 13) rfl rfl (by kernel_rfl) (by kernel_rfl) (by kernel_rfl) (fun _ _ _ h => h) (by go_simp <;> simp [undef]) ?_
            try simp only [Act.put, List.setIfInBounds_toArray, List.set_cons_zero, List.set_cons_succ]
            refine wpAnyD_skipd (i := 14) rfl rfl (by kernel_rfl) (by kernel_rfl) (by kernel_rfl) (fun _ _ _ h => h) (by go_simp <;> simp [undef]) ?_
            try simp only [Act.put, List.setIfInBounds_toArray, List.set_cons_zero, List.set_cons_succ]
            refine wpAnyD_skipd (i := 15) rfl rfl (by kernel_rfl) (by kernel_rfl) (by kernel_rfl) (fun _ _ _ h => h) (by go_simp <;> simp [undef]) ?_
            try simp only [Act.put, List.setIfInBounds_toArray, List.set_cons_zero, List.set_cons_succ]
            refine wpAnyD_skipd (i := 16) rfl rfl (by kernel_rfl) (by kernel_rfl) (by kernel_rfl) (fun _ _ _ h => h) (by go_simp <;> simp [undef]) ?_
            try simp only [Act.put, List.setIfInBounds_toArray, List.set_cons_zero, List.set_cons_succ]
            refine wpAnyD_skipd (i := 17) rfl rfl (by kernel_rfl) (by kernel_rfl) (by kernel_rfl) (fun _ _ _ h => h) (by go_simp <;> simp [undef]) ?_
            try simp only [Act.put, List.setIfInBounds_toArray, List.set_cons_zero, List.set_cons_succ]
            refine wpAnyD_skipd (i := 18) rfl rfl (by kernel_rfl) (by kernel_rfl) (by kernel_rfl) (fun _ _ _ h => h) (by go_simp <;> simp [undef]) ?_
            try simp only [Act.put, List.setIfInBounds_toArray, List.set_cons_zero, List.set_cons_succ]
            refine wpAnyD_skipd (i := 19) rfl rfl (by kernel_rfl) (by kernel_rfl) (by kernel_rfl) (fun _ _ _ h => h) (by go_simp <;> simp [undef]) ?_
            try simp only [Act.put, List.setIfInBounds_toArray, List.set_cons_zero, List.set_cons_succ]
            refine wpAnyD_skipd (i := 20) rfl rfl (by kernel_rfl) (by kernel_rfl) (by kernel_rfl) (fun _ _ _ h => h) (by go_simp <;> simp [undef]) ?_
            try simp only [Act.put, List.setIfInBounds_toArray, List.set_cons_zero, List.set_cons_succ]
            refine wpAnyD_skipd (i := 21) rfl rfl (by kernel_rfl) (by kernel_rfl) (by kernel_rfl) (fun _ _ _ h => h) (by go_simp <;> simp [undef]) ?_
            try simp only [Act.put, List.setIfInBounds_toArray, List.set_cons_zero, List.set_cons_succ]
            refine wpAnyD_skipd (i := 22) rfl rfl (by kernel_rfl) (by kernel_rfl) (by kernel_rfl) (fun _ _ _ h => h) (by go_simp <;> simp [undef]) ?_
            try simp only [Act.put, List.setIfInBounds_toArray, List.set_cons_zero, List.set_cons_succ]
            refine wpAnyD_skipd (i := 23) rfl rfl (by kernel_rfl) (by kernel_rfl) (by kernel_rfl) (fun _ _ _ h => h) (by go_simp <;> simp [undef]) ?_
            try simp only [Act.put, List.setIfInBounds_toArray, List.set_cons_zero, List.set_cons_succ]
            refine wpAnyD_pured (i := 24) (v := (.bool true)) rfl rfl (by kernel_rfl) (by kernel_rfl) (by kernel_rfl) (fun _ _ _ h => h) (by go_simp) (by intro u; go_simp) ?_
            try simp only [Act.put, List.setIfInBounds_toArray, List.set_cons_zero, List.set_cons_succ]
            refine wpAnyD_done (by kernel_rfl) ?_ _
            go_wp2
            go_ret
            exact ⟨rfl, HDd.out⟩
          | false =>
            rw [hte] at HST
            by_cases hc : cv < 0
            · have HY2 : Hid _ := HYES.out (by rw [HST.out]; simp [hc])
              have hc2 : ¬ 0 ≤ cv := by omega
              clear HNO HYES
              go_wp2_with (first
                | (refine wpList_load_run rfl 57 _ rfl _ _ rfl R2.out ?_; clear R2)
                | (refine wpList_store_run rfl 57 _ _ rfl _ _ _ rfl rfl R3.out ?_; clear R3))
              refine wp_region_d (fun u => u.cell? ⟨wr.heap.size, 0, none⟩ = some (.int .i64 yr) ∧ u.cell? ⟨wr.heap.size, 1, none⟩ = some (.int .i64 yc) ∧ u.cell? ⟨wr.heap.size, 2, none⟩ = some (.string yt) ∧ (Instr.loadAt 57 (.pointer (some ⟨wr.heap.size, 0, none⟩))).run Tryz.prog u = .ok (cellV ⟨yr, yc, yt⟩) u ∧ (Instr.loadAt 57 (.pointer (some (a'.add (j * 3))))).run Tryz.prog u = .ok (cellV p) u) (fun j => false) (by kernel_rfl) ?_
              refine wpAnyD_pured (i := 0) (v := (.pointer (some ⟨wr.heap.size, 0, none⟩))) rfl rfl (by kernel_rfl) (by kernel_rfl) (by kernel_rfl) (fun _ _ _ h => h) (by go_simp) (by intro u; go_simp) ?_
              try simp only [Act.put, List.setIfInBounds_toArray, List.set_cons_zero, List.set_cons_succ]
              refine wpAnyD_loadd (i := 1) (v := (.int .i64 yr)) rfl rfl (by kernel_rfl) (by kernel_rfl) (by kernel_rfl) (by kernel_rfl) (fun _ _ _ h => h) (by go_simp) (fun u hSu => exec_load rfl rfl (ld1 hSu.1 (Tryz.isAgg3 _))) HS.out ?_
              try simp only [Act.put, List.setIfInBounds_toArray, List.set_cons_zero, List.set_cons_succ]
              refine wpAnyD_pured (i := 2) (v := (.pointer (some ⟨wr.heap.size, 1, none⟩))) rfl rfl (by kernel_rfl) (by kernel_rfl) (by kernel_rfl) (fun _ _ _ h => h) (by go_simp) (by intro u; go_simp) ?_
              try simp only [Act.put, List.setIfInBounds_toArray, List.set_cons_zero, List.set_cons_succ]
              refine wpAnyD_loadd (i := 3) (v := (.int .i64 yc)) rfl rfl (by kernel_rfl) (by kernel_rfl) (by kernel_rfl) (by kernel_rfl) (fun _ _ _ h => h) (by go_simp) (fun u hSu => exec_load rfl rfl (ld1 hSu.2.1 (Tryz.isAgg3 _))) HS.out ?_
              try simp only [Act.put, List.setIfInBounds_toArray, List.set_cons_zero, List.set_cons_succ]
              refine wpAnyD_one (i := 4) (by kernel_rfl) rfl ?_
              intro K' hK'
              go_simp
              refine C1.mono ?_
              clear C1
              rintro e w1 ⟨rfl, hw⟩
              obtain rfl := hw.symm
              clear hw
              refine hK' _ _ (.inr id) ?_
              clear hK'
              try simp only [Act.put, List.setIfInBounds_toArray, List.set_cons_zero, List.set_cons_succ]
              refine wpAnyD_pured (i := 5) (v := (.bool false)) rfl rfl (by kernel_rfl) (by kernel_rfl) (by kernel_rfl) (fun _ _ _ h => h) (by go_simp) (by intro u; go_simp) ?_
              try simp only [Act.put, List.setIfInBounds_toArray, List.set_cons_zero, List.set_cons_succ]
              refine wpAnyD_pured (i := 6) (v := (.bool false)) rfl rfl (by kernel_rfl) (by kernel_rfl) (by kernel_rfl) (fun _ _ _ h => h) (by go_simp) (by intro u; go_simp) ?_
              try simp only [Act.put, List.setIfInBounds_toArray, List.set_cons_zero, List.set_cons_succ]
              refine wpAnyD_pured (i := 7) (v := (.pointer (some ⟨wr.heap.size, 2, none⟩))) rfl rfl (by kernel_rfl) (by kernel_rfl) (by kernel_rfl) (fun _ _ _ h => h) (by go_simp) (by intro u; go_simp) ?_
              try simp only [Act.put, List.setIfInBounds_toArray, List.set_cons_zero, List.set_cons_succ]
              refine wpAnyD_loadd (i := 8) (v := (.string yt)) rfl rfl (by kernel_rfl) (by kernel_rfl) (by kernel_rfl) (by kernel_rfl) (fun _ _ _ h => h) (by go_simp) (fun u hSu => exec_load rfl rfl (ld1 hSu.2.2.1 (Tryz.isAgg9 _))) HS.out ?_
              try simp only [Act.put, List.setIfInBounds_toArray, List.set_cons_zero, List.set_cons_succ]
              refine wpAnyD_pured (i := 9) (v := (.bool false)) rfl rfl (by kernel_rfl) (by kernel_rfl) (by kernel_rfl) (fun _ _ _ h => h) (by go_simp) (by intro u; go_simp) ?_
              try simp only [Act.put, List.setIfInBounds_toArray, List.set_cons_zero, List.set_cons_succ]
              refine wpAnyD_pured (i := 10) (v := (.bool false)) rfl rfl (by kernel_rfl) (by kernel_rfl) (by kernel_rfl) (fun _ _ _ h => h) (by go_simp) (by intro u; go_simp) ?_
              try simp only [Act.put, List.setIfInBounds_toArray, List.set_cons_zero, List.set_cons_succ]
              refine wpAnyD_pured (i := 11) (v := (.bool false)) rfl rfl (by kernel_rfl) (by kernel_rfl) (by kernel_rfl) (fun _ _ _ h => h) (by go_simp) (by intro u; go_simp) ?_
              try simp only [Act.put, List.setIfInBounds_toArray, List.set_cons_zero, List.set_cons_succ]
              refine wpAnyD_pured (i := 12) (v := (.int .i64 (k : Int))) rfl rfl (by kernel_rfl) (by kernel_rfl) (by kernel_rfl) (fun _ _ _ h => h) (by go_simp) (by intro u; go_simp) ?_
              try simp only [Act.put, List.setIfInBounds_toArray, List.set_cons_zero, List.set_cons_succ]
              refine wpAnyD_pured (i := 13) (v := (.bool true)) rfl rfl (by kernel_rfl) (by kernel_rfl) (by kernel_rfl) (fun _ _ _ h => h) (by go_simp) (by intro u; go_simp; omega) ?_
              try simp only [Act.put, List.setIfInBounds_toArray, List.set_cons_zero, List.set_cons_succ]
              refine wpAnyD_pured (i := 14) (v := (.bool true)) rfl rfl (by kernel_rfl) (by kernel_rfl) (by kernel_rfl) (fun _ _ _ h => h) (by go_simp) (by intro u; go_simp) ?_
              try simp only [Act.put, List.setIfInBounds_toArray, List.set_cons_zero, List.set_cons_succ]
              refine wpAnyD_pured (i := 15) (v := (.slice (some a') L.length c)) rfl rfl (by kernel_rfl) (by kernel_rfl) (by kernel_rfl) (fun _ _ _ h => h) (by go_simp) (by intro u; go_simp) ?_
              try simp only [Act.put, List.setIfInBounds_toArray, List.set_cons_zero, List.set_cons_succ]
              refine wpAnyD_pured (i := 16) (v := (.int .i64 (k : Int))) rfl rfl (by kernel_rfl) (by kernel_rfl) (by kernel_rfl) (fun _ _ _ h => h) (by go_simp) (by intro u; go_simp) ?_
              try simp only [Act.put, List.setIfInBounds_toArray, List.set_cons_zero, List.set_cons_succ]
              refine wpAnyD_pured (i := 17) (v := (.int .i64 (j : Int))) rfl rfl (by kernel_rfl) (by kernel_rfl) (by kernel_rfl) (fun _ _ _ h => h) (by go_simp) (by intro u; go_simp) ?_
              try simp only [Act.put, List.setIfInBounds_toArray, List.set_cons_zero, List.set_cons_succ]
              refine wpAnyD_pured (i := 18) (v := (.pointer (some (a'.add (j * 3))))) rfl rfl (by kernel_rfl) (by kernel_rfl) (by kernel_rfl) (fun _ _ _ h => h) (by go_simp) (by intro u; go_simp) ?_
              try simp only [Act.put, List.setIfInBounds_toArray, List.set_cons_zero, List.set_cons_succ]
              refine wpAnyD_loadd (i := 19) (v := (cellV p)) rfl rfl (by kernel_rfl) (by kernel_rfl) (by kernel_rfl) (by kernel_rfl) (fun _ _ _ h => h) (by go_simp) (fun u hSu => exec_load rfl rfl hSu.2.2.2.2) HS.out ?_
              try simp only [Act.put, List.setIfInBounds_toArray, List.set_cons_zero, List.set_cons_succ]
              refine wpAnyD_loadd (i := 20) (v := (cellV ⟨yr, yc, yt⟩)) rfl rfl (by kernel_rfl) (by kernel_rfl) (by kernel_rfl) (by kernel_rfl) (fun _ _ _ h => h) (by go_simp) (fun u hSu => exec_load rfl rfl hSu.2.2.2.1) HS.out ?_
              try simp only [Act.put, List.setIfInBounds_toArray, List.set_cons_zero, List.set_cons_succ]
              refine wpAnyD_one (i := 21) (by kernel_rfl) rfl ?_
              intro K' hK'
              go_simp
              refine C2.mono ?_
              clear C2
              rintro e w2 ⟨rfl, hb⟩
              have HB1 : Hid (Below w.heap.size w w2) := Sh.bel_step HDd.out HDd.out.size hb
              have HKP := HKEEP.out w2 hb
              clear hb
              refine hK' _ _ (.inr fun _ => HKP) ?_
              clear hK'
              try simp only [Act.put, List.setIfInBounds_toArray, List.set_cons_zero, List.set_cons_succ]
              refine wpAnyD_pured (i := 22) (v := (.bool false)) rfl rfl (by kernel_rfl) (by kernel_rfl) (by kernel_rfl) (fun _ _ _ h => h) (by go_simp) (by intro u; go_simp) ?_
              try simp only [Act.put, List.setIfInBounds_toArray, List.set_cons_zero, List.set_cons_succ]
              refine wpAnyD_pured (i := 23) (v := (.bool false)) rfl rfl (by kernel_rfl) (by kernel_rfl) (by kernel_rfl) (fun _ _ _ h => h) (by go_simp) (by intro u; go_simp) ?_
              try simp only [Act.put, List.setIfInBounds_toArray, List.set_cons_zero, List.set_cons_succ]
              refine wpAnyD_pured (i := 24) (v := (.bool false)) rfl rfl (by kernel_rfl) (by kernel_rfl) (by kernel_rfl) (fun _ _ _ h => h) (by go_simp) (by intro u; go_simp) ?_
              try simp only [Act.put, List.setIfInBounds_toArray, List.set_cons_zero, List.set_cons_succ]
              refine wpAnyD_done (by kernel_rfl) ?_ _
              go_wp2
              go_roundw
              case rel => exact ⟨k + 1, by omega, by go_num, HY2, HB1⟩
              case measure => simp [intOf]; omega
            · obtain rfl := HNO.out (by rw [HST.out]; simp [hc])
              have hc2 : 0 ≤ cv := by omega
              clear HNO HYES
              go_wp2_with (first
                | (refine wpList_load_run rfl 57 _ rfl _ _ rfl R2.out ?_; clear R2)
                | (refine wpList_store_run rfl 57 _ _ rfl _ _ _ rfl rfl R3.out ?_; clear R3))
              refine wp_region_d (fun u => u.cell? ⟨wr.heap.size, 0, none⟩ = some (.int .i64 yr) ∧ u.cell? ⟨wr.heap.size, 1, none⟩ = some (.int .i64 yc) ∧ u.cell? ⟨wr.heap.size, 2, none⟩ = some (.string yt) ∧ (Instr.loadAt 57 (.pointer (some ⟨wr.heap.size, 0, none⟩))).run Tryz.prog u = .ok (cellV ⟨yr, yc, yt⟩) u ∧ (Instr.loadAt 57 (.pointer (some (a'.add (j * 3))))).run Tryz.prog u = .ok (cellV p) u) (fun j => false) (by kernel_rfl) ?_
              refine wpAnyD_pured (i := 0) (v := (.pointer (some ⟨wr.heap.size, 0, none⟩))) rfl rfl (by kernel_rfl) (by kernel_rfl) (by kernel_rfl) (fun _ _ _ h => h) (by go_simp) (by intro u; go_simp) ?_
              try simp only [Act.put, List.setIfInBounds_toArray, List.set_cons_zero, List.set_cons_succ]
              refine wpAnyD_loadd (i := 1) (v := (.int .i64 yr)) rfl rfl (by kernel_rfl) (by kernel_rfl) (by kernel_rfl) (by kernel_rfl) (fun _ _ _ h => h) (by go_simp) (fun u hSu => exec_load rfl rfl (ld1 hSu.1 (Tryz.isAgg3 _))) HS.out ?_
              try simp only [Act.put, List.setIfInBounds_toArray, List.set_cons_zero, List.set_cons_succ]
              refine wpAnyD_pured (i := 2) (v := (.pointer (some ⟨wr.heap.size, 1, none⟩))) rfl rfl (by kernel_rfl) (by kernel_rfl) (by kernel_rfl) (fun _ _ _ h => h) (by go_simp) (by intro u; go_simp) ?_
              try simp only [Act.put, List.setIfInBounds_toArray, List.set_cons_zero, List.set_cons_succ]
              refine wpAnyD_loadd (i := 3) (v := (.int .i64 yc)) rfl rfl (by kernel_rfl) (by kernel_rfl) (by kernel_rfl) (by kernel_rfl) (fun _ _ _ h => h) (by go_simp) (fun u hSu => exec_load rfl rfl (ld1 hSu.2.1 (Tryz.isAgg3 _))) HS.out ?_
              try simp only [Act.put, List.setIfInBounds_toArray, List.set_cons_zero, List.set_cons_succ]
              refine wpAnyD_one (i := 4) (by kernel_rfl) rfl ?_
              intro K' hK'
              go_simp
              refine C1.mono ?_
              clear C1
              rintro e w1 ⟨rfl, hw⟩
              obtain rfl := hw.symm
              clear hw
              refine hK' _ _ (.inr id) ?_
              clear hK'
              try simp only [Act.put, List.setIfInBounds_toArray, List.set_cons_zero, List.set_cons_succ]
              refine wpAnyD_pured (i := 5) (v := (.bool false)) rfl rfl (by kernel_rfl) (by kernel_rfl) (by kernel_rfl) (fun _ _ _ h => h) (by go_simp) (by intro u; go_simp) ?_
              try simp only [Act.put, List.setIfInBounds_toArray, List.set_cons_zero, List.set_cons_succ]
              refine wpAnyD_pured (i := 6) (v := (.bool false)) rfl rfl (by kernel_rfl) (by kernel_rfl) (by kernel_rfl) (fun _ _ _ h => h) (by go_simp) (by intro u; go_simp) ?_
              try simp only [Act.put, List.setIfInBounds_toArray, List.set_cons_zero, List.set_cons_succ]
              refine wpAnyD_pured (i := 7) (v := (.pointer (some ⟨wr.heap.size, 2, none⟩))) rfl rfl (by kernel_rfl) (by kernel_rfl) (by kernel_rfl) (fun _ _ _ h => h) (by go_simp) (by intro u; go_simp) ?_
              try simp only [Act.put, List.setIfInBounds_toArray, List.set_cons_zero, List.set_cons_succ]
              refine wpAnyD_loadd (i := 8) (v := (.string yt)) rfl rfl (by kernel_rfl) (by kernel_rfl) (by kernel_rfl) (by kernel_rfl) (fun _ _ _ h => h) (by go_simp) (fun u hSu => exec_load rfl rfl (ld1 hSu.2.2.1 (Tryz.isAgg9 _))) HS.out ?_
              try simp only [Act.put, List.setIfInBounds_toArray, List.set_cons_zero, List.set_cons_succ]
              refine wpAnyD_pured (i := 9) (v := (.bool false)) rfl rfl (by kernel_rfl) (by kernel_rfl) (by kernel_rfl) (fun _ _ _ h => h) (by go_simp) (by intro u; go_simp) ?_
              try simp only [Act.put, List.setIfInBounds_toArray, List.set_cons_zero, List.set_cons_succ]
              refine wpAnyD_pured (i := 10) (v := (.bool false)) rfl rfl (by kernel_rfl) (by kernel_rfl) (by kernel_rfl) (fun _ _ _ h => h) (by go_simp) (by intro u; go_simp) ?_
              try simp only [Act.put, List.setIfInBounds_toArray, List.set_cons_zero, List.set_cons_succ]
              refine wpAnyD_pured (i := 11) (v := (.bool false)) rfl rfl (by kernel_rfl) (by kernel_rfl) (by kernel_rfl) (fun _ _ _ h => h) (by go_simp) (by intro u; go_simp) ?_
              try simp only [Act.put, List.setIfInBounds_toArray, List.set_cons_zero, List.set_cons_succ]
              refine wpAnyD_pured (i := 12) (v := (.int .i64 (k : Int))) rfl rfl (by kernel_rfl) (by kernel_rfl) (by kernel_rfl) (fun _ _ _ h => h) (by go_simp) (by intro u; go_simp) ?_
              try simp only [Act.put, List.setIfInBounds_toArray, List.set_cons_zero, List.set_cons_succ]
              refine wpAnyD_pured (i := 13) (v := (.bool true)) rfl rfl (by kernel_rfl) (by kernel_rfl) (by kernel_rfl) (fun _ _ _ h => h) (by go_simp) (by intro u; go_simp; omega) ?_
              try simp only [Act.put, List.setIfInBounds_toArray, List.set_cons_zero, List.set_cons_succ]
              refine wpAnyD_pured (i := 14) (v := (.bool true)) rfl rfl (by kernel_rfl) (by kernel_rfl) (by kernel_rfl) (fun _ _ _ h => h) (by go_simp) (by intro u; go_simp) ?_
              try simp only [Act.put, List.setIfInBounds_toArray, List.set_cons_zero, List.set_cons_succ]
              refine wpAnyD_pured (i := 15) (v := (.slice (some a') L.length c)) rfl rfl (by kernel_rfl) (by kernel_rfl) (by kernel_rfl) (fun _ _ _ h => h) (by go_simp) (by intro u; go_simp) ?_
              try simp only [Act.put, List.setIfInBounds_toArray, List.set_cons_zero, List.set_cons_succ]
              refine wpAnyD_pured (i := 16) (v := (.int .i64 (k : Int))) rfl rfl (by kernel_rfl) (by kernel_rfl) (by kernel_rfl) (fun _ _ _ h => h) (by go_simp) (by intro u; go_simp) ?_
              try simp only [Act.put, List.setIfInBounds_toArray, List.set_cons_zero, List.set_cons_succ]
              refine wpAnyD_pured (i := 17) (v := (.int .i64 (j : Int))) rfl rfl (by kernel_rfl) (by kernel_rfl) (by kernel_rfl) (fun _ _ _ h => h) (by go_simp) (by intro u; go_simp) ?_
              try simp only [Act.put, List.setIfInBounds_toArray, List.set_cons_zero, List.set_cons_succ]
              refine wpAnyD_pured (i := 18) (v := (.pointer (some (a'.add (j * 3))))) rfl rfl (by kernel_rfl) (by kernel_rfl) (by kernel_rfl) (fun _ _ _ h => h) (by go_simp) (by intro u; go_simp) ?_
              try simp only [Act.put, List.setIfInBounds_toArray, List.set_cons_zero, List.set_cons_succ]
              refine wpAnyD_loadd (i := 19) (v := (cellV p)) rfl rfl (by kernel_rfl) (by kernel_rfl) (by kernel_rfl) (by kernel_rfl) (fun _ _ _ h => h) (by go_simp) (fun u hSu => exec_load rfl rfl hSu.2.2.2.2) HS.out ?_
              try simp only [Act.put, List.setIfInBounds_toArray, List.set_cons_zero, List.set_cons_succ]
              refine wpAnyD_loadd (i := 20) (v := (cellV ⟨yr, yc, yt⟩)) rfl rfl (by kernel_rfl) (by kernel_rfl) (by kernel_rfl) (by kernel_rfl) (fun _ _ _ h => h) (by go_simp) (fun u hSu => exec_load rfl rfl hSu.2.2.2.1) HS.out ?_
              try simp only [Act.put, List.setIfInBounds_toArray, List.set_cons_zero, List.set_cons_succ]
              refine wpAnyD_one (i := 21) (by kernel_rfl) rfl ?_
              intro K' hK'
              go_simp
              refine C2.mono ?_
              clear C2
              rintro e w2 ⟨rfl, hb⟩
              have HB1 : Hid (Below w.heap.size w w2) := Sh.bel_step HDd.out HDd.out.size hb
              have HKP := HKEEP.out w2 hb
              clear hb
              refine hK' _ _ (.inr fun _ => HKP) ?_
              clear hK'
              try simp only [Act.put, List.setIfInBounds_toArray, List.set_cons_zero, List.set_cons_succ]
              refine wpAnyD_pured (i := 22) (v := (.bool true)) rfl rfl (by kernel_rfl) (by kernel_rfl) (by kernel_rfl) (fun _ _ _ h => h) (by go_simp) (by intro u; go_simp) ?_
              try simp only [Act.put, List.setIfInBounds_toArray, List.set_cons_zero, List.set_cons_succ]
              refine wpAnyD_pured (i := 23) (v := (.bool true)) rfl rfl (by kernel_rfl) (by kernel_rfl) (by kernel_rfl) (fun _ _ _ h => h) (by go_simp) (by intro u; go_simp) ?_
              try simp only [Act.put, List.setIfInBounds_toArray, List.set_cons_zero, List.set_cons_succ]
              refine wpAnyD_pured (i := 24) (v := (.bool true)) rfl rfl (by kernel_rfl) (by kernel_rfl) (by kernel_rfl) (fun _ _ _ h => h) (by go_simp) (by intro u; go_simp) ?_
              try simp only [Act.put, List.setIfInBounds_toArray, List.set_cons_zero, List.set_cons_succ]
              refine wpAnyD_done (by kernel_rfl) ?_ _
              go_wp2
              go_ret
              exact ⟨rfl, HB1.out⟩
    · have hki : ¬ (k : Int) < L.length := by omega
      obtain rfl : lb = true := by rw [← HO.out]; exact laid_yes fun i hi => HA.out i (by omega)
      go_wp2
      go_ret
      exact ⟨rfl, HD.out⟩
end Go.Proofs.YtpafokmkcblcnaaGreatDoor.Sh
