/- The contract of octavoref02.Book. -/
import Derived.Test.YtohndhmhgdelmaaDoorBkMem
import Derived.Test.YtohndhmhgdelmaaDoorRefCells
namespace Go.Proofs.YtohndhmhgdelmaaDoor
open Go.RowKit
set_option maxRecDepth 100000
set_option linter.unusedVariables false

set_option maxHeartbeats 8000000 in
theorem refBook_any {lo hi : Nat} {w : World} {sv nv lv : Value} {x : BookT} (hs : BkM lo hi w sv nv lv x) (hhi : hi ≤ w.heap.size) (ok : x.Ok) (hl : (bookB x).length + 10 ≤ 140737488355328) :
    Calls Tryd.prog 9 #[.agg #[sv, nv, lv]] w fun e w' => ∃ v', e = .returned v' ∧ Own w.heap.size w' v' (bookB x) ∧ Below w.heap.size w w' := by
  obtain ⟨sa, sc, rfl, _, _⟩ := hs.sh.slice
  obtain ⟨na, nc, rfl, _, _⟩ := hs.nm.slice
  obtain ⟨la, lc, rfl, _, _⟩ := hs.lk.slice
  obtain ⟨W0, hW0⟩ : ∃ W0, W0 = (w.alloc (.cells #[.slice sa x.sheets.length sc, .slice na x.names.length nc, .slice la x.links.length lc] 26)) := ⟨_, rfl⟩
  have HF : Hid (Below w.heap.size w W0) := by rw [hW0]; exact (Below.refl _ _).alloc (Nat.le_refl _) _
  have HS : Hid (∀ w', Below w.heap.size W0 w' → BkM lo hi w' (.slice sa x.sheets.length sc) (.slice na x.names.length nc) (.slice la x.links.length lc) x) := fun w' hw => hs.below hhi (HF.out.trans hw)
  have b0 : Hid (W0.heap[w.heap.size]? = some (.cells #[.slice sa x.sheets.length sc, .slice na x.names.length nc, .slice la x.links.length lc] 26)) := by rw [hW0]; exact heap_alloc_new w _
  have HB1 : Hid (w.heap.size < W0.heap.size) := by show _ < _; rw [hW0]; simp
  have HB0 : Hid (w.heap.size ≤ W0.heap.size) := Nat.le_of_lt HB1.out
  have hg1 := flatMap_ge sheetB_pos x.sheets
  have hg2 := flatMap_ge nameB_pos x.names
  have hg3 := flatMap_ge linkB_pos x.links
  simp only [bookB, lstB, List.length_append] at hl
  have HL0 : Hid (((numB x.sheets.length).length + (x.sheets.flatMap sheetB).length) + (((numB x.names.length).length + (x.names.flatMap nameB).length) + ((numB x.links.length).length + (x.links.flatMap linkB).length)) + 10 ≤ 140737488355328) := hl
  have hlen1 : x.sheets.length ≤ 140737488355328 := by omega
  have hlen2 : x.names.length ≤ 140737488355328 := by omega
  have hlen3 : x.links.length ≤ 140737488355328 := by omega
  have P1 := num_any (Own.nil W0 w.heap.size) HB0.out x.sheets.length (by constructor <;> omega) (by simp)
  rw [hW0] at P1
  have HW0 : Hid (W0 = (w.alloc (.cells #[.slice sa x.sheets.length sc, .slice na x.names.length nc, .slice la x.links.length lc] 26))) := hW0
  clear hs hl hg1 hg2 hg3 hW0
  go_enter Tryd.func9, Tryd.ntmps9
  go_wp2_with fail
  refine P1.mono ?_
  rintro e w1 ⟨v1, rfl, ap1⟩
  rw [← HW0.out] at ap1
  have HP : Hid (Apd w.heap.size W0 (.slice none 0 0) w1 v1 (numB x.sheets.length)) := by show Apd _ _ _ _ _ _; simpa using ap1
  have X1 := (ap1.gr.block _ HB1.out (by simp [Value.ownBlock])).trans b0.out
  have c1 := cell_heap X1 (j := 0) rfl
  clear P1 ap1 X1
  go_wp2_with fail
  go_loopw [3, 17] (fun u3 u17 wr => ∃ k : Nat, u17 = .int .i64 k ∧ k ≤ x.sheets.length ∧ Hid (Apd w.heap.size W0 (.slice none 0 0) wr u3 (numB x.sheets.length ++ (x.sheets.take k).flatMap sheetB))) (fun _ u17 _ => x.sheets.length - (intOf u17).toNat)
  case atStart => exact ⟨0, rfl, by omega, by show Apd _ _ _ _ _ _; simpa using HP.out⟩
  case round =>
    obtain ⟨k, rfl, hk, HD⟩ := hrel
    clear HP
    by_cases hlt : k < x.sheets.length
    · obtain ⟨a', cv, ov, W, rfl, ho, hcl, hW, R1, R2, -⟩ := (HS.out wr (HD.out.below (Own.nil _ _) HB0.out)).sh.runs hlt
      have hw : w.heap.size ≤ wr.heap.size := Nat.le_trans HB0.out HD.out.gr.size
      have okk := ok.1 _ (List.getElem_mem hlt)
      have HL1 : ((x.sheets.take k).flatMap sheetB).length + (sheetB x.sheets[k]).length ≤ (x.sheets.flatMap sheetB).length := flatMap_part sheetB x.sheets k hlt
      have HFm : Hid (((x.sheets.take k).flatMap sheetB ++ sheetB x.sheets[k]) = (x.sheets.take (k + 1)).flatMap sheetB) := (flatMap_snoc sheetB x.sheets k hlt).symm
      obtain ⟨ca, cc, rfl, _, _⟩ := hcl.slice
      generalize x.sheets[k] = y at *
      obtain ⟨sn, cs⟩ := y
      dsimp only at *
      simp only [sheetB, List.length_append] at HL1
      have HL : Hid ((numB x.sheets.length).length + (((x.sheets.take k).flatMap sheetB).length + ((textB sn).length + (lstB cellB cs).length)) + 10 ≤ 140737488355328) := by
        have := HL0.out
        show _ ≤ _
        omega
      have O0 : Hid (Own w.heap.size W u3 (numB x.sheets.length ++ (x.sheets.take k).flatMap sheetB)) := by rw [hW]; exact HD.out.own.alloc _
      have HK : Hid (W.heap[wr.heap.size]? = some (.cells #[.string sn, .slice ca cs.length cc] 52)) := by rw [hW]; exact heap_alloc_new wr _
      have HB : Hid (w.heap.size ≤ W.heap.size) := by show _ ≤ _; rw [hW]; simp; omega
      have HC : Hid (∀ w', Below w.heap.size W w' → Cls lo hi w' (.slice ca cs.length cc) cs) := fun w' hb => by
        rw [hW] at hb
        exact hcl.below hhi (((Below.refl _ wr).alloc hw _).trans hb)
      have HW : Hid (∀ w1 v1 m, Apd w.heap.size W u3 w1 v1 m → Apd w.heap.size wr u3 w1 v1 m) := fun w1 v1 m hm => by rw [hW] at hm; exact hm.of_alloc
      clear hW hcl ho
      have T1 : Hid (Calls Tryd.prog 26 #[u3, .string sn] (W).drew fun e w' => ∃ v', e = .returned v' ∧ Hid (w'.heap[wr.heap.size]? = some (.cells #[.string sn, .slice ca cs.length cc] 52)) ∧ Hid (Apd w.heap.size (W) u3 w' v' (numB x.sheets.length ++ (x.sheets.take k).flatMap sheetB ++ textB sn))) := by
        refine (refText_any (O0.out.drew) HB.out sn (by have := HL.out; (try simp only [List.length_append]); omega)).mono ?_
        rintro e w' ⟨v', rfl, ap⟩
        exact ⟨v', rfl, Apd.box (w := (W).drew) ap O0.out.drew (by decide) HK.out, ap.of_drew⟩
      have T2 : Hid (∀ w1 v1, Hid (w1.heap[wr.heap.size]? = some (.cells #[.string sn, .slice ca cs.length cc] 52)) → Hid (Apd w.heap.size (W) u3 w1 v1 (numB x.sheets.length ++ (x.sheets.take k).flatMap sheetB ++ textB sn)) → Calls Tryd.prog 25 #[v1, .slice ca cs.length cc] w1 fun e w' => ∃ v', e = .returned v' ∧ Hid (w'.heap[wr.heap.size]? = some (.cells #[.string sn, .slice ca cs.length cc] 52)) ∧ Hid (Apd w.heap.size (W) u3 w' v' (numB x.sheets.length ++ (x.sheets.take k).flatMap sheetB ++ textB sn ++ lstB cellB cs))) := by
        intro w1 v1 hk ap1
        refine (refCells_any (ap1.out.own) (Nat.le_trans HB.out ap1.out.gr.size) (HC.out _ (ap1.out.below O0.out HB.out)) hhi okk (by have := HL.out; (try simp only [List.length_append]); omega)).mono ?_
        rintro e w' ⟨v', rfl, ap⟩
        exact ⟨v', rfl, Apd.box ap ap1.out.own (by decide) hk.out, ap1.out.trans ap⟩
      have hk63 : k < 9223372036854775807 := by omega
      clear hw O0 HB HL HL1 okk HC
      go_wp2_with (first
        | (refine wpList_load_run rfl 52 _ rfl _ _ rfl R1.out ?_)
        | (refine wpList_store_run rfl 52 _ _ rfl _ _ _ rfl rfl R2.out ?_))
      clear R1 R2
      go_region_held_law (fun u => u.cell? ⟨wr.heap.size, 0, none⟩ = some (.string sn) ∧ u.cell? ⟨wr.heap.size, 1, none⟩ = some (.slice ca cs.length cc)) (exact ⟨cell_heap HK.out rfl, cell_heap HK.out rfl⟩) (first
        | (go_at_call 26; refine T1.out.mono ?_; rintro e w1 ⟨v1, rfl, HK, HA⟩)
        | (go_at_call 25; refine (T2.out _ _ HK HA).mono ?_; rintro e w1 ⟨v1, rfl, HK, HA⟩))
      have HD2 : Hid (Apd w.heap.size W0 (.slice none 0 0) w1 v1 (numB x.sheets.length ++ (x.sheets.take (k + 1)).flatMap sheetB)) := by
        have := HD.out.trans (HW.out _ _ _ HA.out)
        rw [← HFm.out]
        simp only [sheetB, List.append_assoc] at this ⊢
        exact this
      clear HA HK HD HFm HW T1 T2
      go_wp2_with fail
      go_roundw
      case rel => exact ⟨k + 1, by go_num, by omega, HD2⟩
      case measure => simp [intOf]; omega
    · have HD2 : Hid (Apd w.heap.size W0 (.slice none 0 0) wr u3 (lstB sheetB x.sheets)) := by
        have := HD.out
        rw [List.take_of_length_le (by omega)] at this
        exact this
      clear HD
      have X1 : Hid _ := (HD2.out.gr.block _ HB1.out (by simp [Value.ownBlock])).trans b0.out
      have c1 := cell_heap X1.out (j := 1) rfl
      have P2 := num_any HD2.out.own (Nat.le_trans HB0.out HD2.out.gr.size) x.names.length (by constructor <;> omega) (by have := HL0.out; simp only [lstB, List.length_append] at *; omega)
      go_wp2_with fail
      refine P2.mono ?_
      rintro e w2 ⟨v2, rfl, ap2⟩
      have HP : Hid (Apd w.heap.size W0 (.slice none 0 0) w2 v2 (lstB sheetB x.sheets ++ numB x.names.length)) := HD2.out.trans ap2
      have X2 := (HP.out.gr.block _ HB1.out (by simp [Value.ownBlock])).trans b0.out
      have c2 := cell_heap X2 (j := 1) rfl
      clear P2 ap2 HD2 X1 X2 c1
      go_wp2_with fail
      go_loopw [3, 37] (fun u3 u37 wr => ∃ k : Nat, u37 = .int .i64 k ∧ k ≤ x.names.length ∧ Hid (Apd w.heap.size W0 (.slice none 0 0) wr u3 (lstB sheetB x.sheets ++ (numB x.names.length ++ (x.names.take k).flatMap nameB)))) (fun _ u37 _ => x.names.length - (intOf u37).toNat)
      case atStart => exact ⟨0, rfl, by omega, by show Apd _ _ _ _ _ _; simpa using HP.out⟩
      case round =>
        obtain ⟨k, rfl, hk, HD⟩ := hrel
        clear HP
        by_cases hlt : k < x.names.length
        · obtain ⟨a', ov, W, rfl, ho, hW, R1, R2, R3⟩ := (HS.out wr (HD.out.below (Own.nil _ _) HB0.out)).nm.runs hlt
          have hw : w.heap.size ≤ wr.heap.size := Nat.le_trans HB0.out HD.out.gr.size
          have PN : Calls Tryd.prog 27 #[u3, ov] W fun e w' => ∃ v', e = .returned v' ∧ Hid (Apd w.heap.size W0 (.slice none 0 0) w' v' (lstB sheetB x.sheets ++ (numB x.names.length ++ (x.names.take (k + 1)).flatMap nameB))) := by
            rw [ho, hW]
            refine (refName_any (HD.out.own.alloc (.cells (nameC x.names[k]).toArray 64)) (by simp; omega) x.names[k] (by
              have h1 := flatMap_part nameB x.names k hlt
              have h2 := HL0.out
              simp only [lstB, List.length_append]
              omega)).mono ?_
            rintro e w2 ⟨v2, rfl, ap2⟩
            refine ⟨v2, rfl, ?_⟩
            have := HD.out.trans ap2.of_alloc
            rw [flatMap_snoc nameB x.names k hlt]
            simp only [List.append_assoc] at this ⊢
            exact this
          have hk63 : k < 9223372036854775807 := by omega
          clear hw ho hW HD
          go_wp2_with (first
            | (refine wpList_load_run rfl 64 _ rfl _ _ rfl R1.out ?_)
            | (refine wpList_store_run rfl 64 _ _ rfl _ _ _ rfl rfl R2.out ?_)
            | (refine wpList_load_run rfl 64 _ rfl _ _ rfl R3.out ?_)
            | (go_at_call 27; refine PN.mono ?_; rintro e w2 ⟨v2, rfl, HD2⟩))
          clear PN R1 R2 R3
          go_roundw
          case rel => exact ⟨k + 1, by go_num, by omega, HD2⟩
          case measure => simp [intOf]; omega
        · have HD2 : Hid (Apd w.heap.size W0 (.slice none 0 0) wr u3 (lstB sheetB x.sheets ++ lstB nameB x.names)) := by
            have := HD.out
            rw [List.take_of_length_le (by omega)] at this
            exact this
          clear HD
          have X2 : Hid _ := (HD2.out.gr.block _ HB1.out (by simp [Value.ownBlock])).trans b0.out
          have c2 := cell_heap X2.out (j := 2) rfl
          have P3 := num_any HD2.out.own (Nat.le_trans HB0.out HD2.out.gr.size) x.links.length (by constructor <;> omega) (by have := HL0.out; simp only [lstB, List.length_append] at *; omega)
          go_wp2_with fail
          refine P3.mono ?_
          rintro e w3 ⟨v3, rfl, ap3⟩
          have HP : Hid (Apd w.heap.size W0 (.slice none 0 0) w3 v3 (lstB sheetB x.sheets ++ lstB nameB x.names ++ numB x.links.length)) := HD2.out.trans ap3
          have X3 := (HP.out.gr.block _ HB1.out (by simp [Value.ownBlock])).trans b0.out
          have c3 := cell_heap X3 (j := 2) rfl
          clear P3 ap3 HD2 X2 X3 c2
          go_wp2_with fail
          go_loopw [3, 53] (fun u3 u53 wr => ∃ k : Nat, u53 = .int .i64 k ∧ k ≤ x.links.length ∧ Hid (Apd w.heap.size W0 (.slice none 0 0) wr u3 (lstB sheetB x.sheets ++ lstB nameB x.names ++ (numB x.links.length ++ (x.links.take k).flatMap linkB)))) (fun _ u53 _ => x.links.length - (intOf u53).toNat)
          case atStart => exact ⟨0, rfl, by omega, by show Apd _ _ _ _ _ _; simpa using HP.out⟩
          case round =>
            obtain ⟨k, rfl, hk, HD⟩ := hrel
            clear HP
            by_cases hlt : k < x.links.length
            · obtain ⟨a', ov, W, rfl, ho, hW, R1, R2, R3⟩ := (HS.out wr (HD.out.below (Own.nil _ _) HB0.out)).lk.runs hlt
              have hw : w.heap.size ≤ wr.heap.size := Nat.le_trans HB0.out HD.out.gr.size
              have PN : Calls Tryd.prog 28 #[u3, ov] W fun e w' => ∃ v', e = .returned v' ∧ Hid (Apd w.heap.size W0 (.slice none 0 0) w' v' (lstB sheetB x.sheets ++ lstB nameB x.names ++ (numB x.links.length ++ (x.links.take (k + 1)).flatMap linkB))) := by
                rw [ho, hW]
                refine (refLink_any (HD.out.own.alloc (.cells (linkC x.links[k]).toArray 69)) (by simp; omega) x.links[k] (ok.2 _ (List.getElem_mem _)) (by
                  have h1 := flatMap_part linkB x.links k hlt
                  have h2 := HL0.out
                  simp only [lstB, List.length_append]
                  omega)).mono ?_
                rintro e w2 ⟨v2, rfl, ap2⟩
                refine ⟨v2, rfl, ?_⟩
                have := HD.out.trans ap2.of_alloc
                rw [flatMap_snoc linkB x.links k hlt]
                simp only [List.append_assoc] at this ⊢
                exact this
              have hk63 : k < 9223372036854775807 := by omega
              clear hw ho hW HD
              go_wp2_with (first
                | (refine wpList_load_run rfl 69 _ rfl _ _ rfl R1.out ?_)
                | (refine wpList_store_run rfl 69 _ _ rfl _ _ _ rfl rfl R2.out ?_)
                | (refine wpList_load_run rfl 69 _ rfl _ _ rfl R3.out ?_)
                | (go_at_call 28; refine PN.mono ?_; rintro e w2 ⟨v2, rfl, HD2⟩))
              clear PN R1 R2 R3
              go_roundw
              case rel => exact ⟨k + 1, by go_num, by omega, HD2⟩
              case measure => simp [intOf]; omega
            · have HD2 : Hid (Apd w.heap.size W0 (.slice none 0 0) wr u3 (lstB sheetB x.sheets ++ lstB nameB x.names ++ lstB linkB x.links)) := by
                have := HD.out
                rw [List.take_of_length_le (by omega)] at this
                exact this
              clear HD
              go_wp2_with fail
              go_ret
              exact ⟨u3, rfl, by have := HD2.out.own; simp only [List.append_assoc] at this; exact this, HF.out.trans (HD2.out.below (Own.nil _ _) HB0.out)⟩

end Go.Proofs.YtohndhmhgdelmaaDoor
