import Derived.Test.YtohndhmhgdelmaaDoorBkMem
import Derived.Test.YtohndhmhgdelmaaDoorPutOp2
/- The contract of putList of names. -/
namespace Go.Proofs.YtohndhmhgdelmaaDoor
open Go.RowKit
set_option maxRecDepth 100000
set_option linter.unusedVariables false

set_option maxHeartbeats 4000000 in
theorem putNames_any {base lo hi : Nat} {w : World} {v : Value} {l : List UInt8} (h : Own base w v l) (hb : base ≤ w.heap.size) {iv : Value} {L : List NameT} (hs : Nms lo hi w iv L) (hhi : hi ≤ base) (hl : l.length + (lstB nameB L).length + 10 ≤ 140737488355328) :
    Calls Tryd.prog 50 #[v, iv, .func (.func 51) #[] #[]] w fun e w' => ∃ v', e = .returned v' ∧ Apd base w v w' v' (l ++ lstB nameB L) := by
  have H : Hid (Own base w v l) := h
  have HS : Hid (∀ w', Below base w w' → Nms lo hi w' iv L) := fun w' hw => hs.below hhi hw
  have hg := flatMap_ge nameB_pos L
  simp only [lstB, List.length_append] at hl
  have P1 := putNumber_any h hb L.length (by constructor <;> omega) (by omega)
  obtain ⟨a, c, rfl, _, _⟩ := hs.slice
  have HL : Hid (l.length + ((numB L.length).length + (L.flatMap nameB).length) + 10 ≤ 140737488355328) := hl
  have hlen : L.length ≤ 140737488355328 := by omega
  clear h hs hl hg
  go_enter Tryd.func50, Tryd.ntmps50
  go_wp2_with (go_at_call 46; refine P1.mono ?_; rintro e w1 ⟨v1, rfl, ap1⟩)
  have HP : Hid (Apd base w v w1 v1 (l ++ numB L.length)) := ap1
  clear P1 ap1
  go_loopw [0, 15] (fun u0 u15 wr => ∃ k : Nat, u15 = .int .i64 k ∧ k ≤ L.length ∧ Hid (Apd base w v wr u0 (l ++ (numB L.length ++ (L.take k).flatMap nameB)))) (fun _ u15 _ => L.length - (intOf u15).toNat)
  case atStart => exact ⟨0, rfl, by omega, by show Apd _ _ _ _ _ _; simpa using HP.out⟩
  case round =>
    obtain ⟨k, rfl, hk, HD⟩ := hrel
    clear HP
    by_cases hlt : k < L.length
    · obtain ⟨a', ov, W, rfl, ho, hW, R1, R2, R3⟩ := (HS.out wr (HD.out.below H.out hb)).runs hlt
      have hw : base ≤ wr.heap.size := Nat.le_trans hb HD.out.gr.size
      have PN : Calls Tryd.prog 51 #[u0, ov] W fun e w' => ∃ v', e = .returned v' ∧ Hid (Apd base w v w' v' (l ++ (numB L.length ++ (L.take (k + 1)).flatMap nameB))) := by
        rw [ho, hW]
        refine (putName_any (HD.out.own.alloc (.cells (nameC L[k]).toArray 64)) (by simp; omega) L[k] (by
          have h1 := flatMap_part nameB L k hlt
          have h2 := HL.out
          simp only [List.length_append]
          omega)).mono ?_
        rintro e w2 ⟨v2, rfl, ap2⟩
        refine ⟨v2, rfl, ?_⟩
        have := HD.out.trans ap2.of_alloc
        rw [List.append_assoc, List.append_assoc, ← flatMap_snoc nameB L k hlt] at this
        exact this
      have hk63 : k < 9223372036854775807 := by omega
      clear hw ho hW HD
      go_wp2_with (first
        | (refine wpList_load_run rfl 64 _ rfl _ _ rfl R1.out ?_)
        | (refine wpList_store_run rfl 64 _ _ rfl _ _ _ rfl rfl R2.out ?_)
        | (refine wpList_load_run rfl 64 _ rfl _ _ rfl R3.out ?_)
        | (go_at_call 51; refine PN.mono ?_; rintro e w2 ⟨v2, rfl, HD2⟩))
      clear PN R1 R2 R3
      go_roundw
      case rel => exact ⟨k + 1, by go_num, by omega, HD2⟩
      case measure => simp [intOf]; omega
    · have HD2 : Hid (Apd base w v wr u0 (l ++ lstB nameB L)) := by
        have := HD.out
        rw [List.take_of_length_le (by omega)] at this
        exact this
      clear HD
      go_wp2_with fail
      go_ret
      exact ⟨u0, rfl, HD2.out⟩

end Go.Proofs.YtohndhmhgdelmaaDoor

/- The contract of putList of links. -/
namespace Go.Proofs.YtohndhmhgdelmaaDoor
open Go.RowKit
set_option maxRecDepth 100000
set_option linter.unusedVariables false

set_option maxHeartbeats 4000000 in
theorem putLinks_any {base lo hi : Nat} {w : World} {v : Value} {l : List UInt8} (h : Own base w v l) (hb : base ≤ w.heap.size) {iv : Value} {L : List LinkT} (hs : Lks lo hi w iv L) (hhi : hi ≤ base) (hn : ∀ c ∈ L, c.Ok) (hl : l.length + (lstB linkB L).length + 10 ≤ 140737488355328) :
    Calls Tryd.prog 52 #[v, iv, .func (.func 53) #[] #[]] w fun e w' => ∃ v', e = .returned v' ∧ Apd base w v w' v' (l ++ lstB linkB L) := by
  have H : Hid (Own base w v l) := h
  have HS : Hid (∀ w', Below base w w' → Lks lo hi w' iv L) := fun w' hw => hs.below hhi hw
  have hg := flatMap_ge linkB_pos L
  simp only [lstB, List.length_append] at hl
  have P1 := putNumber_any h hb L.length (by constructor <;> omega) (by omega)
  obtain ⟨a, c, rfl, _, _⟩ := hs.slice
  have HL : Hid (l.length + ((numB L.length).length + (L.flatMap linkB).length) + 10 ≤ 140737488355328) := hl
  have hlen : L.length ≤ 140737488355328 := by omega
  clear h hs hl hg
  go_enter Tryd.func52, Tryd.ntmps52
  go_wp2_with (go_at_call 46; refine P1.mono ?_; rintro e w1 ⟨v1, rfl, ap1⟩)
  have HP : Hid (Apd base w v w1 v1 (l ++ numB L.length)) := ap1
  clear P1 ap1
  go_loopw [0, 15] (fun u0 u15 wr => ∃ k : Nat, u15 = .int .i64 k ∧ k ≤ L.length ∧ Hid (Apd base w v wr u0 (l ++ (numB L.length ++ (L.take k).flatMap linkB)))) (fun _ u15 _ => L.length - (intOf u15).toNat)
  case atStart => exact ⟨0, rfl, by omega, by show Apd _ _ _ _ _ _; simpa using HP.out⟩
  case round =>
    obtain ⟨k, rfl, hk, HD⟩ := hrel
    clear HP
    by_cases hlt : k < L.length
    · obtain ⟨a', ov, W, rfl, ho, hW, R1, R2, R3⟩ := (HS.out wr (HD.out.below H.out hb)).runs hlt
      have hw : base ≤ wr.heap.size := Nat.le_trans hb HD.out.gr.size
      have PN : Calls Tryd.prog 53 #[u0, ov] W fun e w' => ∃ v', e = .returned v' ∧ Hid (Apd base w v w' v' (l ++ (numB L.length ++ (L.take (k + 1)).flatMap linkB))) := by
        rw [ho, hW]
        refine (putLink_any (HD.out.own.alloc (.cells (linkC L[k]).toArray 69)) (by simp; omega) L[k] (hn _ (List.getElem_mem _)) (by
          have h1 := flatMap_part linkB L k hlt
          have h2 := HL.out
          simp only [List.length_append]
          omega)).mono ?_
        rintro e w2 ⟨v2, rfl, ap2⟩
        refine ⟨v2, rfl, ?_⟩
        have := HD.out.trans ap2.of_alloc
        rw [List.append_assoc, List.append_assoc, ← flatMap_snoc linkB L k hlt] at this
        exact this
      have hk63 : k < 9223372036854775807 := by omega
      clear hw ho hW HD
      go_wp2_with (first
        | (refine wpList_load_run rfl 69 _ rfl _ _ rfl R1.out ?_)
        | (refine wpList_store_run rfl 69 _ _ rfl _ _ _ rfl rfl R2.out ?_)
        | (refine wpList_load_run rfl 69 _ rfl _ _ rfl R3.out ?_)
        | (go_at_call 53; refine PN.mono ?_; rintro e w2 ⟨v2, rfl, HD2⟩))
      clear PN R1 R2 R3
      go_roundw
      case rel => exact ⟨k + 1, by go_num, by omega, HD2⟩
      case measure => simp [intOf]; omega
    · have HD2 : Hid (Apd base w v wr u0 (l ++ lstB linkB L)) := by
        have := HD.out
        rw [List.take_of_length_le (by omega)] at this
        exact this
      clear HD
      go_wp2_with fail
      go_ret
      exact ⟨u0, rfl, HD2.out⟩

end Go.Proofs.YtohndhmhgdelmaaDoor

/- The contracts of putSheet and of putList of sheets. -/
namespace Go.Proofs.YtohndhmhgdelmaaDoor
open Go.RowKit
set_option maxRecDepth 100000
set_option linter.unusedVariables false

set_option maxHeartbeats 2000000 in
theorem putSheet_any {base : Nat} {w : World} {v : Value} {l : List UInt8} (h : Own base w v l) (hb : base ≤ w.heap.size) (x : SheetT) (ok : x.Ok) {lo hi : Nat} {cv : Value} (hs : Cls lo hi w cv x.cells) (hhi : hi ≤ base) (hl : l.length + (sheetB x).length + 10 ≤ 140737488355328) :
    Calls Tryd.prog 49 #[v, sheetV x cv] w fun e w' => ∃ v', e = .returned v' ∧ Apd base w v w' v' (l ++ sheetB x) := by
  simp only [sheetB, List.length_append] at *
  have o0 := h.alloc (.cells #[.string x.name, cv] 52)
  have b0 : Hid ((w.alloc (.cells #[.string x.name, cv] 52)).heap[w.heap.size]? = some (.cells #[.string x.name, cv] 52)) := heap_alloc_new w _
  have O0 : Hid _ := o0
  have HL : Hid _ := hl
  have HB : Hid (base ≤ (w.alloc (.cells #[.string x.name, cv] 52)).heap.size) := by show _ ≤ _; simp; omega
  have HS : Hid (∀ w', Below base (w.alloc (.cells #[.string x.name, cv] 52)) w' → Cls lo hi w' cv x.cells) := fun w' hw => (hs.below hhi ((Below.refl base w).alloc hb _)).below hhi hw
  obtain ⟨ca, cc, rfl, _, _⟩ := hs.slice
  clear hs
  have C1 := putText_any (O0.out) HB.out x.name (by have := HL.out; (try simp only [List.length_append]); omega)
  clear h o0 hl hb
  go_enter Tryd.func49, Tryd.ntmps49
  go_wp2_with fail
  refine C1.mono ?_
  rintro e w1 ⟨v1, rfl, a1⟩
  have b1 : Hid _ := a1.box (O0.out) (by decide) b0.out
  have x1_1 := cell_heap b1.out (j := 1) rfl
  have A1 : Hid _ := a1
  have C2 := putCells_any (A1.out.own) (Nat.le_trans HB.out A1.out.gr.size) (HS.out _ (A1.out.below O0.out HB.out)) hhi ok (by have := HL.out; (try simp only [List.length_append]); omega)
  clear C1 a1 b0
  go_wp2_with fail
  refine C2.mono ?_
  rintro e w2 ⟨v2, rfl, a2⟩
  have A2 : Hid _ := A1.out.trans a2
  clear C2 a2 A1 b1 x1_1
  go_wp2_with fail
  go_ret
  exact ⟨v2, rfl, by have := A2.out.of_alloc; simp only [List.append_assoc] at this; exact this⟩

set_option maxHeartbeats 4000000 in
theorem putSheets_any {base lo hi : Nat} {w : World} {v : Value} {l : List UInt8} (h : Own base w v l) (hb : base ≤ w.heap.size) {iv : Value} {L : List SheetT} (hs : Shs lo hi w iv L) (hhi : hi ≤ base) (hn : ∀ c ∈ L, c.Ok) (hl : l.length + (lstB sheetB L).length + 10 ≤ 140737488355328) :
    Calls Tryd.prog 48 #[v, iv, .func (.func 49) #[] #[]] w fun e w' => ∃ v', e = .returned v' ∧ Apd base w v w' v' (l ++ lstB sheetB L) := by
  have H : Hid (Own base w v l) := h
  have HS : Hid (∀ w', Below base w w' → Shs lo hi w' iv L) := fun w' hw => hs.below hhi hw
  have hg := flatMap_ge sheetB_pos L
  simp only [lstB, List.length_append] at hl
  have P1 := putNumber_any h hb L.length (by constructor <;> omega) (by omega)
  obtain ⟨a, c, rfl, _, _⟩ := hs.slice
  have HL : Hid (l.length + ((numB L.length).length + (L.flatMap sheetB).length) + 10 ≤ 140737488355328) := hl
  have hlen : L.length ≤ 140737488355328 := by omega
  clear h hs hl hg
  go_enter Tryd.func48, Tryd.ntmps48
  go_wp2_with (go_at_call 46; refine P1.mono ?_; rintro e w1 ⟨v1, rfl, ap1⟩)
  have HP : Hid (Apd base w v w1 v1 (l ++ numB L.length)) := ap1
  clear P1 ap1
  go_loopw [0, 15] (fun u0 u15 wr => ∃ k : Nat, u15 = .int .i64 k ∧ k ≤ L.length ∧ Hid (Apd base w v wr u0 (l ++ (numB L.length ++ (L.take k).flatMap sheetB)))) (fun _ u15 _ => L.length - (intOf u15).toNat)
  case atStart => exact ⟨0, rfl, by omega, by show Apd _ _ _ _ _ _; simpa using HP.out⟩
  case round =>
    obtain ⟨k, rfl, hk, HD⟩ := hrel
    clear HP
    by_cases hlt : k < L.length
    · obtain ⟨a', cv, ov, W, rfl, ho, hcl, hW, R1, R2, R3⟩ := (HS.out wr (HD.out.below H.out hb)).runs hlt
      have hw : base ≤ wr.heap.size := Nat.le_trans hb HD.out.gr.size
      have PN : Calls Tryd.prog 49 #[u0, ov] W fun e w' => ∃ v', e = .returned v' ∧ Hid (Apd base w v w' v' (l ++ (numB L.length ++ (L.take (k + 1)).flatMap sheetB))) := by
        rw [ho, hW]
        refine (putSheet_any (HD.out.own.alloc (.cells (sheetC L[k] cv).toArray 52)) (by simp; omega) L[k] (hn _ (List.getElem_mem _)) (hcl.below hhi ((Below.refl base wr).alloc hw _)) hhi (by
          have h1 := flatMap_part sheetB L k hlt
          have h2 := HL.out
          simp only [List.length_append]
          omega)).mono ?_
        rintro e w2 ⟨v2, rfl, ap2⟩
        refine ⟨v2, rfl, ?_⟩
        have := HD.out.trans ap2.of_alloc
        rw [List.append_assoc, List.append_assoc, ← flatMap_snoc sheetB L k hlt] at this
        exact this
      have hk63 : k < 9223372036854775807 := by omega
      clear hw ho hW HD hcl
      go_wp2_with (first
        | (refine wpList_load_run rfl 52 _ rfl _ _ rfl R1.out ?_)
        | (refine wpList_store_run rfl 52 _ _ rfl _ _ _ rfl rfl R2.out ?_)
        | (refine wpList_load_run rfl 52 _ rfl _ _ rfl R3.out ?_)
        | (go_at_call 49; refine PN.mono ?_; rintro e w2 ⟨v2, rfl, HD2⟩))
      clear PN R1 R2 R3
      go_roundw
      case rel => exact ⟨k + 1, by go_num, by omega, HD2⟩
      case measure => simp [intOf]; omega
    · have HD2 : Hid (Apd base w v wr u0 (l ++ lstB sheetB L)) := by
        have := HD.out
        rw [List.take_of_length_le (by omega)] at this
        exact this
      clear HD
      go_wp2_with fail
      go_ret
      exact ⟨u0, rfl, HD2.out⟩

end Go.Proofs.YtohndhmhgdelmaaDoor

/- The contracts of putBook and of bytes.Book. -/
namespace Go.Proofs.YtohndhmhgdelmaaDoor
open Go.RowKit
set_option maxRecDepth 100000
set_option linter.unusedVariables false

set_option maxHeartbeats 2000000 in
theorem putBook_any {base : Nat} {w : World} {v : Value} {l : List UInt8} (h : Own base w v l) (hb : base ≤ w.heap.size) (x : BookT) (ok : x.Ok) {lo hi : Nat} {sv nv lv : Value} (hs : BkM lo hi w sv nv lv x) (hhi : hi ≤ base) (hl : l.length + (bookB x).length + 10 ≤ 140737488355328) :
    Calls Tryd.prog 23 #[v, .agg #[sv, nv, lv]] w fun e w' => ∃ v', e = .returned v' ∧ Apd base w v w' v' (l ++ bookB x) := by
  simp only [bookB, List.length_append] at *
  have o0 := h.alloc (.cells #[sv, nv, lv] 26)
  have b0 : Hid ((w.alloc (.cells #[sv, nv, lv] 26)).heap[w.heap.size]? = some (.cells #[sv, nv, lv] 26)) := heap_alloc_new w _
  have O0 : Hid _ := o0
  have HL : Hid _ := hl
  have HB : Hid (base ≤ (w.alloc (.cells #[sv, nv, lv] 26)).heap.size) := by show _ ≤ _; simp; omega
  have HS : Hid (∀ w', Below base (w.alloc (.cells #[sv, nv, lv] 26)) w' → BkM lo hi w' sv nv lv x) := fun w' hw => (hs.below hhi ((Below.refl base w).alloc hb _)).below hhi hw
  obtain ⟨sa, sc, rfl, _, _⟩ := hs.sh.slice
  obtain ⟨na, nc, rfl, _, _⟩ := hs.nm.slice
  obtain ⟨la, lc, rfl, _, _⟩ := hs.lk.slice
  clear hs
  have C1 := putSheets_any (O0.out) HB.out (HS.out _ (Below.refl _ _)).sh hhi ok.1 (by have := HL.out; (try simp only [List.length_append]); omega)
  clear h o0 hl hb
  go_enter Tryd.func23, Tryd.ntmps23
  go_wp2_with fail
  refine C1.mono ?_
  rintro e w1 ⟨v1, rfl, a1⟩
  have b1 : Hid _ := a1.box (O0.out) (by decide) b0.out
  have x1_1 := cell_heap b1.out (j := 1) rfl
  have A1 : Hid _ := a1
  have C2 := putNames_any (A1.out.own) (Nat.le_trans HB.out A1.out.gr.size) (HS.out _ (A1.out.below O0.out HB.out)).nm hhi (by have := HL.out; (try simp only [List.length_append]); omega)
  clear C1 a1 b0
  go_wp2_with fail
  refine C2.mono ?_
  rintro e w2 ⟨v2, rfl, a2⟩
  have b2 : Hid _ := a2.box (A1.out.own) (by decide) b1.out
  have x2_2 := cell_heap b2.out (j := 2) rfl
  have A2 : Hid _ := A1.out.trans a2
  have C3 := putLinks_any (A2.out.own) (Nat.le_trans HB.out A2.out.gr.size) (HS.out _ (A2.out.below O0.out HB.out)).lk hhi ok.2 (by have := HL.out; (try simp only [List.length_append]); omega)
  clear C2 a2 A1 b1 x1_1
  go_wp2_with fail
  refine C3.mono ?_
  rintro e w3 ⟨v3, rfl, a3⟩
  have A3 : Hid _ := A2.out.trans a3
  clear C3 a3 A2 b2 x2_2
  go_wp2_with fail
  go_ret
  exact ⟨v3, rfl, by have := A3.out.of_alloc; simp only [List.append_assoc] at this; exact this⟩

set_option maxHeartbeats 1000000 in
theorem book_any {lo hi : Nat} {w : World} {sv nv lv : Value} {x : BookT} (hs : BkM lo hi w sv nv lv x) (hhi : hi ≤ w.heap.size) (ok : x.Ok) (hl : (bookB x).length + 10 ≤ 140737488355328) :
    Calls Tryd.prog 7 #[.agg #[sv, nv, lv]] w fun e w' => ∃ v', e = .returned v' ∧ Own w.heap.size w' v' (bookB x) ∧ Below w.heap.size w w' := by
  obtain ⟨sa, sc, rfl, _, _⟩ := hs.sh.slice
  obtain ⟨na, nc, rfl, _, _⟩ := hs.nm.slice
  obtain ⟨la, lc, rfl, _, _⟩ := hs.lk.slice
  have hB : Below w.heap.size w (w.alloc (.cells #[.slice sa x.sheets.length sc, .slice na x.names.length nc, .slice la x.links.length lc] 26)) := (Below.refl _ _).alloc (Nat.le_refl _) _
  have P := putBook_any (Own.nil (w.alloc (.cells #[.slice sa x.sheets.length sc, .slice na x.names.length nc, .slice la x.links.length lc] 26)) w.heap.size) (by simp) x ok (hs.below hhi hB) hhi (by simpa using hl)
  have b0 : Hid ((w.alloc (.cells #[.slice sa x.sheets.length sc, .slice na x.names.length nc, .slice la x.links.length lc] 26)).heap[w.heap.size]? = some (.cells #[.slice sa x.sheets.length sc, .slice na x.names.length nc, .slice la x.links.length lc] 26)) := heap_alloc_new w _
  have HB : Hid _ := hB
  clear hs hl hB
  go_enter Tryd.func7, Tryd.ntmps7
  go_wp2_with (go_at_call 23; refine P.mono ?_; rintro e w2 ⟨v2, rfl, ap2⟩)
  go_ret
  exact ⟨v2, rfl, by simpa using ap2.own, HB.out.trans (ap2.below (Own.nil _ _) (by simp))⟩

end Go.Proofs.YtohndhmhgdelmaaDoor
