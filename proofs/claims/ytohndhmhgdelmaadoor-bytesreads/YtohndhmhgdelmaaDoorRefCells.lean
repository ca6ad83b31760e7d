/- The contract of the reference's cells. -/
import Derived.Test.YtohndhmhgdelmaaDoorRefOp
namespace Go.Proofs.YtohndhmhgdelmaaDoor
open Go.RowKit
set_option maxRecDepth 100000

set_option maxHeartbeats 2000000 in
theorem refCells_any {base lo hi : Nat} {w : World} {v : Value} {l : List UInt8} (h : Own base w v l) (hb : base ≤ w.heap.size) {iv : Value} {L : List CellT} (hs : Cls lo hi w iv L) (hhi : hi ≤ base) (hn : ∀ c ∈ L, c.Ok) (hl : l.length + (lstB cellB L).length + 10 ≤ 140737488355328) :
    Calls Tryd.prog 25 #[v, iv] w fun e w' => ∃ v', e = .returned v' ∧ Apd base w v w' v' (l ++ lstB cellB L) := by
  have H : Hid (Own base w v l) := h
  have HS : Hid (∀ w', Below base w w' → Cls lo hi w' iv L) := fun w' hw => hs.below hhi hw
  have hg := flatMap_ge cellB_pos L
  simp only [lstB, List.length_append] at hl
  have P1 := num_any h hb L.length (by constructor <;> omega) (by omega)
  obtain ⟨a, c, rfl, _, _⟩ := hs.slice
  have HL0 : Hid (l.length + ((numB L.length).length + (L.flatMap cellB).length) + 10 ≤ 140737488355328) := hl
  have hlen : L.length ≤ 140737488355328 := by omega
  clear h hs hl hg
  go_enter Tryd.func25, Tryd.ntmps25
  go_wp2_with (go_at_call 24; refine P1.mono ?_; rintro e w1 ⟨v1, rfl, ap1⟩)
  have HP : Hid (Apd base w v w1 v1 (l ++ numB L.length)) := ap1
  clear P1 ap1
  go_loopw [0, 13] (fun u0 u13 wr => ∃ k : Nat, u13 = .int .i64 k ∧ k ≤ L.length ∧ Hid (Apd base w v wr u0 (l ++ (numB L.length ++ (L.take k).flatMap cellB)))) (fun _ u13 _ => L.length - (intOf u13).toNat)
  case atStart => exact ⟨0, rfl, by omega, by show Apd _ _ _ _ _ _; simpa using HP.out⟩
  case round =>
    obtain ⟨k, rfl, hk, HD⟩ := hrel
    clear HP
    by_cases hlt : k < L.length
    · obtain ⟨a', rfl, c0, c1, c2⟩ := (HS.out wr (HD.out.below H.out hb)).at hlt
      have hw : base ≤ wr.heap.size := Nat.le_trans hb HD.out.gr.size
      have ok := hn _ (List.getElem_mem hlt)
      have HL1 : ((L.take k).flatMap cellB).length + (cellB L[k]).length ≤ (L.flatMap cellB).length := flatMap_part cellB L k hlt
      have HF : Hid (((L.take k).flatMap cellB ++ cellB L[k]) = (L.take (k + 1)).flatMap cellB) := (flatMap_snoc cellB L k hlt).symm
      generalize L[k] = x at *
      obtain ⟨rw, cl, tx⟩ := x
      obtain ⟨i1, i2⟩ := ok
      dsimp only at *
      simp only [cellB, List.length_append] at HL1
      have HL : Hid (l.length + ((numB L.length).length + (((L.take k).flatMap cellB).length + ((numB rw).length + ((numB cl).length + (textB tx).length)))) + 10 ≤ 140737488355328) := by
        have := HL0.out
        show _ ≤ _
        omega
      have O0 : Hid (Own base (wr.alloc (.cells #[.int .i64 rw, .int .i64 cl, .string tx] 101)) u0 (l ++ (numB L.length ++ (L.take k).flatMap cellB))) := HD.out.own.alloc _
      have HK : Hid ((wr.alloc (.cells #[.int .i64 rw, .int .i64 cl, .string tx] 101)).heap[wr.heap.size]? = some (.cells #[.int .i64 rw, .int .i64 cl, .string tx] 101)) := heap_alloc_new wr _
      have HB : Hid (base ≤ (wr.alloc (.cells #[.int .i64 rw, .int .i64 cl, .string tx] 101)).heap.size) := by show _ ≤ _; simp; omega
      have T1 : Hid (Calls Tryd.prog 24 #[u0, .int .i64 rw] (wr.alloc (.cells #[.int .i64 rw, .int .i64 cl, .string tx] 101)).drew fun e w' => ∃ v', e = .returned v' ∧ Hid (w'.heap[wr.heap.size]? = some (.cells #[.int .i64 rw, .int .i64 cl, .string tx] 101)) ∧ Hid (Apd base (wr.alloc (.cells #[.int .i64 rw, .int .i64 cl, .string tx] 101)) u0 w' v' (l ++ (numB L.length ++ (L.take k).flatMap cellB) ++ numB rw))) := by
        refine (num_any (O0.out.drew) HB.out rw i1 (by have := HL.out; (try simp only [List.length_append]); omega)).mono ?_
        rintro e w' ⟨v', rfl, ap⟩
        exact ⟨v', rfl, Apd.box (w := (wr.alloc (.cells #[.int .i64 rw, .int .i64 cl, .string tx] 101)).drew) ap O0.out.drew (by decide) HK.out, ap.of_drew⟩
      have T2 : Hid (∀ w1 v1, Hid (w1.heap[wr.heap.size]? = some (.cells #[.int .i64 rw, .int .i64 cl, .string tx] 101)) → Hid (Apd base (wr.alloc (.cells #[.int .i64 rw, .int .i64 cl, .string tx] 101)) u0 w1 v1 (l ++ (numB L.length ++ (L.take k).flatMap cellB) ++ numB rw)) → Calls Tryd.prog 24 #[v1, .int .i64 cl] w1 fun e w' => ∃ v', e = .returned v' ∧ Hid (w'.heap[wr.heap.size]? = some (.cells #[.int .i64 rw, .int .i64 cl, .string tx] 101)) ∧ Hid (Apd base (wr.alloc (.cells #[.int .i64 rw, .int .i64 cl, .string tx] 101)) u0 w' v' (l ++ (numB L.length ++ (L.take k).flatMap cellB) ++ numB rw ++ numB cl))) := by
        intro w1 v1 hk ap1
        refine (num_any (ap1.out.own) (Nat.le_trans HB.out ap1.out.gr.size) cl i2 (by have := HL.out; (try simp only [List.length_append]); omega)).mono ?_
        rintro e w' ⟨v', rfl, ap⟩
        exact ⟨v', rfl, Apd.box ap ap1.out.own (by decide) hk.out, ap1.out.trans ap⟩
      have T3 : Hid (∀ w1 v1, Hid (w1.heap[wr.heap.size]? = some (.cells #[.int .i64 rw, .int .i64 cl, .string tx] 101)) → Hid (Apd base (wr.alloc (.cells #[.int .i64 rw, .int .i64 cl, .string tx] 101)) u0 w1 v1 (l ++ (numB L.length ++ (L.take k).flatMap cellB) ++ numB rw ++ numB cl)) → Calls Tryd.prog 26 #[v1, .string tx] w1 fun e w' => ∃ v', e = .returned v' ∧ Hid (w'.heap[wr.heap.size]? = some (.cells #[.int .i64 rw, .int .i64 cl, .string tx] 101)) ∧ Hid (Apd base (wr.alloc (.cells #[.int .i64 rw, .int .i64 cl, .string tx] 101)) u0 w' v' (l ++ (numB L.length ++ (L.take k).flatMap cellB) ++ numB rw ++ numB cl ++ textB tx))) := by
        intro w1 v1 hk ap1
        refine (refText_any (ap1.out.own) (Nat.le_trans HB.out ap1.out.gr.size) tx (by have := HL.out; (try simp only [List.length_append]); omega)).mono ?_
        rintro e w' ⟨v', rfl, ap⟩
        exact ⟨v', rfl, Apd.box ap ap1.out.own (by decide) hk.out, ap1.out.trans ap⟩
      have hk63 : k < 9223372036854775807 := by omega
      clear hw O0 HB HL HL1 i1 i2
      go_wp2_with fail
      go_region_held_law (fun u => u.cell? ⟨wr.heap.size, 0, none⟩ = some (.int .i64 rw) ∧ u.cell? ⟨wr.heap.size, 1, none⟩ = some (.int .i64 cl) ∧ u.cell? ⟨wr.heap.size, 2, none⟩ = some (.string tx)) (exact ⟨cell_heap HK.out rfl, cell_heap HK.out rfl, cell_heap HK.out rfl⟩) (first
        | (go_at_call_of 24 rw; refine T1.out.mono ?_; rintro e w1 ⟨v1, rfl, HK, HA⟩)
        | (go_at_call_of 24 cl; refine (T2.out _ _ HK HA).mono ?_; rintro e w1 ⟨v1, rfl, HK, HA⟩)
        | (go_at_call_of 26 tx; refine (T3.out _ _ HK HA).mono ?_; rintro e w1 ⟨v1, rfl, HK, HA⟩))
      have HD2 : Hid (Apd base w v w1 v1 (l ++ (numB L.length ++ (L.take (k + 1)).flatMap cellB))) := by
        have := HD.out.trans HA.out.of_alloc
        rw [← HF.out]
        simp only [cellB, List.append_assoc] at this ⊢
        exact this
      clear HA HK HD HF T1 T2 T3
      go_wp2_with fail
      go_roundw
      case rel => exact ⟨k + 1, by go_num, by omega, HD2⟩
      case measure => simp [intOf]; omega
    · have HD2 : Hid (Apd base w v wr u0 (l ++ lstB cellB L)) := by
        have := HD.out
        rw [List.take_of_length_le (by omega)] at this
        exact this
      clear HD
      go_wp2_with fail
      go_ret
      exact ⟨u0, rfl, HD2.out⟩

end Go.Proofs.YtohndhmhgdelmaaDoor
