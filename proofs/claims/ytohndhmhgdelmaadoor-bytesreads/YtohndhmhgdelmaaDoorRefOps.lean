/- The contract of the reference's Ops. -/
import Derived.Test.YtohndhmhgdelmaaDoorRefCells
import Derived.Test.YtohndhmhgdelmaaDoorOpRuns
namespace Go.Proofs.YtohndhmhgdelmaaDoor
open Go.RowKit
set_option maxRecDepth 100000

set_option maxHeartbeats 8000000 in
theorem refOps_any {lo hi : Nat} {w : World} {iv : Value} {L : List OpT} (hs : Opl lo hi w iv L) (hhi : hi ≤ w.heap.size) (hn : ∀ c ∈ L, c.Ok) (hl : (opsB L).length + 10 ≤ 140737488355328) :
    Calls Tryd.prog 14 #[iv] w fun e w' => ∃ v', e = .returned v' ∧ Own w.heap.size w' v' (opsB L) ∧ Below w.heap.size w w' := by
  have HS : Hid (∀ w', Below w.heap.size w w' → Opl lo hi w' iv L) := fun w' hw => hs.below hhi hw
  have hg := flatMap_ge opB_pos L
  simp only [opsB, lstB, List.length_append] at hl
  have P1 := num_any (Own.nil w w.heap.size) (Nat.le_refl _) L.length (by constructor <;> omega) (by simp)
  obtain ⟨a, c, rfl, _, _⟩ := hs.slice
  have HL0 : Hid ((numB L.length).length + (L.flatMap opB).length + 10 ≤ 140737488355328) := hl
  have hlen : L.length ≤ 140737488355328 := by omega
  clear hs hl hg
  go_enter Tryd.func14, Tryd.ntmps14
  go_wp2_with (go_at_call 24; refine P1.mono ?_; rintro e w1 ⟨v1, rfl, ap1⟩)
  have HP : Hid (Apd w.heap.size w (.slice none 0 0) w1 v1 (numB L.length)) := by show Apd _ _ _ _ _ _; simpa using ap1
  clear P1 ap1
  go_loopw [3, 11] (fun u3 u11 wr => ∃ k : Nat, u11 = .int .i64 k ∧ k ≤ L.length ∧ Hid (Apd w.heap.size w (.slice none 0 0) wr u3 (numB L.length ++ (L.take k).flatMap opB))) (fun _ u11 _ => L.length - (intOf u11).toNat)
  case atStart => exact ⟨0, rfl, by omega, by show Apd _ _ _ _ _ _; simpa using HP.out⟩
  case round =>
    obtain ⟨k, rfl, hk, HD⟩ := hrel
    clear HP
    by_cases hlt : k < L.length
    · obtain ⟨a', cv, ov, W, rfl, ho, hcl, hW, R1, R2, -⟩ := (HS.out wr (HD.out.below (Own.nil _ _) (Nat.le_refl _))).runs hlt
      have hw : w.heap.size ≤ wr.heap.size := HD.out.gr.size
      have ok := hn _ (List.getElem_mem hlt)
      have HL1 : ((L.take k).flatMap opB).length + (opB L[k]).length ≤ (L.flatMap opB).length := flatMap_part opB L k hlt
      have HF : Hid (((L.take k).flatMap opB ++ opB L[k]) = (L.take (k + 1)).flatMap opB) := (flatMap_snoc opB L k hlt).symm
      obtain ⟨ca, cc, rfl, _, _⟩ := hcl.slice
      generalize L[k] = x at *
      obtain ⟨kd, bk, sh, a1, nn, rw, cl, tx, nm, lk, cs⟩ := x
      obtain ⟨i1, i2, i3, i4, i5, i6, i7⟩ := ok
      dsimp only at *
      simp only [opB, List.length_append] at HL1
      have HL : Hid ((numB L.length).length + (((L.take k).flatMap opB).length + ((numB kd).length + ((textB bk).length + ((textB sh).length + ((numB a1).length + ((numB nn).length + ((numB rw).length + ((numB cl).length + ((textB tx).length + ((nameB nm).length + ((linkB lk).length + (lstB cellB cs).length))))))))))) + 10 ≤ 140737488355328) := by
        have := HL0.out
        show _ ≤ _
        omega
      have O0 : Hid (Own w.heap.size W u3 (numB L.length ++ (L.take k).flatMap opB)) := by rw [hW]; exact HD.out.own.alloc _
      have HK : Hid (W.heap[wr.heap.size]? = some (.cells #[.int .i64 kd, .string bk, .string sh, .int .i64 a1, .int .i64 nn, .int .i64 rw, .int .i64 cl, .string tx, .string nm.scope, .string nm.name, .string nm.text, .string lk.book, .string lk.sheet, .int .i64 lk.row, .int .i64 lk.col, .int .i64 lk.value.kind, .int .i64 lk.value.n, .string lk.value.s, .slice ca cs.length cc] 84)) := by rw [hW]; exact heap_alloc_new wr _
      have HB : Hid (w.heap.size ≤ W.heap.size) := by show _ ≤ _; rw [hW]; simp; omega
      have HC : Hid (∀ w', Below w.heap.size W w' → Cls lo hi w' (.slice ca cs.length cc) cs) := fun w' hb => by
        rw [hW] at hb
        exact hcl.below hhi (((Below.refl _ wr).alloc hw _).trans hb)
      have HW : Hid (∀ w1 v1 m, Apd w.heap.size W u3 w1 v1 m → Apd w.heap.size wr u3 w1 v1 m) := fun w1 v1 m hm => by rw [hW] at hm; exact hm.of_alloc
      clear hW hcl ho
      have T1 : Hid (Calls Tryd.prog 24 #[u3, .int .i64 kd] (W).drew fun e w' => ∃ v', e = .returned v' ∧ Hid (w'.heap[wr.heap.size]? = some (.cells #[.int .i64 kd, .string bk, .string sh, .int .i64 a1, .int .i64 nn, .int .i64 rw, .int .i64 cl, .string tx, .string nm.scope, .string nm.name, .string nm.text, .string lk.book, .string lk.sheet, .int .i64 lk.row, .int .i64 lk.col, .int .i64 lk.value.kind, .int .i64 lk.value.n, .string lk.value.s, .slice ca cs.length cc] 84)) ∧ Hid (Apd w.heap.size (W) u3 w' v' (numB L.length ++ (L.take k).flatMap opB ++ numB kd))) := by
        refine (num_any (O0.out.drew) HB.out kd i1 (by have := HL.out; (try simp only [List.length_append]); omega)).mono ?_
        rintro e w' ⟨v', rfl, ap⟩
        exact ⟨v', rfl, Apd.box (w := (W).drew) ap O0.out.drew (by decide) HK.out, ap.of_drew⟩
      have T2 : Hid (∀ w1 v1, Hid (w1.heap[wr.heap.size]? = some (.cells #[.int .i64 kd, .string bk, .string sh, .int .i64 a1, .int .i64 nn, .int .i64 rw, .int .i64 cl, .string tx, .string nm.scope, .string nm.name, .string nm.text, .string lk.book, .string lk.sheet, .int .i64 lk.row, .int .i64 lk.col, .int .i64 lk.value.kind, .int .i64 lk.value.n, .string lk.value.s, .slice ca cs.length cc] 84)) → Hid (Apd w.heap.size (W) u3 w1 v1 (numB L.length ++ (L.take k).flatMap opB ++ numB kd)) → Calls Tryd.prog 26 #[v1, .string bk] w1 fun e w' => ∃ v', e = .returned v' ∧ Hid (w'.heap[wr.heap.size]? = some (.cells #[.int .i64 kd, .string bk, .string sh, .int .i64 a1, .int .i64 nn, .int .i64 rw, .int .i64 cl, .string tx, .string nm.scope, .string nm.name, .string nm.text, .string lk.book, .string lk.sheet, .int .i64 lk.row, .int .i64 lk.col, .int .i64 lk.value.kind, .int .i64 lk.value.n, .string lk.value.s, .slice ca cs.length cc] 84)) ∧ Hid (Apd w.heap.size (W) u3 w' v' (numB L.length ++ (L.take k).flatMap opB ++ numB kd ++ textB bk))) := by
        intro w1 v1 hk ap1
        refine (refText_any (ap1.out.own) (Nat.le_trans HB.out ap1.out.gr.size) bk (by have := HL.out; (try simp only [List.length_append]); omega)).mono ?_
        rintro e w' ⟨v', rfl, ap⟩
        exact ⟨v', rfl, Apd.box ap ap1.out.own (by decide) hk.out, ap1.out.trans ap⟩
      have T3 : Hid (∀ w1 v1, Hid (w1.heap[wr.heap.size]? = some (.cells #[.int .i64 kd, .string bk, .string sh, .int .i64 a1, .int .i64 nn, .int .i64 rw, .int .i64 cl, .string tx, .string nm.scope, .string nm.name, .string nm.text, .string lk.book, .string lk.sheet, .int .i64 lk.row, .int .i64 lk.col, .int .i64 lk.value.kind, .int .i64 lk.value.n, .string lk.value.s, .slice ca cs.length cc] 84)) → Hid (Apd w.heap.size (W) u3 w1 v1 (numB L.length ++ (L.take k).flatMap opB ++ numB kd ++ textB bk)) → Calls Tryd.prog 26 #[v1, .string sh] w1 fun e w' => ∃ v', e = .returned v' ∧ Hid (w'.heap[wr.heap.size]? = some (.cells #[.int .i64 kd, .string bk, .string sh, .int .i64 a1, .int .i64 nn, .int .i64 rw, .int .i64 cl, .string tx, .string nm.scope, .string nm.name, .string nm.text, .string lk.book, .string lk.sheet, .int .i64 lk.row, .int .i64 lk.col, .int .i64 lk.value.kind, .int .i64 lk.value.n, .string lk.value.s, .slice ca cs.length cc] 84)) ∧ Hid (Apd w.heap.size (W) u3 w' v' (numB L.length ++ (L.take k).flatMap opB ++ numB kd ++ textB bk ++ textB sh))) := by
        intro w1 v1 hk ap1
        refine (refText_any (ap1.out.own) (Nat.le_trans HB.out ap1.out.gr.size) sh (by have := HL.out; (try simp only [List.length_append]); omega)).mono ?_
        rintro e w' ⟨v', rfl, ap⟩
        exact ⟨v', rfl, Apd.box ap ap1.out.own (by decide) hk.out, ap1.out.trans ap⟩
      have T4 : Hid (∀ w1 v1, Hid (w1.heap[wr.heap.size]? = some (.cells #[.int .i64 kd, .string bk, .string sh, .int .i64 a1, .int .i64 nn, .int .i64 rw, .int .i64 cl, .string tx, .string nm.scope, .string nm.name, .string nm.text, .string lk.book, .string lk.sheet, .int .i64 lk.row, .int .i64 lk.col, .int .i64 lk.value.kind, .int .i64 lk.value.n, .string lk.value.s, .slice ca cs.length cc] 84)) → Hid (Apd w.heap.size (W) u3 w1 v1 (numB L.length ++ (L.take k).flatMap opB ++ numB kd ++ textB bk ++ textB sh)) → Calls Tryd.prog 24 #[v1, .int .i64 a1] w1.drew fun e w' => ∃ v', e = .returned v' ∧ Hid (w'.heap[wr.heap.size]? = some (.cells #[.int .i64 kd, .string bk, .string sh, .int .i64 a1, .int .i64 nn, .int .i64 rw, .int .i64 cl, .string tx, .string nm.scope, .string nm.name, .string nm.text, .string lk.book, .string lk.sheet, .int .i64 lk.row, .int .i64 lk.col, .int .i64 lk.value.kind, .int .i64 lk.value.n, .string lk.value.s, .slice ca cs.length cc] 84)) ∧ Hid (Apd w.heap.size (W) u3 w' v' (numB L.length ++ (L.take k).flatMap opB ++ numB kd ++ textB bk ++ textB sh ++ numB a1))) := by
        intro w1 v1 hk ap1
        refine (num_any (ap1.out.own.drew) (Nat.le_trans HB.out ap1.out.gr.size) a1 i2 (by have := HL.out; (try simp only [List.length_append]); omega)).mono ?_
        rintro e w' ⟨v', rfl, ap⟩
        exact ⟨v', rfl, Apd.box (w := w1.drew) ap ap1.out.own.drew (by decide) hk.out, ap1.out.trans ap.of_drew⟩
      have T5 : Hid (∀ w1 v1, Hid (w1.heap[wr.heap.size]? = some (.cells #[.int .i64 kd, .string bk, .string sh, .int .i64 a1, .int .i64 nn, .int .i64 rw, .int .i64 cl, .string tx, .string nm.scope, .string nm.name, .string nm.text, .string lk.book, .string lk.sheet, .int .i64 lk.row, .int .i64 lk.col, .int .i64 lk.value.kind, .int .i64 lk.value.n, .string lk.value.s, .slice ca cs.length cc] 84)) → Hid (Apd w.heap.size (W) u3 w1 v1 (numB L.length ++ (L.take k).flatMap opB ++ numB kd ++ textB bk ++ textB sh ++ numB a1)) → Calls Tryd.prog 24 #[v1, .int .i64 nn] w1 fun e w' => ∃ v', e = .returned v' ∧ Hid (w'.heap[wr.heap.size]? = some (.cells #[.int .i64 kd, .string bk, .string sh, .int .i64 a1, .int .i64 nn, .int .i64 rw, .int .i64 cl, .string tx, .string nm.scope, .string nm.name, .string nm.text, .string lk.book, .string lk.sheet, .int .i64 lk.row, .int .i64 lk.col, .int .i64 lk.value.kind, .int .i64 lk.value.n, .string lk.value.s, .slice ca cs.length cc] 84)) ∧ Hid (Apd w.heap.size (W) u3 w' v' (numB L.length ++ (L.take k).flatMap opB ++ numB kd ++ textB bk ++ textB sh ++ numB a1 ++ numB nn))) := by
        intro w1 v1 hk ap1
        refine (num_any (ap1.out.own) (Nat.le_trans HB.out ap1.out.gr.size) nn i3 (by have := HL.out; (try simp only [List.length_append]); omega)).mono ?_
        rintro e w' ⟨v', rfl, ap⟩
        exact ⟨v', rfl, Apd.box ap ap1.out.own (by decide) hk.out, ap1.out.trans ap⟩
      have T6 : Hid (∀ w1 v1, Hid (w1.heap[wr.heap.size]? = some (.cells #[.int .i64 kd, .string bk, .string sh, .int .i64 a1, .int .i64 nn, .int .i64 rw, .int .i64 cl, .string tx, .string nm.scope, .string nm.name, .string nm.text, .string lk.book, .string lk.sheet, .int .i64 lk.row, .int .i64 lk.col, .int .i64 lk.value.kind, .int .i64 lk.value.n, .string lk.value.s, .slice ca cs.length cc] 84)) → Hid (Apd w.heap.size (W) u3 w1 v1 (numB L.length ++ (L.take k).flatMap opB ++ numB kd ++ textB bk ++ textB sh ++ numB a1 ++ numB nn)) → Calls Tryd.prog 24 #[v1, .int .i64 rw] w1 fun e w' => ∃ v', e = .returned v' ∧ Hid (w'.heap[wr.heap.size]? = some (.cells #[.int .i64 kd, .string bk, .string sh, .int .i64 a1, .int .i64 nn, .int .i64 rw, .int .i64 cl, .string tx, .string nm.scope, .string nm.name, .string nm.text, .string lk.book, .string lk.sheet, .int .i64 lk.row, .int .i64 lk.col, .int .i64 lk.value.kind, .int .i64 lk.value.n, .string lk.value.s, .slice ca cs.length cc] 84)) ∧ Hid (Apd w.heap.size (W) u3 w' v' (numB L.length ++ (L.take k).flatMap opB ++ numB kd ++ textB bk ++ textB sh ++ numB a1 ++ numB nn ++ numB rw))) := by
        intro w1 v1 hk ap1
        refine (num_any (ap1.out.own) (Nat.le_trans HB.out ap1.out.gr.size) rw i4 (by have := HL.out; (try simp only [List.length_append]); omega)).mono ?_
        rintro e w' ⟨v', rfl, ap⟩
        exact ⟨v', rfl, Apd.box ap ap1.out.own (by decide) hk.out, ap1.out.trans ap⟩
      have T7 : Hid (∀ w1 v1, Hid (w1.heap[wr.heap.size]? = some (.cells #[.int .i64 kd, .string bk, .string sh, .int .i64 a1, .int .i64 nn, .int .i64 rw, .int .i64 cl, .string tx, .string nm.scope, .string nm.name, .string nm.text, .string lk.book, .string lk.sheet, .int .i64 lk.row, .int .i64 lk.col, .int .i64 lk.value.kind, .int .i64 lk.value.n, .string lk.value.s, .slice ca cs.length cc] 84)) → Hid (Apd w.heap.size (W) u3 w1 v1 (numB L.length ++ (L.take k).flatMap opB ++ numB kd ++ textB bk ++ textB sh ++ numB a1 ++ numB nn ++ numB rw)) → Calls Tryd.prog 24 #[v1, .int .i64 cl] w1 fun e w' => ∃ v', e = .returned v' ∧ Hid (w'.heap[wr.heap.size]? = some (.cells #[.int .i64 kd, .string bk, .string sh, .int .i64 a1, .int .i64 nn, .int .i64 rw, .int .i64 cl, .string tx, .string nm.scope, .string nm.name, .string nm.text, .string lk.book, .string lk.sheet, .int .i64 lk.row, .int .i64 lk.col, .int .i64 lk.value.kind, .int .i64 lk.value.n, .string lk.value.s, .slice ca cs.length cc] 84)) ∧ Hid (Apd w.heap.size (W) u3 w' v' (numB L.length ++ (L.take k).flatMap opB ++ numB kd ++ textB bk ++ textB sh ++ numB a1 ++ numB nn ++ numB rw ++ numB cl))) := by
        intro w1 v1 hk ap1
        refine (num_any (ap1.out.own) (Nat.le_trans HB.out ap1.out.gr.size) cl i5 (by have := HL.out; (try simp only [List.length_append]); omega)).mono ?_
        rintro e w' ⟨v', rfl, ap⟩
        exact ⟨v', rfl, Apd.box ap ap1.out.own (by decide) hk.out, ap1.out.trans ap⟩
      have T8 : Hid (∀ w1 v1, Hid (w1.heap[wr.heap.size]? = some (.cells #[.int .i64 kd, .string bk, .string sh, .int .i64 a1, .int .i64 nn, .int .i64 rw, .int .i64 cl, .string tx, .string nm.scope, .string nm.name, .string nm.text, .string lk.book, .string lk.sheet, .int .i64 lk.row, .int .i64 lk.col, .int .i64 lk.value.kind, .int .i64 lk.value.n, .string lk.value.s, .slice ca cs.length cc] 84)) → Hid (Apd w.heap.size (W) u3 w1 v1 (numB L.length ++ (L.take k).flatMap opB ++ numB kd ++ textB bk ++ textB sh ++ numB a1 ++ numB nn ++ numB rw ++ numB cl)) → Calls Tryd.prog 26 #[v1, .string tx] w1.drew fun e w' => ∃ v', e = .returned v' ∧ Hid (w'.heap[wr.heap.size]? = some (.cells #[.int .i64 kd, .string bk, .string sh, .int .i64 a1, .int .i64 nn, .int .i64 rw, .int .i64 cl, .string tx, .string nm.scope, .string nm.name, .string nm.text, .string lk.book, .string lk.sheet, .int .i64 lk.row, .int .i64 lk.col, .int .i64 lk.value.kind, .int .i64 lk.value.n, .string lk.value.s, .slice ca cs.length cc] 84)) ∧ Hid (Apd w.heap.size (W) u3 w' v' (numB L.length ++ (L.take k).flatMap opB ++ numB kd ++ textB bk ++ textB sh ++ numB a1 ++ numB nn ++ numB rw ++ numB cl ++ textB tx))) := by
        intro w1 v1 hk ap1
        refine (refText_any (ap1.out.own.drew) (Nat.le_trans HB.out ap1.out.gr.size) tx (by have := HL.out; (try simp only [List.length_append]); omega)).mono ?_
        rintro e w' ⟨v', rfl, ap⟩
        exact ⟨v', rfl, Apd.box (w := w1.drew) ap ap1.out.own.drew (by decide) hk.out, ap1.out.trans ap.of_drew⟩
      have T9 : Hid (∀ w1 v1, Hid (w1.heap[wr.heap.size]? = some (.cells #[.int .i64 kd, .string bk, .string sh, .int .i64 a1, .int .i64 nn, .int .i64 rw, .int .i64 cl, .string tx, .string nm.scope, .string nm.name, .string nm.text, .string lk.book, .string lk.sheet, .int .i64 lk.row, .int .i64 lk.col, .int .i64 lk.value.kind, .int .i64 lk.value.n, .string lk.value.s, .slice ca cs.length cc] 84)) → Hid (Apd w.heap.size (W) u3 w1 v1 (numB L.length ++ (L.take k).flatMap opB ++ numB kd ++ textB bk ++ textB sh ++ numB a1 ++ numB nn ++ numB rw ++ numB cl ++ textB tx)) → Calls Tryd.prog 27 #[v1, nameV nm] w1 fun e w' => ∃ v', e = .returned v' ∧ Hid (w'.heap[wr.heap.size]? = some (.cells #[.int .i64 kd, .string bk, .string sh, .int .i64 a1, .int .i64 nn, .int .i64 rw, .int .i64 cl, .string tx, .string nm.scope, .string nm.name, .string nm.text, .string lk.book, .string lk.sheet, .int .i64 lk.row, .int .i64 lk.col, .int .i64 lk.value.kind, .int .i64 lk.value.n, .string lk.value.s, .slice ca cs.length cc] 84)) ∧ Hid (Apd w.heap.size (W) u3 w' v' (numB L.length ++ (L.take k).flatMap opB ++ numB kd ++ textB bk ++ textB sh ++ numB a1 ++ numB nn ++ numB rw ++ numB cl ++ textB tx ++ nameB nm))) := by
        intro w1 v1 hk ap1
        refine (refName_any (ap1.out.own) (Nat.le_trans HB.out ap1.out.gr.size) nm (by have := HL.out; (try simp only [List.length_append]); omega)).mono ?_
        rintro e w' ⟨v', rfl, ap⟩
        exact ⟨v', rfl, Apd.box ap ap1.out.own (by decide) hk.out, ap1.out.trans ap⟩
      have T10 : Hid (∀ w1 v1, Hid (w1.heap[wr.heap.size]? = some (.cells #[.int .i64 kd, .string bk, .string sh, .int .i64 a1, .int .i64 nn, .int .i64 rw, .int .i64 cl, .string tx, .string nm.scope, .string nm.name, .string nm.text, .string lk.book, .string lk.sheet, .int .i64 lk.row, .int .i64 lk.col, .int .i64 lk.value.kind, .int .i64 lk.value.n, .string lk.value.s, .slice ca cs.length cc] 84)) → Hid (Apd w.heap.size (W) u3 w1 v1 (numB L.length ++ (L.take k).flatMap opB ++ numB kd ++ textB bk ++ textB sh ++ numB a1 ++ numB nn ++ numB rw ++ numB cl ++ textB tx ++ nameB nm)) → Calls Tryd.prog 28 #[v1, linkV lk] w1 fun e w' => ∃ v', e = .returned v' ∧ Hid (w'.heap[wr.heap.size]? = some (.cells #[.int .i64 kd, .string bk, .string sh, .int .i64 a1, .int .i64 nn, .int .i64 rw, .int .i64 cl, .string tx, .string nm.scope, .string nm.name, .string nm.text, .string lk.book, .string lk.sheet, .int .i64 lk.row, .int .i64 lk.col, .int .i64 lk.value.kind, .int .i64 lk.value.n, .string lk.value.s, .slice ca cs.length cc] 84)) ∧ Hid (Apd w.heap.size (W) u3 w' v' (numB L.length ++ (L.take k).flatMap opB ++ numB kd ++ textB bk ++ textB sh ++ numB a1 ++ numB nn ++ numB rw ++ numB cl ++ textB tx ++ nameB nm ++ linkB lk))) := by
        intro w1 v1 hk ap1
        refine (refLink_any (ap1.out.own) (Nat.le_trans HB.out ap1.out.gr.size) lk i6 (by have := HL.out; (try simp only [List.length_append]); omega)).mono ?_
        rintro e w' ⟨v', rfl, ap⟩
        exact ⟨v', rfl, Apd.box ap ap1.out.own (by decide) hk.out, ap1.out.trans ap⟩
      have T11 : Hid (∀ w1 v1, Hid (w1.heap[wr.heap.size]? = some (.cells #[.int .i64 kd, .string bk, .string sh, .int .i64 a1, .int .i64 nn, .int .i64 rw, .int .i64 cl, .string tx, .string nm.scope, .string nm.name, .string nm.text, .string lk.book, .string lk.sheet, .int .i64 lk.row, .int .i64 lk.col, .int .i64 lk.value.kind, .int .i64 lk.value.n, .string lk.value.s, .slice ca cs.length cc] 84)) → Hid (Apd w.heap.size (W) u3 w1 v1 (numB L.length ++ (L.take k).flatMap opB ++ numB kd ++ textB bk ++ textB sh ++ numB a1 ++ numB nn ++ numB rw ++ numB cl ++ textB tx ++ nameB nm ++ linkB lk)) → Calls Tryd.prog 25 #[v1, .slice ca cs.length cc] w1 fun e w' => ∃ v', e = .returned v' ∧ Hid (w'.heap[wr.heap.size]? = some (.cells #[.int .i64 kd, .string bk, .string sh, .int .i64 a1, .int .i64 nn, .int .i64 rw, .int .i64 cl, .string tx, .string nm.scope, .string nm.name, .string nm.text, .string lk.book, .string lk.sheet, .int .i64 lk.row, .int .i64 lk.col, .int .i64 lk.value.kind, .int .i64 lk.value.n, .string lk.value.s, .slice ca cs.length cc] 84)) ∧ Hid (Apd w.heap.size (W) u3 w' v' (numB L.length ++ (L.take k).flatMap opB ++ numB kd ++ textB bk ++ textB sh ++ numB a1 ++ numB nn ++ numB rw ++ numB cl ++ textB tx ++ nameB nm ++ linkB lk ++ lstB cellB cs))) := by
        intro w1 v1 hk ap1
        refine (refCells_any (ap1.out.own) (Nat.le_trans HB.out ap1.out.gr.size) (HC.out _ (ap1.out.below O0.out HB.out)) hhi i7 (by have := HL.out; (try simp only [List.length_append]); omega)).mono ?_
        rintro e w' ⟨v', rfl, ap⟩
        exact ⟨v', rfl, Apd.box ap ap1.out.own (by decide) hk.out, ap1.out.trans ap⟩
      have hk63 : k < 9223372036854775807 := by omega
      clear hw O0 HB HL HL1 HC i1 i2 i3 i4 i5 i6 i7
      go_wp2_with (first
        | (refine wpList_load_run rfl 84 _ rfl _ _ rfl R1.out ?_)
        | (refine wpList_store_run rfl 84 _ _ rfl _ _ _ rfl rfl R2.out ?_))
      clear R1 R2
      go_region_held_law (fun u => u.cell? ⟨wr.heap.size, 0, none⟩ = some (.int .i64 kd) ∧ u.cell? ⟨wr.heap.size, 1, none⟩ = some (.string bk) ∧ u.cell? ⟨wr.heap.size, 2, none⟩ = some (.string sh)) (exact ⟨cell_heap HK.out rfl, cell_heap HK.out rfl, cell_heap HK.out rfl⟩) (first
        | (go_at_call_of 24 kd; refine T1.out.mono ?_; rintro e w1 ⟨v1, rfl, HK, HA⟩)
        | (go_at_call_of 26 bk; refine (T2.out _ _ HK HA).mono ?_; rintro e w1 ⟨v1, rfl, HK, HA⟩)
        | (go_at_call_of 26 sh; refine (T3.out _ _ HK HA).mono ?_; rintro e w1 ⟨v1, rfl, HK, HA⟩))
      clear T1 T2 T3
      go_wp2_with fail
      go_region_held_law (fun u => u.cell? ⟨wr.heap.size, 3, none⟩ = some (.int .i64 a1) ∧ u.cell? ⟨wr.heap.size, 4, none⟩ = some (.int .i64 nn) ∧ u.cell? ⟨wr.heap.size, 5, none⟩ = some (.int .i64 rw) ∧ u.cell? ⟨wr.heap.size, 6, none⟩ = some (.int .i64 cl)) (exact ⟨cell_heap HK.out rfl, cell_heap HK.out rfl, cell_heap HK.out rfl, cell_heap HK.out rfl⟩) (first
        | (go_at_call_of 24 a1; refine (T4.out _ _ HK HA).mono ?_; rintro e w1 ⟨v1, rfl, HK, HA⟩)
        | (go_at_call_of 24 nn; refine (T5.out _ _ HK HA).mono ?_; rintro e w1 ⟨v1, rfl, HK, HA⟩)
        | (go_at_call_of 24 rw; refine (T6.out _ _ HK HA).mono ?_; rintro e w1 ⟨v1, rfl, HK, HA⟩)
        | (go_at_call_of 24 cl; refine (T7.out _ _ HK HA).mono ?_; rintro e w1 ⟨v1, rfl, HK, HA⟩))
      clear T4 T5 T6 T7
      go_wp2_with fail
      go_region_held_law (fun u => u.cell? ⟨wr.heap.size, 7, none⟩ = some (.string tx) ∧ u.cell? ⟨wr.heap.size, 8, none⟩ = some (.string nm.scope) ∧ u.cell? ⟨wr.heap.size, 9, none⟩ = some (.string nm.name) ∧ u.cell? ⟨wr.heap.size, 10, none⟩ = some (.string nm.text) ∧ u.cell? ⟨wr.heap.size, 11, none⟩ = some (.string lk.book) ∧ u.cell? ⟨wr.heap.size, 12, none⟩ = some (.string lk.sheet) ∧ u.cell? ⟨wr.heap.size, 13, none⟩ = some (.int .i64 lk.row) ∧ u.cell? ⟨wr.heap.size, 14, none⟩ = some (.int .i64 lk.col) ∧ u.cell? ⟨wr.heap.size, 15, none⟩ = some (.int .i64 lk.value.kind) ∧ u.cell? ⟨wr.heap.size, 16, none⟩ = some (.int .i64 lk.value.n) ∧ u.cell? ⟨wr.heap.size, 17, none⟩ = some (.string lk.value.s) ∧ u.cell? ⟨wr.heap.size, 18, none⟩ = some (.slice ca cs.length cc)) (exact ⟨cell_heap HK.out rfl, cell_heap HK.out rfl, cell_heap HK.out rfl, cell_heap HK.out rfl, cell_heap HK.out rfl, cell_heap HK.out rfl, cell_heap HK.out rfl, cell_heap HK.out rfl, cell_heap HK.out rfl, cell_heap HK.out rfl, cell_heap HK.out rfl, cell_heap HK.out rfl⟩) (first
        | (go_at_call_of 26 tx; refine (T8.out _ _ HK HA).mono ?_; rintro e w1 ⟨v1, rfl, HK, HA⟩)
        | (go_at_call 27; refine (T9.out _ _ HK HA).mono ?_; rintro e w1 ⟨v1, rfl, HK, HA⟩)
        | (go_at_call 28; refine (T10.out _ _ HK HA).mono ?_; rintro e w1 ⟨v1, rfl, HK, HA⟩)
        | (go_at_call 25; refine (T11.out _ _ HK HA).mono ?_; rintro e w1 ⟨v1, rfl, HK, HA⟩))
      clear T8 T9 T10 T11
      have HD2 : Hid (Apd w.heap.size w (.slice none 0 0) w1 v1 (numB L.length ++ (L.take (k + 1)).flatMap opB)) := by
        have := HD.out.trans (HW.out _ _ _ HA.out)
        rw [← HF.out]
        simp only [opB, List.append_assoc] at this ⊢
        exact this
      clear HA HK HD HF HW
      go_wp2_with fail
      go_roundw
      case rel => exact ⟨k + 1, by go_num, by omega, HD2⟩
      case measure => simp [intOf]; omega
    · have HD2 : Hid (Own w.heap.size wr u3 (opsB L) ∧ Below w.heap.size w wr) := by
        have := HD.out
        rw [List.take_of_length_le (by omega)] at this
        exact ⟨this.own, this.below (Own.nil _ _) (Nat.le_refl _)⟩
      clear HD
      go_wp2_with fail
      go_ret
      exact ⟨u3, rfl, HD2.out⟩

end Go.Proofs.YtohndhmhgdelmaaDoor
