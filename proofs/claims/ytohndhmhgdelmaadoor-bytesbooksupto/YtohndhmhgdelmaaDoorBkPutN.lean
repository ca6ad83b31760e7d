/- The contract of putList of names. -/
import Derived.Test.YtohndhmhgdelmaaDoorBkMem
import Derived.Test.YtohndhmhgdelmaaDoorPutOp2
namespace Go.Proofs.YtohndhmhgdelmaaDoor
open Go.RowKit
set_option maxRecDepth 100000
set_option linter.unusedVariables false

set_option maxHeartbeats 4000000 in
theorem putNames_any {base lo hi : Nat} {w : World} {v : Value} {l : List UInt8} (h : Own base w v l) (hb : base ≤ w.heap.size) {iv : Value} {L : List NameT} (hs : Nms lo hi w iv L) (hhi : hi ≤ base) (hl : l.length + (lstB nameB L).length + 10 ≤ 140737488355328) :
    Calls Tryd.prog 50 #[v, iv, .func (.func 51) #[] #[]] w fun e w' => ∃ v', e = .returned v' ∧ Apd base w v w' v' (l ++ lstB nameB L) := by
  have H : Hid (Own base w v l) := h
  have HS : Hid (∀ w', Below base w w' → Nms lo hi w' iv L) := fun w' hw => hs.below hhi hw
  have hg := flatMap_ge nameB_pos L
  simp only [lstB, List.length_append] at hl
  have P1 := putNumber_any h hb L.length (by constructor <;> omega) (by omega)
  obtain ⟨a, c, rfl, _, _⟩ := hs.slice
  have HL : Hid (l.length + ((numB L.length).length + (L.flatMap nameB).length) + 10 ≤ 140737488355328) := hl
  have hlen : L.length ≤ 140737488355328 := by omega
  clear h hs hl hg
  go_enter Tryd.func50, Tryd.ntmps50
  go_wp2_with (go_at_call 46; refine P1.mono ?_; rintro e w1 ⟨v1, rfl, ap1⟩)
  have HP : Hid (Apd base w v w1 v1 (l ++ numB L.length)) := ap1
  clear P1 ap1
  go_loopw [0, 15] (fun u0 u15 wr => ∃ k : Nat, u15 = .int .i64 k ∧ k ≤ L.length ∧ Hid (Apd base w v wr u0 (l ++ (numB L.length ++ (L.take k).flatMap nameB)))) (fun _ u15 _ => L.length - (intOf u15).toNat)
  case atStart => exact ⟨0, rfl, by omega, by show Apd _ _ _ _ _ _; simpa using HP.out⟩
  case round =>
    obtain ⟨k, rfl, hk, HD⟩ := hrel
    clear HP
    by_cases hlt : k < L.length
    · obtain ⟨a', ov, W, rfl, ho, hW, R1, R2, R3⟩ := (HS.out wr (HD.out.below H.out hb)).runs hlt
      have hw : base ≤ wr.heap.size := Nat.le_trans hb HD.out.gr.size
      have PN : Calls Tryd.prog 51 #[u0, ov] W fun e w' => ∃ v', e = .returned v' ∧ Hid (Apd base w v w' v' (l ++ (numB L.length ++ (L.take (k + 1)).flatMap nameB))) := by
        rw [ho, hW]
        refine (putName_any (HD.out.own.alloc (.cells (nameC L[k]).toArray 64)) (by simp; omega) L[k] (by
          have h1 := flatMap_part nameB L k hlt
          have h2 := HL.out
          simp only [List.length_append]
          omega)).mono ?_
        rintro e w2 ⟨v2, rfl, ap2⟩
        refine ⟨v2, rfl, ?_⟩
        have := HD.out.trans ap2.of_alloc
        rw [List.append_assoc, List.append_assoc, ← flatMap_snoc nameB L k hlt] at this
        exact this
      have hk63 : k < 9223372036854775807 := by omega
      clear hw ho hW HD
      go_wp2_with (first
        | (refine wpList_load_run rfl 64 _ rfl _ _ rfl R1.out ?_)
        | (refine wpList_store_run rfl 64 _ _ rfl _ _ _ rfl rfl R2.out ?_)
        | (refine wpList_load_run rfl 64 _ rfl _ _ rfl R3.out ?_)
        | (go_at_call 51; refine PN.mono ?_; rintro e w2 ⟨v2, rfl, HD2⟩))
      clear PN R1 R2 R3
      go_roundw
      case rel => exact ⟨k + 1, by go_num, by omega, HD2⟩
      case measure => simp [intOf]; omega
    · have HD2 : Hid (Apd base w v wr u0 (l ++ lstB nameB L)) := by
        have := HD.out
        rw [List.take_of_length_le (by omega)] at this
        exact this
      clear HD
      go_wp2_with fail
      go_ret
      exact ⟨u0, rfl, HD2.out⟩

end Go.Proofs.YtohndhmhgdelmaaDoor
