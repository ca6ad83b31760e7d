/- The contracts of putList of changes and of bytes.Ops. -/
import Derived.Test.YtohndhmhgdelmaaDoorPutOp3
import Derived.Test.YtohndhmhgdelmaaDoorOpRuns
namespace Go.Proofs.YtohndhmhgdelmaaDoor
open Go.RowKit
set_option maxRecDepth 100000

set_option maxHeartbeats 4000000 in
theorem putOps_any {base lo hi : Nat} {w : World} {v : Value} {l : List UInt8} (h : Own base w v l) (hb : base ≤ w.heap.size) {iv : Value} {L : List OpT} (hs : Opl lo hi w iv L) (hhi : hi ≤ base) (hn : ∀ c ∈ L, c.Ok) (hl : l.length + (opsB L).length + 10 ≤ 140737488355328) :
    Calls Tryd.prog 39 #[v, iv, .func (.func 40) #[] #[]] w fun e w' => ∃ v', e = .returned v' ∧ Apd base w v w' v' (l ++ opsB L) := by
  have H : Hid (Own base w v l) := h
  have HS : Hid (∀ w', Below base w w' → Opl lo hi w' iv L) := fun w' hw => hs.below hhi hw
  have hg := flatMap_ge opB_pos L
  simp only [opsB, lstB, List.length_append] at hl
  have P1 := putNumber_any h hb L.length (by constructor <;> omega) (by omega)
  obtain ⟨a, c, rfl, _, _⟩ := hs.slice
  have HL : Hid (l.length + ((numB L.length).length + (L.flatMap opB).length) + 10 ≤ 140737488355328) := hl
  have hlen : L.length ≤ 140737488355328 := by omega
  clear h hs hl hg
  go_enter Tryd.func39, Tryd.ntmps39
  go_wp2_with (go_at_call 46; refine P1.mono ?_; rintro e w1 ⟨v1, rfl, ap1⟩)
  have HP : Hid (Apd base w v w1 v1 (l ++ numB L.length)) := ap1
  clear P1 ap1
  go_loopw [0, 15] (fun u0 u15 wr => ∃ k : Nat, u15 = .int .i64 k ∧ k ≤ L.length ∧ Hid (Apd base w v wr u0 (l ++ (numB L.length ++ (L.take k).flatMap opB)))) (fun _ u15 _ => L.length - (intOf u15).toNat)
  case atStart => exact ⟨0, rfl, by omega, by show Apd _ _ _ _ _ _; simpa using HP.out⟩
  case round =>
    obtain ⟨k, rfl, hk, HD⟩ := hrel
    clear HP
    by_cases hlt : k < L.length
    · obtain ⟨a', cv, ov, W, rfl, ho, hcl, hW, R1, R2, R3⟩ := (HS.out wr (HD.out.below H.out hb)).runs hlt
      have hw : base ≤ wr.heap.size := Nat.le_trans hb HD.out.gr.size
      have PN : Calls Tryd.prog 40 #[u0, ov] W fun e w' => ∃ v', e = .returned v' ∧ Hid (Apd base w v w' v' (l ++ (numB L.length ++ (L.take (k + 1)).flatMap opB))) := by
        rw [ho, hW]
        refine (putOp_any (HD.out.own.alloc (.cells (opC L[k] cv).toArray 84)) (by simp; omega) L[k] (hn _ (List.getElem_mem _)) (hcl.below hhi ((Below.refl base wr).alloc hw _)) hhi (by
          have h1 := flatMap_part opB L k hlt
          have h2 := HL.out
          simp only [List.length_append]
          omega)).mono ?_
        rintro e w2 ⟨v2, rfl, ap2⟩
        refine ⟨v2, rfl, ?_⟩
        have := HD.out.trans ap2.of_alloc
        rw [List.append_assoc, List.append_assoc, ← flatMap_snoc opB L k hlt] at this
        exact this
      have hk63 : k < 9223372036854775807 := by omega
      clear hw ho hW hcl HD
      go_wp2_with (first
        | (refine wpList_load_run rfl 84 _ rfl _ _ rfl R1.out ?_)
        | (refine wpList_store_run rfl 84 _ _ rfl _ _ _ rfl rfl R2.out ?_)
        | (refine wpList_load_run rfl 84 _ rfl _ _ rfl R3.out ?_)
        | (go_at_call 40; refine PN.mono ?_; rintro e w2 ⟨v2, rfl, HD2⟩))
      clear PN R1 R2 R3
      go_roundw
      case rel => exact ⟨k + 1, by go_num, by omega, HD2⟩
      case measure => simp [intOf]; omega
    · have HD2 : Hid (Apd base w v wr u0 (l ++ opsB L)) := by
        have := HD.out
        rw [List.take_of_length_le (by omega)] at this
        exact this
      clear HD
      go_wp2_with fail
      go_ret
      exact ⟨u0, rfl, HD2.out⟩

set_option maxHeartbeats 1000000 in
theorem ops_any {lo hi : Nat} {w : World} {iv : Value} {L : List OpT} (hs : Opl lo hi w iv L) (hhi : hi ≤ w.heap.size) (hn : ∀ c ∈ L, c.Ok) (hl : (opsB L).length + 10 ≤ 140737488355328) :
    Calls Tryd.prog 15 #[iv] w fun e w' => ∃ v', e = .returned v' ∧ Own w.heap.size w' v' (opsB L) ∧ Below w.heap.size w w' := by
  have P := putOps_any (Own.nil w w.heap.size) (Nat.le_refl _) hs hhi hn (by simpa using hl)
  clear hs hn hl
  go_enter Tryd.func15, Tryd.ntmps15
  go_wp2_with (go_at_call 39; refine P.mono ?_; rintro e w2 ⟨v2, rfl, ap2⟩)
  go_ret
  exact ⟨v2, rfl, by simpa using ap2.own, ap2.below (Own.nil _ _) (Nat.le_refl _)⟩
end Go.Proofs.YtohndhmhgdelmaaDoor
