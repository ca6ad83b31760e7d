/- The walks of small and of BytesBooks. -/
import Derived.Test.YtohndhmhgdelmaaDoorBkPut
import Derived.Test.YtohndhmhgdelmaaDoorBkRef
import Derived.Test.YtohndhmhgdelmaaDoorBkWhole
import Derived.Test.YtohndhmhgdelmaaDoorLives
namespace Go.Proofs.YtohndhmhgdelmaaDoor
open Go.RowKit
set_option maxRecDepth 100000
set_option linter.unusedVariables false

theorem load26 {w : World} {g : Nat} {cs : Array Value} (h : w.heap[g]? = some (.cells cs 26 (0, 0))) (hc : cs.size = 3) : (Instr.loadAt 26 (.pointer (some ⟨g, 0, none⟩))).run Tryd.prog w = .ok (.agg cs) w := by
  have hi : (Tryd.prog.info? 26).map (·.size) = some cs.size := by rw [hc]; kernel_rfl
  simp only [Instr.loadAt, Instr.sureAddr, Sem.run_bind, Sem.run_pure, Result.andThen_ok, run_loadVar_row w g 26 26 cs (0, 0) _ h Tryd.underlying26 rfl hi]

set_option maxHeartbeats 4000000 in
theorem small_any {lo hi : Nat} {w : World} {sv nv lv : Value} {x : BookT} (hs : BkM lo hi w sv nv lv x) (hhi : hi ≤ w.heap.size) :
    Calls Tryd.prog 5 #[.agg #[sv, nv, lv]] w fun e w' => ∃ b, e = .returned (.bool b) ∧ Below w.heap.size w w' := by
  obtain ⟨sa, sc, rfl, s1, s2⟩ := hs.sh.slice
  obtain ⟨na, nc, rfl, _, _⟩ := hs.nm.slice
  obtain ⟨la, lc, rfl, _, _⟩ := hs.lk.slice
  have HF : Hid (Below w.heap.size w (w.alloc (.cells #[.slice sa x.sheets.length sc, .slice na x.names.length nc, .slice la x.links.length lc] 26))) := (Below.refl _ _).alloc (Nat.le_refl _) _
  have HS : Hid (∀ w', Below w.heap.size w w' → Shs lo hi w' (.slice sa x.sheets.length sc) x.sheets) := fun w' hw => hs.sh.below hhi hw
  have hlen : x.sheets.length ≤ 9223372036854775807 := by unfold maxLen at s2; omega
  clear hs s1 s2
  go_enter Tryd.func5, Tryd.ntmps5
  go_wp2_with fail
  go_loopw [3, 16] (fun u3 u16 wr => ∃ (k : Nat) (z : Int), u16 = .int .i64 k ∧ u3 = .int .i64 z ∧ k ≤ x.sheets.length ∧ Hid (Below w.heap.size w wr)) (fun _ u16 _ => x.sheets.length - (intOf u16).toNat)
  case atStart => exact ⟨0, _, rfl, rfl, by omega, HF⟩
  case round =>
    obtain ⟨k, z, rfl, rfl, hk, HD⟩ := hrel
    clear HF
    by_cases hlt : k < x.sheets.length
    · obtain ⟨a', cv, ov, W, rfl, ho, hcl, hW, R1, R2, -⟩ := (HS.out wr HD.out).runs hlt
      obtain ⟨ca, cc, rfl, _, _⟩ := hcl.slice
      have HK : W.heap[wr.heap.size]? = some (.cells #[.string x.sheets[k].name, .slice ca x.sheets[k].cells.length cc] 52) := by rw [hW]; exact heap_alloc_new wr _
      have HB : Hid (Below w.heap.size w W) := by rw [hW]; exact HD.out.alloc HD.out.size _
      have c1 := cell_heap HK (j := 1) rfl
      have hk63 : k < 9223372036854775807 := by omega
      clear HK hW hcl ho HD
      go_wp2_with (first
        | (refine wpList_load_run rfl 52 _ rfl _ _ rfl R1.out ?_)
        | (refine wpList_store_run rfl 52 _ _ rfl _ _ _ rfl rfl R2.out ?_))
      go_roundw
      case rel => exact ⟨k + 1, _, by go_num, rfl, by omega, HB⟩
      case measure => simp [intOf]; omega
    · go_wp2_with fail
      go_ret
      exact ⟨_, rfl, HD.out⟩

set_option maxHeartbeats 4000000 in
theorem bytesBooks_walk {w : World} {sv nv lv : Value} {x : BookT} (h : BkM 0 w.heap.size w sv nv lv x) (ok : x.Ok) (T : Tab w) (hl : (bookB x).length ≤ 10485760) :
    Calls Tryd.prog 3 #[.agg #[sv, nv, lv]] w fun e w' => e = .returned (.bool true) ∧ Below w.heap.size w w' := by
  obtain ⟨sa, sc, rfl, _, _⟩ := h.sh.slice
  obtain ⟨na, nc, rfl, _, _⟩ := h.nm.slice
  obtain ⟨la, lc, rfl, _, _⟩ := h.lk.slice
  obtain ⟨W0, hW0⟩ : ∃ W0, W0 = w.alloc (.cells #[.slice sa x.sheets.length sc, .slice na x.names.length nc, .slice la x.links.length lc] 26) := ⟨_, rfl⟩
  have HF : Hid (Below w.heap.size w W0) := by rw [hW0]; exact (Below.refl _ _).alloc (Nat.le_refl _) _
  have hz : w.heap.size < W0.heap.size := by rw [hW0]; simp
  have H0 : Hid (BkM 0 w.heap.size W0 (.slice sa x.sheets.length sc) (.slice na x.names.length nc) (.slice la x.links.length lc) x) := h.below (Nat.le_refl _) HF.out
  have b0 : Hid (W0.heap[w.heap.size]? = some (.cells #[.slice sa x.sheets.length sc, .slice na x.names.length nc, .slice la x.links.length lc] 26)) := by rw [hW0]; exact heap_alloc_new w _
  have T0 : Hid (Tab W0) := T.below (Nat.le_refl _) HF.out
  have C0 := small_any H0.out (Nat.le_of_lt hz)
  have HL : Hid ((bookB x).length ≤ 10485760) := hl
  have HOK : Hid x.Ok := ok
  have HZ : Hid (w.heap.size < W0.heap.size) := hz
  rw [hW0] at C0
  have HW0 : Hid (W0 = w.alloc (.cells #[.slice sa x.sheets.length sc, .slice na x.names.length nc, .slice la x.links.length lc] 26)) := hW0
  clear h T hl ok hz hW0
  go_enter Tryd.func3, Tryd.ntmps3
  go_wp2_with fail
  refine C0.mono ?_
  rintro e w1 ⟨b, rfl, hb1⟩
  rw [← HW0.out] at hb1
  have B1 : Hid (Below W0.heap.size W0 w1) := hb1
  clear C0 hb1
  cases b with
  | false =>
    have C := lives_any w1 (T0.out.below (Nat.le_refl _) B1.out)
    go_wp2_with (go_at_call 6; refine C.mono ?_; rintro e w2 ⟨rfl, hb⟩)
    go_ret
    exact ⟨rfl, HF.out.trans ((B1.out.trans (hb.mono B1.out.size)).mono (Nat.le_of_lt HZ.out))⟩
  | true =>
    have R1 : Hid _ := load26 ((B1.out.block _ HZ.out).trans b0.out) rfl
    have C1 := book_any (H0.out.below (Nat.le_of_lt HZ.out) B1.out) (Nat.le_trans (Nat.le_of_lt HZ.out) B1.out.size) HOK.out (by have := HL.out; omega)
    go_wp2_with (refine wpList_load_run rfl 26 _ rfl _ _ rfl R1.out ?_)
    refine C1.mono ?_
    rintro e w2 ⟨v2, rfl, o2, b2⟩
    have B2 : Hid (Below W0.heap.size W0 w2) := B1.out.trans (b2.mono B1.out.size)
    have O2 : Hid (Bts w2 v2 (bookB x)) := o2.bts
    have R2 : Hid _ := load26 ((B2.out.block _ HZ.out).trans b0.out) rfl
    have C2 := refBook_any (H0.out.below (Nat.le_of_lt HZ.out) B2.out) (Nat.le_trans (Nat.le_of_lt HZ.out) B2.out.size) HOK.out (by have := HL.out; omega)
    clear C1 R1 o2 b2 B1
    go_wp2_with (refine wpList_load_run rfl 26 _ rfl _ _ rfl R2.out ?_)
    refine C2.mono ?_
    rintro e w3 ⟨v3, rfl, o3, b3⟩
    have B3 : Hid (Below W0.heap.size W0 w3) := B2.out.trans (b3.mono B2.out.size)
    have O3 : Hid (Bts w3 v2 (bookB x)) := O2.out.below b3
    have C3 := same_yes O3.out o3.bts
    have C4 := readBook_some O3.out (by have := HL.out; omega) (readK_B HOK.out (by have := HL.out; omega))
    clear C2 R2 o3 b3 B2 O2
    go_wp2_with (go_at_call 8; refine C3.mono ?_; rintro e w' ⟨rfl, hw⟩; obtain rfl := hw.symm; clear hw)
    refine C4.mono ?_
    rintro e w4 ⟨sv, nv, lv, rfl, o4, b4⟩
    obtain ⟨sa2, sc2, rfl, _, _⟩ := o4.sh.shs.slice
    obtain ⟨na2, nc2, rfl, _, _⟩ := o4.nm.nms.slice
    obtain ⟨la2, lc2, rfl, _, _⟩ := o4.lk.lks.slice
    obtain ⟨q1, q2⟩ := box_runs Tryd.underlying26 rfl inf26 w4 #[.slice none 0 0, .slice none 0 0, .slice none 0 0] #[.slice sa2 x.sheets.length sc2, .slice na2 x.names.length nc2, .slice la2 x.links.length lc2] rfl rfl (by simp [Value.oneCell'])
    have R3 : Hid _ := q1
    have a4 : Below w4.heap.size w4 (w4.alloc (.cells #[.slice sa2 x.sheets.length sc2, .slice na2 x.names.length nc2, .slice la2 x.links.length lc2] 26)) := (Below.refl _ _).alloc (Nat.le_refl _) _
    have B4 : Hid (Below W0.heap.size W0 (w4.alloc (.cells #[.slice sa2 x.sheets.length sc2, .slice na2 x.names.length nc2, .slice la2 x.links.length lc2] 26))) := (B3.out.trans (b4.mono B3.out.size)).trans (a4.mono (Nat.le_trans B3.out.size b4.size))
    have O4 : Hid (Bts (w4.alloc (.cells #[.slice sa2 x.sheets.length sc2, .slice na2 x.names.length nc2, .slice la2 x.links.length lc2] 26)) v2 (bookB x)) := (O3.out.below b4).below a4
    have C5 := refBook_any (o4.bkm.below (Nat.le_refl _) a4) (by simp) HOK.out (by have := HL.out; omega)
    have k4 := heap_alloc_new w4 (.cells #[.slice sa2 x.sheets.length sc2, .slice na2 x.names.length nc2, .slice la2 x.links.length lc2] 26)
    have y0 := cell_heap k4 (j := 0) rfl
    have y1 := cell_heap k4 (j := 1) rfl
    have y2 := cell_heap k4 (j := 2) rfl
    clear C3 C4 q1 q2 a4 o4 b4 B3 O3 k4
    generalize w4.alloc (.cells #[.slice sa2 x.sheets.length sc2, .slice na2 x.names.length nc2, .slice la2 x.links.length lc2] 26) = W4 at *
    go_wp2_with (refine wpList_store_run rfl 26 _ _ rfl _ _ _ rfl rfl R3.out ?_)
    refine C5.mono ?_
    rintro e w5 ⟨v5, rfl, o5, b5⟩
    have B5 : Hid (Below W0.heap.size W0 w5) := B4.out.trans (b5.mono B4.out.size)
    have C6 := same_yes o5.bts (O4.out.below b5)
    have C7 := lives_any w5 (T0.out.below (Nat.le_refl _) B5.out)
    clear C5 o5 b5 B4 O4 R3
    go_wp2_with (first
      | (go_at_call 8; refine C6.mono ?_; rintro e w' ⟨rfl, hw⟩; obtain rfl := hw.symm; clear hw)
      | (go_at_call 6; refine C7.mono ?_; rintro e w6 ⟨rfl, hb6⟩))
    go_ret
    exact ⟨rfl, HF.out.trans ((B5.out.trans (hb6.mono B5.out.size)).mono (Nat.le_of_lt HZ.out))⟩
end Go.Proofs.YtohndhmhgdelmaaDoor
