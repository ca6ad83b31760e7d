/- The walks of JournalBound and JournalNext. -/
import Derived.Test.YtcheikpmhdliiaaDoorJAll
namespace Go.Proofs.YtcheikpmhdliiaaDoor
open Go.RowKit
set_option maxRecDepth 100000

theorem Gps.len {lo hi : Nat} {w : World} {v : Value} {G : List (List OpT)} (h : Gps lo hi w v G) : G.length ≤ 9223372036854775807 := by
  obtain ⟨_, c, _, h1, h2⟩ := h.slice
  unfold maxLen at h2
  omega

set_option maxHeartbeats 2000000 in
theorem bound_walk {w : World} {a b : Int} (ha : In64 a) {x : Value} {G : List (List OpT)} (h : Gps 0 w.heap.size w x G) (ok : ∀ g ∈ G, ∀ o ∈ g, o.Ok) (T : Tab w) (hl : ∀ g ∈ G, (opsB g).length ≤ 10485760) :
    Calls Tryd.prog 7 #[.int .i64 a, .int .i64 b, x] w fun e w' => e = .returned (.bool true) ∧ Below w.heap.size w w' := by
  have hG := h.len
  obtain ⟨ga, gc, rfl, _, _⟩ := h.slice
  by_cases hbig : 40 < G.length
  · have C := livesJ_any T
    clear h ok T hl
    go_enter Tryd.func7, Tryd.ntmps7
    go_wp2_with (go_at_call 14; refine C.mono ?_; rintro e w' ⟨rfl, hb⟩)
    go_ret
    exact ⟨rfl, hb⟩
  · have C1 := all_any T ha h ok hl (by omega)
    have HT : Hid (Tab w) := T
    clear h ok T hl
    go_enter Tryd.func7, Tryd.ntmps7
    go_wp2_with fail
    refine C1.mono ?_
    rintro e w1 ⟨xv, iv, ins, rfl, M⟩
    obtain ⟨ia, ic, rfl, _, _⟩ := M.groups.gps.slice
    have hfew := M.few
    have S := scan_any M.bytes.bts (HT.out.below (Nat.le_refl _) M.below) (id := b) (by have := jrn_len ha M.fits (by omega); omega)
    by_cases hab : a = b
    · rw [← hab, scan_jrn ha M.fits (by omega)] at S
      have S2 : Calls Tryd.prog 18 #[xv, .int .i64 a] w1 fun e w2 => ∃ ga gc good, e = .returned (.agg #[.slice ga ins.length gc, .int .i64 good, .bool true]) ∧ Hid (Below w.heap.size w w2) := by
        refine S.mono ?_
        rintro e w2 ⟨ga, gc, rfl, _, _, b2⟩
        exact ⟨ga, gc, _, rfl, M.below.trans (b2.mono M.below.size)⟩
      subst hab
      clear C1 S M
      go_wp2_with fail
      refine S2.mono ?_
      rintro e w2 ⟨ga2, gc2, good, rfl, HB⟩
      have B2 : Hid (Below w.heap.size w (w2.alloc (.cells #[.slice ga2 ins.length gc2, .int .i64 good, .bool true] 38))) := HB.out.alloc HB.out.size _
      have L := livesJ_any (HT.out.below (Nat.le_refl _) B2.out)
      clear S2 HB
      generalize ins.length = n at *
      go_wp2_with (go_at_call 14; refine L.mono ?_; rintro e w5 ⟨rfl, hb5⟩)
      go_ret
      exact ⟨rfl, B2.out.trans (hb5.mono B2.out.size)⟩
    · have hbe : (a == b) = false := by simpa using hab
      have hbn : (a != b) = true := by simpa using hab
      rw [scan_other ha ins hab] at S
      have S2 : Calls Tryd.prog 18 #[xv, .int .i64 b] w1 fun e w2 => ∃ ga gc, e = .returned (.agg #[.slice ga 0 gc, .int .i64 0, .bool false]) ∧ Hid (Below w.heap.size w w2) := by
        refine S.mono ?_
        rintro e w2 ⟨ga, gc, rfl, _, _, b2⟩
        exact ⟨ga, gc, rfl, M.below.trans (b2.mono M.below.size)⟩
      clear C1 S M
      go_wp2_with fail
      refine S2.mono ?_
      rintro e w2 ⟨ga2, gc2, rfl, HB⟩
      have B2 : Hid (Below w.heap.size w (w2.alloc (.cells #[.slice ga2 0 gc2, .int .i64 0, .bool false] 38))) := HB.out.alloc HB.out.size _
      have L := livesJ_any (HT.out.below (Nat.le_refl _) B2.out)
      clear S2 HB
      generalize ins.length = n at *
      go_wp2_with (go_at_call 14; refine L.mono ?_; rintro e w5 ⟨rfl, hb5⟩)
      go_ret
      exact ⟨rfl, B2.out.trans (hb5.mono B2.out.size)⟩

/-! ### A group of another number is none -/
theorem numB_small {n : Int} (h0 : 0 ≤ n) (h : n < 64) : (numB n).length = 1 := by
  unfold numB
  rw [digits_small (by unfold foldN; rw [if_neg (by omega)]; omega)]
  rfl
theorem groupC_same {a b : Int} (ha : 0 ≤ a ∧ a < 64) (hb : 0 ≤ b ∧ b < 64) (L : List OpT) : (groupC a L).length = (groupC b L).length := by
  simp only [groupC, listB_one, List.length_append, List.length_cons, numB_small ha.1 ha.2, numB_small hb.1 hb.2]
theorem scan_wrong {id : Int} (hid : In64 id) {gs : List (List OpT)} (h : Fits 0 gs) (hk : gs.length ≤ 1000000) {s : Int} (hs : In64 s) (hne : s ≠ (gs.length : Int) + 1) {L : List OpT} (ok : ∀ o ∈ L, o.Ok) (hL : L ≠ []) (hl : (groupC s L).length ≤ 131072) :
    scanJ (jrn id gs ++ frameB (groupC s L)) id = ⟨gs, (jrn id gs).length, true⟩ := by
  unfold scanJ jrn
  rw [List.append_assoc, own_head hid]
  simp only [if_true, followJ]
  have e := followF_flat gs ((beginJ id ++ (flatJ 0 gs ++ frameB (groupC s L))).length + 1) 0 (frameB (groupC s L)) (by have := flatJ_ge gs 0; simp only [List.length_append]; omega) (by omega) h
  rw [List.drop_left, e]
  have e1 : nextJ (frameB (groupC s L)) (0 + gs.length) = none := by
    unfold nextJ
    have := first_group hs ok hL hl []
    rw [List.append_nil] at this
    rw [this]
    simp [hne]
  obtain ⟨f, hf⟩ : ∃ f, (beginJ id ++ (flatJ 0 gs ++ frameB (groupC s L))).length + 1 - gs.length = f + 1 := ⟨(beginJ id ++ (flatJ 0 gs ++ frameB (groupC s L))).length - gs.length, by have := flatJ_ge gs 0; simp only [List.length_append]; omega⟩
  rw [hf, followF_stop e1]
  simp

set_option maxHeartbeats 4000000 in
theorem next_walk {w : World} {id : Int} (hid : In64 id) {x : Value} {G : List (List OpT)} (h : Gps 0 w.heap.size w x G) (ok : ∀ g ∈ G, ∀ o ∈ g, o.Ok) {lv : Value} {L : List OpT} (hL : Opl 0 w.heap.size w lv L) (okL : ∀ o ∈ L, o.Ok) (T : Tab w) (hl : ∀ g ∈ G, (opsB g).length ≤ 10485760) (hlL : (opsB L).length ≤ 10485760) :
    Calls Tryd.prog 8 #[.int .i64 id, x, lv] w fun e w' => e = .returned (.bool true) ∧ Below w.heap.size w w' := by
  have hG := h.len
  obtain ⟨ga, gc, rfl, _, _⟩ := h.slice
  have HLL : Hid (∀ w', Below w.heap.size w w' → Opl 0 w.heap.size w' lv L) := fun w' hb => hL.below (Nat.le_refl _) hb
  obtain ⟨la, lc, rfl, _, _⟩ := hL.slice
  have hLn : L.length ≤ 10485760 := by
    have := flatMap_ge opB_pos L
    simp only [opsB, lstB, List.length_append] at hlL
    omega
  by_cases hout : 40 < G.length ∨ L.length = 0 ∨ 30 < L.length
  · have C := livesJ_any T
    clear h ok T hl hL HLL okL
    by_cases h1 : 40 < G.length
    · go_enter Tryd.func8, Tryd.ntmps8
      go_wp2_with (go_at_call 14; refine C.mono ?_; rintro e w' ⟨rfl, hb⟩)
      go_ret
      exact ⟨rfl, hb⟩
    · by_cases h2 : L.length = 0
      · rw [h2]
        clear hout
        go_enter Tryd.func8, Tryd.ntmps8
        go_wp2_with (go_at_call 14; refine C.mono ?_; rintro e w' ⟨rfl, hb⟩)
        go_ret
        exact ⟨rfl, hb⟩
      · have h3 : 30 < L.length := by omega
        have h2' : ¬ (L.length : Int) = 0 := by omega
        clear hout
        go_enter Tryd.func8, Tryd.ntmps8
        go_wp2_with (go_at_call 14; refine C.mono ?_; rintro e w' ⟨rfl, hb⟩)
        go_ret
        exact ⟨rfl, hb⟩
  · have hg40 : decide (40 < (G.length : Int)) = false := decide_eq_false (by omega)
    have hL0 : ((L.length : Int) == 0) = false := by simp; rintro rfl; simp at hout
    have hL30 : decide (30 < (L.length : Int)) = false := decide_eq_false (by omega)
    have HNE : Hid (L ≠ []) := by rintro rfl; simp at hout
    have C1 := all_any T hid h ok hl (by omega)
    have HT : Hid (Tab w) := T
    have HOK : Hid (∀ o ∈ L, o.Ok) := okL
    have HLB : Hid ((opsB L).length ≤ 10485760) := hlL
    clear h ok T hl hout hL okL hlL
    go_enter Tryd.func8, Tryd.ntmps8
    go_wp2_with fail
    refine C1.mono ?_
    rintro e w1 ⟨bv, iv, ins, rfl, M⟩
    obtain ⟨ia, ic, rfl, _, _⟩ := M.groups.gps.slice
    have hfew := M.few
    have hjl := jrn_len hid M.fits (by omega)
    have A := add_any M.bytes.bts (HT.out.below (Nat.le_refl _) M.below) (by omega) (HLL.out w1 M.below) M.below.size HOK.out (by have := HLB.out; omega)
    rw [add_jrn hid M.fits (by omega)] at A
    have ec : ((ins.length + 1 : Nat) : Int) = (ins.length : Int) + 1 := by omega
    rw [ec] at A
    have HM : Hid (Made w id w1 bv (.slice ia ins.length ic) ins) := M
    obtain ⟨ba, bc, rfl, _, _⟩ := M.bytes.bts.slice
    clear C1 M ec
    by_cases hok : (groupJ ((ins.length : Int) + 1) L).2 = 0
    · obtain ⟨_, hlen, e1⟩ := group_code hok
      rw [hok, e1] at A
      have A2 : Calls Tryd.prog 15 #[.slice ba (jrn id ins).length bc, .slice la L.length lc] w1 fun e w2 => ∃ xa xc v1 w3 v2 w4, e = .returned (.tuple #[.slice xa (frameB (groupC ((ins.length : Int) + 1) L)).length xc, .int .i64 0]) ∧ Hid ((Builtin.append_ #[24, 24] 24 #[.slice (some ⟨w2.heap.size, 0, none⟩) 0 0, .slice ba (jrn id ins).length bc]).run Tryd.prog (w2.alloc (.cells #[] 5)) = .ok v1 w3) ∧
          Hid ((Builtin.append_ #[24, 24] 24 #[v1, .slice xa (frameB (groupC ((ins.length : Int) + 1) L)).length xc]).run Tryd.prog w3 = .ok v2 w4) ∧ Hid (Own w2.heap.size w4 v2 (jrn id (ins ++ [L])) ∧ Made w id w4 (.slice ba (jrn id ins).length bc) (.slice ia ins.length ic) ins) := by
        refine A.mono ?_
        rintro e w2 ⟨xv, rfl, o2, b2⟩
        have m2 := HM.out.kept b2
        obtain ⟨v1, w3, v2, w4, r1, r2, HJ⟩ := join2 m2.bytes.bts o2.bts (by rw [frameB_length]; omega)
        obtain ⟨xa, xc, exv⟩ := o2.slice
        subst exv
        rw [← jrn_snoc] at HJ
        exact ⟨xa, xc, v1, w3, v2, w4, rfl, r1, r2, HJ.out.1, m2.kept HJ.out.2⟩
      have hf1 : (frameB (groupC ((ins.length : Int) + 1) L)).length ≤ 131080 := by rw [frameB_length]; omega
      have hsum : (jrn id (ins ++ [L])).length = (jrn id ins).length + (frameB (groupC ((ins.length : Int) + 1) L)).length := by rw [jrn_snoc, List.length_append]
      have HFT : Hid (Fits 0 (ins ++ [L])) := by
        show Fits _ _
        rw [Fits_append]
        refine ⟨HM.out.fits, ?_, trivial⟩
        rw [Nat.zero_add]
        exact ⟨HOK.out, HNE.out, hlen⟩
      have HW : Hid ((groupC ((ins.length : Int) + 2) L).length ≤ 131072) := by
        show _ ≤ _
        rw [groupC_same (b := (ins.length : Int) + 1) (by omega) (by omega)]
        exact hlen
      clear A
      go_wp2_with fail
      refine A2.mono ?_
      rintro e w2 ⟨xa, xc, v1, w3, v2, w4, rfl, R1, R2, HO⟩
      have S := scan_any HO.out.1.bts (HT.out.below (Nat.le_refl _) HO.out.2.below) (id := id) (by rw [hsum]; omega)
      rw [scan_jrn hid HFT.out (by simp; omega)] at S
      have S2 : Calls Tryd.prog 18 #[v2, .int .i64 id] w4 fun e w5 => ∃ ga gc, e = .returned (.agg #[.slice ga (ins.length + 1) gc, .int .i64 (((jrn id ins).length + (frameB (groupC ((ins.length : Int) + 1) L)).length : Nat) : Int), .bool true]) ∧ Hid (Made w id w5 (.slice ba (jrn id ins).length bc) (.slice ia ins.length ic) ins) := by
        refine S.mono ?_
        rintro e w5 ⟨ga, gc, rfl, _, _, b5⟩
        refine ⟨ga, gc, ?_, HO.out.2.kept b5⟩
        rw [hsum]
        simp
      have HFR : Hid (groupJ ((ins.length : Int) + 2) L = (frameB (groupC ((ins.length : Int) + 2) L), 0)) := group_ok (by omega) HNE.out HW.out
      have hf2 : (frameB (groupC ((ins.length : Int) + 2) L)).length ≤ 131080 := by rw [frameB_length]; have := HW.out; omega
      clear A2 S HO HFT hsum hlen e1 hok HM
      generalize hn1 : (frameB (groupC ((ins.length : Int) + 1) L)).length = n1 at *
      clear hn1
      obtain ⟨nb, hnb⟩ : ∃ nb, nb = (jrn id ins).length := ⟨_, rfl⟩
      have HNB : Hid (nb = (jrn id ins).length) := hnb
      rw [← hnb] at R1 S2 hjl ⊢
      clear hnb
      go_wp2_with (at_builtin; first | (refine wpList_append_run rfl _ _ 24 rfl _ _ _ _ rfl rfl R1.out ?_) | (refine wpList_append_run rfl _ _ 24 rfl _ _ _ _ rfl rfl R2.out ?_))
      refine S2.mono ?_
      rintro e w5 ⟨ga5, gc5, rfl, HM5⟩
      have hB5 : Below w5.heap.size w5 (w5.alloc (.cells #[.slice ga5 (ins.length + 1) gc5, .int .i64 ((nb + n1 : Nat) : Int), .bool true] 38)) := (Below.refl _ _).alloc (Nat.le_refl _) _
      have M6 := HM5.out.kept hB5
      have G2 := group_any (HT.out.below (Nat.le_refl _) M6.below) (seq := (ins.length : Int) + 2) (by constructor <;> omega) (HLL.out _ M6.below) M6.below.size HOK.out (by have := HLB.out; omega)
      rw [HFR.out] at G2
      have G3 : Calls Tryd.prog 22 #[.int .i64 ((ins.length : Int) + 2), .slice la L.length lc] (w5.alloc (.cells #[.slice ga5 (ins.length + 1) gc5, .int .i64 ((nb + n1 : Nat) : Int), .bool true] 38)) fun e w6 => ∃ zv v3 w7 v4 w8, e = .returned (.tuple #[zv, .int .i64 0]) ∧ Hid ((Builtin.append_ #[24, 24] 24 #[.slice (some ⟨w6.heap.size, 0, none⟩) 0 0, .slice ba nb bc]).run Tryd.prog (w6.alloc (.cells #[] 5)) = .ok v3 w7) ∧
          Hid ((Builtin.append_ #[24, 24] 24 #[v3, zv]).run Tryd.prog w7 = .ok v4 w8) ∧ Hid (Own w6.heap.size w8 v4 (jrn id ins ++ frameB (groupC ((ins.length : Int) + 2) L)) ∧ Made w id w8 (.slice ba nb bc) (.slice ia ins.length ic) ins) := by
        refine G2.mono ?_
        rintro e w6 ⟨zv, rfl, o6, b6⟩
        have m6 := M6.kept b6
        obtain ⟨v3, w7, v4, w8, r1, r2, HJ⟩ := join2 m6.bytes.bts o6.bts (by rw [← HNB.out]; dsimp only; omega)
        exact ⟨zv, v3, w7, v4, w8, rfl, r1, r2, HJ.out.1, m6.kept HJ.out.2⟩
      clear S2 G2 M6 hB5 HM5 R1 R2
      go_wp2_with fail
      refine G3.mono ?_
      rintro e w6 ⟨zv, v3, w7, v4, w8, rfl, R3, R4, HO8⟩
      have S3 := scan_any HO8.out.1.bts (HT.out.below (Nat.le_refl _) HO8.out.2.below) (id := id) (by rw [List.length_append, ← HNB.out]; omega)
      rw [scan_wrong hid HO8.out.2.fits (by omega) (by constructor <;> omega) (by omega) HOK.out HNE.out HW.out] at S3
      have S4 : Calls Tryd.prog 18 #[v4, .int .i64 id] w8 fun e w9 => ∃ ga gc, e = .returned (.agg #[.slice ga ins.length gc, .int .i64 (nb : Int), .bool true]) ∧ Hid (Below w.heap.size w w9) := by
        refine S3.mono ?_
        rintro e w9 ⟨ga, gc, rfl, _, _, b9⟩
        rw [HNB.out]
        exact ⟨ga, gc, rfl, HO8.out.2.below.trans (b9.mono HO8.out.2.below.size)⟩
      clear S3 HO8 G3
      go_wp2_with (at_builtin; first | (refine wpList_append_run rfl _ _ 24 rfl _ _ _ _ rfl rfl R3.out ?_) | (refine wpList_append_run rfl _ _ 24 rfl _ _ _ _ rfl rfl R4.out ?_))
      refine S4.mono ?_
      rintro e w9 ⟨ga9, gc9, rfl, HB9⟩
      have B9 : Hid (Below w.heap.size w (w9.alloc (.cells #[.slice ga9 ins.length gc9, .int .i64 (nb : Int), .bool true] 38))) := HB9.out.alloc HB9.out.size _
      have LV := livesJ_any (HT.out.below (Nat.le_refl _) B9.out)
      clear S4 HB9 R3 R4
      go_wp2_with (go_at_call 14; refine LV.mono ?_; rintro e wl ⟨rfl, hbl⟩)
      go_ret
      exact ⟨rfl, B9.out.trans (hbl.mono B9.out.size)⟩
    · have e9 := group_err (by omega : (1 : Int) ≤ (ins.length : Int) + 1) HNE.out hok
      rw [e9] at A
      have A2 : Calls Tryd.prog 15 #[.slice ba (jrn id ins).length bc, .slice la L.length lc] w1 fun e w2 => ∃ xv, e = .returned (.tuple #[xv, .int .i64 9]) ∧ Hid (Below w.heap.size w w2) := by
        refine A.mono ?_
        rintro e w2 ⟨xv, rfl, o2, b2⟩
        exact ⟨xv, rfl, HM.out.below.trans (b2.mono HM.out.below.size)⟩
      clear A e9 hok HM
      generalize (jrn id ins).length = nb at *
      go_wp2_with fail
      refine A2.mono ?_
      rintro e w2 ⟨xv, rfl, HB2⟩
      have LV := livesJ_any (HT.out.below (Nat.le_refl _) HB2.out)
      clear A2
      go_wp2_with (go_at_call 14; refine LV.mono ?_; rintro e wl ⟨rfl, hbl⟩)
      go_ret
      exact ⟨rfl, HB2.out.trans (hbl.mono HB2.out.size)⟩
end Go.Proofs.YtcheikpmhdliiaaDoor
