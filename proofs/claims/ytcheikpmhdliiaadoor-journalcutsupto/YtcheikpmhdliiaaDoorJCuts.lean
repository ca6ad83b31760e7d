/- The walk of JournalCuts. -/
import Derived.Test.YtcheikpmhdliiaaDoorJCut
import Derived.Test.YtcheikpmhdliiaaDoorJBound
import Derived.Test.YtcheikpmhdliiaaDoorRefOps
namespace Go.Proofs.YtcheikpmhdliiaaDoor
open Go.RowKit
set_option maxRecDepth 100000

theorem groupJ_op1 {k : Nat} (hk : k ≤ 1000) : groupJ ((k : Int) + 1) [op1] = (frameB (groupC ((k : Int) + 1) [op1]), 0) :=
  group_ok (by omega) (by simp) (by have := groupC_len (s := (k : Int) + 1) (by constructor <;> omega) [op1]; have := op1_len; omega)

/-- What holds behind the second scan: the journal, its groups, and the log of the cut one in a block of its own. -/
structure Cut (w : World) (id : Int) (ins : List (List OpT)) (a : Addr) (nb cap : Nat) (ia : Option Addr) (ic : Nat) (Y : Nat) (ya : Option Addr) (j yc good : Nat) (wr : World) : Prop where
  made : Made w id wr (.slice (some a) nb cap) (.slice ia ins.length ic) ins
  log : wr.heap[Y]? = some (.cells #[.slice ya j yc, .int .i64 (good : Int), .bool true] 38 (0, 0))
  gps : Gps 0 wr.heap.size wr (.slice ya (ins.take j).length yc) (ins.take j)
  few : j ≤ ins.length
theorem Cut.kept {w : World} {id : Int} {ins : List (List OpT)} {a : Addr} {nb cap : Nat} {ia : Option Addr} {ic Y : Nat} {ya : Option Addr} {j yc good : Nat} {wr w1 : World} (h : Cut w id ins a nb cap ia ic Y ya j yc good wr) (hb : Below wr.heap.size wr w1) : Cut w id ins a nb cap ia ic Y ya j yc good w1 := by
  refine ⟨h.made.kept hb, ?_, (h.gps.below (Nat.le_refl _) hb).mono (Nat.le_refl _) hb.size, h.few⟩
  rw [hb.block _ ?_]
  · exact h.log
  · rcases Nat.lt_or_ge Y wr.heap.size with h1 | h1
    · exact h1
    · have := h.log
      rw [Array.getElem?_eq_none h1] at this; cases this

theorem cuts_at {w : World} {id : Int} {ins : List (List OpT)} {a : Addr} {nb cap : Nat} {ia : Option Addr} {ic Y : Nat} {ya : Option Addr} {j yc good : Nat} {wr : World} (h : Cut w id ins a nb cap ia ic Y ya j yc good wr) {i : Nat} (hi : i < j) :
    ∃ p q pa pc qa qc, ya = some p ∧ ia = some q ∧ wr.cell? (p.add i) = some (.slice pa (ins.getD i []).length pc) ∧ wr.cell? (q.add i) = some (.slice qa (ins.getD i []).length qc) ∧
      Hid (Opl 0 wr.heap.size wr (.slice pa (ins.getD i []).length pc) (ins.getD i [])) ∧ Hid (Opl 0 wr.heap.size wr (.slice qa (ins.getD i []).length qc) (ins.getD i [])) ∧ Hid ((∀ o ∈ ins.getD i [], o.Ok) ∧ (opsB (ins.getD i [])).length ≤ 131072) := by
  have hil : i < ins.length := by have := h.few; omega
  have e : ins.getD i [] = ins[i] := by rw [List.getD_eq_getElem?_getD, List.getElem?_eq_getElem hil]; rfl
  have hit : i < (ins.take j).length := by simp; omega
  obtain ⟨p, gv, e1, c1, o1⟩ := h.gps.at hit
  obtain ⟨q, iv, e2, c2, o2⟩ := h.made.groups.gps.at hil
  have et : (ins.take j)[i] = ins[i] := by simp
  rw [et] at o1
  obtain ⟨pa, pc, rfl, _, _⟩ := o1.slice
  obtain ⟨qa, qc, rfl, _, _⟩ := o2.slice
  rw [e]
  exact ⟨p, q, pa, pc, qa, qc, e1, e2, c1, c2, o1, o2, fits_ok h.made.fits _ (List.getElem_mem hil), fits_len h.made.fits _ (List.getElem_mem hil)⟩

set_option maxHeartbeats 8000000 in
theorem cuts_walk {w : World} {id : Int} (hid : In64 id) {x : Value} {G : List (List OpT)} (h : Gps 0 w.heap.size w x G) (ok : ∀ g ∈ G, ∀ o ∈ g, o.Ok) (T : Tab w) (hl : ∀ g ∈ G, (opsB g).length ≤ 10485760) (cut : Nat) (hcut : cut < 18446744073709551616) :
    Calls Tryd.prog 6 #[.int .i64 id, x, .int .u64 cut] w fun e w' => e = .returned (.bool true) ∧ Below w.heap.size w w' := by
  have hG := h.len
  obtain ⟨ga, gc, rfl, _, _⟩ := h.slice
  by_cases hbig : 40 < G.length
  · have C := livesJ_any T
    clear h ok T hl
    go_enter Tryd.func6, Tryd.ntmps6
    go_wp2_with (go_at_call 14; refine C.mono ?_; rintro e w' ⟨rfl, hb⟩)
    go_ret
    exact ⟨rfl, hb⟩
  · have C1 := all_any T hid h ok hl (by omega)
    have HT : Hid (Tab w) := T
    clear h ok T hl
    go_enter Tryd.func6, Tryd.ntmps6
    go_wp2_with fail
    refine C1.mono ?_
    rintro e w1 ⟨bv, iv, ins, rfl, M⟩
    obtain ⟨ia, ic, rfl, _, _⟩ := M.groups.gps.slice
    have hfew := M.few
    have hjl := jrn_len hid M.fits (by omega)
    obtain ⟨a, cap, rfl, hc1, hc2, HCL⟩ : ∃ a cap, bv = .slice (some a) (jrn id ins).length cap ∧ (jrn id ins).length ≤ cap ∧ cap ≤ maxLen ∧ Hid (∀ w', Below w1.heap.size w1 w' → ∀ j u, (bcells (jrn id ins))[j]? = some u → w'.cell? (a.add j) = some u) := by
      rcases M.bytes.bts with ⟨_, e⟩ | ⟨a, cap, e, h2, h3, h4⟩
      · exfalso
        have : (jrn id ins).length = 0 := by rw [e]; rfl
        have h8 : 8 ≤ (beginJ id).length := by unfold beginJ; rw [frameB_length]; omega
        unfold jrn at this
        rw [List.length_append] at this
        omega
      · refine ⟨a, cap, e, h2, h3, fun w' hb j u hj => ?_⟩
        have := h4 j u hj
        rw [← this]
        exact World.cell?_of_block (hb.block _ (World.block_lt_of_cell? w1 _ this))
    have hc2' : cap ≤ 9223372036854775807 := hc2
    have HCM : Hid (cap ≤ maxLen) := hc2
    have S := scan_any M.bytes.bts (HT.out.below (Nat.le_refl _) M.below) (id := id) (by omega)
    rw [scan_jrn hid M.fits (by omega)] at S
    obtain ⟨k, hk⟩ : ∃ k, k = cut % ((jrn id ins).length + 1) := ⟨_, rfl⟩
    have hk1 : ((cut : Int) % (((jrn id ins).length : Int) + 1)) = (k : Int) := by rw [hk]; simp
    have hk2 : k ≤ (jrn id ins).length := by rw [hk]; have := Nat.mod_lt cut (y := (jrn id ins).length + 1) (by omega); omega
    have hk3 : (k : Int) ≤ (cap : Int) := by omega
    have HCUT : Hid _ := scan_cut hid M.fits (by omega) hk2
    obtain ⟨nb, hnb⟩ : ∃ nb, nb = (jrn id ins).length := ⟨_, rfl⟩
    have HNB : Hid (nb = (jrn id ins).length) := hnb
    have HM1 : Hid (Made w id w1 (.slice (some a) nb cap) (.slice ia ins.length ic) ins) := by rw [hnb]; exact M
    have S2 : Calls Tryd.prog 18 #[.slice (some a) nb cap, .int .i64 id] w1 fun e w2 => ∃ ga2 gc2, e = .returned (.agg #[.slice ga2 ins.length gc2, .int .i64 (nb : Int), .bool true]) ∧ Hid (Below w1.heap.size w1 w2) := by
      rw [hnb]
      refine S.mono ?_
      rintro e w2 ⟨ga2, gc2, rfl, _, _, b2⟩
      exact ⟨ga2, gc2, rfl, b2⟩
    rw [← hnb] at hk1 hk2 hjl hc1 ⊢
    clear hk hnb S M C1 hc2
    go_wp2_with fail
    refine S2.mono ?_
    rintro e w2 ⟨ga2, gc2, rfl, HB2⟩
    clear S2
    have hB3 : Below w1.heap.size w1 (w2.alloc (.cells #[.slice ga2 ins.length gc2, .int .i64 (nb : Int), .bool true] 38)) := HB2.out.alloc HB2.out.size _
    have HM3 : Hid (Made w id (w2.alloc (.cells #[.slice ga2 ins.length gc2, .int .i64 (nb : Int), .bool true] 38)) (.slice (some a) nb cap) (.slice ia ins.length ic) ins) := HM1.out.kept hB3
    have SC := scan_any (id := id) (Bts.part (n := k) (cap := cap) (by rw [← HNB.out]; exact hk2) (by omega) HCM.out (HCL.out _ hB3)) (HT.out.below (Nat.le_refl _) HM3.out.below) (by rw [List.length_take]; omega)
    have HB3 : Hid _ := hB3
    clear hB3 HB2 HM1
    rcases HCUT.out with ⟨hlt, hsc⟩ | ⟨hge, j, hj, hsc, hgk, hfull⟩
    · rw [hsc] at SC
      have SC2 : Calls Tryd.prog 18 #[.slice (some a) k cap, .int .i64 id] (w2.alloc (.cells #[.slice ga2 ins.length gc2, .int .i64 (nb : Int), .bool true] 38)) fun e w4 => ∃ ga4 gc4, e = .returned (.agg #[.slice ga4 0 gc4, .int .i64 0, .bool false]) ∧ Hid (Below w.heap.size w (w4.alloc (.cells #[.slice ga4 0 gc4, .int .i64 0, .bool false] 38))) := by
        refine SC.mono ?_
        rintro e w4 ⟨ga4, gc4, rfl, _, _, b4⟩
        have := HM3.out.below.trans (b4.mono HM3.out.below.size)
        exact ⟨ga4, gc4, rfl, this.alloc this.size _⟩
      have hlt' : (k : Int) < ((beginJ id).length : Int) := by omega
      clear SC hsc HCUT HNB hlt
      go_wp2_with fail
      refine SC2.mono ?_
      rintro e w4 ⟨ga4, gc4, rfl, HB4⟩
      have BG := begin_any (HT.out.below (Nat.le_refl _) HB4.out) hid
      have BG2 : Calls Tryd.prog 20 #[.int .i64 id] (w4.alloc (.cells #[.slice ga4 0 gc4, .int .i64 0, .bool false] 38)) fun e w5 => ∃ ba bc, e = .returned (.slice ba (beginJ id).length bc) ∧ (∀ o, w5.cell? ⟨w4.heap.size, o, none⟩ = (w4.alloc (.cells #[.slice ga4 0 gc4, .int .i64 0, .bool false] 38)).cell? ⟨w4.heap.size, o, none⟩) ∧ Hid (Below w.heap.size w w5) := by
        refine BG.mono ?_
        rintro e w5 ⟨v5, rfl, o5, b5⟩
        obtain ⟨ba, bc, rfl⟩ := o5.slice
        exact ⟨ba, bc, rfl, fun o => World.cell?_of_block (b5.block _ (by simp)), HB4.out.trans (b5.mono HB4.out.size)⟩
      clear BG SC2
      generalize (beginJ id).length = nh at *
      go_wp2_with fail
      refine BG2.mono ?_
      rintro e w5 ⟨ba, bc, rfl, cc, HB5⟩
      have LV := livesJ_any (HT.out.below (Nat.le_refl _) HB5.out)
      clear BG2
      go_wp2_with (go_at_call 14; refine LV.mono ?_; rintro e wl ⟨rfl, hbl⟩)
      go_ret
      exact ⟨rfl, HB5.out.trans (hbl.mono HB5.out.size)⟩
    · rw [hsc] at SC
      obtain ⟨good, hgood⟩ : ∃ good, good = (jrn id (ins.take j)).length := ⟨_, rfl⟩
      have HGD : Hid (good = (jrn id (ins.take j)).length) := hgood
      rw [← hgood] at hgk SC
      clear hgood
      have SC2 : Calls Tryd.prog 18 #[.slice (some a) k cap, .int .i64 id] (w2.alloc (.cells #[.slice ga2 ins.length gc2, .int .i64 (nb : Int), .bool true] 38)) fun e w4 => ∃ ya yc, e = .returned (.agg #[.slice ya j yc, .int .i64 (good : Int), .bool true]) ∧ Hid (Cut w id ins a nb cap ia ic w4.heap.size ya j yc good (w4.alloc (.cells #[.slice ya j yc, .int .i64 (good : Int), .bool true] 38)) ∧ Below w1.heap.size w1 (w4.alloc (.cells #[.slice ya j yc, .int .i64 (good : Int), .bool true] 38))) := by
        refine SC.mono ?_
        rintro e w4 ⟨ya, yc, rfl, gp, _, b4⟩
        have hlen : (ins.take j).length = j := by simp; omega
        have b4' : Below (w2.alloc (.cells #[.slice ga2 ins.length gc2, .int .i64 (nb : Int), .bool true] 38)).heap.size (w2.alloc (.cells #[.slice ga2 ins.length gc2, .int .i64 (nb : Int), .bool true] 38)) (w4.alloc (.cells #[.slice ya j yc, .int .i64 (good : Int), .bool true] 38)) := b4.alloc b4.size _
        dsimp only at gp
        refine ⟨ya, yc, by rw [hlen], ⟨HM3.out.kept b4', heap_alloc_new w4 _, ?_, hj⟩, HB3.out.trans (b4'.mono HB3.out.size)⟩
        exact (gp.kept fun i _ hi => Below.heap_alloc w4 _ i hi).mono (Nat.zero_le _) (by simp)
      have hj30 : j ≤ 30 := by omega
      have hfl : Hid ((k : Int) = (nb : Int) → j = ins.length) := fun e => hfull (by have := HNB.out; omega)
      have hgk' : decide (k < good) = false := decide_eq_false (by omega)
      have hjl' : decide (ins.length < j) = false := decide_eq_false (by omega)
      have hgn : good ≤ nb := by omega
      clear SC hsc HCUT HM3 HB3
      have HJ : Hid (j ≤ ins.length) := hj
      by_cases hfu : (k : Int) = (nb : Int)
      · have hb1 : ((k : Int) == (nb : Int)) = true := by simpa using hfu
        have hb2 : ((j : Int) != (ins.length : Int)) = false := by rw [hfl.out hfu]; simp
        clear hfu hfl hfull
        go_wp2_with fail
        refine SC2.mono ?_
        rintro e w4 ⟨ya, yc, rfl, HC⟩
        clear SC2
        go_wp2_with fail
        go_loopw [112] (fun u112 wr => ∃ i : Nat, u112 = .int .i64 i ∧ i ≤ j ∧ Hid (Cut w id ins a nb cap ia ic w4.heap.size ya j yc good wr)) (fun u112 _ => j - (intOf u112).toNat)
        case atStart => exact ⟨0, rfl, by omega, HC.out.1⟩
        case round =>
          obtain ⟨i, rfl, hi, HCr⟩ := hrel
          clear HC
          by_cases hlt : i < j
          · obtain ⟨p, q, pa, pc, qa, qc, rfl, rfl, cp, cq, O1, O2, HOK⟩ := cuts_at HCr.out hlt
            have hil : (i : Int) < (ins.length : Int) := by omega
            have hij : (i : Int) < (j : Int) := by omega
            have HK : Hid (wr.cell? (q.add i) = some (.slice qa (ins.getD i []).length qc)) := cq
            have hgl : (ins.getD i []).length ≤ 131072 := by
              have h1 := flatMap_ge opB_pos (ins.getD i [])
              have h2 := HOK.out.2
              simp only [opsB, lstB, List.length_append] at h2
              omega
            generalize ins.getD i [] = g at *
            have T1 : Hid (Calls Tryd.prog 12 #[.slice pa g.length pc] wr.drew fun e w' => ∃ v', e = .returned v' ∧ Hid (w'.cell? (q.add i) = some (.slice qa g.length qc)) ∧ Hid (Own wr.heap.size w' v' (opsB g) ∧ Below wr.heap.size wr w')) := by
              have O1' : Opl 0 wr.heap.size wr.drew (.slice pa g.length pc) g := O1.out.kept fun _ _ _ => rfl
              refine (refOps_any O1' (Nat.le_refl _) HOK.out.1 (by have := HOK.out.2; omega)).mono ?_
              rintro e w' ⟨v', rfl, o', b'⟩
              refine ⟨v', rfl, ?_, o', ⟨b'.os, b'.tape, b'.output, b'.size, b'.block⟩⟩
              show _ = _
              rw [← HK.out]
              exact World.cell?_of_block (b'.block _ (World.block_lt_of_cell? wr _ HK.out))
            have T2 : Hid (∀ w1 v1, Hid (w1.cell? (q.add i) = some (.slice qa g.length qc)) → Hid (Own wr.heap.size w1 v1 (opsB g) ∧ Below wr.heap.size wr w1) → Calls Tryd.prog 12 #[.slice qa g.length qc] w1 fun e w' => ∃ v', e = .returned v' ∧ Hid (w'.cell? (q.add i) = some (.slice qa g.length qc)) ∧ Hid (Bts w' v1 (opsB g) ∧ Bts w' v' (opsB g) ∧ Below wr.heap.size wr w')) := by
              intro w1 v1 hk1 ho1
              refine (refOps_any (O2.out.below (Nat.le_refl _) ho1.out.2) ho1.out.2.size HOK.out.1 (by have := HOK.out.2; omega)).mono ?_
              rintro e w' ⟨v', rfl, o', b'⟩
              refine ⟨v', rfl, ?_, ho1.out.1.bts.below b', o'.bts, ho1.out.2.trans (b'.mono ho1.out.2.size)⟩
              show _ = _
              rw [← hk1.out]
              exact World.cell?_of_block (b'.block _ (World.block_lt_of_cell? w1 _ hk1.out))
            have T3 : Hid (∀ w2 v1 v2, Hid (Bts w2 v1 (opsB g) ∧ Bts w2 v2 (opsB g) ∧ Below wr.heap.size wr w2) → Calls Tryd.prog 11 #[v1, v2] w2 fun e w' => e = .returned (.bool true) ∧ w' = w2) := fun w2 v1 v2 ho => same_yes ho.out.1 ho.out.2.1
            clear O1 O2 HOK cq
            go_wp2_with fail
            go_region_held_law (fun u => u.cell? (q.add i) = some (.slice qa g.length qc)) (exact HK.out) (first
              | (go_at_call_of 12 pa; refine T1.out.mono ?_; rintro e w5 ⟨v5, rfl, HK, HO⟩)
              | (go_at_call_of 12 qa; refine (T2.out _ _ HK HO).mono ?_; rintro e w6 ⟨v6, rfl, HK, HO2⟩)
              | (go_at_call 11; refine (T3.out _ _ _ HO2).mono ?_; rintro e w7 ⟨rfl, hw⟩; obtain rfl := hw.symm; clear hw))
            have HC2 : Hid (Cut w id ins a nb cap (some q) ic w4.heap.size (some p) j yc good w6) := HCr.out.kept HO2.out.2.2
            clear T1 T2 T3 HK HO HO2 HCr
            go_wp2_with fail
            go_roundw
            case rel => exact ⟨i + 1, by go_num, by omega, HC2⟩
            case measure => simp [intOf]; omega
          · have c0 := cell_heap HCr.out.log (j := 0) rfl
            have c1 := cell_heap HCr.out.log (j := 1) rfl
            have htl : (ins.take j).length = j := by have := HJ.out; simp; omega
            have ft : Fits 0 (ins.take j) := Fits_take ins 0 j HCr.out.made.fits
            have hY : w4.heap.size < wr.heap.size := by
              rcases Nat.lt_or_ge w4.heap.size wr.heap.size with h1 | h1
              · exact h1
              · have := HCr.out.log
                rw [Array.getElem?_eq_none h1] at this; cases this
            have hA : Below wr.heap.size wr (wr.alloc (.cells #[.int .i64 1, strE, strE, int0, int0, int0, int0, strE, strE, strE, strE, strE, strE, int0, int0, int0, int0, strE, .slice none 0 0] 58)) := (Below.refl _ _).alloc (Nat.le_refl _) _
            have CA := HCr.out.kept hA
            have bt : Bts (wr.alloc (.cells #[.int .i64 1, strE, strE, int0, int0, int0, int0, strE, strE, strE, strE, strE, strE, int0, int0, int0, int0, strE, .slice none 0 0] 58)) (.slice (some a) good cap) (jrn id (ins.take j)) := by
              rcases CA.made.bytes.bts with ⟨e, _⟩ | ⟨a', cap', e, h2, h3, h4⟩
              · cases e
              · cases e
                have := Bts.part (n := good) (cap := cap) (by rw [← HNB.out]; exact hgn) (by omega) h3 h4
                rw [HGD.out, jrn_take] at this
                rw [HGD.out]
                exact this
            have AD := add_any bt (HT.out.below (Nat.le_refl _) CA.made.below) (by rw [← HGD.out]; omega) (op1_opl wr _ rfl) (by simp) op1_ok (by have := op1_len; omega)
            rw [add_jrn hid ft (by omega), htl, show ((j + 1 : Nat) : Int) = (j : Int) + 1 by omega, groupJ_op1 (by omega)] at AD
            have AD2 : Calls Tryd.prog 15 #[.slice (some a) good cap, .slice (some ⟨wr.heap.size, 0, none⟩) 1 1] (wr.alloc (.cells #[.int .i64 1, strE, strE, int0, int0, int0, int0, strE, strE, strE, strE, strE, strE, int0, int0, int0, int0, strE, .slice none 0 0] 58)) fun e w5 => ∃ zv, e = .returned (.tuple #[zv, .int .i64 0]) ∧ w5.cell? ⟨w4.heap.size, 0, none⟩ = some (.slice ya j yc) ∧ w4.heap.size < w5.heap.size ∧ Hid (Bts w5 zv (frameB (groupC ((j : Int) + 1) [op1])) ∧ Below w.heap.size w w5) := by
              refine AD.mono ?_
              rintro e w5 ⟨zv, rfl, o5, b5⟩
              have C5 := CA.kept b5
              refine ⟨zv, rfl, cell_heap C5.log rfl, ?_, o5.bts, C5.made.below⟩
              have h1 := b5.size
              simp at h1
              omega
            have hgc : (good : Int) ≤ (cap : Int) := by omega
            clear AD CA bt hA ft HCr
            go_wp2_with fail
            refine AD2.mono ?_
            rintro e w5 ⟨zv, rfl, c5, h5, HZ5⟩
            clear AD2 c0 c1
            have hB6 : Below w5.heap.size w5 (w5.alloc (.cells #[.int .i64 1, strE, strE, int0, int0, int0, int0, strE, strE, strE, strE, strE, strE, int0, int0, int0, int0, strE, .slice none 0 0] 58)) := (Below.refl _ _).alloc (Nat.le_refl _) _
            have hB6w : Below w.heap.size w (w5.alloc (.cells #[.int .i64 1, strE, strE, int0, int0, int0, int0, strE, strE, strE, strE, strE, strE, int0, int0, int0, int0, strE, .slice none 0 0] 58)) := HZ5.out.2.trans (hB6.mono HZ5.out.2.size)
            have GR := group_any (HT.out.below (Nat.le_refl _) hB6w) (seq := (j : Int) + 1) (by constructor <;> omega) (op1_opl w5 _ rfl) (by simp) op1_ok (by have := op1_len; omega)
            rw [groupJ_op1 (by omega)] at GR
            have GR2 : Calls Tryd.prog 22 #[.int .i64 ((j : Int) + 1), .slice (some ⟨w5.heap.size, 0, none⟩) 1 1] (w5.alloc (.cells #[.int .i64 1, strE, strE, int0, int0, int0, int0, strE, strE, strE, strE, strE, strE, int0, int0, int0, int0, strE, .slice none 0 0] 58)) fun e w6 => ∃ wv, e = .returned (.tuple #[wv, .int .i64 0]) ∧ Hid (Bts w6 zv (frameB (groupC ((j : Int) + 1) [op1])) ∧ Bts w6 wv (frameB (groupC ((j : Int) + 1) [op1])) ∧ Below w.heap.size w w6) := by
              refine GR.mono ?_
              rintro e w6 ⟨wv, rfl, o6, b6⟩
              exact ⟨wv, rfl, (HZ5.out.1.alloc _).below b6, o6.bts, hB6w.trans (b6.mono hB6w.size)⟩
            clear GR hB6 hB6w HZ5
            go_wp2_with fail
            refine GR2.mono ?_
            rintro e w6 ⟨wv, rfl, HW6⟩
            have SM := same_yes HW6.out.1 HW6.out.2.1
            have LV := livesJ_any (HT.out.below (Nat.le_refl _) HW6.out.2.2)
            clear GR2
            go_wp2_with (first
              | (go_at_call 11; refine SM.mono ?_; rintro e w7 ⟨rfl, hw⟩; obtain rfl := hw.symm; clear hw)
              | (go_at_call 14; refine LV.mono ?_; rintro e wl ⟨rfl, hbl⟩))
            go_ret
            exact ⟨rfl, HW6.out.2.2.trans (hbl.mono HW6.out.2.2.size)⟩
      · have hb1 : ((k : Int) == (nb : Int)) = false := by simpa using hfu
        clear hfu hfl hfull
        go_wp2_with fail
        refine SC2.mono ?_
        rintro e w4 ⟨ya, yc, rfl, HC⟩
        clear SC2
        go_wp2_with fail
        go_loopw [112] (fun u112 wr => ∃ i : Nat, u112 = .int .i64 i ∧ i ≤ j ∧ Hid (Cut w id ins a nb cap ia ic w4.heap.size ya j yc good wr)) (fun u112 _ => j - (intOf u112).toNat)
        case atStart => exact ⟨0, rfl, by omega, HC.out.1⟩
        case round =>
          obtain ⟨i, rfl, hi, HCr⟩ := hrel
          clear HC
          by_cases hlt : i < j
          · obtain ⟨p, q, pa, pc, qa, qc, rfl, rfl, cp, cq, O1, O2, HOK⟩ := cuts_at HCr.out hlt
            have hil : (i : Int) < (ins.length : Int) := by omega
            have hij : (i : Int) < (j : Int) := by omega
            have HK : Hid (wr.cell? (q.add i) = some (.slice qa (ins.getD i []).length qc)) := cq
            have hgl : (ins.getD i []).length ≤ 131072 := by
              have h1 := flatMap_ge opB_pos (ins.getD i [])
              have h2 := HOK.out.2
              simp only [opsB, lstB, List.length_append] at h2
              omega
            generalize ins.getD i [] = g at *
            have T1 : Hid (Calls Tryd.prog 12 #[.slice pa g.length pc] wr.drew fun e w' => ∃ v', e = .returned v' ∧ Hid (w'.cell? (q.add i) = some (.slice qa g.length qc)) ∧ Hid (Own wr.heap.size w' v' (opsB g) ∧ Below wr.heap.size wr w')) := by
              have O1' : Opl 0 wr.heap.size wr.drew (.slice pa g.length pc) g := O1.out.kept fun _ _ _ => rfl
              refine (refOps_any O1' (Nat.le_refl _) HOK.out.1 (by have := HOK.out.2; omega)).mono ?_
              rintro e w' ⟨v', rfl, o', b'⟩
              refine ⟨v', rfl, ?_, o', ⟨b'.os, b'.tape, b'.output, b'.size, b'.block⟩⟩
              show _ = _
              rw [← HK.out]
              exact World.cell?_of_block (b'.block _ (World.block_lt_of_cell? wr _ HK.out))
            have T2 : Hid (∀ w1 v1, Hid (w1.cell? (q.add i) = some (.slice qa g.length qc)) → Hid (Own wr.heap.size w1 v1 (opsB g) ∧ Below wr.heap.size wr w1) → Calls Tryd.prog 12 #[.slice qa g.length qc] w1 fun e w' => ∃ v', e = .returned v' ∧ Hid (w'.cell? (q.add i) = some (.slice qa g.length qc)) ∧ Hid (Bts w' v1 (opsB g) ∧ Bts w' v' (opsB g) ∧ Below wr.heap.size wr w')) := by
              intro w1 v1 hk1 ho1
              refine (refOps_any (O2.out.below (Nat.le_refl _) ho1.out.2) ho1.out.2.size HOK.out.1 (by have := HOK.out.2; omega)).mono ?_
              rintro e w' ⟨v', rfl, o', b'⟩
              refine ⟨v', rfl, ?_, ho1.out.1.bts.below b', o'.bts, ho1.out.2.trans (b'.mono ho1.out.2.size)⟩
              show _ = _
              rw [← hk1.out]
              exact World.cell?_of_block (b'.block _ (World.block_lt_of_cell? w1 _ hk1.out))
            have T3 : Hid (∀ w2 v1 v2, Hid (Bts w2 v1 (opsB g) ∧ Bts w2 v2 (opsB g) ∧ Below wr.heap.size wr w2) → Calls Tryd.prog 11 #[v1, v2] w2 fun e w' => e = .returned (.bool true) ∧ w' = w2) := fun w2 v1 v2 ho => same_yes ho.out.1 ho.out.2.1
            clear O1 O2 HOK cq
            go_wp2_with fail
            go_region_held_law (fun u => u.cell? (q.add i) = some (.slice qa g.length qc)) (exact HK.out) (first
              | (go_at_call_of 12 pa; refine T1.out.mono ?_; rintro e w5 ⟨v5, rfl, HK, HO⟩)
              | (go_at_call_of 12 qa; refine (T2.out _ _ HK HO).mono ?_; rintro e w6 ⟨v6, rfl, HK, HO2⟩)
              | (go_at_call 11; refine (T3.out _ _ _ HO2).mono ?_; rintro e w7 ⟨rfl, hw⟩; obtain rfl := hw.symm; clear hw))
            have HC2 : Hid (Cut w id ins a nb cap (some q) ic w4.heap.size (some p) j yc good w6) := HCr.out.kept HO2.out.2.2
            clear T1 T2 T3 HK HO HO2 HCr
            go_wp2_with fail
            go_roundw
            case rel => exact ⟨i + 1, by go_num, by omega, HC2⟩
            case measure => simp [intOf]; omega
          · have c0 := cell_heap HCr.out.log (j := 0) rfl
            have c1 := cell_heap HCr.out.log (j := 1) rfl
            have htl : (ins.take j).length = j := by have := HJ.out; simp; omega
            have ft : Fits 0 (ins.take j) := Fits_take ins 0 j HCr.out.made.fits
            have hY : w4.heap.size < wr.heap.size := by
              rcases Nat.lt_or_ge w4.heap.size wr.heap.size with h1 | h1
              · exact h1
              · have := HCr.out.log
                rw [Array.getElem?_eq_none h1] at this; cases this
            have hA : Below wr.heap.size wr (wr.alloc (.cells #[.int .i64 1, strE, strE, int0, int0, int0, int0, strE, strE, strE, strE, strE, strE, int0, int0, int0, int0, strE, .slice none 0 0] 58)) := (Below.refl _ _).alloc (Nat.le_refl _) _
            have CA := HCr.out.kept hA
            have bt : Bts (wr.alloc (.cells #[.int .i64 1, strE, strE, int0, int0, int0, int0, strE, strE, strE, strE, strE, strE, int0, int0, int0, int0, strE, .slice none 0 0] 58)) (.slice (some a) good cap) (jrn id (ins.take j)) := by
              rcases CA.made.bytes.bts with ⟨e, _⟩ | ⟨a', cap', e, h2, h3, h4⟩
              · cases e
              · cases e
                have := Bts.part (n := good) (cap := cap) (by rw [← HNB.out]; exact hgn) (by omega) h3 h4
                rw [HGD.out, jrn_take] at this
                rw [HGD.out]
                exact this
            have AD := add_any bt (HT.out.below (Nat.le_refl _) CA.made.below) (by rw [← HGD.out]; omega) (op1_opl wr _ rfl) (by simp) op1_ok (by have := op1_len; omega)
            rw [add_jrn hid ft (by omega), htl, show ((j + 1 : Nat) : Int) = (j : Int) + 1 by omega, groupJ_op1 (by omega)] at AD
            have AD2 : Calls Tryd.prog 15 #[.slice (some a) good cap, .slice (some ⟨wr.heap.size, 0, none⟩) 1 1] (wr.alloc (.cells #[.int .i64 1, strE, strE, int0, int0, int0, int0, strE, strE, strE, strE, strE, strE, int0, int0, int0, int0, strE, .slice none 0 0] 58)) fun e w5 => ∃ zv, e = .returned (.tuple #[zv, .int .i64 0]) ∧ w5.cell? ⟨w4.heap.size, 0, none⟩ = some (.slice ya j yc) ∧ w4.heap.size < w5.heap.size ∧ Hid (Bts w5 zv (frameB (groupC ((j : Int) + 1) [op1])) ∧ Below w.heap.size w w5) := by
              refine AD.mono ?_
              rintro e w5 ⟨zv, rfl, o5, b5⟩
              have C5 := CA.kept b5
              refine ⟨zv, rfl, cell_heap C5.log rfl, ?_, o5.bts, C5.made.below⟩
              have h1 := b5.size
              simp at h1
              omega
            have hgc : (good : Int) ≤ (cap : Int) := by omega
            clear AD CA bt hA ft HCr
            go_wp2_with fail
            refine AD2.mono ?_
            rintro e w5 ⟨zv, rfl, c5, h5, HZ5⟩
            clear AD2 c0 c1
            have hB6 : Below w5.heap.size w5 (w5.alloc (.cells #[.int .i64 1, strE, strE, int0, int0, int0, int0, strE, strE, strE, strE, strE, strE, int0, int0, int0, int0, strE, .slice none 0 0] 58)) := (Below.refl _ _).alloc (Nat.le_refl _) _
            have hB6w : Below w.heap.size w (w5.alloc (.cells #[.int .i64 1, strE, strE, int0, int0, int0, int0, strE, strE, strE, strE, strE, strE, int0, int0, int0, int0, strE, .slice none 0 0] 58)) := HZ5.out.2.trans (hB6.mono HZ5.out.2.size)
            have GR := group_any (HT.out.below (Nat.le_refl _) hB6w) (seq := (j : Int) + 1) (by constructor <;> omega) (op1_opl w5 _ rfl) (by simp) op1_ok (by have := op1_len; omega)
            rw [groupJ_op1 (by omega)] at GR
            have GR2 : Calls Tryd.prog 22 #[.int .i64 ((j : Int) + 1), .slice (some ⟨w5.heap.size, 0, none⟩) 1 1] (w5.alloc (.cells #[.int .i64 1, strE, strE, int0, int0, int0, int0, strE, strE, strE, strE, strE, strE, int0, int0, int0, int0, strE, .slice none 0 0] 58)) fun e w6 => ∃ wv, e = .returned (.tuple #[wv, .int .i64 0]) ∧ Hid (Bts w6 zv (frameB (groupC ((j : Int) + 1) [op1])) ∧ Bts w6 wv (frameB (groupC ((j : Int) + 1) [op1])) ∧ Below w.heap.size w w6) := by
              refine GR.mono ?_
              rintro e w6 ⟨wv, rfl, o6, b6⟩
              exact ⟨wv, rfl, (HZ5.out.1.alloc _).below b6, o6.bts, hB6w.trans (b6.mono hB6w.size)⟩
            clear GR hB6 hB6w HZ5
            go_wp2_with fail
            refine GR2.mono ?_
            rintro e w6 ⟨wv, rfl, HW6⟩
            have SM := same_yes HW6.out.1 HW6.out.2.1
            have LV := livesJ_any (HT.out.below (Nat.le_refl _) HW6.out.2.2)
            clear GR2
            go_wp2_with (first
              | (go_at_call 11; refine SM.mono ?_; rintro e w7 ⟨rfl, hw⟩; obtain rfl := hw.symm; clear hw)
              | (go_at_call 14; refine LV.mono ?_; rintro e wl ⟨rfl, hbl⟩))
            go_ret
            exact ⟨rfl, HW6.out.2.2.trans (hbl.mono HW6.out.2.2.size)⟩
end Go.Proofs.YtcheikpmhdliiaaDoor
