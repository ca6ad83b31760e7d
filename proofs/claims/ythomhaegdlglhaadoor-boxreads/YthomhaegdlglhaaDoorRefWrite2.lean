/- The contract of octavoref03.Write, where the data are not too much. -/
import Derived.Test.YthomhaegdlglhaaDoorRefWrite
import Derived.Test.YthomhaegdlglhaaDoorTwo
namespace Go.Proofs.YthomhaegdlglhaaDoor
open Go.RowKit
set_option maxRecDepth 100000

set_option maxHeartbeats 8000000 in
theorem refWrite_small {w : World} {v : Value} {L : List Chk} (h : Chs w v L) (hl : L.length ≤ 131072) (hgood : goodAll L = true) (htot : totalD L ≤ 131072) :
    Calls Tryd.prog 9 #[v] w fun e w' => ∃ v', e = .returned (.tuple #[v', .int .i64 (writeB L).2]) ∧ Own w.heap.size w' v' (writeB L).1 ∧ Below w.heap.size w w' := by
  have HC : Hid (∀ u : World, Below w.heap.size w u → Chs u v L) := fun u hb => h.below hb
  have HG : Hid (goodAll L = true) := hgood
  have HT : Hid (totalD L ≤ 131072) := htot
  have W7 : Hid (¬ distinct L → writeB L = ([], 7)) := fun hd => by
    have : wrongB L = 7 := by unfold wrongB; rw [if_neg (by simp [hgood]), if_pos hd]
    unfold writeB; rw [this]; rfl
  have W9 : Hid (distinct L → 32 < L.length → writeB L = ([], 9)) := fun hd h32 => by
    have : wrongB L = 9 := by unfold wrongB; rw [if_neg (by simp [hgood]), if_neg (by simp [hd]), if_pos (.inl h32)]
    unfold writeB; rw [this]; rfl
  have W0 : Hid (distinct L → ¬ 32 < L.length → writeB L = (boxB L, 0)) := fun hd h32 => by
    have : wrongB L = 0 := by unfold wrongB; rw [if_neg (by simp [hgood]), if_neg (by simp [hd]), if_neg (by omega)]
    unfold writeB; rw [if_pos this]
  obtain ⟨a, cap, rfl, hc1, hc2⟩ := h.slice
  clear h hgood htot
  go_enter Tryd.func9, Tryd.ntmps9
  go_wp2
  go_loopw [20] (fun i u => ∃ k : Nat, i = .int .i64 k ∧ k ≤ L.length ∧ Hid (goodAll (L.take k) = true) ∧ Below w.heap.size w u) (fun i _ => L.length - (intOf i).toNat)
  case atStart => exact ⟨0, rfl, by omega, by simp [Hid, goodAll], Below.refl _ _⟩
  case round =>
    obtain ⟨k, rfl, hk, hg, hb⟩ := hrel
    have hsz := hb.size
    by_cases hlt : k < L.length
    · obtain ⟨a', rfl, hs, da, dc, hd1, hd2, hcs⟩ := chs_at (HC.out w (Below.refl _ _)) hlt
      obtain ⟨c1, c2, _⟩ := hcs wr hb
      have GA := goodAll_take L k hlt
      have C := fun u => refGood_any L[k].1 u hs
      rw [hg.out, Bool.true_and] at GA
      have eg : goodT L[k].1 = true := by
        have := HG.out
        unfold goodAll at this
        rw [List.all_eq_true] at this
        exact this _ (List.getElem_mem hlt)
      rw [eg] at C GA
      have GA' : Hid _ := GA
      clear hcs GA eg
      generalize L[k].2.length = n at *
      generalize L[k].1 = tag at *
      go_wp2_with (go_at_call 15; refine (C _).mono ?_; rintro e w' ⟨rfl, hw⟩; obtain rfl := hw.symm; clear hw)
      go_roundw
      case rel => exact ⟨k + 1, by go_num, by omega, GA'.out, hb.alloc hsz _⟩
      case measure => simp [intOf]; omega
    · have HB0 : Hid (Below w.heap.size w wr) := hb
      clear hb hsz hg
      go_wp2
      go_loopw [4, 31] (fun t i u => ∃ k S : Nat, i = .int .i64 k ∧ k ≤ L.length ∧ t = .int .i64 S ∧ S ≤ 131072 ∧ Hid (S = totalD (L.take k)) ∧ Hid (distinct (L.take k)) ∧ Below w.heap.size w u) (fun _ i _ => L.length - (intOf i).toNat)
      case atStart => exact ⟨0, 0, rfl, by omega, rfl, by omega, by simp [Hid, totalD], by simp [Hid, distinct], HB0.out⟩
      case round =>
        clear HB0
        obtain ⟨k, S, rfl, hk, rfl, hS, HS, HD, hb⟩ := hrel
        have hsz := hb.size
        by_cases hlt : k < L.length
        · obtain ⟨a', rfl, hs, da, dc, hd1, hd2, hcs⟩ := chs_at (HC.out w (Below.refl _ _)) hlt
          obtain ⟨c1, c2, _⟩ := hcs wr hb
          have hbox : Hid ((wr.alloc (.cells #[.string L[k].1, .slice da L[k].2.length dc] 55)).heap[wr.heap.size]? = some (.cells #[.string L[k].1, .slice da L[k].2.length dc] 55)) := heap_alloc_new wr _
          have HB1 : Hid (Below w.heap.size w (wr.alloc (.cells #[.string L[k].1, .slice da L[k].2.length dc] 55))) := hb.alloc hsz _
          have HTk : Hid _ := total_take L k hlt
          have HDk : Hid _ := distinct_take L k hlt
          have hd2' : dc ≤ 9223372036854775807 := hd2
          clear hcs hb
          obtain ⟨tag, htag⟩ : ∃ tag, tag = L[k].1 := ⟨_, rfl⟩
          have HTag : Hid (tag = L[k].1) := htag
          rw [← htag] at c1 hbox HB1
          clear htag
          generalize L[k].2.length = n at *
          go_wp2
          go_loopw [9] (fun x u => ∃ j : Nat, x = .int .i64 j ∧ j ≤ k ∧ Hid (∀ i (hi : i < L.length), i < j → L[i].1 ≠ tag) ∧ Hid (u.heap[wr.heap.size]? = some (.cells #[.string tag, .slice da n dc] 55)) ∧ Below w.heap.size w u) (fun x _ => k - (intOf x).toNat)
          case atStart => exact ⟨0, rfl, by omega, fun i _ hi => by omega, hbox.out, HB1.out⟩
          case round =>
            clear hbox HB1 c1 c2
            obtain ⟨j, rfl, hj, HN, HX, hb⟩ := hrel
            have hsz := hb.size
            have x0 := cell_heap HX.out (j := 0) rfl
            have x1 := cell_heap HX.out (j := 1) rfl
            by_cases hjk : j < k
            · have hjl : j < L.length := by omega
              obtain ⟨_, ha', _, da2, dc2, _, _, hcs⟩ := chs_at (HC.out w (Below.refl _ _)) hjl
              cases ha'
              obtain ⟨c1, _, _⟩ := hcs wr hb
              have hjI : (j : Int) < (L.length : Int) := by omega
              have hj0 : (0 : Int) ≤ (j : Int) := by omega
              clear hcs
              by_cases heq : L[j].1 = tag
              · have hE : Hid (writeB L = ([], 7)) := W7.out fun hd => (HDk.out.1 (distinct_of L (k + 1) hd)).2 ⟨L[j], by
                  have : (L.take k)[j]? = some L[j] := by rw [List.getElem?_take_of_lt hjk, List.getElem?_eq_getElem hjl]
                  exact List.mem_of_getElem? this, by rw [heq, HTag.out]⟩
                rw [heq] at c1
                have ss := str_self tag
                go_wp2_with fail
                go_quiet ((fail))
                go_wp2
                go_ret2
                exact ⟨_, by rw [hE.out]; rfl, by rw [hE.out]; exact Own.nil _ _, ⟨hb.os, hb.tape, hb.output, hb.size, hb.block⟩⟩
              · have ss := str_ne heq
                have HN2 : Hid (∀ i (hi : i < L.length), i < j + 1 → L[i].1 ≠ tag) := fun i hi hij => by
                  by_cases e : i = j
                  · subst e; exact heq
                  · exact HN.out i hi (by omega)
                generalize L[j].1 = tag2 at *
                go_wp2_with fail
                go_quiet ((fail))
                go_wp2
                go_roundw
                case rel => exact ⟨j + 1, by go_num, by omega, HN2, HX, ⟨hb.os, hb.tape, hb.output, hb.size, hb.block⟩⟩
                case measure => simp [intOf]; omega
            · have HD2 : Hid (distinct (L.take (k + 1))) := HDk.out.2 ⟨HD.out, fun ⟨c, hc, e⟩ => by
                obtain ⟨i, hi⟩ := List.getElem?_of_mem hc
                have hik : i < k := by
                  rcases Nat.lt_or_ge i k with h | h
                  · exact h
                  · rw [List.getElem?_eq_none (by simp; omega)] at hi; cases hi
                rw [List.getElem?_take_of_lt hik, List.getElem?_eq_getElem (by omega)] at hi
                cases hi
                exact HN.out i (by omega) (by omega) (by rw [e, HTag.out])⟩
              by_cases hbig : 131072 - S < n
              · have h1 := HTk.out
                have h2 := HS.out
                have h3 := total_take_le L (k + 1)
                have h4 := HT.out
                omega
              · have hE : Hid (S + n = totalD (L.take (k + 1))) := by show _ = _; rw [HTk.out, HS.out]
                have hbig' : ¬ ((131072 : Int) - (S : Int) < (n : Int)) := by omega
                go_wp2
                go_roundw
                case rel => exact ⟨k + 1, S + n, by go_num, by omega, by go_num, by omega, hE, HD2, hb⟩
                case measure => simp [intOf]; omega
        · have HDL : Hid (distinct L) := by
            have := HD.out
            rwa [List.take_of_length_le (by omega)] at this
          have HB3 : Hid (Below w.heap.size w wr) := hb
          have hSv : (S : Int) ≤ 131072 := by omega
          have hSv' : ¬ ((131072 : Int) < (S : Int)) := by omega
          clear hb hsz HD HS
          go_wp2
          go_loopw [63] (fun i u => ∃ k : Nat, i = .int .i64 k ∧ k ≤ L.length ∧ Hid (distinct (L.take k)) ∧ Below w.heap.size w u) (fun i _ => L.length - (intOf i).toNat)
          case atStart => exact ⟨0, rfl, by omega, by simp [Hid, distinct], HB3.out⟩
          case round =>
            obtain ⟨k, rfl, hk, HD, hb⟩ := hrel
            have hsz := hb.size
            by_cases hlt : k < L.length
            · obtain ⟨_, ha', hs, da, dc, hd1, hd2, hcs⟩ := chs_at (HC.out w (Below.refl _ _)) hlt
              cases ha'
              obtain ⟨c1, c2, _⟩ := hcs wr hb
              have hbox : Hid ((wr.alloc (.cells #[.string L[k].1, .slice da L[k].2.length dc] 55)).heap[wr.heap.size]? = some (.cells #[.string L[k].1, .slice da L[k].2.length dc] 55)) := heap_alloc_new wr _
              have HB1 : Hid (Below w.heap.size w (wr.alloc (.cells #[.string L[k].1, .slice da L[k].2.length dc] 55))) := hb.alloc hsz _
              have HDk : Hid _ := distinct_take L k hlt
              clear hcs hb
              obtain ⟨tag, htag⟩ : ∃ tag, tag = L[k].1 := ⟨_, rfl⟩
              have HTag : Hid (tag = L[k].1) := htag
              rw [← htag] at c1 hbox HB1
              clear htag
              generalize L[k].2.length = n at *
              go_wp2
              go_loopw [12] (fun x u => ∃ j : Nat, x = .int .i64 j ∧ j ≤ k ∧ Hid (∀ i (hi : i < L.length), i < j → L[i].1 ≠ tag) ∧ Hid (u.heap[wr.heap.size]? = some (.cells #[.string tag, .slice da n dc] 55)) ∧ Below w.heap.size w u) (fun x _ => k - (intOf x).toNat)
              case atStart => exact ⟨0, rfl, by omega, fun i _ hi => by omega, hbox.out, HB1.out⟩
              case round =>
                clear hbox HB1 c1 c2
                obtain ⟨j, rfl, hj, HN, HX, hb⟩ := hrel
                have x0 := cell_heap HX.out (j := 0) rfl
                by_cases hjk : j < k
                · have hjl : j < L.length := by omega
                  obtain ⟨_, ha', _, da2, dc2, _, _, hcs⟩ := chs_at (HC.out w (Below.refl _ _)) hjl
                  cases ha'
                  obtain ⟨c1, _, _⟩ := hcs wr hb
                  have hjI : (j : Int) < (L.length : Int) := by omega
                  have hj0 : (0 : Int) ≤ (j : Int) := by omega
                  clear hcs
                  by_cases heq : L[j].1 = tag
                  · have hnd : Hid (¬ distinct L) := fun hd => (HDk.out.1 (distinct_of L (k + 1) hd)).2 ⟨L[j], by
                      have : (L.take k)[j]? = some L[j] := by rw [List.getElem?_take_of_lt hjk, List.getElem?_eq_getElem hjl]
                      exact List.mem_of_getElem? this, by rw [heq, HTag.out]⟩
                    exact absurd HDL.out hnd.out
                  · have ss := str_ne heq
                    have HN2 : Hid (∀ i (hi : i < L.length), i < j + 1 → L[i].1 ≠ tag) := fun i hi hij => by
                      by_cases e : i = j
                      · subst e; exact heq
                      · exact HN.out i hi (by omega)
                    generalize L[j].1 = tag2 at *
                    go_wp2_with fail
                    go_quiet ((fail))
                    go_wp2
                    go_roundw
                    case rel => exact ⟨j + 1, by go_num, by omega, HN2, HX, ⟨hb.os, hb.tape, hb.output, hb.size, hb.block⟩⟩
                    case measure => simp [intOf]; omega
                · have HD2 : Hid (distinct (L.take (k + 1))) := HDk.out.2 ⟨HD.out, fun ⟨c, hc, e⟩ => by
                    obtain ⟨i, hi⟩ := List.getElem?_of_mem hc
                    have hik : i < k := by
                      rcases Nat.lt_or_ge i k with h | h
                      · exact h
                      · rw [List.getElem?_eq_none (by simp; omega)] at hi; cases hi
                    rw [List.getElem?_take_of_lt hik, List.getElem?_eq_getElem (by omega)] at hi
                    cases hi
                    exact HN.out i (by omega) (by omega) (by rw [e, HTag.out])⟩
                  go_wp2
                  go_roundw
                  case rel => exact ⟨k + 1, by go_num, by omega, HD2, hb⟩
                  case measure => simp [intOf]; omega
            · have hdL : Hid (distinct L) := by
                have := HD.out
                rwa [List.take_of_length_le (by omega)] at this
              have HB4 : Hid (Below w.heap.size w wr) := hb
              by_cases h32 : 32 < L.length
              · have h32' : (32 : Int) < (L.length : Int) := by omega
                have h32'' : decide ((32 : Int) < (L.length : Int)) = true := by simpa using h32'
                have hE : Hid (writeB L = ([], 9)) := W9.out hdL.out h32
                go_wp2
                go_ret2
                exact ⟨_, by rw [hE.out]; rfl, by rw [hE.out]; exact Own.nil _ _, HB4.out⟩
              · have h32' : ¬ (32 : Int) < (L.length : Int) := by omega
                have h32'' : decide ((32 : Int) < (L.length : Int)) = false := by simpa using h32'
                have hE : Hid (writeB L = (boxB L, 0)) := W0.out hdL.out h32
                clear hb hdL HD W7 W9 W0
                have CV := conv25 wr #[.int .u8 79, .int .u8 67, .int .u8 84, .int .u8 65, .int .u8 86, .int .u8 79, .int .u8 49, .int .u8 10] 8 8
                go_wp2
                have sz4 := HB4.out.size
                have M0 : Hid (Two w.heap.size (wr.alloc (.cells #[.int .u8 79, .int .u8 67, .int .u8 84, .int .u8 65, .int .u8 86, .int .u8 79, .int .u8 49, .int .u8 10] 5 (8, 9))) (.slice (some ⟨wr.heap.size, 0, none⟩) 8 8) markB (.slice none 0 0) []) :=
                  ⟨.inr ⟨wr.heap.size, _, (8, 9), rfl, sz4, heap_alloc_new wr _, rfl, by decide⟩, Own.nil _ _, fun g _ h => by simp [Value.ownBlock] at h⟩
                go_loopw [13, 14, 93] (fun o dd i u => ∃ k : Nat, i = .int .i64 k ∧ k ≤ L.length ∧ Hid (Two w.heap.size u o (markB ++ datas (L.take k)) dd (dirB (L.take k))) ∧ Below w.heap.size w u) (fun _ _ i _ => L.length - (intOf i).toNat)
                case atStart => exact ⟨0, rfl, by omega, M0.out, HB4.out.alloc sz4 _⟩
                case round =>
                  clear M0 CV HB4 sz4
                  obtain ⟨k, rfl, hk, HTw, hb⟩ := hrel
                  have hsz := hb.size
                  by_cases hlt : k < L.length
                  · obtain ⟨_, ha', hs, da, dc, hd1, hd2, hcs⟩ := chs_at (HC.out w (Below.refl _ _)) hlt
                    cases ha'
                    have HDt : Hid (∀ u, Below w.heap.size w u → Bts u (.slice da L[k].2.length dc) L[k].2) := fun u hu => (hcs u hu).2.2
                    obtain ⟨c1, c2, _⟩ := hcs wr hb
                    clear hcs
                    have HE1 : Hid _ := datas_take L k hlt
                    have HE2 : Hid _ := dir_take L k hlt
                    have hlk := dir_length (goodAll_sub HG.out k)
                    have hmin : (L.take k).length = k := by simp; omega
                    rw [hmin] at hlk
                    have hgood : goodT L[k].1 = true := by
                      have := HG.out
                      unfold goodAll at this
                      rw [List.all_eq_true] at this
                      exact this _ (List.getElem_mem hlt)
                    have ht4 : L[k].1.data.toList.length = 4 := good_size hgood
                    have ht4' : L[k].1.size = 4 := ht4
                    have hn : L[k].2.length ≤ 131072 := Nat.le_trans (data_le hlt) HT.out
                    have hlen : (markB ++ datas (L.take k)).length + L[k].2.length ≤ 140737488355328 := by
                      have h1 := total_take_le L k
                      have h2 := HT.out
                      simp only [List.length_append, datas_length]
                      have : markB.length = 8 := rfl
                      omega
                    generalize hLk : L[k] = ck at *
                    obtain ⟨tag, data⟩ := ck
                    simp only at *
                    have hbl : w.heap.size ≤ (wr.alloc (.cells #[.string tag, .slice da data.length dc] 55)).heap.size := by simp; omega
                    have T0 := HTw.out.alloc (.cells #[.string tag, .slice da data.length dc] 55)
                    have b0 : Below w.heap.size w (wr.alloc (.cells #[.string tag, .slice da data.length dc] 55)) := hb.alloc hsz _
                    have hbox0 : (wr.alloc (.cells #[.string tag, .slice da data.length dc] 55)).heap[wr.heap.size]? = some (.cells #[.string tag, .slice da data.length dc] 55) := heap_alloc_new wr _
                    obtain ⟨o1, w1, r1, m1, _, g1, l1⟩ := ownM_app2 25 T0.out (HDt.out _ b0) hlen hbl
                    have T1 := T0.onOut g1 m1 l1
                    have b1 : Below w.heap.size w w1 := b0.grown g1 hbl fun _ hk => (T0.out.lt hk).1
                    have hbox1 : w1.heap[wr.heap.size]? = some (.cells #[.string tag, .slice da data.length dc] 55) := by
                      rw [g1.block _ (by simp) (T0.out.notBox (by decide) hbox0)]; exact hbox0
                    obtain ⟨d2, w2, r2, o2, g2, l2⟩ := own_str2 25 T1.dir tag (by rw [hlk, ht4']; omega) b1.size
                    have T2 := T1.onDir g2 o2 l2
                    have b2 : Below w.heap.size w w2 := b1.grown g2 b1.size fun _ hk => (T1.dir.lt hk).1
                    have hbox2 : w2.heap[wr.heap.size]? = some (.cells #[.string tag, .slice da data.length dc] 55) := by
                      rw [g2.block _ (Array.getElem?_eq_some_iff.1 hbox1).1 (T1.dir.notBox (by decide) hbox1)]; exact hbox1
                    have bt3 : Bts (w2.alloc (.cells (bcells (word4 data.length)).toArray 5)) (.slice (some ⟨w2.heap.size, 0, none⟩) 4 4) (word4 data.length) := lit_bts w2 (word4 data.length) (0, 0) (by simp [word4, maxLen])
                    have s2 : w.heap.size ≤ (w2.alloc (.cells (bcells (word4 data.length)).toArray 5)).heap.size := by have := b2.size; simp; omega
                    obtain ⟨d3, w3, r3, a3⟩ := own_app 25 (T2.alloc (.cells (bcells (word4 data.length)).toArray 5)).dir bt3 (by simp only [List.length_append, hlk, ht4, word4_length]; omega) s2
                    have T3 := (T2.alloc (.cells (bcells (word4 data.length)).toArray 5)).onDir a3.gr a3.own a3.loc
                    have b3 : Below w.heap.size w w3 := (b2.alloc b2.size _).trans (a3.below (T2.alloc _).dir s2)
                    have hbox3 : w3.heap[wr.heap.size]? = some (.cells #[.string tag, .slice da data.length dc] 55) := by
                      have h0 : (w2.alloc (.cells (bcells (word4 data.length)).toArray 5)).heap[wr.heap.size]? = some (.cells #[.string tag, .slice da data.length dc] 55) := (Below.heap_alloc _ _ _ (Array.getElem?_eq_some_iff.1 hbox2).1).trans hbox2
                      rw [a3.gr.block _ (Array.getElem?_eq_some_iff.1 h0).1 ((T2.alloc _).dir.notBox (by decide) h0)]; exact h0
                    have bt4 : Bts (w3.alloc (.cells (bcells (word4 (sumB data))).toArray 5)) (.slice (some ⟨w3.heap.size, 0, none⟩) 4 4) (word4 (sumB data)) := lit_bts w3 (word4 (sumB data)) (0, 0) (by simp [word4, maxLen])
                    have s3 : w.heap.size ≤ (w3.alloc (.cells (bcells (word4 (sumB data))).toArray 5)).heap.size := by have := b3.size; simp; omega
                    obtain ⟨d4, w4, r4, a4⟩ := own_app 25 (T3.alloc (.cells (bcells (word4 (sumB data))).toArray 5)).dir bt4 (by simp only [List.length_append, hlk, ht4, word4_length]; omega) s3
                    have T4 := (T3.alloc (.cells (bcells (word4 (sumB data))).toArray 5)).onDir a4.gr a4.own a4.loc
                    have E4 : Hid (Two w.heap.size w4 o1 (markB ++ datas (L.take (k + 1))) d4 (dirB (L.take (k + 1))) ∧ Below w.heap.size w w4) := by
                      refine ⟨?_, (b3.alloc b3.size _).trans (a4.below (T3.alloc _).dir s3)⟩
                      rw [HE1.out, HE2.out, ← List.append_assoc, ← List.append_assoc, ← List.append_assoc]
                      exact T4
                    have y1 := cell_heap hbox1 (j := 0) rfl
                    have y2 := cell_heap hbox2 (j := 1) rfl
                    have y3 := cell_heap hbox3 (j := 1) rfl
                    have F2 := four_any data.length (by omega) w2
                    have SM := refSum_any (HDt.out w3 b3)
                    have F3 := four_any (sumB data) (sumB_lt _) w3
                    have R1 : Hid _ := r1
                    have R2 : Hid _ := r2
                    have R3 : Hid _ := r3
                    have R4 : Hid _ := r4
                    have hsl := sumB_lt data
                    have hn' : data.length < 4294967296 := by omega
                    clear r1 r2 r3 r4 T0 T1 T2 T3 T4 b0 b1 b2 b3 hbox0 hbox1 hbox2 hbox3 bt3 bt4 s2 s3 a3 a4 m1 g1 l1 o2 g2 l2 hlen hbl HDt HTw hb HE1 HE2 hLk hgood
                    generalize sumB data = sm at *
                    generalize hN : data.length = n at *
                    go_wp2_with (first
                      | (at_builtin; refine wpList_append_run rfl _ _ 25 rfl _ _ _ _ rfl rfl R1.out ?_)
                      | (at_builtin; refine wpList_append_run2 rfl _ _ 25 9 rfl _ _ _ _ rfl rfl R2.out ?_))
                    refine F2.mono ?_
                    rintro e w' ⟨rfl, hw⟩; subst hw
                    go_wp2_with (at_builtin; refine wpList_append_run rfl _ _ 25 rfl _ _ _ _ rfl rfl R3.out ?_)
                    refine SM.mono ?_
                    rintro e w' ⟨rfl, hw⟩; obtain rfl := hw.symm; clear hw
                    go_wp2_with fail
                    refine F3.mono ?_
                    rintro e w' ⟨rfl, hw⟩; subst hw
                    go_wp2_with (at_builtin; refine wpList_append_run rfl _ _ 25 rfl _ _ _ _ rfl rfl R4.out ?_)
                    go_roundw
                    case rel => exact ⟨k + 1, by go_num, by omega, E4.out.1, E4.out.2⟩
                    case measure => simp [intOf]; omega
                  · have HT2 : Hid (Two w.heap.size wr u13 (markB ++ datas L) u14 (dirB L)) := by
                      have := HTw.out
                      rwa [List.take_of_length_le (by omega)] at this
                    have hdl := dir_length HG.out
                    have hfl := frameB_length (dirB L)
                    have F5 := refFrame_any HT2.out.dir.bts (by omega)
                    have HB5 : Hid (Below w.heap.size w wr) := hb
                    have hml : (markB ++ datas L).length ≤ 131080 := by
                      have h2 := HT.out
                      simp only [List.length_append, datas_length]
                      have : markB.length = 8 := rfl
                      omega
                    clear HTw hb
                    go_wp2_with fail
                    refine F5.mono ?_
                    rintro e w5 ⟨fv, rfl, of, bf⟩
                    have b5 : Below w.heap.size w w5 := HB5.out.trans (bf.mono HB5.out.size)
                    obtain ⟨v6, w6, r6, _, o6, b6⟩ := ownM_app 25 (HT2.out.out.kept bf.block) of.bts (by omega) b5.size
                    have hne : frameB (dirB L) ≠ [] := fun e => by rw [e] at hfl; simp at hfl
                    have o6' := o6 hne
                    have b6' : Below w.heap.size w w6 := b5.trans b6
                    have bt7 : Bts (w6.alloc (.cells (bcells (word4 ((dirB L).length + 8))).toArray 5)) (.slice (some ⟨w6.heap.size, 0, none⟩) 4 4) (word4 ((dirB L).length + 8)) := lit_bts w6 (word4 ((dirB L).length + 8)) (0, 0) (by simp [word4, maxLen])
                    obtain ⟨v7, w7, r7, a7⟩ := own_app 25 (o6'.alloc (.cells (bcells (word4 ((dirB L).length + 8))).toArray 5)) bt7 (by simp only [List.length_append, word4_length] at hml ⊢; omega) (by have := b6'.size; simp; omega)
                    have E7 : Hid (Own w.heap.size w7 v7 (boxB L) ∧ Below w.heap.size w w7) := by
                      refine ⟨?_, (b6'.alloc b6'.size _).trans (a7.below (o6'.alloc _) (by have := b6'.size; simp; omega))⟩
                      have := a7.own
                      unfold boxB
                      rwa [List.append_assoc, List.append_assoc] at this
                    have F6 := four_any ((dirB L).length + 8) (by omega) w6
                    obtain ⟨fa, fc, rfl⟩ := of.slice
                    have R6 : Hid _ := r6
                    have R7 : Hid _ := r7
                    rw [hfl] at R6
                    rw [hfl]
                    clear r6 r7 o6 o6' b6 b6' b5 bf of hne HT2 F5 hml bt7 a7
                    have hm : (dirB L).length + 8 ≤ 1000 := by omega
                    generalize hM : (dirB L).length + 8 = m at *
                    go_wp2_with (at_builtin; refine wpList_append_run rfl _ _ 25 rfl _ _ _ _ rfl rfl R6.out ?_)
                    refine F6.mono ?_
                    rintro e w' ⟨rfl, hw⟩; subst hw
                    go_wp2_with (at_builtin; refine wpList_append_run rfl _ _ 25 rfl _ _ _ _ rfl rfl R7.out ?_)
                    go_ret2
                    exact ⟨v7, by rw [hE.out]; rfl, by rw [hE.out]; exact E7.out.1, E7.out.2⟩
end Go.Proofs.YthomhaegdlglhaaDoor
