/- The contract of octavoref03.Write. -/
import Derived.Test.YthomhaegdlglhaaDoorWrite
import Derived.Test.YthomhaegdlglhaaDoorRefFrame
import Derived.Test.YthomhaegdlglhaaDoorRefUnframe
import Derived.Test.YthomhaegdlglhaaDoorLives
import Derived.Deep.DeepCutAuto
import Derived.Deep.QuietTactic
import Derived.BigQuiet
namespace Go.Proofs.YthomhaegdlglhaaDoor
open Go.RowKit
set_option maxRecDepth 100000

theorem str_ne {s t : ByteArray} (h : s ≠ t) : (s.toList == t.toList) = false := by
  rw [ByteArray.toList_eq, ByteArray.toList_eq]
  rw [Bool.eq_false_iff]
  intro e
  exact h (bytes_inj (by simpa using e))

theorem cell_heap {w : World} {b j : Nat} {C : Array Value} {t : TypeId} {z : Nat × Nat} {x : Value} (h : w.heap[b]? = some (.cells C t z)) (hx : C[j]? = some x) : w.cell? ⟨b, j, none⟩ = some x := (cell_of_row w b j C t z h).trans hx

set_option maxHeartbeats 4000000 in
theorem refWrite_name {w : World} {v : Value} {L : List Chk} (h : Chs w v L) (hl : L.length ≤ 131072) (hbad : goodAll L = false) :
    Calls Tryd.prog 9 #[v] w fun e w' => e = .returned (.tuple #[.slice none 0 0, .int .i64 8]) ∧ Below w.heap.size w w' := by
  have HC : Hid (∀ u : World, Below w.heap.size w u → Chs u v L) := fun u hb => h.below hb
  have HB : Hid (goodAll L = false) := hbad
  obtain ⟨a, cap, rfl, hc1, hc2⟩ := h.slice
  clear h hbad
  go_enter Tryd.func9, Tryd.ntmps9
  go_wp2
  go_loopw [20] (fun i u => ∃ k : Nat, i = .int .i64 k ∧ k ≤ L.length ∧ Hid (goodAll (L.take k) = true) ∧ Below w.heap.size w u) (fun i _ => L.length - (intOf i).toNat)
  case atStart => exact ⟨0, rfl, by omega, by simp [Hid, goodAll], Below.refl _ _⟩
  case round =>
    obtain ⟨k, rfl, hk, hg, hb⟩ := hrel
    have hsz := hb.size
    by_cases hlt : k < L.length
    · obtain ⟨a', rfl, hs, da, dc, hd1, hd2, hcs⟩ := chs_at (HC.out w (Below.refl _ _)) hlt
      obtain ⟨c1, c2, _⟩ := hcs wr hb
      have GA := goodAll_take L k hlt
      have C := fun u => refGood_any L[k].1 u hs
      rw [hg.out, Bool.true_and] at GA
      clear hcs
      generalize L[k].2.length = n at *
      generalize L[k].1 = tag at *
      cases eg : goodT tag with
      | true =>
        rw [eg] at C GA
        have GA' : Hid _ := GA
        clear GA
        go_wp2_with (go_at_call 15; refine (C _).mono ?_; rintro e w' ⟨rfl, hw⟩; obtain rfl := hw.symm; clear hw)
        go_roundw
        case rel => exact ⟨k + 1, by go_num, by omega, GA'.out, hb.alloc hsz _⟩
        case measure => simp [intOf]; omega
      | false =>
        rw [eg] at C
        clear GA
        go_wp2_with (go_at_call 15; refine (C _).mono ?_; rintro e w' ⟨rfl, hw⟩; obtain rfl := hw.symm; clear hw)
        go_ret2
        exact ⟨rfl, hb.alloc hsz _⟩
    · have := hg.out
      rw [List.take_of_length_le (by omega), HB.out] at this
      cases this

set_option maxHeartbeats 8000000 in
theorem refWrite_great {w : World} {v : Value} {L : List Chk} (h : Chs w v L) (hl : L.length ≤ 131072) (hgood : goodAll L = true) (htot : 131072 < totalD L) :
    Calls Tryd.prog 9 #[v] w fun e w' => e = .returned (.tuple #[.slice none 0 0, .int .i64 (wrongB L)]) ∧ Below w.heap.size w w' := by
  have HC : Hid (∀ u : World, Below w.heap.size w u → Chs u v L) := fun u hb => h.below hb
  have HG : Hid (goodAll L = true) := hgood
  have HT : Hid (131072 < totalD L) := htot
  have W7 : Hid (¬ distinct L → wrongB L = 7) := fun hd => by unfold wrongB; rw [if_neg (by simp [hgood]), if_pos hd]
  have W9 : Hid (distinct L → wrongB L = 9) := fun hd => by unfold wrongB; rw [if_neg (by simp [hgood]), if_neg (by simp [hd]), if_pos (.inr htot)]
  obtain ⟨a, cap, rfl, hc1, hc2⟩ := h.slice
  clear h hgood htot
  go_enter Tryd.func9, Tryd.ntmps9
  go_wp2
  go_loopw [20] (fun i u => ∃ k : Nat, i = .int .i64 k ∧ k ≤ L.length ∧ Hid (goodAll (L.take k) = true) ∧ Below w.heap.size w u) (fun i _ => L.length - (intOf i).toNat)
  case atStart => exact ⟨0, rfl, by omega, by simp [Hid, goodAll], Below.refl _ _⟩
  case round =>
    obtain ⟨k, rfl, hk, hg, hb⟩ := hrel
    have hsz := hb.size
    by_cases hlt : k < L.length
    · obtain ⟨a', rfl, hs, da, dc, hd1, hd2, hcs⟩ := chs_at (HC.out w (Below.refl _ _)) hlt
      obtain ⟨c1, c2, _⟩ := hcs wr hb
      have GA := goodAll_take L k hlt
      have C := fun u => refGood_any L[k].1 u hs
      rw [hg.out, Bool.true_and] at GA
      have eg : goodT L[k].1 = true := by
        have := HG.out
        unfold goodAll at this
        rw [List.all_eq_true] at this
        exact this _ (List.getElem_mem hlt)
      rw [eg] at C GA
      have GA' : Hid _ := GA
      clear hcs GA eg
      generalize L[k].2.length = n at *
      generalize L[k].1 = tag at *
      go_wp2_with (go_at_call 15; refine (C _).mono ?_; rintro e w' ⟨rfl, hw⟩; obtain rfl := hw.symm; clear hw)
      go_roundw
      case rel => exact ⟨k + 1, by go_num, by omega, GA'.out, hb.alloc hsz _⟩
      case measure => simp [intOf]; omega
    · have HB0 : Hid (Below w.heap.size w wr) := hb
      clear hb hsz hg
      go_wp2
      go_loopw [4, 31] (fun t i u => ∃ k S : Nat, i = .int .i64 k ∧ k ≤ L.length ∧ t = .int .i64 S ∧ S ≤ 131072 ∧ Hid (S = totalD (L.take k)) ∧ Hid (distinct (L.take k)) ∧ Below w.heap.size w u) (fun _ i _ => L.length - (intOf i).toNat)
      case atStart => exact ⟨0, 0, rfl, by omega, rfl, by omega, by simp [Hid, totalD], by simp [Hid, distinct], HB0.out⟩
      case round =>
        clear HB0
        obtain ⟨k, S, rfl, hk, rfl, hS, HS, HD, hb⟩ := hrel
        have hsz := hb.size
        by_cases hlt : k < L.length
        · obtain ⟨a', rfl, hs, da, dc, hd1, hd2, hcs⟩ := chs_at (HC.out w (Below.refl _ _)) hlt
          obtain ⟨c1, c2, _⟩ := hcs wr hb
          have hbox : Hid ((wr.alloc (.cells #[.string L[k].1, .slice da L[k].2.length dc] 55)).heap[wr.heap.size]? = some (.cells #[.string L[k].1, .slice da L[k].2.length dc] 55)) := heap_alloc_new wr _
          have HB1 : Hid (Below w.heap.size w (wr.alloc (.cells #[.string L[k].1, .slice da L[k].2.length dc] 55))) := hb.alloc hsz _
          have HTk : Hid _ := total_take L k hlt
          have HDk : Hid _ := distinct_take L k hlt
          have hd2' : dc ≤ 9223372036854775807 := hd2
          clear hcs hb
          obtain ⟨tag, htag⟩ : ∃ tag, tag = L[k].1 := ⟨_, rfl⟩
          have HTag : Hid (tag = L[k].1) := htag
          rw [← htag] at c1 hbox HB1
          clear htag
          generalize L[k].2.length = n at *
          go_wp2
          go_loopw [9] (fun x u => ∃ j : Nat, x = .int .i64 j ∧ j ≤ k ∧ Hid (∀ i (hi : i < L.length), i < j → L[i].1 ≠ tag) ∧ Hid (u.heap[wr.heap.size]? = some (.cells #[.string tag, .slice da n dc] 55)) ∧ Below w.heap.size w u) (fun x _ => k - (intOf x).toNat)
          case atStart => exact ⟨0, rfl, by omega, fun i _ hi => by omega, hbox.out, HB1.out⟩
          case round =>
            clear hbox HB1 c1 c2
            obtain ⟨j, rfl, hj, HN, HX, hb⟩ := hrel
            have hsz := hb.size
            have x0 := cell_heap HX.out (j := 0) rfl
            have x1 := cell_heap HX.out (j := 1) rfl
            by_cases hjk : j < k
            · have hjl : j < L.length := by omega
              obtain ⟨_, ha', _, da2, dc2, _, _, hcs⟩ := chs_at (HC.out w (Below.refl _ _)) hjl
              cases ha'
              obtain ⟨c1, _, _⟩ := hcs wr hb
              have hjI : (j : Int) < (L.length : Int) := by omega
              have hj0 : (0 : Int) ≤ (j : Int) := by omega
              clear hcs
              by_cases heq : L[j].1 = tag
              · have hE : Hid (wrongB L = 7) := W7.out fun hd => (HDk.out.1 (distinct_of L (k + 1) hd)).2 ⟨L[j], by
                  have : (L.take k)[j]? = some L[j] := by rw [List.getElem?_take_of_lt hjk, List.getElem?_eq_getElem hjl]
                  exact List.mem_of_getElem? this, by rw [heq, HTag.out]⟩
                rw [heq] at c1
                have ss := str_self tag
                go_wp2_with fail
                go_quiet ((fail))
                go_wp2
                go_ret2
                exact ⟨by rw [hE.out]; rfl, ⟨hb.os, hb.tape, hb.output, hb.size, hb.block⟩⟩
              · have ss := str_ne heq
                have HN2 : Hid (∀ i (hi : i < L.length), i < j + 1 → L[i].1 ≠ tag) := fun i hi hij => by
                  by_cases e : i = j
                  · subst e; exact heq
                  · exact HN.out i hi (by omega)
                generalize L[j].1 = tag2 at *
                go_wp2_with fail
                go_quiet ((fail))
                go_wp2
                go_roundw
                case rel => exact ⟨j + 1, by go_num, by omega, HN2, HX, ⟨hb.os, hb.tape, hb.output, hb.size, hb.block⟩⟩
                case measure => simp [intOf]; omega
            · have HD2 : Hid (distinct (L.take (k + 1))) := HDk.out.2 ⟨HD.out, fun ⟨c, hc, e⟩ => by
                obtain ⟨i, hi⟩ := List.getElem?_of_mem hc
                have hik : i < k := by
                  rcases Nat.lt_or_ge i k with h | h
                  · exact h
                  · rw [List.getElem?_eq_none (by simp; omega)] at hi; cases hi
                rw [List.getElem?_take_of_lt hik, List.getElem?_eq_getElem (by omega)] at hi
                cases hi
                exact HN.out i (by omega) (by omega) (by rw [e, HTag.out])⟩
              by_cases hbig : 131072 - S < n
              · have hbig' : (131072 : Int) - (S : Int) < (n : Int) := by omega
                have HB3 : Hid (Below w.heap.size w wr) := hb
                go_wp2
                clear HD2 HN HX x0 x1 hb hsz HDk HTk HTag HD HS
                go_loopw [63] (fun i u => ∃ k : Nat, i = .int .i64 k ∧ k ≤ L.length ∧ Hid (distinct (L.take k)) ∧ Below w.heap.size w u) (fun i _ => L.length - (intOf i).toNat)
                case atStart => exact ⟨0, rfl, by omega, by simp [Hid, distinct], HB3.out⟩
                case round =>
                  obtain ⟨k, rfl, hk, HD, hb⟩ := hrel
                  have hsz := hb.size
                  by_cases hlt : k < L.length
                  · obtain ⟨_, ha', hs, da, dc, hd1, hd2, hcs⟩ := chs_at (HC.out w (Below.refl _ _)) hlt
                    cases ha'
                    obtain ⟨c1, c2, _⟩ := hcs wr hb
                    have hbox : Hid ((wr.alloc (.cells #[.string L[k].1, .slice da L[k].2.length dc] 55)).heap[wr.heap.size]? = some (.cells #[.string L[k].1, .slice da L[k].2.length dc] 55)) := heap_alloc_new wr _
                    have HB1 : Hid (Below w.heap.size w (wr.alloc (.cells #[.string L[k].1, .slice da L[k].2.length dc] 55))) := hb.alloc hsz _
                    have HDk : Hid _ := distinct_take L k hlt
                    clear hcs hb
                    obtain ⟨tag, htag⟩ : ∃ tag, tag = L[k].1 := ⟨_, rfl⟩
                    have HTag : Hid (tag = L[k].1) := htag
                    rw [← htag] at c1 hbox HB1
                    clear htag
                    generalize L[k].2.length = n at *
                    go_wp2
                    go_loopw [12] (fun x u => ∃ j : Nat, x = .int .i64 j ∧ j ≤ k ∧ Hid (∀ i (hi : i < L.length), i < j → L[i].1 ≠ tag) ∧ Hid (u.heap[wr.heap.size]? = some (.cells #[.string tag, .slice da n dc] 55)) ∧ Below w.heap.size w u) (fun x _ => k - (intOf x).toNat)
                    case atStart => exact ⟨0, rfl, by omega, fun i _ hi => by omega, hbox.out, HB1.out⟩
                    case round =>
                      clear hbox HB1 c1 c2
                      obtain ⟨j, rfl, hj, HN, HX, hb⟩ := hrel
                      have x0 := cell_heap HX.out (j := 0) rfl
                      by_cases hjk : j < k
                      · have hjl : j < L.length := by omega
                        obtain ⟨_, ha', _, da2, dc2, _, _, hcs⟩ := chs_at (HC.out w (Below.refl _ _)) hjl
                        cases ha'
                        obtain ⟨c1, _, _⟩ := hcs wr hb
                        have hjI : (j : Int) < (L.length : Int) := by omega
                        have hj0 : (0 : Int) ≤ (j : Int) := by omega
                        clear hcs
                        by_cases heq : L[j].1 = tag
                        · have hnd : Hid (¬ distinct L) := fun hd => (HDk.out.1 (distinct_of L (k + 1) hd)).2 ⟨L[j], by
                            have : (L.take k)[j]? = some L[j] := by rw [List.getElem?_take_of_lt hjk, List.getElem?_eq_getElem hjl]
                            exact List.mem_of_getElem? this, by rw [heq, HTag.out]⟩
                          have hE : Hid (wrongB L = 7) := W7.out hnd.out
                          rw [heq] at c1
                          have ss := str_self tag
                          go_wp2_with fail
                          go_quiet ((fail))
                          go_wp2
                          go_ret2
                          exact ⟨by rw [hE.out]; rfl, ⟨hb.os, hb.tape, hb.output, hb.size, hb.block⟩⟩
                        · have ss := str_ne heq
                          have HN2 : Hid (∀ i (hi : i < L.length), i < j + 1 → L[i].1 ≠ tag) := fun i hi hij => by
                            by_cases e : i = j
                            · subst e; exact heq
                            · exact HN.out i hi (by omega)
                          generalize L[j].1 = tag2 at *
                          go_wp2_with fail
                          go_quiet ((fail))
                          go_wp2
                          go_roundw
                          case rel => exact ⟨j + 1, by go_num, by omega, HN2, HX, ⟨hb.os, hb.tape, hb.output, hb.size, hb.block⟩⟩
                          case measure => simp [intOf]; omega
                      · have HD2 : Hid (distinct (L.take (k + 1))) := HDk.out.2 ⟨HD.out, fun ⟨c, hc, e⟩ => by
                          obtain ⟨i, hi⟩ := List.getElem?_of_mem hc
                          have hik : i < k := by
                            rcases Nat.lt_or_ge i k with h | h
                            · exact h
                            · rw [List.getElem?_eq_none (by simp; omega)] at hi; cases hi
                          rw [List.getElem?_take_of_lt hik, List.getElem?_eq_getElem (by omega)] at hi
                          cases hi
                          exact HN.out i (by omega) (by omega) (by rw [e, HTag.out])⟩
                        go_wp2
                        go_roundw
                        case rel => exact ⟨k + 1, by go_num, by omega, HD2, hb⟩
                        case measure => simp [intOf]; omega
                  · have hdL : Hid (distinct L) := by
                      have := HD.out
                      rwa [List.take_of_length_le (by omega)] at this
                    have hE : Hid (wrongB L = 9) := W9.out hdL.out
                    by_cases h32 : 32 < L.length
                    · have h32' : (32 : Int) < (L.length : Int) := by omega
                      have h32'' : decide ((32 : Int) < (L.length : Int)) = true := by simpa using h32'
                      go_wp2
                      go_ret2
                      exact ⟨by rw [hE.out]; rfl, hb⟩
                    · have h32' : ¬ (32 : Int) < (L.length : Int) := by omega
                      have h32'' : decide ((32 : Int) < (L.length : Int)) = false := by simpa using h32'
                      go_wp2
                      go_ret2
                      exact ⟨by rw [hE.out]; rfl, hb⟩
              · have hE : Hid (S + n = totalD (L.take (k + 1))) := by show _ = _; rw [HTk.out, HS.out]
                have hbig' : ¬ ((131072 : Int) - (S : Int) < (n : Int)) := by omega
                go_wp2
                go_roundw
                case rel => exact ⟨k + 1, S + n, by go_num, by omega, by go_num, by omega, hE, HD2, hb⟩
                case measure => simp [intOf]; omega
        · have := HS.out
          rw [List.take_of_length_le (by omega)] at this
          have := HT.out
          omega
end Go.Proofs.YthomhaegdlglhaaDoor
