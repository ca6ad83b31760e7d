/- The contract of box.Write. -/
import Derived.Test.YthomhaegdlglhaaDoorDir
namespace Go.Proofs.YthomhaegdlglhaaDoor
open Go.RowKit
set_option maxRecDepth 100000

theorem datas_take (L : List Chk) (k : Nat) (h : k < L.length) : datas (L.take (k + 1)) = datas (L.take k) ++ L[k].2 := by
  rw [List.take_succ_eq_append_getElem h]
  simp only [datas, List.flatMap_append, List.flatMap_cons, List.flatMap_nil, List.append_nil]
theorem ret_pair {v : Value} {a b : Int} (h : a = b) : Ending.returned (.tuple #[v, .int .i64 a]) = .returned (.tuple #[v, .int .i64 b]) := by rw [h]

set_option maxHeartbeats 1000000 in
theorem write_bad {w : World} {v : Value} {L : List Chk} (h : Chs w v L) (hl : L.length ≤ 140737488355328) (hw : wrongB L ≠ 0) :
    Calls Tryd.prog 8 #[v] w fun e w' => e = .returned (.tuple #[.slice none 0 0, .int .i64 (wrongB L)]) ∧ Below w.heap.size w w' := by
  have C := wrong_any h hl
  obtain ⟨a, cap, rfl, hc1, hc2⟩ := h.slice
  generalize wrongB L = x at *
  have hx : ¬ ((x : Int) = 0) := by omega
  clear h
  go_enter Tryd.func8, Tryd.ntmps8
  go_wp2_with fail
  refine C.mono ?_
  rintro e w1 ⟨rfl, hb⟩
  go_wp2_with fail
  go_ret2
  exact ⟨rfl, hb⟩

set_option maxHeartbeats 4000000 in
theorem write_ok {w : World} {v : Value} {L : List Chk} (h : Chs w v L) (T : Tab w) (hw : wrongB L = 0) :
    Calls Tryd.prog 8 #[v] w fun e w' => ∃ v', e = .returned (.tuple #[v', .int .i64 0]) ∧ Own w.heap.size w' v' (boxB L) ∧ Below w.heap.size w w' := by
  obtain ⟨hg, _, hl, ht⟩ := wrong_zero hw
  have C := wrong_any h (by omega)
  rw [hw] at C
  have HC : Hid (∀ u : World, Below w.heap.size w u → Chs u v L) := fun u hb => h.below hb
  have HT : Hid (∀ u : World, Below w.heap.size w u → Tab u) := fun u hb => T.below (Nat.le_refl _) hb
  obtain ⟨a, cap, rfl, hc1, hc2⟩ := h.slice
  have HG : Hid (goodAll L = true) := hg
  have HLT : Hid (totalD L ≤ 131072) := ht
  clear h T hw hg ht
  go_enter Tryd.func8, Tryd.ntmps8
  go_wp2_with fail
  refine C.mono ?_
  rintro e w1 ⟨rfl, hb1⟩
  have CV := conv25 w1 #[.int .u8 79, .int .u8 67, .int .u8 84, .int .u8 65, .int .u8 86, .int .u8 79, .int .u8 49, .int .u8 10] 8 8
  have sz1 := hb1.size
  have M1 : Hid (OwnM w.heap.size (w1.alloc (.cells #[.int .u8 79, .int .u8 67, .int .u8 84, .int .u8 65, .int .u8 86, .int .u8 79, .int .u8 49, .int .u8 10] 5 (8, 9))) (.slice (some ⟨w1.heap.size, 0, none⟩) 8 8) markB) := by
    rcases ownM_lit w1 markB (8, 9) (by decide) with h | ⟨g, cur, z, h1, h2, h3⟩
    · exact .inr ⟨w1.heap.size, _, (8, 9), rfl, sz1, heap_alloc_new w1 _, rfl, by decide⟩
    · exact .inr ⟨g, cur, z, h1, Nat.le_trans sz1 h2, h3⟩
  go_wp2
  go_loopw [5, 18] (fun b i u => ∃ k : Nat, i = .int .i64 k ∧ k ≤ L.length ∧ Hid (OwnM w.heap.size u b (markB ++ datas (L.take k))) ∧ Below w.heap.size w u) (fun _ i _ => L.length - (intOf i).toNat)
  case atStart => exact ⟨0, rfl, by omega, M1.out, hb1.alloc sz1 _⟩
  case round =>
    clear M1 CV hb1 sz1 C
    obtain ⟨k, rfl, hk, hown, hb⟩ := hrel
    have hsz := hb.size
    by_cases hlt : k < L.length
    · obtain ⟨a', rfl, hs, da, dc, hd1, hd2, hcs⟩ := chs_at (HC.out w (Below.refl _ _)) hlt
      obtain ⟨c1, c2, hd⟩ := hcs wr hb
      clear hcs
      have HE : Hid _ := datas_take L k hlt
      have hn : L[k].2.length ≤ 131072 := Nat.le_trans (data_le hlt) HLT.out
      have hlen : (markB ++ datas (L.take k)).length + L[k].2.length ≤ 140737488355328 := by
        have h1 := total_take_le L k
        have h2 := HLT.out
        simp only [List.length_append, datas_length]
        have : markB.length = 8 := rfl
        omega
      have hbl : w.heap.size ≤ (wr.alloc (.cells #[.string L[k].1, .slice da L[k].2.length dc] 49)).heap.size := by simp; omega
      obtain ⟨v1, w1, r1, o1, _, b1⟩ := ownM_app 25 (hown.out.alloc (.cells #[.string L[k].1, .slice da L[k].2.length dc] 49)) (hd.alloc _) hlen hbl
      have E1 : Hid (OwnM w.heap.size w1 v1 (markB ++ datas (L.take (k + 1))) ∧ Below w.heap.size w w1) := by
        refine ⟨?_, (hb.alloc hsz _).trans b1⟩
        rw [HE.out, ← List.append_assoc]; exact o1
      have R1 : Hid _ := r1
      clear hd o1 b1 r1 hlen
      generalize L[k].2.length = n at *
      generalize L[k].1 = tag at *
      go_wp2_with (at_builtin; refine wpList_append_run rfl _ _ 25 rfl _ _ _ _ rfl rfl R1.out ?_)
      go_roundw
      case rel => exact ⟨k + 1, by go_num, by omega, E1.out.1, E1.out.2⟩
      case measure => simp [intOf]; omega
    · have hown' : Hid (OwnM w.heap.size wr u5 (markB ++ datas L)) := by
        show OwnM _ _ _ _
        have := hown.out
        rwa [List.take_of_length_le (by omega)] at this
      have D := directory_any (HC.out wr hb) (HT.out wr hb) HG.out hl HLT.out
      go_wp2_with fail
      refine D.mono ?_
      rintro e w2 ⟨dv, rfl, od, bd⟩
      have bw2 : Below w.heap.size w w2 := hb.trans (bd.mono hsz)
      have hdl := dir_length HG.out
      have F := frame_any od.bts (HT.out w2 bw2) (by omega)
      have HK2 : Hid (Below w.heap.size w w2 ∧ Below wr.heap.size wr w2) := ⟨bw2, bd⟩
      have sz2 := bd.size
      clear od bd bw2 D
      go_wp2_with fail
      refine F.mono ?_
      rintro e w3 ⟨fv, rfl, of, bf⟩
      have b3 : Below w.heap.size w w3 := HK2.out.1.trans (bf.mono HK2.out.1.size)
      have k3 : ∀ i, i < wr.heap.size → w3.heap[i]? = wr.heap[i]? := fun i hi => by
        rw [bf.block i (by omega), HK2.out.2.block i hi]
      have hfl := frameB_length (dirB L)
      have hml : (markB ++ datas L).length ≤ 131080 := by
        have h2 := HLT.out
        simp only [List.length_append, datas_length]
        have : markB.length = 8 := rfl
        omega
      obtain ⟨v4, w4, r4, _, o4, b4⟩ := ownM_app 25 (hown'.out.kept k3) of.bts (by omega) b3.size
      have hne : frameB (dirB L) ≠ [] := fun e => by rw [e] at hfl; simp at hfl
      have o4' := o4 hne
      have P4 := bput_any o4' (b3.trans b4).size ((dirB L).length + 8) (by omega) (by rw [List.length_append]; omega)
      have E4 : Hid (Below w.heap.size w w4) := b3.trans b4
      have O4 : Hid (Own w.heap.size w4 v4 (markB ++ datas L ++ frameB (dirB L))) := o4'
      obtain ⟨fa, fc, rfl⟩ := of.slice
      have R4 : Hid _ := r4
      rw [hfl] at R4
      rw [hfl]
      clear r4 o4 o4' b4 b3 k3 bf of hne hown hown' F hml
      have hm : (dirB L).length + 8 ≤ 1000 := by omega
      generalize hM : (dirB L).length + 8 = m at *
      go_wp2_with (at_builtin; refine wpList_append_run rfl _ _ 25 rfl _ _ _ _ rfl rfl R4.out ?_)
      refine P4.mono ?_
      rintro e w5 ⟨v5, rfl, ap5⟩
      have E5 : Hid (Own w.heap.size w5 v5 (boxB L) ∧ Below w.heap.size w w5) := by
        refine ⟨?_, E4.out.trans (ap5.below O4.out E4.out.size)⟩
        have := ap5.own
        unfold boxB
        rw [hM]
        rwa [List.append_assoc, List.append_assoc] at this
      clear ap5
      go_wp2_with fail
      go_ret2
      exact ⟨v5, rfl, E5.out⟩

theorem write_any {w : World} {v : Value} {L : List Chk} (h : Chs w v L) (T : Tab w) (hl : L.length ≤ 140737488355328) :
    Calls Tryd.prog 8 #[v] w fun e w' => ∃ v', e = .returned (.tuple #[v', .int .i64 (writeB L).2]) ∧ Own w.heap.size w' v' (writeB L).1 ∧ Below w.heap.size w w' := by
  by_cases hw : wrongB L = 0
  · unfold writeB
    rw [if_pos hw]
    exact write_ok h T hw
  · unfold writeB
    rw [if_neg hw]
    refine (write_bad h hl hw).mono ?_
    rintro e w' ⟨rfl, hb⟩
    exact ⟨_, rfl, Own.nil _ _, hb⟩
end Go.Proofs.YthomhaegdlglhaaDoor
