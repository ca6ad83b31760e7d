/- The contract of directory. -/
import Derived.Test.YthomhaegdlglhaaDoorMark
import Derived.Test.YthomhaegdlglhaaDoorBWord
import Derived.Test.YthomhaegdlglhaaDoorWrong
namespace Go.Proofs.YthomhaegdlglhaaDoor
open Go.RowKit
set_option maxRecDepth 100000

theorem dir_take (L : List Chk) (k : Nat) (h : k < L.length) : dirB (L.take (k + 1)) = dirB (L.take k) ++ (L[k].1.data.toList ++ (word4 L[k].2.length ++ word4 (sumB L[k].2))) := by
  rw [List.take_succ_eq_append_getElem h]
  simp only [dirB, entryB, List.flatMap_append, List.flatMap_cons, List.flatMap_nil, List.append_nil]
theorem goodAll_sub {L : List Chk} (h : goodAll L = true) (k : Nat) : goodAll (L.take k) = true := by
  unfold goodAll at *
  rw [List.all_eq_true] at *
  exact fun c hc => h c (List.mem_of_mem_take hc)
theorem data_le {L : List Chk} {k : Nat} (h : k < L.length) : L[k].2.length ≤ totalD L := by
  have h1 := total_take L k h
  have h2 := total_take_le L (k + 1)
  omega
theorem cell_box {w : World} {b : Nat} {C : Array Value} {t : TypeId} {z : Nat × Nat} (h : w.heap[b]? = some (.cells C t z)) (j : Nat) : w.cell? ⟨b, j, none⟩ = C[j]? := cell_of_row w b j C t z h

/-- The chunk at a place, as each world behind reads it. -/
theorem chs_at {w : World} {a : Option Addr} {cap : Nat} {L : List Chk} (h : Chs w (.slice a L.length cap) L) {k : Nat} (hk : k < L.length) :
    ∃ a', a = some a' ∧ L[k].1.size ≤ maxLen ∧ ∃ da dc, L[k].2.length ≤ dc ∧ dc ≤ maxLen ∧ ∀ u, Below w.heap.size w u → u.cell? (a'.add (k * 2)) = some (.string L[k].1) ∧ u.cell? ⟨(a'.add (k * 2)).block, (a'.add (k * 2)).off + 1, none⟩ = some (.slice da L[k].2.length dc) ∧ Bts u (.slice da L[k].2.length dc) L[k].2 := by
  rcases h with ⟨h1, rfl⟩ | ⟨a', cap', h1, _, _, h4⟩
  · simp at hk
  · cases h1
    obtain ⟨hs, d, c1, c2, hd⟩ := h4 k _ (List.getElem?_eq_getElem hk)
    obtain ⟨da, dc, rfl, hd1, hd2⟩ := hd.slice
    refine ⟨a', rfl, hs, da, dc, hd1, hd2, fun u hu => ⟨?_, ?_, hd.below hu⟩⟩
    · rw [← c1]; exact World.cell?_of_block (hu.block _ (World.block_lt_of_cell? w _ c1))
    · rw [← c2]; exact World.cell?_of_block (hu.block _ (World.block_lt_of_cell? w _ c2))

set_option maxHeartbeats 4000000 in
theorem directory_any {w : World} {v : Value} {L : List Chk} (h : Chs w v L) (T : Tab w) (hg : goodAll L = true) (hl : L.length ≤ 32) (ht : totalD L ≤ 131072) :
    Calls Tryd.prog 23 #[v] w fun e w' => ∃ v', e = .returned v' ∧ Own w.heap.size w' v' (dirB L) ∧ Below w.heap.size w w' := by
  have HC : Hid (∀ u : World, Below w.heap.size w u → Chs u v L) := fun u hb => h.below hb
  have HT : Hid (∀ u : World, Below w.heap.size w u → Tab u) := fun u hb => T.below (Nat.le_refl _) hb
  obtain ⟨a, cap, rfl, hc1, hc2⟩ := h.slice
  clear h T
  go_enter Tryd.func23, Tryd.ntmps23
  go_wp2
  go_loopw [3, 8] (fun b i u => ∃ k : Nat, i = .int .i64 k ∧ k ≤ L.length ∧ Hid (Own w.heap.size u b (dirB (L.take k))) ∧ Below w.heap.size w u) (fun _ i _ => L.length - (intOf i).toNat)
  case atStart => exact ⟨0, rfl, by omega, Own.nil _ _, Below.refl _ _⟩
  case round =>
    obtain ⟨k, rfl, hk, hown, hb⟩ := hrel
    have hsz := hb.size
    by_cases hlt : k < L.length
    · obtain ⟨a', rfl, hs, da, dc, hd1, hd2, hcs⟩ := chs_at (HC.out w (Below.refl _ _)) hlt
      have HD : Hid (∀ u, Below w.heap.size w u → Bts u (.slice da L[k].2.length dc) L[k].2) := fun u hu => (hcs u hu).2.2
      obtain ⟨c1, c2, _⟩ := hcs wr hb
      clear hcs
      have HE : Hid _ := dir_take L k hlt
      have hgk := goodAll_sub hg k
      have hlk := dir_length hgk
      have hmin : (L.take k).length = k := by simp; omega
      rw [hmin] at hlk
      have hgood : goodT L[k].1 = true := by
        unfold goodAll at hg
        rw [List.all_eq_true] at hg
        exact hg _ (List.getElem_mem hlt)
      have ht4 : L[k].1.data.toList.length = 4 := good_size hgood
      have ht4' : L[k].1.size = 4 := ht4
      have hn : L[k].2.length ≤ 131072 := Nat.le_trans (data_le hlt) ht
      generalize hLk : L[k] = ck at *
      obtain ⟨tag, data⟩ := ck
      simp only at *
      have hbl : w.heap.size ≤ (wr.alloc (.cells #[.string tag, .slice da data.length dc] 49)).heap.size := by simp; omega
      have own0 := hown.out.alloc (.cells #[.string tag, .slice da data.length dc] 49)
      obtain ⟨v1, w1, r1, o1, g1⟩ := own_str 25 own0 tag (by rw [hlk, ht4']; omega) hbl
      have hbox0 : (wr.alloc (.cells #[.string tag, .slice da data.length dc] 49)).heap[wr.heap.size]? = some (.cells #[.string tag, .slice da data.length dc] 49) := heap_alloc_new wr _
      have hbox1 : w1.heap[wr.heap.size]? = some (.cells #[.string tag, .slice da data.length dc] 49) := by
        rw [g1.block _ (by simp) (own0.notBox (by decide) hbox0)]; exact hbox0
      have b1 : Below w.heap.size w w1 := (hb.alloc hsz _).grown g1 hbl fun _ hk => (own0.lt hk).1
      have x1 := cell_box hbox1 1
      simp at x1
      have P1 := bput_any o1 (b1.size) data.length (by omega) (by simp only [List.length_append, hlk, ht4]; omega)
      have R1 : Hid _ := r1
      have B1 : Hid _ := b1
      have HB : Hid (w1.heap[wr.heap.size]? = some (.cells #[.string tag, .slice da data.length dc] 49)) := hbox1
      have O1 : Hid (Own w.heap.size w1 v1 (dirB (L.take k) ++ tag.data.toList)) := o1
      have hn' : data.length < 4294967296 := by omega
      clear r1 b1 hbox1 hbox0 o1 g1 hbl hLk hgood own0
      generalize hN : data.length = n at *
      go_wp2_with (at_builtin; refine wpList_append_run2 rfl _ _ 25 9 rfl _ _ _ _ rfl rfl R1.out ?_)
      refine P1.mono ?_
      rintro e w2 ⟨v2, rfl, ap2⟩
      have hbox2 : w2.heap[wr.heap.size]? = some (.cells #[.string tag, .slice da n dc] 49) := by
        rw [ap2.gr.block _ (Array.getElem?_eq_some_iff.1 HB.out).1 (O1.out.notBox (by decide) HB.out)]; exact HB.out
      have x2 := cell_box hbox2 1
      simp at x2
      have b2 : Below w.heap.size w w2 := B1.out.trans (ap2.below O1.out B1.out.size)
      have S2 := sum_any (HD.out w2 b2) (HT.out w2 b2)
      have P2 := bput_any ap2.own b2.size (sumB data) (sumB_lt _) (by simp only [List.length_append, hlk, ht4, word4_length]; omega)
      have hS := sumB_lt data
      have B2 : Hid _ := b2
      have A2 : Hid _ := ap2
      generalize sumB data = sm at *
      clear b2 ap2 hbox2
      go_wp2_with fail
      refine S2.mono ?_
      rintro e w' ⟨rfl, hw⟩; obtain rfl := hw.symm; clear hw
      go_wp2_with fail
      refine P2.mono ?_
      rintro e w3 ⟨v3, rfl, ap3⟩
      have E3 : Hid (Own w.heap.size w3 v3 (dirB (L.take (k + 1))) ∧ Below w.heap.size w w3) := by
        refine ⟨?_, B2.out.trans (ap3.below A2.out.own B2.out.size)⟩
        rw [HE.out]
        have := ap3.own
        rwa [List.append_assoc, List.append_assoc] at this
      clear ap3
      go_wp2
      go_roundw
      case rel => exact ⟨k + 1, by go_num, by omega, E3.out.1, E3.out.2⟩
      case measure => simp [intOf]; omega
    · have hE : Hid (dirB (L.take k) = dirB L) := by show _ = _; rw [List.take_of_length_le (by omega)]
      go_wp2
      go_ret
      exact ⟨_, rfl, by rw [← hE.out]; exact hown.out, hb⟩
end Go.Proofs.YthomhaegdlglhaaDoor
