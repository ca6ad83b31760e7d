/- The contracts of both Find. -/
import Derived.Test.YthomhaegdlglhaaDoorRefWrite
namespace Go.Proofs.YthomhaegdlglhaaDoor
open Go.RowKit
set_option maxRecDepth 100000

def findB : List Chk → ByteArray → Option (List UInt8)
  | [], _ => none
  | c :: L, tag => if c.1 = tag then some c.2 else findB L tag
theorem find_drop (L : List Chk) (k : Nat) (h : k < L.length) (tag : ByteArray) : findB (L.drop k) tag = if L[k].1 = tag then some L[k].2 else findB (L.drop (k + 1)) tag := by
  rw [List.drop_eq_getElem_cons h]
  rfl

set_option maxHeartbeats 2000000 in
theorem find_any {w : World} {v : Value} {L : List Chk} (h : Chs w v L) (hz : Sized L) (hl : L.length ≤ 131072) (tag : ByteArray) :
    Calls Tryd.prog 11 #[v, .string tag] w fun e w' => ∃ v', e = .returned (.tuple #[v', .bool (findB L tag).isSome]) ∧ Bts w' v' ((findB L tag).getD []) ∧ Below w.heap.size w w' := by
  have HC : Hid (Chs w v L) := h
  have HZ : Hid (Sized L) := hz
  obtain ⟨a, cap, rfl, hc1, hc2⟩ := h.slice
  clear h hz
  go_enter Tryd.func11, Tryd.ntmps11
  go_wp2
  go_loopw [10] (fun i u => ∃ k : Nat, i = .int .i64 k ∧ k ≤ L.length ∧ Hid (findB L tag = findB (L.drop k) tag) ∧ Below w.heap.size w u) (fun i _ => L.length - (intOf i).toNat)
  case atStart => exact ⟨0, rfl, by omega, by simp [Hid], Below.refl _ _⟩
  case round =>
    obtain ⟨k, rfl, hk, HF, hb⟩ := hrel
    have hsz := hb.size
    by_cases hlt : k < L.length
    · obtain ⟨a', rfl, hs, da, dc, hd1, hd2, hcs⟩ := chs_at HC.out hlt
      obtain ⟨c1, c2, hd⟩ := hcs wr hb
      have HK := find_drop L k hlt tag
      have hlen : L[k].2.length ≤ 140737488355328 := HZ.out _ (List.getElem_mem hlt)
      clear hcs
      by_cases heq : L[k].1 = tag
      · have hE : Hid (findB L tag = some L[k].2) := by show _ = _; rw [HF.out, HK, if_pos heq]
        have FR := fresh_any (hd.alloc (.cells #[.string tag, .slice da L[k].2.length dc] 49)) hlen
        rw [heq] at c1
        have ss := str_self tag
        clear hd HK
        generalize L[k].2 = data at *
        go_wp2_with fail
        refine FR.mono ?_
        rintro e w1 ⟨v1, rfl, ap⟩
        have E1 : Hid (Bts w1 v1 data ∧ Below w.heap.size w w1) := ⟨ap.own.bts, (hb.alloc hsz _).trans ((ap.below (Own.nil _ _) (Nat.le_refl _)).mono (by simp; omega))⟩
        clear ap
        go_wp2_with fail
        go_ret2
        exact ⟨v1, by rw [hE.out]; rfl, by rw [hE.out]; exact E1.out.1, E1.out.2⟩
      · have hE : Hid (findB L tag = findB (L.drop (k + 1)) tag) := by show _ = _; rw [HF.out, HK, if_neg heq]
        have ss := str_ne heq
        generalize L[k].1 = tag2 at *
        generalize L[k].2.length = n at *
        go_wp2
        go_roundw
        case rel => exact ⟨k + 1, by go_num, by omega, hE, hb.alloc hsz _⟩
        case measure => simp [intOf]; omega
    · have hE : Hid (findB L tag = none) := by
        show _ = _
        rw [HF.out, List.drop_eq_nil_of_le (by omega)]; rfl
      go_wp2
      go_ret2
      exact ⟨_, by rw [hE.out]; rfl, by rw [hE.out]; exact .inl ⟨rfl, rfl⟩, hb⟩

set_option maxHeartbeats 2000000 in
theorem refFind_any {w : World} {v : Value} {L : List Chk} (h : Chs w v L) (hz : Sized L) (hl : L.length ≤ 131072) (tag : ByteArray) :
    Calls Tryd.prog 12 #[v, .string tag] w fun e w' => ∃ v', e = .returned (.tuple #[v', .bool (findB L tag).isSome]) ∧ Bts w' v' ((findB L tag).getD []) ∧ Below w.heap.size w w' := by
  have HC : Hid (Chs w v L) := h
  have HZ : Hid (Sized L) := hz
  obtain ⟨a, cap, rfl, hc1, hc2⟩ := h.slice
  clear h hz
  go_enter Tryd.func12, Tryd.ntmps12
  go_wp2
  go_loopw [10] (fun i u => ∃ k : Nat, i = .int .i64 k ∧ k ≤ L.length ∧ Hid (findB L tag = findB (L.drop k) tag) ∧ Below w.heap.size w u) (fun i _ => L.length - (intOf i).toNat)
  case atStart => exact ⟨0, rfl, by omega, by simp [Hid], Below.refl _ _⟩
  case round =>
    obtain ⟨k, rfl, hk, HF, hb⟩ := hrel
    have hsz := hb.size
    by_cases hlt : k < L.length
    · obtain ⟨a', rfl, hs, da, dc, hd1, hd2, hcs⟩ := chs_at HC.out hlt
      obtain ⟨c1, c2, hd⟩ := hcs wr hb
      have HK := find_drop L k hlt tag
      have hlen : L[k].2.length ≤ 140737488355328 := HZ.out _ (List.getElem_mem hlt)
      clear hcs
      by_cases heq : L[k].1 = tag
      · have hE : Hid (findB L tag = some L[k].2) := by show _ = _; rw [HF.out, HK, if_pos heq]
        have o0 : Own w.heap.size ((wr.alloc (.cells #[.string tag, .slice da L[k].2.length dc] 55)).alloc (.cells #[] 5)) (.slice (some ⟨wr.heap.size + 1, 0, none⟩) 0 0) [] := by
          have := World.ownsRow_made (wr.alloc (.cells #[.string tag, .slice da L[k].2.length dc] 55)) (base := w.heap.size) (e := 5) (size := 1) #[] 0 (by simp; omega) (by decide) rfl
          unfold Own
          simpa [bcells] using this
        obtain ⟨v1, w1, r1, ap⟩ := own_app 25 o0 ((hd.alloc _).alloc _) (by simpa using hlen) (by simp; omega)
        have E1 : Hid (Bts w1 v1 L[k].2 ∧ Below w.heap.size w w1) := ⟨by simpa using ap.own.bts, ((hb.alloc hsz _).alloc (by simp; omega) _).trans (ap.below o0 (by simp; omega))⟩
        have R1 : Hid _ := r1
        rw [heq] at c1
        have ss := str_self tag
        clear hd HK ap r1 o0
        generalize L[k].2 = data at *
        go_wp2_with (at_builtin; refine wpList_append_run rfl _ _ 25 rfl _ _ _ _ rfl rfl R1.out ?_)
        go_ret2
        exact ⟨v1, by rw [hE.out]; rfl, by rw [hE.out]; exact E1.out.1, E1.out.2⟩
      · have hE : Hid (findB L tag = findB (L.drop (k + 1)) tag) := by show _ = _; rw [HF.out, HK, if_neg heq]
        have ss := str_ne heq
        generalize L[k].1 = tag2 at *
        generalize L[k].2.length = n at *
        go_wp2
        go_roundw
        case rel => exact ⟨k + 1, by go_num, by omega, hE, hb.alloc hsz _⟩
        case measure => simp [intOf]; omega
    · have hE : Hid (findB L tag = none) := by
        show _ = _
        rw [HF.out, List.drop_eq_nil_of_le (by omega)]; rfl
      go_wp2
      go_ret2
      exact ⟨_, by rw [hE.out]; rfl, by rw [hE.out]; exact .inl ⟨rfl, rfl⟩, hb⟩
end Go.Proofs.YthomhaegdlglhaaDoor
