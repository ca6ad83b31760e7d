/- The contracts of great, plain and same. -/
import Derived.Test.YthomhaegdlglhaaDoorDir
import Derived.Test.YthomhaegdlglhaaDoorOwnC
import Derived.Deep.DeepCutAuto
import Derived.Deep.RegionHeldLaw
import Derived.Deep.QuietTactic
import Derived.BigQuiet
namespace Go.Proofs.YthomhaegdlglhaaDoor
open Go.RowKit
set_option maxRecDepth 100000

def Sized (L : List Chk) : Prop := ∀ c ∈ L, c.2.length ≤ 140737488355328
theorem Sized.total {L : List Chk} (h : Sized L) : totalD L ≤ L.length * 140737488355328 := by
  induction L with
  | nil => simp [totalD]
  | cons c L ih =>
    have := ih fun x hx => h x (List.mem_cons_of_mem _ hx)
    have := h c List.mem_cons_self
    rw [total_cons, List.length_cons, Nat.add_mul]
    omega
theorem Sized.take {L : List Chk} (h : Sized L) (k : Nat) : Sized (L.take k) := fun c hc => h c (List.mem_of_mem_take hc)

set_option maxHeartbeats 2000000 in
theorem great_few {w : World} {v : Value} {L : List Chk} (h : Chs w v L) (hz : Sized L) (hl : L.length ≤ 100) :
    Calls Tryd.prog 6 #[v] w fun e w' => e = .returned (.bool (decide (300000 < L.length + totalD L))) ∧ Below w.heap.size w w' := by
  have HC : Hid (∀ u : World, Below w.heap.size w u → Chs u v L) := fun u hb => h.below hb
  have HZ : Hid (Sized L) := hz
  obtain ⟨a, cap, rfl, hc1, hc2⟩ := h.slice
  clear h hz
  go_enter Tryd.func6, Tryd.ntmps6
  go_wp2
  go_loopw [3, 10] (fun s i u => ∃ k S : Nat, i = .int .i64 k ∧ k ≤ L.length ∧ s = .int .i64 S ∧ S ≤ 15000000000000000 ∧ Hid (S = L.length + totalD (L.take k)) ∧ Below w.heap.size w u) (fun _ i _ => L.length - (intOf i).toNat)
  case atStart => exact ⟨0, L.length, rfl, by omega, rfl, by omega, by simp [Hid, totalD], Below.refl _ _⟩
  case round =>
    obtain ⟨k, S, rfl, hk, rfl, hS, HS, hb⟩ := hrel
    have hsz := hb.size
    by_cases hlt : k < L.length
    · obtain ⟨a', rfl, hs, da, dc, hd1, hd2, hcs⟩ := chs_at (HC.out w (Below.refl _ _)) hlt
      obtain ⟨c1, c2, _⟩ := hcs wr hb
      have hE : Hid (S + L[k].2.length = L.length + totalD (L.take (k + 1)) ∧ S + L[k].2.length ≤ 15000000000000000) := by
        have h1 := HS.out
        have h2 := total_take L k hlt
        have h3 := (HZ.out.take (k + 1)).total
        have h4 : (L.take (k + 1)).length ≤ 100 := by simp; omega
        have h5 : (L.take (k + 1)).length * 140737488355328 ≤ 100 * 140737488355328 := Nat.mul_le_mul_right _ h4
        exact ⟨by omega, by omega⟩
      have hn : L[k].2.length ≤ 15000000000000000 := by have := hE.out.2; omega
      clear hcs
      generalize L[k].2.length = n at *
      generalize L[k].1 = tag at *
      go_wp2
      go_roundw
      case rel => exact ⟨k + 1, S + n, by go_num, by omega, by go_num, hE.out.2, hE.out.1, hb.alloc hsz _⟩
      case measure => simp [intOf]; omega
    · have hE : Hid (L.length + totalD L = S) := by
        show _ = _
        rw [HS.out, List.take_of_length_le (by omega)]
      by_cases hS3 : 300000 < S
      · have hS3' : (300000 : Int) < (S : Int) := by omega
        have hS4 : decide ((300000 : Int) < (S : Int)) = true := by simpa using hS3'
        go_wp2
        go_ret
        exact ⟨ret_bool (by rw [hE.out]; simp [hS3]), hb⟩
      · have hS3' : ¬ (300000 : Int) < (S : Int) := by omega
        have hS4 : decide ((300000 : Int) < (S : Int)) = false := by simpa using hS3'
        have h100 : ¬ (100 : Int) < (L.length : Int) := by omega
        go_wp2
        go_ret
        exact ⟨ret_bool (by rw [hE.out]; simp; omega), hb⟩

set_option maxHeartbeats 2000000 in
theorem great_many {w : World} {v : Value} {L : List Chk} (h : Chs w v L) (hl : 100 < L.length) (hl2 : L.length ≤ 140737488355328) :
    Calls Tryd.prog 6 #[v] w fun e w' => e = .returned (.bool true) ∧ Below w.heap.size w w' := by
  have HC : Hid (∀ u : World, Below w.heap.size w u → Chs u v L) := fun u hb => h.below hb
  obtain ⟨a, cap, rfl, hc1, hc2⟩ := h.slice
  clear h
  go_enter Tryd.func6, Tryd.ntmps6
  go_wp2
  go_loopw [3, 10] (fun s i u => ∃ (k : Nat) (S : Int), i = .int .i64 k ∧ k ≤ L.length ∧ s = .int .i64 S ∧ Below w.heap.size w u) (fun _ i _ => L.length - (intOf i).toNat)
  case atStart => exact ⟨0, L.length, rfl, by omega, rfl, Below.refl _ _⟩
  case round =>
    obtain ⟨k, S, rfl, hk, rfl, hb⟩ := hrel
    have hsz := hb.size
    by_cases hlt : k < L.length
    · obtain ⟨a', rfl, hs, da, dc, hd1, hd2, hcs⟩ := chs_at (HC.out w (Below.refl _ _)) hlt
      obtain ⟨c1, c2, _⟩ := hcs wr hb
      clear hcs
      generalize L[k].2.length = n at *
      generalize L[k].1 = tag at *
      go_wp2
      go_roundw
      case rel => exact ⟨k + 1, _, by go_num, by omega, rfl, hb.alloc hsz _⟩
      case measure => simp [intOf]; omega
    · have h100 : (100 : Int) < (L.length : Int) := by omega
      by_cases hS3 : (300000 : Int) < S
      · have hS4 : decide ((300000 : Int) < S) = true := by simpa using hS3
        go_wp2
        go_ret
        exact ⟨rfl, hb⟩
      · have hS4 : decide ((300000 : Int) < S) = false := by simpa using hS3
        go_wp2
        go_ret
        exact ⟨rfl, hb⟩

theorem great_any {w : World} {v : Value} {L : List Chk} (h : Chs w v L) (hz : Sized L) (hl : L.length ≤ 140737488355328) :
    Calls Tryd.prog 6 #[v] w fun e w' => ∃ g, e = .returned (.bool g) ∧ Below w.heap.size w w' ∧ (g = false → L.length ≤ 100 ∧ totalD L ≤ 300000) := by
  by_cases h1 : L.length ≤ 100
  · refine (great_few h hz h1).mono ?_
    rintro e w' ⟨rfl, hb⟩
    refine ⟨_, rfl, hb, fun hg => ⟨h1, ?_⟩⟩
    simp at hg; omega
  · refine (great_many h (by omega) hl).mono ?_
    rintro e w' ⟨rfl, hb⟩
    exact ⟨true, rfl, hb, fun hg => by cases hg⟩

set_option maxHeartbeats 4000000 in
theorem plain_any {w : World} {v : Value} {L : List Chk} (h : Chs w v L) (hl : L.length ≤ 100) :
    Calls Tryd.prog 10 #[v] w fun e w' => ∃ v', e = .returned v' ∧ OwnC 55 w.heap.size w' v' L ∧ Below w.heap.size w w' := by
  have HC : Hid (Chs w v L) := h
  obtain ⟨a, cap, rfl, hc1, hc2⟩ := h.slice
  clear h
  go_enter Tryd.func10, Tryd.ntmps10
  go_wp2
  go_loopw [3, 8] (fun b i u => ∃ k : Nat, i = .int .i64 k ∧ k ≤ L.length ∧ Hid (OwnC 55 w.heap.size u b (L.take k)) ∧ Below w.heap.size w u) (fun _ i _ => L.length - (intOf i).toNat)
  case atStart => exact ⟨0, rfl, by omega, OwnC.nil _ _ _, Below.refl _ _⟩
  case round =>
    obtain ⟨k, rfl, hk, hown, hb⟩ := hrel
    have hsz := hb.size
    by_cases hlt : k < L.length
    · obtain ⟨a', rfl, hs, da, dc, hd1, hd2, hcs⟩ := chs_at HC.out hlt
      obtain ⟨c1, c2, _⟩ := hcs wr hb
      have hdat : Bts w (.slice da L[k].2.length dc) L[k].2 := (hcs w (Below.refl _ _)).2.2
      have h1 : w.heap.size ≤ (wr.alloc (.cells #[.string L[k].1, .slice da L[k].2.length dc] 49)).heap.size := by simp; omega
      have hbb : Below w.heap.size w ((wr.alloc (.cells #[.string L[k].1, .slice da L[k].2.length dc] 49)).alloc (.cells #[.string L[k].1, .slice da L[k].2.length dc] 55)) := (hb.alloc hsz _).alloc h1 _
      have hnew : ((wr.alloc (.cells #[.string L[k].1, .slice da L[k].2.length dc] 49)).alloc (.cells #[.string L[k].1, .slice da L[k].2.length dc] 55)).heap[wr.heap.size + 1]? = some (.cells #[.string L[k].1, .slice da L[k].2.length dc] 55) := by
        have := heap_alloc_new (wr.alloc (.cells #[.string L[k].1, .slice da L[k].2.length dc] 49)) (.cells #[.string L[k].1, .slice da L[k].2.length dc] 55)
        simpa using this
      obtain ⟨v2, w2, r2, o2, _, b2⟩ := ownC_app (t := 55) (st := 31) (by decide) Tryd.underlying31 inf55
        ((hown.out.kept hsz fun i hi => Below.heap_alloc wr (.cells #[.string L[k].1, .slice da L[k].2.length dc] 49) i hi).kept h1 fun i hi => Below.heap_alloc _ (.cells #[.string L[k].1, .slice da L[k].2.length dc] 55) i hi)
        (b := wr.heap.size + 1) hnew (data := L[k].2)
        (.inr fun u hu => hdat.kept fun i hi => (hu i hi).trans (hbb.block i hi)) hs (by simp; omega) hbb.size
      have E2 : Hid (OwnC 55 w.heap.size w2 v2 (L.take (k + 1)) ∧ Below w.heap.size w w2) := by
        refine ⟨?_, hbb.trans b2⟩
        rw [List.take_succ_eq_append_getElem hlt]; exact o2
      have R2 : Hid _ := r2
      clear r2 o2 b2 hbb h1 hdat hcs hnew
      generalize L[k].2.length = n at *
      generalize L[k].1 = tag at *
      go_wp2_with (at_builtin; refine wpList_append_run rfl _ _ 31 rfl _ _ _ _ rfl rfl R2.out ?_)
      go_roundw
      case rel => exact ⟨k + 1, by go_num, by omega, E2.out.1, E2.out.2⟩
      case measure => simp [intOf]; omega
    · have hE : Hid (OwnC 55 w.heap.size wr u3 L) := by
        have := hown.out
        rwa [List.take_of_length_le (by omega)] at this
      go_wp2
      go_ret
      exact ⟨_, rfl, hE.out, hb⟩
end Go.Proofs.YthomhaegdlglhaaDoor
