/- The contracts of both Good, of fresh, of both Id, and of Same. -/
import Derived.Test.YthomhaegdlglhaaDoorChunks
import Derived.Test.YthomhaegdlglhaaDoorRefSum
import Derived.WalkLawsBesides
import Derived.WalkSpells
namespace Go.Proofs.YthomhaegdlglhaaDoor
open Go.RowKit
set_option maxRecDepth 100000

def okByte (c : UInt8) : Bool := decide (65 ≤ c.toNat ∧ c.toNat ≤ 90)
theorem goodT_eq (s : ByteArray) : goodT s = (s.data.toList.all okByte && decide (s.size = 4)) := rfl
theorem take_snoc (s : ByteArray) (k : Nat) (h : k < s.size) : s.data.toList.take (k + 1) = s.data.toList.take k ++ [s[k]] := by
  rw [List.take_succ_eq_append_getElem (by simpa using h)]; rfl
theorem all_bad (s : ByteArray) (k : Nat) (h : k < s.size) (hb : okByte s[k] = false) : s.data.toList.all okByte = false := by
  rw [List.all_eq_false]
  refine ⟨s[k], ?_, by simp [hb]⟩
  have : s[k] = s.data.toList[k]'(by simpa using h) := by simp [ByteArray.getElem_eq_getElem_data]
  rw [this]; exact List.getElem_mem _
theorem all_snoc (s : ByteArray) (k : Nat) (h : k < s.size) (ha : (s.data.toList.take k).all okByte = true) (hb : okByte s[k] = true) : (s.data.toList.take (k + 1)).all okByte = true := by
  rw [take_snoc s k h, List.all_append, ha]; simp [hb]
theorem ret_bool {a b : Bool} (h : a = b) : Ending.returned (.bool a) = .returned (.bool b) := by rw [h]
theorem good_bad {s : ByteArray} (k : Nat) (h : k < s.size) (hb : (s[k].toNat : Int) < 65 ∨ 90 < (s[k].toNat : Int)) : goodT s = false := by
  have := all_bad s k h (by simp [okByte]; omega)
  rw [goodT_eq, this]; rfl
theorem good_all {s : ByteArray} (k : Nat) (hk : s.size ≤ k) (ha : (s.data.toList.take k).all okByte = true) : goodT s = decide ((s.size : Int) = 4) := by
  rw [List.take_of_length_le (by simpa using hk)] at ha
  rw [goodT_eq, ha]
  simp; omega

set_option maxHeartbeats 400000 in
theorem good_any (s : ByteArray) (w : World) (hs : s.size ≤ maxLen) :
    Calls Tryd.prog 14 #[.string s] w fun e w' => e = .returned (.bool (goodT s)) ∧ w' = w := by
  unfold maxLen at hs
  go_enter Tryd.func14, Tryd.ntmps14
  go_wp2
  go_loop [6] (fun i => ∃ k : Nat, k ≤ s.size ∧ i = .int .i64 k ∧ Hid ((s.data.toList.take k).all okByte = true)) (fun i => s.size - (intOf i).toNat)
  case atStart => exact ⟨0, Nat.zero_le _, rfl, by simp [Hid]⟩
  case round =>
    obtain ⟨k, hk, rfl, ha⟩ := hrel
    by_cases hlt : k < s.size
    · by_cases hb1 : (s[k].toNat : Int) < 65
      · have HG : Hid (goodT s = false) := good_bad k hlt (Or.inl hb1)
        go_wp2
        go_ret
        exact ⟨ret_bool HG.out.symm, rfl⟩
      · by_cases hb2 : 90 < (s[k].toNat : Int)
        · have HG : Hid (goodT s = false) := good_bad k hlt (Or.inr hb2)
          go_wp2
          go_ret
          exact ⟨ret_bool HG.out.symm, rfl⟩
        · have ha' : Hid ((s.data.toList.take (k + 1)).all okByte = true) := all_snoc s k hlt ha.out (by simp [okByte]; omega)
          go_wp2
          go_round
          case rel => exact ⟨k + 1, by omega, by go_num, ha'⟩
          case measure => simp [intOf]; omega
    · have HG : Hid (goodT s = decide ((s.size : Int) = 4)) := good_all k (by omega) ha.out
      go_wp2
      go_ret
      exact ⟨ret_bool HG.out.symm, rfl⟩

set_option maxHeartbeats 400000 in
theorem refGood_any (s : ByteArray) (w : World) (hs : s.size ≤ maxLen) :
    Calls Tryd.prog 15 #[.string s] w fun e w' => e = .returned (.bool (goodT s)) ∧ w' = w := by
  unfold maxLen at hs
  go_enter Tryd.func15, Tryd.ntmps15
  go_wp2
  go_loop [3] (fun i => ∃ k : Nat, k ≤ s.size ∧ i = .int .i64 k ∧ Hid ((s.data.toList.take k).all okByte = true)) (fun i => s.size - (intOf i).toNat)
  case atStart => exact ⟨0, Nat.zero_le _, rfl, by simp [Hid]⟩
  case round =>
    obtain ⟨k, hk, rfl, ha⟩ := hrel
    by_cases hlt : k < s.size
    · by_cases hb1 : (s[k].toNat : Int) < 65
      · have HG : Hid (goodT s = false) := good_bad k hlt (Or.inl hb1)
        go_wp2
        go_ret
        exact ⟨ret_bool HG.out.symm, rfl⟩
      · by_cases hb2 : 90 < (s[k].toNat : Int)
        · have HG : Hid (goodT s = false) := good_bad k hlt (Or.inr hb2)
          go_wp2
          go_ret
          exact ⟨ret_bool HG.out.symm, rfl⟩
        · have ha' : Hid ((s.data.toList.take (k + 1)).all okByte = true) := all_snoc s k hlt ha.out (by simp [okByte]; omega)
          go_wp2
          go_round
          case rel => exact ⟨k + 1, by omega, by go_num, ha'⟩
          case measure => simp [intOf]; omega
    · have HG : Hid (goodT s = decide ((s.size : Int) = 4)) := good_all k (by omega) ha.out
      go_wp2
      go_ret
      exact ⟨ret_bool HG.out.symm, rfl⟩

set_option maxHeartbeats 1000000 in
/-- The same bytes in memory of their own. -/
theorem fresh_any {w : World} {v : Value} {l : List UInt8} (h : Bts w v l) (hl : l.length ≤ 140737488355328) :
    Calls Tryd.prog 28 #[v] w fun e w' => ∃ v', e = .returned v' ∧ Apd w.heap.size w (.slice none 0 0) w' v' l := by
  obtain ⟨v', w', hrun, ha⟩ := own_app 25 (Own.nil w w.heap.size) h (by simpa using hl) (Nat.le_refl _)
  have HR : Hid _ := hrun
  have HA : Hid _ := ha
  clear hrun ha h hl
  go_enter Tryd.func28, Tryd.ntmps28
  go_wp2_with (at_builtin; refine wpList_append_run rfl _ _ 25 rfl _ _ _ _ rfl rfl HR.out ?_)
  go_ret
  exact ⟨v', rfl, by simpa using HA.out⟩

theorem id_any {w : World} {v : Value} {l : List UInt8} (h : Bts w v l) (T : Tab w) : Calls Tryd.prog 16 #[v] w fun e w' => e = .returned (.int .i64 (sumB l)) ∧ w' = w := by
  have C := sum_any h T
  have hs := sumB_lt l
  generalize sumB l = s at *
  go_enter Tryd.func16, Tryd.ntmps16
  go_wp2_with (go_at_call 29; refine C.mono ?_; rintro e w' ⟨rfl, hw⟩; obtain rfl := hw.symm; clear hw)
  go_ret
  exact ⟨rfl, rfl⟩
theorem refId_any {w : World} {v : Value} {l : List UInt8} (h : Bts w v l) : Calls Tryd.prog 17 #[v] w fun e w' => e = .returned (.int .i64 (sumB l)) ∧ w' = w := by
  have C := refSum_any h
  have hs := sumB_lt l
  generalize sumB l = s at *
  go_enter Tryd.func17, Tryd.ntmps17
  go_wp2_with (go_at_call 26; refine C.mono ?_; rintro e w' ⟨rfl, hw⟩; obtain rfl := hw.symm; clear hw)
  go_ret
  exact ⟨rfl, rfl⟩

theorem ofNat_toNat_map (l : List UInt8) : ((l.map fun b => (b.toNat : Int)).map fun n => UInt8.ofNat n.toNat) = l := by
  induction l with
  | nil => rfl
  | cons x r ih => simp only [List.map_cons, ih]; simp
theorem conv_bts {w : World} {bv : Value} {l : List UInt8} (hs : Bts w bv l) : (convert 25 9 bv).run Tryd.prog w = .ok (.string ⟨l.toArray⟩) w := by
  rcases hs with ⟨rfl, rfl⟩ | ⟨a, cap, rfl, _, _, hc⟩
  · exact run_convert_bytes_nil w 25 5 Tryd.underlying25 Tryd.underlying5 0 0 9 Tryd.underlying9
  · have hl : (loadCells a l.length).run Tryd.prog w = .ok ((l.map fun b => (b.toNat : Int)).map (Value.int .u8)).toArray w := by
      have e : (l.map fun b => (b.toNat : Int)).map (Value.int .u8) = bcells l := by simp [bcells]
      rw [e]
      have := run_loadCells_list (P := Tryd.prog) w a (bcells l) hc
      rw [bcells_length] at this
      exact this
    rw [run_convert_bytes_string w 25 9 5 _ l.length cap Tryd.underlying25 Tryd.underlying5 Tryd.underlying9, run_bytesToString w _ l.length cap _ hl, foldl_push_bytes, ofNat_toNat_map]
    simp [ByteArray.empty, ByteArray.emptyWithCapacity]
    rfl

set_option maxHeartbeats 1000000 in
theorem same_yes {w : World} {x y : Value} {l : List UInt8} (hx : Bts w x l) (hy : Bts w y l) :
    Calls Tryd.prog 13 #[x, y] w fun e w' => e = .returned (.bool true) ∧ w' = w := by
  have cx := conv_bts hx
  have cy := conv_bts hy
  clear hx hy
  go_enter Tryd.func13, Tryd.ntmps13
  go_wp2
  go_ret
  exact ⟨by simp, rfl⟩
end Go.Proofs.YthomhaegdlglhaaDoor
