/- Names of cells in memory: refs and places as values, and what the walks share. -/
import Derived.Test.YtjimgjohfpcnpaaDoorRows
import Derived.Test.YtjimgjohfpcnpaaDoorAPure
import Derived.WalkKit
import Derived.Below
import Derived.Laws.StructEq
import Derived.Laws.RangeAny
import Derived.Lib.SlBytesConst
import Derived.Deep.RegionHeldLaw
import Derived.Deep.QuietTactic
import Derived.BigQuiet
import Derived.LoopTactic
namespace Go.Proofs.YtjimgjohfpcnpaaDoor
open Go.RowKit
set_option maxRecDepth 100000
set_option linter.unusedVariables false
set_option linter.unusedSimpArgs false
/-- A ref as a value. -/
abbrev refV (b s : ByteArray) (r c : Int) (fr fc : Bool) : Value := .agg #[.string b, .string s, .int .i64 r, .int .i64 c, .bool fr, .bool fc]
abbrev ref0 : Value := refV ⟨#[]⟩ ⟨#[]⟩ 0 0 false false
/-- A place as a value. -/
abbrev plcV (b s : ByteArray) (r c : Int) : Value := .agg #[.string b, .string s, .int .i64 r, .int .i64 c]
def In64 (n : Int) : Prop := -9223372036854775808 ≤ n ∧ n ≤ 9223372036854775807
def inB (r c : Int) : Bool := decide (1 ≤ r) && decide (r ≤ 64) && decide (1 ≤ c) && decide (c ≤ 26)
theorem ret_bool {a b : Bool} (h : a = b) : (Ending.returned (.bool a)) = .returned (.bool b) := by rw [h]
theorem run_bytes_row (w : World) (s : ByteArray) : ∃ (c : Nat) (wb : World), (convert 9 52 (.string s)).run Tryd.prog w = .ok (.slice (some ⟨w.heap.size, 0, none⟩) s.size c) wb ∧
    (∀ (k : Nat) (h : k < s.size), wb.cell? ⟨w.heap.size, k, none⟩ = some (.int .u8 (s[k].toNat : Int))) ∧ Below w.heap.size w wb := by
  refine ⟨_, _, run_bytes_of_string w 9 52 5 s Tryd.underlying9 Tryd.underlying52 Tryd.underlying5, fun k h => ?_, ?_⟩
  · have h2 : k < s.data.size := h
    rw [show w.heap.size = w.drew.heap.size from rfl, World.cell?_alloc_mark, bytesRow_at _ _ _ h2]
    rfl
  · exact ((Below.refl w.heap.size w).drew).alloc (Nat.le_refl _) _
set_option maxHeartbeats 1000000 in
theorem letter_any (c : UInt8) (w : World) : Calls Tryd.prog 29 #[.int .u8 (c.toNat : Nat)] w fun e w' => e = .returned (.bool (Ad.isL c)) ∧ w' = w := by
  have hc : c.toNat < 256 := c.toNat_lt
  unfold Ad.isL
  generalize c.toNat = n at *
  go_enter Tryd.func29, Tryd.ntmps29
  go_wp2
  all_goals (go_ret; refine ⟨ret_bool ?_, rfl⟩; rw [Bool.eq_iff_iff]; simp; omega)
set_option maxHeartbeats 1000000 in
theorem rletter_any (c : UInt8) (w : World) : Calls Tryd.prog 33 #[.int .u8 (c.toNat : Nat)] w fun e w' => e = .returned (.bool (Ad.isL c)) ∧ w' = w := by
  have hc : c.toNat < 256 := c.toNat_lt
  unfold Ad.isL
  generalize c.toNat = n at *
  go_enter Tryd.func33, Tryd.ntmps33
  go_wp2
  all_goals (go_ret; refine ⟨ret_bool ?_, rfl⟩; rw [Bool.eq_iff_iff]; simp; omega)
set_option maxHeartbeats 1000000 in
theorem digit_any (c : UInt8) (w : World) : Calls Tryd.prog 58 #[.int .u8 (c.toNat : Nat)] w fun e w' => e = .returned (.bool (Ad.isD c)) ∧ w' = w := by
  have hc : c.toNat < 256 := c.toNat_lt
  unfold Ad.isD
  generalize c.toNat = n at *
  go_enter Tryd.func58, Tryd.ntmps58
  go_wp2
  all_goals (go_ret; refine ⟨ret_bool ?_, rfl⟩; rw [Bool.eq_iff_iff]; simp; omega)
set_option maxHeartbeats 1000000 in
theorem rdigit_any (c : UInt8) (w : World) : Calls Tryd.prog 35 #[.int .u8 (c.toNat : Nat)] w fun e w' => e = .returned (.bool (Ad.isD c)) ∧ w' = w := by
  have hc : c.toNat < 256 := c.toNat_lt
  unfold Ad.isD
  generalize c.toNat = n at *
  go_enter Tryd.func35, Tryd.ntmps35
  go_wp2
  all_goals (go_ret; refine ⟨ret_bool ?_, rfl⟩; rw [Bool.eq_iff_iff]; simp; omega)
set_option maxHeartbeats 1000000 in
theorem in_any (r c : Int) (w : World) : Calls Tryd.prog 32 #[.int .i64 r, .int .i64 c] w fun e w' => e = .returned (.bool (inB r c)) ∧ w' = w := by
  unfold inB
  go_enter Tryd.func32, Tryd.ntmps32
  go_wp2
  all_goals (go_ret; refine ⟨ret_bool ?_, rfl⟩; rw [Bool.eq_iff_iff]; simp; omega)
set_option maxHeartbeats 1000000 in
theorem rin_any (r c : Int) (w : World) : Calls Tryd.prog 36 #[.int .i64 r, .int .i64 c] w fun e w' => e = .returned (.bool (inB r c)) ∧ w' = w := by
  unfold inB
  go_enter Tryd.func36, Tryd.ntmps36
  go_wp2
  all_goals (go_ret; refine ⟨ret_bool ?_, rfl⟩; rw [Bool.eq_iff_iff]; simp; omega)
set_option maxHeartbeats 1000000 in
theorem dollar_any (b : Bool) (w : World) : Calls Tryd.prog 60 #[.bool b] w fun e w' => e = .returned (.string (if b = true then ⟨#[36]⟩ else ⟨#[]⟩)) ∧ w' = w := by
  cases b
  all_goals
    go_enter Tryd.func60, Tryd.ntmps60
    go_wp2
    go_ret
    exact ⟨rfl, rfl⟩
set_option maxHeartbeats 1000000 in
theorem rless_any (b : Bool) (w : World) : Calls Tryd.prog 52 #[.bool b] w fun e w' => e = .returned (.int .i64 (if b = true then -1 else 1)) ∧ w' = w := by
  cases b
  all_goals
    go_enter Tryd.func52, Tryd.ntmps52
    go_wp2
    go_ret
    exact ⟨rfl, rfl⟩
end Go.Proofs.YtjimgjohfpcnpaaDoor
