/- The contract of kindOf: a value as one of the types of its kinds. -/
import Derived.Test.YtelpllilepkjmaaDoorRows
import Derived.Test.YtelpllilepkjmaaDoorNRParse2
import Derived.Test.YtelpllilepkjmaaDoorNRPrint2
import Derived.WalkKit
import Derived.Below
namespace Go.Proofs.YtelpllilepkjmaaDoor
open Go.RowKit
set_option maxRecDepth 100000
set_option linter.unusedVariables false

set_option maxHeartbeats 1000000 in
theorem kind_blank (n : Int) (s : ByteArray) (w : World) : Calls Tryd.prog 35 #[.agg #[.int .i64 0, .int .i64 n, .string s]] w fun e w' => e = .returned (.iface 46 (.agg #[])) ∧ Below w.heap.size w w' := by
  go_enter Tryd.func35, Tryd.ntmps35
  go_wp2
  go_ret
  exact ⟨rfl, (Below.refl _ _).alloc (Nat.le_refl _) _⟩
set_option maxHeartbeats 1000000 in
theorem kind_num (n : Int) (s : ByteArray) (w : World) : Calls Tryd.prog 35 #[.agg #[.int .i64 1, .int .i64 n, .string s]] w fun e w' => e = .returned (.iface 47 (.int .i64 n)) ∧ Below w.heap.size w w' := by
  go_enter Tryd.func35, Tryd.ntmps35
  go_wp2
  go_ret
  exact ⟨rfl, (Below.refl _ _).alloc (Nat.le_refl _) _⟩
set_option maxHeartbeats 1000000 in
theorem kind_str (n : Int) (s : ByteArray) (w : World) : Calls Tryd.prog 35 #[.agg #[.int .i64 2, .int .i64 n, .string s]] w fun e w' => e = .returned (.iface 48 (.string s)) ∧ Below w.heap.size w w' := by
  go_enter Tryd.func35, Tryd.ntmps35
  go_wp2
  go_ret
  exact ⟨rfl, (Below.refl _ _).alloc (Nat.le_refl _) _⟩
set_option maxHeartbeats 1000000 in
theorem kind_bool (n : Int) (s : ByteArray) (w : World) : Calls Tryd.prog 35 #[.agg #[.int .i64 3, .int .i64 n, .string s]] w fun e w' => e = .returned (.iface 51 (.bool (n != 0))) ∧ Below w.heap.size w w' := by
  go_enter Tryd.func35, Tryd.ntmps35
  go_wp2
  go_ret
  exact ⟨rfl, (Below.refl _ _).alloc (Nat.le_refl _) _⟩
set_option maxHeartbeats 1000000 in
theorem kind_bad (n : Int) (s : ByteArray) (w : World) : Calls Tryd.prog 35 #[.agg #[.int .i64 4, .int .i64 n, .string s]] w fun e w' => e = .returned (.iface 53 (.int .i64 n)) ∧ Below w.heap.size w w' := by
  go_enter Tryd.func35, Tryd.ntmps35
  go_wp2
  go_ret
  exact ⟨rfl, (Below.refl _ _).alloc (Nat.le_refl _) _⟩
set_option maxHeartbeats 1000000 in
theorem kind_none (k n : Int) (s : ByteArray) (w : World) (h0 : (k == 0) = false) (h1 : (k == 1) = false) (h2 : (k == 2) = false) (h3 : (k == 3) = false) (h4 : (k == 4) = false) : Calls Tryd.prog 35 #[.agg #[.int .i64 k, .int .i64 n, .string s]] w fun e w' => e = .returned (.iface 76 (.int .i64 n)) ∧ Below w.heap.size w w' := by
  go_enter Tryd.func35, Tryd.ntmps35
  go_wp2
  go_ret
  exact ⟨rfl, (Below.refl _ _).alloc (Nat.le_refl _) _⟩
set_option maxHeartbeats 1000000 in
theorem tcount_any (b : Bool) (w : World) : Calls Tryd.prog 37 #[.bool b] w fun e w' => e = .returned (.int .i64 (if b = true then 1 else 0)) ∧ w' = w := by
  cases b
  all_goals
    go_enter Tryd.func37, Tryd.ntmps37
    go_wp2
    go_ret
    exact ⟨rfl, rfl⟩
def knB (n : Int) : Bool := decide (1 ≤ n) && decide (n ≤ 8)
set_option maxHeartbeats 1000000 in
theorem known_any (n : Int) (w : World) : Calls Tryd.prog 42 #[.int .i64 n] w fun e w' => e = .returned (.bool (knB n)) ∧ w' = w := by
  go_enter Tryd.func42, Tryd.ntmps42
  go_wp2
  all_goals (go_ret; rename_i h; refine ⟨?_, rfl⟩; congr 2; simp [knB]; try omega)
/-! What a value of one kind tells when it is asked for another. -/
theorem ta_46_46 (W : World) (v : Value) : (Instr.typeAssert (.iface 46 v) 20 46 true).run Tryd.prog W = .ok (.tuple #[v, .bool true]) W := by kernel_rfl
theorem ta_46_47 (W : World) (v : Value) : (Instr.typeAssert (.iface 46 v) 20 47 true).run Tryd.prog W = .ok (.tuple #[.int .i64 0, .bool false]) W := by kernel_rfl
theorem ta_46_48 (W : World) (v : Value) : (Instr.typeAssert (.iface 46 v) 20 48 true).run Tryd.prog W = .ok (.tuple #[.string ByteArray.empty, .bool false]) W := by kernel_rfl
theorem ta_46_51 (W : World) (v : Value) : (Instr.typeAssert (.iface 46 v) 20 51 true).run Tryd.prog W = .ok (.tuple #[.bool false, .bool false]) W := by kernel_rfl
theorem ta_46_53 (W : World) (v : Value) : (Instr.typeAssert (.iface 46 v) 20 53 true).run Tryd.prog W = .ok (.tuple #[.int .i64 0, .bool false]) W := by kernel_rfl
theorem ta_46_76 (W : World) (v : Value) : (Instr.typeAssert (.iface 46 v) 20 76 true).run Tryd.prog W = .ok (.tuple #[.int .i64 0, .bool false]) W := by kernel_rfl
theorem ta_47_46 (W : World) (v : Value) : (Instr.typeAssert (.iface 47 v) 20 46 true).run Tryd.prog W = .ok (.tuple #[.agg #[], .bool false]) W := by kernel_rfl
theorem ta_47_47 (W : World) (v : Value) : (Instr.typeAssert (.iface 47 v) 20 47 true).run Tryd.prog W = .ok (.tuple #[v, .bool true]) W := by kernel_rfl
theorem ta_47_48 (W : World) (v : Value) : (Instr.typeAssert (.iface 47 v) 20 48 true).run Tryd.prog W = .ok (.tuple #[.string ByteArray.empty, .bool false]) W := by kernel_rfl
theorem ta_47_51 (W : World) (v : Value) : (Instr.typeAssert (.iface 47 v) 20 51 true).run Tryd.prog W = .ok (.tuple #[.bool false, .bool false]) W := by kernel_rfl
theorem ta_47_53 (W : World) (v : Value) : (Instr.typeAssert (.iface 47 v) 20 53 true).run Tryd.prog W = .ok (.tuple #[.int .i64 0, .bool false]) W := by kernel_rfl
theorem ta_47_76 (W : World) (v : Value) : (Instr.typeAssert (.iface 47 v) 20 76 true).run Tryd.prog W = .ok (.tuple #[.int .i64 0, .bool false]) W := by kernel_rfl
theorem ta_48_46 (W : World) (v : Value) : (Instr.typeAssert (.iface 48 v) 20 46 true).run Tryd.prog W = .ok (.tuple #[.agg #[], .bool false]) W := by kernel_rfl
theorem ta_48_47 (W : World) (v : Value) : (Instr.typeAssert (.iface 48 v) 20 47 true).run Tryd.prog W = .ok (.tuple #[.int .i64 0, .bool false]) W := by kernel_rfl
theorem ta_48_48 (W : World) (v : Value) : (Instr.typeAssert (.iface 48 v) 20 48 true).run Tryd.prog W = .ok (.tuple #[v, .bool true]) W := by kernel_rfl
theorem ta_48_51 (W : World) (v : Value) : (Instr.typeAssert (.iface 48 v) 20 51 true).run Tryd.prog W = .ok (.tuple #[.bool false, .bool false]) W := by kernel_rfl
theorem ta_48_53 (W : World) (v : Value) : (Instr.typeAssert (.iface 48 v) 20 53 true).run Tryd.prog W = .ok (.tuple #[.int .i64 0, .bool false]) W := by kernel_rfl
theorem ta_48_76 (W : World) (v : Value) : (Instr.typeAssert (.iface 48 v) 20 76 true).run Tryd.prog W = .ok (.tuple #[.int .i64 0, .bool false]) W := by kernel_rfl
theorem ta_51_46 (W : World) (v : Value) : (Instr.typeAssert (.iface 51 v) 20 46 true).run Tryd.prog W = .ok (.tuple #[.agg #[], .bool false]) W := by kernel_rfl
theorem ta_51_47 (W : World) (v : Value) : (Instr.typeAssert (.iface 51 v) 20 47 true).run Tryd.prog W = .ok (.tuple #[.int .i64 0, .bool false]) W := by kernel_rfl
theorem ta_51_48 (W : World) (v : Value) : (Instr.typeAssert (.iface 51 v) 20 48 true).run Tryd.prog W = .ok (.tuple #[.string ByteArray.empty, .bool false]) W := by kernel_rfl
theorem ta_51_51 (W : World) (v : Value) : (Instr.typeAssert (.iface 51 v) 20 51 true).run Tryd.prog W = .ok (.tuple #[v, .bool true]) W := by kernel_rfl
theorem ta_51_53 (W : World) (v : Value) : (Instr.typeAssert (.iface 51 v) 20 53 true).run Tryd.prog W = .ok (.tuple #[.int .i64 0, .bool false]) W := by kernel_rfl
theorem ta_51_76 (W : World) (v : Value) : (Instr.typeAssert (.iface 51 v) 20 76 true).run Tryd.prog W = .ok (.tuple #[.int .i64 0, .bool false]) W := by kernel_rfl
theorem ta_53_46 (W : World) (v : Value) : (Instr.typeAssert (.iface 53 v) 20 46 true).run Tryd.prog W = .ok (.tuple #[.agg #[], .bool false]) W := by kernel_rfl
theorem ta_53_47 (W : World) (v : Value) : (Instr.typeAssert (.iface 53 v) 20 47 true).run Tryd.prog W = .ok (.tuple #[.int .i64 0, .bool false]) W := by kernel_rfl
theorem ta_53_48 (W : World) (v : Value) : (Instr.typeAssert (.iface 53 v) 20 48 true).run Tryd.prog W = .ok (.tuple #[.string ByteArray.empty, .bool false]) W := by kernel_rfl
theorem ta_53_51 (W : World) (v : Value) : (Instr.typeAssert (.iface 53 v) 20 51 true).run Tryd.prog W = .ok (.tuple #[.bool false, .bool false]) W := by kernel_rfl
theorem ta_53_53 (W : World) (v : Value) : (Instr.typeAssert (.iface 53 v) 20 53 true).run Tryd.prog W = .ok (.tuple #[v, .bool true]) W := by kernel_rfl
theorem ta_53_76 (W : World) (v : Value) : (Instr.typeAssert (.iface 53 v) 20 76 true).run Tryd.prog W = .ok (.tuple #[.int .i64 0, .bool false]) W := by kernel_rfl
theorem ta_76_46 (W : World) (v : Value) : (Instr.typeAssert (.iface 76 v) 20 46 true).run Tryd.prog W = .ok (.tuple #[.agg #[], .bool false]) W := by kernel_rfl
theorem ta_76_47 (W : World) (v : Value) : (Instr.typeAssert (.iface 76 v) 20 47 true).run Tryd.prog W = .ok (.tuple #[.int .i64 0, .bool false]) W := by kernel_rfl
theorem ta_76_48 (W : World) (v : Value) : (Instr.typeAssert (.iface 76 v) 20 48 true).run Tryd.prog W = .ok (.tuple #[.string ByteArray.empty, .bool false]) W := by kernel_rfl
theorem ta_76_51 (W : World) (v : Value) : (Instr.typeAssert (.iface 76 v) 20 51 true).run Tryd.prog W = .ok (.tuple #[.bool false, .bool false]) W := by kernel_rfl
theorem ta_76_53 (W : World) (v : Value) : (Instr.typeAssert (.iface 76 v) 20 53 true).run Tryd.prog W = .ok (.tuple #[.int .i64 0, .bool false]) W := by kernel_rfl
theorem ta_76_76 (W : World) (v : Value) : (Instr.typeAssert (.iface 76 v) 20 76 true).run Tryd.prog W = .ok (.tuple #[v, .bool true]) W := by kernel_rfl
end Go.Proofs.YtelpllilepkjmaaDoor
