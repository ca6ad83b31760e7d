/- What the walks of ValueBack share. -/
import Derived.Test.YtelpllilepkjmaaDoorVBackP
import Derived.Test.YtelpllilepkjmaaDoorVDraw
namespace Go.Proofs.YtelpllilepkjmaaDoor
open Go.RowKit
set_option maxRecDepth 100000
set_option linter.unusedVariables false
set_option linter.unusedSimpArgs false
theorem exec_ld3 {ev : Operand → Value} {o : Oper} {x : Operand} (ho : o.op = .load 3 x) {p : Addr} (hx : ev x = .pointer (some p)) {v : Value} {u : World} (h : u.cell? p = some v) : (execOp ev o).run Tryd.prog u = .ok (.value v) u := by
  unfold execOp
  simp only [ho, hx]
  go_simp
theorem exec_ld23 {ev : Operand → Value} {o : Oper} {x : Operand} (ho : o.op = .load 23 x) {g : Nat} (hx : ev x = .pointer (some ⟨g, 0, none⟩)) {a b c : Value} {u : World} (h : u.cell? ⟨g, 0, none⟩ = some a ∧ u.cell? ⟨g, 1, none⟩ = some b ∧ u.cell? ⟨g, 2, none⟩ = some c) : (execOp ev o).run Tryd.prog u = .ok (.value (.agg #[a, b, c])) u := by
  obtain ⟨h0, h1, h2⟩ := h
  unfold execOp
  simp only [ho, hx]
  go_simp
/-- A call behind a world, whatever came between; what it leaves. -/
def RB (W : World) (f : Nat) (args : Array Value) (r : Value) : Prop := ∀ u, Below W.heap.size W u → Calls Tryd.prog f args u fun e w' => e = .returned r ∧ Below u.heap.size u w'
theorem nil_app (s : ByteArray) : (⟨#[]⟩ : ByteArray) ++ s = s := by apply ByteArray.ext; simp
theorem app_nil (s : ByteArray) : s ++ (⟨#[]⟩ : ByteArray) = s := by apply ByteArray.ext; simp
theorem app_assoc (a b c : ByteArray) : a ++ b ++ c = a ++ (b ++ c) := by apply ByteArray.ext; simp
theorem app_size (a b : ByteArray) : (a ++ b).size = a.size + b.size := by simp
end Go.Proofs.YtelpllilepkjmaaDoor
