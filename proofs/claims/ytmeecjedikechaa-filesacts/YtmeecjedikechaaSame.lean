/- The contracts of octavoref01.Same, of Create without power, and steps of a region that draws. -/
import Derived.Test.YtmeecjedikechaaLives
namespace Go.Proofs.Ytmeecjedikechaa
open Go.RowKit Go.Maps
open Go.WideMaps

set_option maxHeartbeats 1000000 in
theorem same_yes {w : World} {b : Nat} {x y : Value} {l : List UInt8} (hx : SrcB w b x l) (hy : SrcB w b y l) :
    Calls Try.prog 22 #[x, y] w fun e w' => e = .returned (.bool true) ∧ w' = w := by
  have cx := conv_src hx
  have cy := conv_src hy
  clear hx hy
  go_enter Try.func22, Try.ntmps22
  go_wp2
  go_ret
  exact ⟨by simp, rfl⟩

set_option maxHeartbeats 1000000 in
theorem create_off {w : World} {b bm : Nat} {s : WS} (h : w.heap[b]? = some (blk bm s)) (ho : s.off = true) (nm : ByteArray) :
    Calls Try.prog 15 #[ptrOf b, .string nm] w fun e w' => e = .returned (.int .i64 13) ∧ w' = crW w b nm := by
  have h1 : (crW w b nm).heap[b]? = some (blk bm s) := heap_old (heap_old (heap_old h _) _) _
  have R := fun nv => refusal_off h1 ho nv
  clear h h1 ho
  go_enter Try.func15, Try.ntmps15
  go_wp2_with (go_at_call 43; refine (R _).mono ?_; rintro e w' ⟨rfl, rfl⟩)
  go_ret
  exact ⟨rfl, rfl⟩

/-- An append whose run is known, wanted by its guard, as one step of a region that draws. -/
theorem step_append_wanted {P : Program} {ops : Array Oper} {o : Oper} {a : Act} {w : World} {K : Act → World → Prop} {Q : Exit → Act → World → Prop} {E : Prop}
    (hw : Region.wanted o (yielded ops a.tmps) = true) (s x : Operand) (t : TypeId) (hop : o.op = Op.call { callee := Callee.builtin Builtin.append, args := #[s, x], argTypes := #[t, t] })
    (v bv v' : Value) (w' : World) (hs : a.eval s = v) (hx : a.eval x = bv) (hrun : (Builtin.append_ #[t, t] o.type #[v, bv]).run P w = .ok v' w')
    (hK : K (a.put o.dst v') w') : if Region.wanted o (yielded ops a.tmps) = true then Oper.wp P o a w K Q else E := by
  rw [if_pos hw]
  unfold Oper.wp
  simp [execOp, hop, resolve, invoke, builtin, hs, hx, hrun, Result.andThen]
  exact hK

/-- A call by a contract, wanted by its guard, as one step of a region that draws. -/
theorem step_call_wanted {P : Program} {ops : Array Oper} {o : Oper} {a : Act} {w : World} {K : Act → World → Prop} {Q : Exit → Act → World → Prop} {E : Prop}
    (hw : Region.wanted o (yielded ops a.tmps) = true) (f : FuncId) (xs : Array Operand) (ts : Array TypeId) (hop : o.op = Op.call { callee := Callee.value (Operand.func f), args := xs, argTypes := ts })
    (args : Array Value) (hargs : xs.map a.eval = args) (hE : ∀ (args : Array Value) (w : World), (callFunc f args).run P w = .ok (.enter f args) w) (v : Value) (R : World → Prop)
    (C : Calls P f args w fun e w' => e = .returned v ∧ R w') (hK : ∀ w', R w' → K (a.put o.dst v) w') : if Region.wanted o (yielded ops a.tmps) = true then Oper.wp P o a w K Q else E := by
  rw [if_pos hw]
  unfold Oper.wp
  have h : (execOp a.eval o).run P w = .ok (.enter f args) w := by
    simp [execOp, hop, resolve, invoke, hargs, hE, Deferred.ofValue, Act.eval]
  rw [h]
  refine C.mono ?_
  rintro e w' ⟨rfl, h⟩
  exact hK w' h
theorem enters22 : ∀ (args : Array Value) (w : World), (callFunc 22 args).run Try.prog w = .ok (.enter 22 args) w := enters_of Try.func22 (by kernel_rfl) rfl
theorem enters12 : ∀ (args : Array Value) (w : World), (callFunc 12 args).run Try.prog w = .ok (.enter 12 args) w := enters_of Try.func12 (by kernel_rfl) rfl
end Go.Proofs.Ytmeecjedikechaa
