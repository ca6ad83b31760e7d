/- How far the reference has followed a journal; no walk. -/
import Derived.Test.YtcheikpmhdliiaaDoorRsPure
import Derived.Test.YtcheikpmhdliiaaDoorJScan
namespace Go.Proofs.YtcheikpmhdliiaaDoor
open Go.RowKit

def FolR (w : World) (lb : Nat) (l : List UInt8) (n0 : Nat) (wr : World) (gv : Value) (gs : List (List OpT)) (good : Nat) : Prop :=
  wr.heap[w.heap.size]? = some (.cells logZ 40) ∧ wr.heap[lb]? = some (.cells #[gv, .int .i64 (good : Int), .bool true] 40) ∧
  OwnGp (lb + 1) (lb + 1) wr gv gs ∧ (∀ g ∈ gs, ∀ o ∈ g, o.Ok) ∧ Below w.heap.size w wr ∧ (w.heap.size < lb ∧ lb + 1 ≤ wr.heap.size) ∧ n0 ≤ good ∧ good ≤ l.length ∧ n0 + 8 * gs.length ≤ good ∧
  followF (l.length + 1) (l.drop n0) 0 = (gs ++ (followF (l.length + 1 - gs.length) (l.drop good) gs.length).1, (good - n0) + (followF (l.length + 1 - gs.length) (l.drop good) gs.length).2)
theorem FolR.good {w : World} {lb : Nat} {l : List UInt8} {n0 : Nat} {wr : World} {gv : Value} {gs : List (List OpT)} {good : Nat} (h : FolR w lb l n0 wr gv gs good) : goodOf lb wr = good := by
  unfold goodOf
  rw [cell_heap h.2.1 rfl]
  simp [intOf]
/-- Behind the append: one group more, its bytes not yet counted. -/
theorem FolR.step {w : World} {lb : Nat} {l : List UInt8} {n0 : Nat} {wr w1 : World} {gv : Value} {gs : List (List OpT)} {good : Nat} (h : FolR w lb l n0 wr gv gs good) (hl : l.length ≤ 1000000000) {L : List OpT} {n : Nat} {lv : Value}
    (hx : nextJ (l.drop good) gs.length = some (L, n)) (ok : ∀ o ∈ L, o.Ok) (ol : OwnOl wr.heap.size w1 lv L) (b1 : Below wr.heap.size wr w1) :
    ∃ v3 w3, Hid ((Builtin.append_ #[36, 36] 36 #[gv, .slice (some ⟨w1.heap.size, 0, none⟩) 1 1]).run Tryd.prog (w1.alloc (.cells #[lv] 22)) = .ok v3 w3) ∧
      w3.cell? ⟨lb, 0, none⟩ = some gv ∧ w3.frozen? ⟨lb, 0, none⟩ = false ∧ w3.cell? ⟨lb, 1, none⟩ = some (.int .i64 (good : Int)) ∧ w3.frozen? ⟨lb, 1, none⟩ = false ∧ w3.cell? ⟨lb, 2, none⟩ = some (.bool true) ∧
      Hid (FolR w lb l n0 ((w3.setCell ⟨lb, 0, none⟩ v3).setCell ⟨lb, 1, none⟩ (.int .i64 ((good : Int) + (n : Int)))) v3 (gs ++ [L]) (good + n)) ∧ good + n ≤ l.length ∧ 8 ≤ n ∧ ∃ a3 n3 c3, v3 = .slice a3 n3 c3 := by
  obtain ⟨h1, h2, h3, h4, h5, h6, h7, h8, h9, h10⟩ := h
  obtain ⟨hn8, hnl⟩ := nextJ_bound hx
  rw [List.length_drop] at hnl
  have hgl : gs.length < 1000000000 := by omega
  have o1 : OwnGp (lb + 1) (lb + 1) w1 gv gs := h3.kept b1.block b1.size
  have op1 : Opl wr.heap.size w1.heap.size w1 lv L := ol.opl
  obtain ⟨v3, w3, r3, g3, bb3, gr3⟩ := own_gp o1 (Nat.le_trans h6.2 b1.size) op1 h6.2 (by simp) (fun b hb => by have := (h3.lt hb).2; omega) (by omega)
  have k0 : w3.heap[w.heap.size]? = some (.cells logZ 40) := (bb3.block _ (by omega)).trans ((b1.block _ (by omega)).trans h1)
  have k1 : w3.heap[lb]? = some (.cells #[gv, .int .i64 (good : Int), .bool true] 40 (0, 0)) := (bb3.block _ (by omega)).trans ((b1.block _ (by omega)).trans h2)
  have hsz3 : lb + 1 ≤ w3.heap.size := by have := bb3.size; have := b1.size; omega
  have hB3 : Below w.heap.size w w3 := h5.trans ((b1.mono (by omega)).trans (bb3.mono (by omega)))
  refine ⟨v3, w3, r3, cell_heap k1 rfl, cell_frozen k1 _, cell_heap k1 rfl, cell_frozen k1 _, cell_heap k1 rfl, ⟨?_, ?_, ?_, ?_, ?_, ⟨h6.1, ?_⟩, by omega, by omega, by simp; omega, ?_⟩, by omega, hn8, ?_⟩
  · rw [Below.heap_setCell _ _ _ _ (by simp; omega), Below.heap_setCell _ _ _ _ (by simp; omega)]
    exact k0
  · rw [set_heap (set_heap k1 0 v3) 1 _, ← Int.natCast_add]
    rfl
  · refine g3.kept2 (fun i hi _ => ?_) (by simp [World.setCell])
    rw [Below.heap_setCell _ _ _ _ (by simp; omega), Below.heap_setCell _ _ _ _ (by simp; omega)]
  · intro g hg
    rcases List.mem_append.1 hg with hg | hg
    · exact h4 g hg
    · rw [List.mem_singleton.1 hg]; exact ok
  · exact (hB3.setCell (by simp; omega) _).setCell (by simp; omega) _
  · simpa [World.setCell] using hsz3
  · rw [h10]
    obtain ⟨f, hf⟩ : ∃ f, l.length + 1 - gs.length = f + 1 := ⟨l.length - gs.length, by omega⟩
    have e2 : l.length + 1 - (gs ++ [L]).length = f := by simp; omega
    rw [hf, followF_go hx, e2, List.drop_drop, List.length_append, List.length_singleton]
    simp only [List.append_assoc, List.singleton_append, Prod.mk.injEq, true_and]
    omega
  · obtain ⟨a3, c3, e3, _, _⟩ := g3.gps.slice
    exact ⟨a3, _, c3, e3⟩
theorem FolR.stop {w : World} {lb : Nat} {l : List UInt8} {n0 : Nat} {wr : World} {gv : Value} {gs : List (List OpT)} {good : Nat} (h : FolR w lb l n0 wr gv gs good) (hx : nextJ (l.drop good) gs.length = none) : followJ l n0 = ⟨gs, good, true⟩ := by
  obtain ⟨_, _, _, _, _, _, h7, h8, h9, h10⟩ := h
  obtain ⟨f, hf⟩ : ∃ f, l.length + 1 - gs.length = f + 1 := ⟨l.length - gs.length, by omega⟩
  rw [hf, followF_stop hx] at h10
  unfold followJ
  rw [h10]
  simp
  omega
/-- Where it ends: the log is stored and answered. -/
theorem FolR.ends {w : World} {lb : Nat} {l : List UInt8} {n0 : Nat} {wr w1 : World} {ga : Option Addr} {gc : Nat} {gs : List (List OpT)} {good : Nat} (h : FolR w lb l n0 wr (.slice ga gs.length gc) gs good) (hb : Below wr.heap.size wr w1) :
    w1.cell? ⟨lb, 0, none⟩ = some (.slice ga gs.length gc) ∧ w1.cell? ⟨lb, 1, none⟩ = some (.int .i64 (good : Int)) ∧ w1.cell? ⟨lb, 2, none⟩ = some (.bool true) ∧
    ∃ wz, Hid ((Instr.storeAt 40 (.pointer (some ⟨w.heap.size, 0, none⟩)) (.agg #[.slice ga gs.length gc, .int .i64 (good : Int), .bool true])).run Tryd.prog w1 = .ok () wz) ∧
      Hid (wz.heap[w.heap.size]? = some (.cells #[.slice ga gs.length gc, .int .i64 (good : Int), .bool true] 40 (0, 0))) ∧
      Hid (nextJ (l.drop good) gs.length = none → LgJ w (followJ l n0) (.returned (.agg #[.slice ga gs.length gc, .int .i64 (good : Int), .bool true])) wz) := by
  have hst := fun hx => FolR.stop h hx
  obtain ⟨h1, h2, h3, h4, h5, h6, _⟩ := h
  have k1 : w1.heap[lb]? = some (.cells #[.slice ga gs.length gc, .int .i64 (good : Int), .bool true] 40 (0, 0)) := (hb.block _ (by omega)).trans h2
  have k0 : w1.heap[w.heap.size]? = some (.cells logZ 40 (0, 0)) := (hb.block _ (by omega)).trans h1
  have hr := run_storeVar_row (P := Tryd.prog) w1 w.heap.size 40 40 logZ #[.slice ga gs.length gc, .int .i64 (good : Int), .bool true] k0 (by kernel_rfl) rfl (by simp [Value.oneCell'])
  refine ⟨cell_heap k1 rfl, cell_heap k1 rfl, cell_heap k1 rfl, w1.setRow w.heap.size #[.slice ga gs.length gc, .int .i64 (good : Int), .bool true], ?_, setRow_heap _ _ _ _ _ _ k0, fun hx => ?_⟩
  · show _ = _
    simp only [Instr.storeAt, Instr.sureAddr, Sem.run_bind, Sem.run_pure, Result.andThen_ok, hr]
  · rw [hst hx]
    refine ⟨ga, gc, rfl, ?_, h4, ?_⟩
    · have o1 : OwnGp (lb + 1) (lb + 1) w1 (.slice ga gs.length gc) gs := h3.kept hb.block hb.size
      have o2 : OwnGp (lb + 1) (lb + 1) (w1.setRow w.heap.size #[.slice ga gs.length gc, .int .i64 (good : Int), .bool true]) (.slice ga gs.length gc) gs := o1.kept2 (fun i hi _ => setRow_other (by omega)) (by simp [World.setRow])
      exact o2.gps2.mono (by omega) (Nat.le_refl _)
    · exact setRow_below (h5.trans (hb.mono (by omega))) (Nat.le_refl _)
end Go.Proofs.YtcheikpmhdliiaaDoor
