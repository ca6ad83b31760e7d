/- A map of numbers: what is asked of it, what is put into it. -/
import Derived.Test.YtbbcnjagndfmbaaXMem
import Derived.Maps.OwnOps
import Derived.Maps.OwnSet
namespace Go.Proofs.Ytbbcnjagndfmbaa
open Go.RowKit Go.Dp
open Go.Maps Go.ChangeShapes Go.WideShapes Go.MapKept
open Go.ChangeMaps (setBlock heap_setBlock_same heap_setBlock_other modify_eq_set)
set_option maxRecDepth 100000
set_option linter.unusedVariables false
set_option linter.unusedSimpArgs false
theorem mlaw : Keyed Try.prog 3 := int_keyed Try.underlying3
theorem mkey (x : Nat) (hx : x < 4294967296) : keyOf Try.prog 3 (.int .i64 (x : Nat)) = some (.int .i64 (x : Nat)) :=
  keyOf_int_mk Try.underlying3 (by have h1 : IntKind.i64.min = -9223372036854775808 := rfl; have h2 : IntKind.i64.max = 9223372036854775807 := rfl; simp only [Lit.wf, Bool.and_eq_true, decide_eq_true_eq]; omega)
/-- Block b is a map: of x it holds what sn says; cnt of them. -/
def MapR (w : World) (b : Nat) (sn : Nat → Option Nat) (cnt : Nat) : Prop :=
  ∃ es clock, w.heap[b]? = some (.map es clock) ∧ es.size = cnt ∧ (∀ e ∈ es.toList, ∃ x v : Nat, e.key = .int .i64 (x : Nat) ∧ e.val = .int .i64 (v : Nat) ∧ x < 4294967296 ∧ sn x = some v) ∧
    (es.toList.map (·.key)).Nodup ∧ ∀ x v, sn x = some v → ∃ e ∈ es.toList, e.key = .int .i64 (x : Nat)
theorem MapR.of_block {w w' : World} {b : Nat} {sn : Nat → Option Nat} {cnt : Nat} (h : MapR w b sn cnt) (hb : w'.heap[b]? = w.heap[b]?) : MapR w' b sn cnt := by
  obtain ⟨es, clock, h1, h2⟩ := h
  exact ⟨es, clock, hb.trans h1, h2⟩
theorem MapR.lt {w : World} {b : Nat} {sn : Nat → Option Nat} {cnt : Nat} (h : MapR w b sn cnt) : b < w.heap.size := by
  obtain ⟨es, clock, h1, _⟩ := h
  exact (Array.getElem?_eq_some_iff.1 h1).1
theorem MapR.begin (w : World) : MapR (w.alloc (.map #[] 0)) w.heap.size (fun _ => none) 0 :=
  ⟨#[], 0, heap_alloc_new w _, rfl, by simp, by simp, by simp⟩
theorem MapR.len {w : World} {b : Nat} {sn : Nat → Option Nat} {cnt : Nat} (h : MapR w b sn cnt) (ty : TypeId) : (Builtin.len_ #[44] ty #[.map (some b)]).run Try.prog w = .ok (.int .i64 (cnt : Nat)) w := by
  obtain ⟨es, clock, h1, rfl, _⟩ := h
  simp [Builtin.len_, run_underlying Try.underlying44, MapKept.run_getObj_map h1, Result.andThen, goInt]
theorem MapR.find {w : World} {b : Nat} {sn : Nat → Option Nat} {cnt : Nat} (h : MapR w b sn cnt) (x : Nat) (hx : x < 4294967296) :
    ∃ es clock, w.heap[b]? = some (.map es clock) ∧ ((sn x = none ∧ (Instr.findKey 3 (.int .i64 (x : Nat)) es.toList).run Try.prog w = .ok none w ∧ ∀ e ∈ es.toList, e.key ≠ .int .i64 (x : Nat)) ∨
      ∃ j e v, sn x = some v ∧ (Instr.findKey 3 (.int .i64 (x : Nat)) es.toList).run Try.prog w = .ok (some (j, .int .i64 (v : Nat))) w ∧ es.toList[j]? = some e ∧ e.key = .int .i64 (x : Nat)) := by
  obtain ⟨es, clock, h1, h2, h3, h4, h5⟩ := h
  refine ⟨es, clock, h1, ?_⟩
  rcases mlaw.find w (mkey x hx) es.toList (fun e he => by obtain ⟨y, v, e1, _, hy, _⟩ := h3 e he; exact ⟨_, by rw [e1]; exact mkey y hy⟩) with ⟨f1, f2⟩ | ⟨j, e, f1, f2, f3⟩
  · left
    refine ⟨?_, f1, f2⟩
    cases c : sn x with
    | none => rfl
    | some v =>
      obtain ⟨e, he, e1⟩ := h5 x v c
      exact absurd e1 (f2 e he)
  · right
    obtain ⟨y, v, e1, e2, hy, e3⟩ := h3 e (List.mem_of_getElem? f2)
    rw [f3] at e1
    have : y = x := by
      simp only [Value.int.injEq, true_and] at e1
      omega
    subst this
    exact ⟨j, e, v, e3, by rw [f1, e2], f2, f3⟩
theorem MapR.look {w : World} {b : Nat} {sn : Nat → Option Nat} {cnt : Nat} (h : MapR w b sn cnt) (x : Nat) (hx : x < 4294967296) :
    (Instr.lookup 44 (.map (some b)) (.int .i64 (x : Nat)) true).run Try.prog w = .ok (.tuple #[.int .i64 (((sn x).getD 0 : Nat) : Int), .bool (sn x).isSome]) w := by
  obtain ⟨es, clock, h1, ⟨e, f1, _⟩ | ⟨j, e0, v, e, f1, _⟩⟩ := h.find x hx
  · rw [e]
    simp [Instr.lookup, run_underlying Try.underlying44, MapKept.run_getObj_map h1, mlaw.check w _ (mkey x hx), f1, Try.zeroValue3 w, Result.andThen]
  · rw [e]
    simp [Instr.lookup, run_underlying Try.underlying44, MapKept.run_getObj_map h1, mlaw.check w _ (mkey x hx), f1, Result.andThen]
theorem MapR.put {w : World} {b : Nat} {sn : Nat → Option Nat} {cnt : Nat} (h : MapR w b sn cnt) (x v : Nat) (hx : x < 4294967296) :
    ∃ w', Hid ((Instr.mapUpdate 44 (.map (some b)) (.int .i64 (x : Nat)) (.int .i64 (v : Nat))).run Try.prog w = .ok () w') ∧ MapR w' b (upd sn x (some v)) (if sn x = none then cnt + 1 else cnt) ∧ w.grownBy w' (some b) := by
  have gr : ∀ es clock es' clock', w.heap[b]? = some (.map es clock) → w.grownBy (setBlock w b (.map es' clock')) (some b) := fun es clock es' clock' h1 =>
    ⟨rfl, rfl, rfl, by simp [setBlock], fun i hi hne => heap_setBlock_other h1 _ (fun e => hne (by rw [e]))⟩
  have h' := h
  obtain ⟨es, clock, h1, h2, h3, h4, h5⟩ := h'
  obtain ⟨es', clock', h1', c⟩ := h.find x hx
  rw [h1] at h1'
  cases h1'
  rcases c with ⟨e, f1, f2⟩ | ⟨j, e0, u, e, f1, f2, f3⟩
  · refine ⟨setBlock w b (.map (es.push ⟨.int .i64 (x : Nat), .int .i64 (v : Nat), clock⟩) (clock + 1)), ?_, ⟨_, _, heap_setBlock_same h1 _, ?_, ?_, ?_, ?_⟩, gr _ _ _ _ h1⟩
    · show _ = _
      simp [Instr.mapUpdate, run_underlying Try.underlying44, MapKept.run_getObj_map h1, mlaw.check w false (mkey x hx), f1, MapKept.run_setObj_map _ h1, Result.andThen, setBlock]
    · rw [if_pos e, Array.size_push, h2]
    · intro y hy
      simp only [Array.toList_push, List.mem_append, List.mem_singleton] at hy
      rcases hy with hy | rfl
      · obtain ⟨z, u, e1, e2, e3, e4⟩ := h3 y hy
        refine ⟨z, u, e1, e2, e3, ?_⟩
        rw [upd_ne (fun q => by subst q; rw [e] at e4; cases e4)]
        exact e4
      · exact ⟨x, v, rfl, rfl, hx, upd_self⟩
    · rw [Array.toList_push, List.map_append, List.nodup_append]
      refine ⟨h4, by simp, ?_⟩
      intro a ha c hc
      simp only [List.map_cons, List.map_nil, List.mem_singleton] at hc
      subst hc
      obtain ⟨y, hy, rfl⟩ := List.mem_map.1 ha
      exact f2 y hy
    · intro y u hu
      by_cases q : y = x
      · subst q
        exact ⟨_, by rw [Array.toList_push]; exact List.mem_append_right _ (List.mem_singleton.2 rfl), rfl⟩
      · rw [upd_ne q] at hu
        obtain ⟨e1, he, ek⟩ := h5 y u hu
        exact ⟨e1, by rw [Array.toList_push]; exact List.mem_append_left _ he, ek⟩
  · have hj : es[j]? = some e0 := by simpa using f2
    have hjl : j < es.toList.length := (List.getElem?_eq_some_iff.1 f2).1
    have hlist : (es.modify j (fun e' => { e' with key := Value.int .i64 (x : Nat), val := Value.int .i64 (v : Nat) })).toList = es.toList.set j { e0 with key := Value.int .i64 (x : Nat), val := Value.int .i64 (v : Nat) } := by
      rw [Array.toList_modify, modify_eq_set _ _ _ _ f2]
    have hkeys : (es.toList.set j { e0 with key := Value.int .i64 (x : Nat), val := Value.int .i64 (v : Nat) }).map (·.key) = es.toList.map (·.key) := by
      rw [List.map_set]
      apply List.ext_getElem?
      intro i
      rw [List.getElem?_set]
      by_cases q : j = i
      · subst q
        rw [if_pos rfl, if_pos (by simpa using hjl), List.getElem?_map, f2]
        simp [f3]
      · rw [if_neg q]
    refine ⟨setBlock w b (.map (es.modify j (fun e' => { e' with key := Value.int .i64 (x : Nat), val := Value.int .i64 (v : Nat) })) clock), ?_, ⟨_, _, heap_setBlock_same h1 _, ?_, ?_, ?_, ?_⟩, gr _ _ _ _ h1⟩
    · show _ = _
      simp [Instr.mapUpdate, run_underlying Try.underlying44, MapKept.run_getObj_map h1, mlaw.check w false (mkey x hx), f1, hj, f3, mlaw.stays w (mkey x hx), MapKept.run_setObj_map _ h1, Result.andThen, setBlock]
    · rw [if_neg (by rw [e]; simp), Array.size_modify, h2]
    · intro y hy
      rw [hlist] at hy
      obtain ⟨i, hi, ey⟩ := List.getElem_of_mem hy
      rw [List.getElem_set] at ey
      split at ey
      · subst ey
        exact ⟨x, v, rfl, rfl, hx, upd_self⟩
      · rename_i hne
        have hi' : i < es.toList.length := by simpa using hi
        have hy' : y ∈ es.toList := ey ▸ List.getElem_mem hi'
        obtain ⟨z, u', e1, e2, e3, e4⟩ := h3 y hy'
        refine ⟨z, u', e1, e2, e3, ?_⟩
        rw [upd_ne (fun q => ?_)]
        · exact e4
        · subst q
          have k1 : (es.toList.map (·.key))[i]? = some (.int .i64 (z : Nat)) := by rw [List.getElem?_map, List.getElem?_eq_getElem hi', ey, Option.map_some, e1]
          have k2 : (es.toList.map (·.key))[j]? = some (.int .i64 (z : Nat)) := by rw [List.getElem?_map, f2, Option.map_some, f3]
          have hl : (es.toList.map (·.key)).length = es.toList.length := List.length_map ..
          have hp := List.pairwise_iff_getElem.1 h4
          rw [List.getElem?_eq_getElem (by omega)] at k1 k2
          have k3 := (Option.some.inj k1).trans (Option.some.inj k2).symm
          rcases Nat.lt_trichotomy i j with l | l | l
          · exact hp i j (by omega) (by omega) l k3
          · exact hne l.symm
          · exact hp j i (by omega) (by omega) l k3.symm
    · rw [hlist, hkeys]
      exact h4
    · intro y u' hu
      by_cases q : y = x
      · subst q
        refine ⟨{ e0 with key := Value.int .i64 (y : Nat), val := Value.int .i64 (v : Nat) }, ?_, rfl⟩
        rw [hlist]
        exact List.mem_iff_getElem.2 ⟨j, by simpa using hjl, by simp⟩
      · rw [upd_ne q] at hu
        obtain ⟨e1, he, ek⟩ := h5 y u' hu
        have : Value.int .i64 (y : Nat) ∈ (es.toList.set j { e0 with key := Value.int .i64 (x : Nat), val := Value.int .i64 (v : Nat) }).map (·.key) := by
          rw [hkeys, ← ek]
          exact List.mem_map.2 ⟨e1, he, rfl⟩
        obtain ⟨e2, he2, ek2⟩ := List.mem_map.1 this
        exact ⟨e2, by rw [hlist]; exact he2, ek2⟩
end Go.Proofs.Ytbbcnjagndfmbaa
