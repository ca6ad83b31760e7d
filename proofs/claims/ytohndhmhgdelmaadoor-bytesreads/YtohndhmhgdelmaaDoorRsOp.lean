/- The contract of the reference's ReadOps. -/
import Derived.Test.YtohndhmhgdelmaaDoorRsField
namespace Go.Proofs.YtohndhmhgdelmaaDoor
open Go.RowKit
set_option maxRecDepth 100000

theorem readO_yes {l : List UInt8} {L : List OpT} (h : lstR opR l = some (L, [])) : readO l = some L := by
  unfold readO opsR
  rw [h]
theorem readO_no {l : List UInt8} {L : List OpT} {r : List UInt8} (h : lstR opR l = some (L, r)) (hr : 0 < r.length) : readO l = none := by
  unfold readO opsR
  rw [h]
  cases r with
  | nil => simp at hr
  | cons d r => rfl
theorem readO_bad {l : List UInt8} (h : lstR opR l = none) : readO l = none := by
  unfold readO opsR
  rw [h]
theorem OwnOl.mono' {b b' : Nat} {w : World} {v : Value} {L : List OpT} (h : OwnOl b w v L) (hb : b' ≤ b) : OwnOl b' w v L := h.mono hb

def RsO (w : World) (l : List UInt8) (e : Ending) (w' : World) : Prop :=
  (∃ L v, readO l = some L ∧ e = .returned (.tuple #[v, .int .i64 0]) ∧ OwnOl w.heap.size w' v L ∧ Below w.heap.size w w') ∨
  (readO l = none ∧ e = .returned (.tuple #[.slice none 0 0, .int .i64 12]) ∧ Below w.heap.size w w')

/-- The first field, and the block. -/
theorem St.start {B rb : Nat} {w w1 : World} {l1 : List UInt8} {wq1 : Bool} {x1 : Int} (rs : RS B w1 rb l1 wq1) (g : w.grownBy w1 (some rb)) (hl : l1.length ≤ 1099511627776) (hrb : rb < w.heap.size) :
    ∃ W, Hid ((Instr.storeAt 84 (.pointer (some ⟨w1.heap.size, 0, none⟩)) (.agg #[.int .i64 x1, strE, strE, int0, int0, int0, int0, strE, strE, strE, strE, strE, strE, int0, int0, int0, int0, strE, .slice none 0 0])).run Tryd.prog (w1.alloc (.cells #[int0, strE, strE, int0, int0, int0, int0, strE, strE, strE, strE, strE, strE, int0, int0, int0, int0, strE, .slice none 0 0] 84)) = .ok () W) ∧ Hid (St w B rb w1.heap.size W l1 wq1 [.int .i64 x1]) := by
  obtain ⟨b1, _⟩ := box_runs Tryd.underlying84 rfl inf84 w1 #[int0, strE, strE, int0, int0, int0, int0, strE, strE, strE, strE, strE, strE, int0, int0, int0, int0, strE, .slice none 0 0] #[.int .i64 x1, strE, strE, int0, int0, int0, int0, strE, strE, strE, strE, strE, strE, int0, int0, int0, int0, strE, .slice none 0 0] rfl rfl (by simp [Value.oneCell'])
  refine ⟨_, b1, ?_⟩
  have hg := heap_alloc_new w1 (.cells #[.int .i64 x1, strE, strE, int0, int0, int0, int0, strE, strE, strE, strE, strE, strE, int0, int0, int0, int0, strE, .slice none 0 0] 84)
  have hb : Below w1.heap.size w1 (w1.alloc (.cells #[.int .i64 x1, strE, strE, int0, int0, int0, int0, strE, strE, strE, strE, strE, strE, int0, int0, int0, int0, strE, .slice none 0 0] 84)) := (Below.refl _ _).alloc (Nat.le_refl _) _
  refine ⟨rs.kept (Nat.lt_of_lt_of_le hrb g.size) hb, ⟨fun j v hj => ?_, fun j hj => ?_⟩, grown_below g hb g.size, hl, hrb, g.size, by simp⟩
  · rcases j with _ | j
    · simp at hj
      subst hj
      exact cell_heap hg rfl
    · simp at hj
  · have e : ∀ k, k < 19 → ((#[.int .i64 x1, strE, strE, int0, int0, int0, int0, strE, strE, strE, strE, strE, strE, int0, int0, int0, int0, strE, .slice none 0 0] : Array Value)[k]?).isSome = true := by
      intro k hk
      simp [hk]
    constructor
    · have := e j hj
      rw [cell_of_row _ _ _ _ _ _ hg, Nat.zero_add]
      exact this
    · unfold World.frozen?
      dsimp only
      rw [hg]
      simp

/-- The last field, the whole loaded, and the list with it. -/
theorem St.last {w0 : World} {B rb ob base : Nat} {w : World} {l : List UInt8} {wq : Bool} {x1 : Int} {x2 x3 : ByteArray} {x4 x5 x6 x7 : Int} {x8 : ByteArray} {x9 : NameT} {x10 : LinkT}
    (s : St w0 B rb ob w l wq [.int .i64 x1, .string x2, .string x3, .int .i64 x4, .int .i64 x5, .int .i64 x6, .int .i64 x7, .string x8, .string x9.scope, .string x9.name, .string x9.text, .string x10.book, .string x10.sheet, .int .i64 x10.row, .int .i64 x10.col, .int .i64 x10.value.kind, .int .i64 x10.value.n, .string x10.value.s])
    {u : Value} {xs : List OpT} (hu : OwnOl base w0 u xs) (hb : base ≤ w0.heap.size) (hbr : rb < base) (hn : xs.length + 1 ≤ 536870912000) {wb : World} (hG : wb.grownBy w0 (some rb)) (hwb : wb.heap.size ≤ base) :
    Calls Tryd.prog 33 #[ptrOf rb] w fun e w1 => ∃ ca cn cc cl l' wq' w2 v4 w5, e = .returned (.slice ca cn cc) ∧ Hid ((Instr.storeAt 50 (.pointer (some ⟨ob, 18, none⟩)) (.slice ca cn cc)).run Tryd.prog w1 = .ok () w2) ∧
      Hid ((Instr.loadAt 84 (.pointer (some ⟨ob, 0, none⟩))).run Tryd.prog w2 = .ok (opV ⟨x1, x2, x3, x4, x5, x6, x7, x8, x9, x10, cl⟩ (.slice ca cn cc)) w2) ∧
      Hid ((Builtin.append_ #[37, 37] 37 #[u, .slice (some ⟨w2.heap.size, 0, none⟩) 1 1]).run Tryd.prog (w2.alloc (.cells #[.int .i64 x1, .string x2, .string x3, .int .i64 x4, .int .i64 x5, .int .i64 x6, .int .i64 x7, .string x8, .string x9.scope, .string x9.name, .string x9.text, .string x10.book, .string x10.sheet, .int .i64 x10.row, .int .i64 x10.col, .int .i64 x10.value.kind, .int .i64 x10.value.n, .string x10.value.s, .slice ca cn cc] 84)) = .ok v4 w5) ∧
      Hid (OwnOl base w5 v4 (xs ++ [⟨x1, x2, x3, x4, x5, x6, x7, x8, x9, x10, cl⟩]) ∧ RS B w5 rb l' wq' ∧ wb.grownBy w5 (some rb) ∧ Sp wq (lstR cellR l) cl l' wq' ∧ l'.length ≤ 1099511627776) := by
  have l0 := s.lt0
  have l1 := s.lt1
  have l2 := s.lt2
  refine (rcells_any s.rs (Nat.lt_of_lt_of_le s.lt0 s.g.size) s.hl).mono ?_
  rintro e w1 ⟨v, cl, l', wq', rfl, oc, rs, g, sp, hl⟩
  obtain ⟨ca, cc, rfl, _, _⟩ := oc.cls.slice
  have k : OB w1 ob _ := s.blk.kept (g.block ob s.lt2 (by simp; omega))
  obtain ⟨r, k2⟩ := k.put (o := 18) rfl (ty := 56) (v := .slice ca cl.length cc) (es := [.slice ca cl.length cc]) rfl (by kernel_rfl) (by intro y hy; simp at hy; subst hy; rfl) (by simp)
  have b := setCells_below (B := w0.heap.size) s.lt1 w1 18 [.slice ca cl.length cc]
  generalize hw2 : w1.setCells ob 18 [.slice ca cl.length cc] = w2 at *
  have ld := run_loadVar_any (P := Tryd.prog) w2 ⟨ob, 0, none⟩ 84 _ _ (fun j v hv => by rw [Addr.add_mid]; exact k2.1 j v hv) Tryd.underlying84 rfl (by kernel_rfl)
  have G1 := grown_trans s.g g
  have G2 : w0.grownBy w2 (some rb) := grown_below G1 b (Nat.le_refl _)
  have hu2 : OwnOl base w2 u xs := hu.kept fun i hi1 hi2 => G2.block i hi2 (by simp; omega)
  have oc2 : OwnCl base w2 (.slice ca cl.length cc) cl := OwnR.mono (OwnR.of_block oc fun q hq => by
    rw [← hw2]
    exact setCells_other ob _ 18 w1 q (by have := (OwnR.lt oc hq).1; omega)) (by have := s.g.size; omega)
  obtain ⟨v4, w5, r5, o5, b5⟩ := own_op hu2 (Nat.le_trans hb G2.size) ⟨x1, x2, x3, x4, x5, x6, x7, x8, x9, x10, cl⟩ oc2 (fun q hq e => by have := (OwnR.lt oc hq).1; have := (hu.lt e).2; have := s.g.size; omega) hn
  exact ⟨ca, _, cc, cl, l', wq', w2, v4, w5, rfl, r, ld, r5, o5, (rs.kept s.lt0 b).kept hbr b5, grown_below (grown_trans hG G2) b5 hwb, sp, hl⟩
end Go.Proofs.YtohndhmhgdelmaaDoor
