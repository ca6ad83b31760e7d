import Derived.Test.YtcheikpmhdliiaaDoorRsInts
import Derived.Deep.MidRow
/- The contract of the reference's First. -/
namespace Go.Proofs.YtcheikpmhdliiaaDoor
open Go.RowKit
set_option maxRecDepth 100000

def RsF (w : World) (l : List UInt8) (e : Ending) (w' : World) : Prop :=
  ∃ ns v rv r wq, e = .returned (.tuple #[v, rv, .bool (!wq)]) ∧ OwnI w.heap.size w' v ns ∧ Bts w' rv r ∧ Below w.heap.size w w' ∧ Sp false (lstR numR l) ns r wq ∧ r.length ≤ 1099511627776

set_option maxHeartbeats 4000000 in
theorem rfirst_any {w : World} {v : Value} {l : List UInt8} (h : Bts w v l) (hl : l.length ≤ 1099511627776) :
    Calls Tryd.prog 43 #[v] w fun e w' => RsF w l e w' := by
  have C := rcount_any (rs_start h) hl
  obtain ⟨va, vc, rfl, _, _⟩ := h.slice
  clear h
  go_enter Tryd.func43, Tryd.ntmps43
  go_wp2_with fail
  refine C.mono ?_
  rintro e w1 ⟨n, l0, wr0, rfl, rs, g, s0, hl0⟩
  have S0 : Hid (Sp false (countR l) n l0 wr0) := s0
  have ST : Hid (∃ li wri, RS w.heap.size w1 w.heap.size li wri ∧ (rsW w (.slice va l.length vc)).grownBy w1 (some w.heap.size) ∧ Sq numR n l0 wr0 [] li wri ∧ li.length ≤ 1099511627776) := ⟨l0, wr0, rs, g, Sq.start s0 hl0, hl0⟩
  clear C rs g s0
  go_wp2_with fail
  go_loopw [6, 8] (fun u6 u8 wk => ∃ i : Nat, u8 = .int .i64 i ∧ ∃ xs, xs.length = i ∧ Hid (OwnI (w.heap.size + 1) wk u6 xs) ∧ Hid (∃ li wri, RS w.heap.size wk w.heap.size li wri ∧ (rsW w (.slice va l.length vc)).grownBy wk (some w.heap.size) ∧ Sq numR n l0 wr0 xs li wri ∧ li.length ≤ 1099511627776)) (fun _ u8 _ => n - (intOf u8).toNat)
  case atStart => exact ⟨0, rfl, [], rfl, World.ownsRow_nil _ _ _ _, ST⟩
  case round =>
    obtain ⟨i, rfl, xs, hxi, HO, HS⟩ := hrel
    clear ST
    obtain ⟨li, wri, rs, g, sq, hli⟩ := HS.out
    clear HS
    obtain ⟨a, c, h1, h2, h3, h4⟩ := rs.cells
    obtain ⟨c0, f0, c1, f1⟩ := cells126 h1
    by_cases hgo : i < n ∧ wri = false
    · obtain ⟨hlt, rfl⟩ := hgo
      have hn40 := sq.few
      have C3 : Calls Tryd.prog 69 #[ptrOf w.heap.size] wr fun e w4 => ∃ (x : Int) (v4 : Value) (w5 : World), e = .returned (.int .i64 x) ∧ Hid ((Builtin.append_ #[62, 62] 62 #[u6, .slice (some ⟨w4.heap.size, 0, none⟩) 1 1]).run Tryd.prog (w4.alloc (.cells #[.int .i64 x] 3)) = .ok v4 w5) ∧
          Hid (∃ xs', xs'.length = i + 1 ∧ Hid (OwnI (w.heap.size + 1) w5 v4 xs') ∧ Hid (∃ li wri, RS w.heap.size w5 w.heap.size li wri ∧ (rsW w (.slice va l.length vc)).grownBy w5 (some w.heap.size) ∧ Sq numR n l0 wr0 xs' li wri ∧ li.length ≤ 1099511627776)) := by
        refine (rnum_any rs hli).mono ?_
        rintro e w4 ⟨x, l3, wr3, rfl, rs3, g3, s3, hl3⟩
        have G3 := grown_trans g g3
        have hsz : w.heap.size + 1 ≤ w4.heap.size := by have := G3.size; simpa using this
        have ho : OwnI (w.heap.size + 1) w4 u6 xs := ownsRow_of_block HO.out fun b hb => g3.block b (World.ownsRow.lt HO.out b hb).2 (by have := (World.ownsRow.lt HO.out b hb).1; simp; omega)
        obtain ⟨v4, w5, r5, o5, b5⟩ := own_int ho hsz x (by omega)
        exact ⟨x, v4, w5, rfl, r5, xs ++ [x], by simp [hxi], o5, l3, wr3, rs3.kept (by omega) b5, grown_below G3 b5 (by simp), sq.step (by omega) s3, hl3⟩
      clear rs g sq h1 h2 h3 h4
      go_wp2_with fail
      refine C3.mono ?_
      rintro e w4 ⟨x3, v4, w5, rfl, R5, HF⟩
      clear C3 c0 f0 c1 f1
      go_wp2_with (at_builtin; refine wpList_append_run rfl _ _ 62 rfl _ _ _ _ rfl rfl R5.out ?_)
      clear R5
      go_roundw
      case rel => exact ⟨i + 1, by go_num, HF.out⟩
      case measure => simp [intOf]; omega
    · have sp : Sp false (lstR numR l) xs li wri := Sp.bindK S0.out (sq.stop fun hw => by
          have : ¬ i < n := fun h => hgo ⟨h, hw⟩
          omega)
      have B1 : Hid (Below w.heap.size w wr) := rsW_below g
      have OI : OwnI w.heap.size wr u6 xs := HO.out.mono (by omega)
      have FN : Hid (∀ w', Below wr.heap.size wr w' → RsF w l (.returned (.tuple #[u6, .slice a li.length c, .bool (!wri)])) w') := fun w' hw' =>
        ⟨xs, _, _, li, wri, rfl, ownsRow_of_block OI fun g hg => hw'.block g (World.ownsRow.lt OI g hg).2, h2.below hw', B1.out.trans (hw'.mono B1.out.size), sp, hli⟩
      clear rs g sq h2 h3 h4 h1 sp OI HO
      by_cases hlt : i < n
      · have hw : wri = true := by
          cases wri
          · exact absurd ⟨hlt, rfl⟩ hgo
          · rfl
        subst hw
        clear hgo
        go_wp2_with fail
        go_region_held_law (fun u => u.cell? ⟨w.heap.size, 0, none⟩ = some (.slice a li.length c) ∧ u.cell? ⟨w.heap.size, 1, none⟩ = some (.bool true)) (exact ⟨c0, c1⟩) (fail)
        go_wp2_with fail
        go_ret3
        exact FN.out _ ((Below.refl _ _).drew)
      · clear hgo
        cases wri with
        | true =>
          go_wp2_with fail
          go_region_held_law (fun u => u.cell? ⟨w.heap.size, 0, none⟩ = some (.slice a li.length c) ∧ u.cell? ⟨w.heap.size, 1, none⟩ = some (.bool true)) (exact ⟨c0, c1⟩) (fail)
          go_wp2_with fail
          go_ret3
          exact FN.out _ ((Below.refl _ _).drew)
        | false =>
          go_wp2_with fail
          go_region_held_law (fun u => u.cell? ⟨w.heap.size, 0, none⟩ = some (.slice a li.length c) ∧ u.cell? ⟨w.heap.size, 1, none⟩ = some (.bool false)) (exact ⟨c0, c1⟩) (fail)
          go_wp2_with fail
          go_ret3
          exact FN.out _ ((Below.refl _ _).drew)
end Go.Proofs.YtcheikpmhdliiaaDoor

/- A change that the reference builds field by field in a block of its own. -/
namespace Go.Proofs.YtcheikpmhdliiaaDoor
open Go.RowKit
set_option maxRecDepth 100000

/-- The block of a change: its first cells are known, all may be written. -/
def OB (w : World) (ob : Nat) (cs : List Value) : Prop := w.rangeAt ob 0 cs ∧ w.there ob 0 19
theorem OB.kept {w w' : World} {ob : Nat} {cs : List Value} (h : OB w ob cs) (hk : w'.heap[ob]? = w.heap[ob]?) : OB w' ob cs := by
  refine ⟨fun j v hv => (World.cell?_of_block hk).trans (h.1 j v hv), fun j hj => ?_⟩
  obtain ⟨h1, h2⟩ := h.2 j hj
  refine ⟨by rw [World.cell?_of_block hk]; exact h1, ?_⟩
  rw [← h2]
  simp [World.frozen?, hk]
theorem setCells_other (b : Nat) : ∀ (vs : List Value) (o : Nat) (w : World) (i : Nat), i ≠ b → (w.setCells b o vs).heap[i]? = w.heap[i]?
  | [], _, _, _, _ => rfl
  | v :: r, o, w, i, h => by
    rw [World.setCells, setCells_other b r (o + 1) _ i h]
    exact Below.heap_setCell w ⟨b, o, none⟩ v i h
theorem setCells_grown (b : Nat) : ∀ (vs : List Value) (o : Nat) (w : World), w.grownBy (w.setCells b o vs) (some b)
  | [], _, w => ⟨rfl, rfl, rfl, Nat.le_refl _, fun _ _ _ => rfl⟩
  | v :: r, o, w => by
    have g1 : w.grownBy (w.setCell ⟨b, o, none⟩ v) (some b) := ⟨rfl, rfl, rfl, by simp [World.setCell], fun k _ hne => Below.heap_setCell w ⟨b, o, none⟩ v k (fun e => hne (by rw [e]))⟩
    exact grown_trans g1 (setCells_grown b r (o + 1) _)
theorem setCells_below {B b : Nat} (hb : B ≤ b) (w : World) (o : Nat) (vs : List Value) : Below B w (w.setCells b o vs) :=
  have g := setCells_grown b vs o w
  ⟨g.os, g.tape, g.output, g.size, fun i hi => setCells_other b vs o w i (by omega)⟩
theorem storeAt_cells (ty : TypeId) (p v : Value) (es : Array Value) (hv : v.cells = es) : Instr.storeAt ty p v = Instr.storeAt ty p (.agg es) := by
  subst hv
  rfl
theorem OB.put {w : World} {ob : Nat} {cs : List Value} (h : OB w ob cs) {o : Nat} (ho : cs.length = o) {ty : TypeId} {v : Value} {es : List Value} (hv : v.cells = es.toArray) (hi : (Tryd.prog.info? ty).map (·.size) = some es.length) (h1 : ∀ u ∈ es, u.oneCell' = true) (hle : o + es.length ≤ 19) :
    (Instr.storeAt ty (.pointer (some ⟨ob, o, none⟩)) v).run Tryd.prog w = .ok () (w.setCells ob o es) ∧ OB (w.setCells ob o es) ob (cs ++ es) := by
  have ht : w.there ob o es.length := fun j hj => by
    have := h.2 (o + j) (by omega)
    simpa using this
  refine ⟨?_, fun j u hj => ?_, World.there_setCells h.2 _ _ _⟩
  · rw [storeAt_cells ty _ v _ hv]
    have := run_storeAt_mid (P := Tryd.prog) w ob o ty es.toArray (by simpa using ht) (by simpa using hi) (all_oneCell_toArray h1)
    simpa using this
  · by_cases hlt : j < cs.length
    · rw [List.getElem?_append_left hlt] at hj
      exact World.rangeAt_setCells_apart h.1 ob o es (.inr (.inl (by omega))) j u hj
    · rw [List.getElem?_append_right (by omega)] at hj
      have := World.rangeAt_setCells_same w ob o es ht (j - cs.length) u hj
      rw [← ho, show cs.length + (j - cs.length) = 0 + j by omega] at this
      rw [← ho]
      exact this

/-- A change under way: the reader, the block, what is known of it. -/
structure St (w0 : World) (B rb ob : Nat) (w : World) (l : List UInt8) (wq : Bool) (cs : List Value) : Prop where
  rs : RS B w rb l wq
  blk : OB w ob cs
  g : w0.grownBy w (some rb)
  hl : l.length ≤ 1099511627776
  lt0 : rb < w0.heap.size
  lt1 : w0.heap.size ≤ ob
  lt2 : ob < w.heap.size

theorem St.field {w0 : World} {B rb ob : Nat} {w : World} {l : List UInt8} {wq : Bool} {cs : List Value} (s : St w0 B rb ob w l wq cs) {α : Type} {val : α → Value} {R : Rdr α} {F : Nat} (ty : TypeId) (o : Nat) (cells : α → List Value)
    (C : Calls Tryd.prog F #[ptrOf rb] w fun e w' => TkR B w rb val (R l) wq e w') (n : Nat) (hv : ∀ x, (val x).cells = (cells x).toArray ∧ (cells x).length = n ∧ ∀ u ∈ cells x, u.oneCell' = true) (hi : (Tryd.prog.info? ty).map (·.size) = some n) (ho : cs.length = o) (hle : o + n ≤ 19) :
    Calls Tryd.prog F #[ptrOf rb] w fun e w1 => ∃ x l' wq' w2, e = .returned (val x) ∧ Hid ((Instr.storeAt ty (.pointer (some ⟨ob, o, none⟩)) (val x)).run Tryd.prog w1 = .ok () w2) ∧ Hid (St w0 B rb ob w2 l' wq' (cs ++ cells x)) ∧ Hid (Sp wq (R l) x l' wq') := by
  refine C.mono ?_
  rintro e w1 ⟨x, l', wq', rfl, rs, g, sp, hl⟩
  have := s.lt0
  have := s.lt1
  have := s.lt2
  have k : OB w1 ob cs := s.blk.kept (g.block ob s.lt2 (by simp; omega))
  obtain ⟨h1, h2, h3⟩ := hv x
  obtain ⟨r, k2⟩ := k.put ho (ty := ty) h1 (by rw [h2]; exact hi) h3 (by omega)
  have b := setCells_below (B := w0.heap.size) s.lt1 w1 o (cells x)
  exact ⟨x, l', wq', _, rfl, r, ⟨rs.kept s.lt0 b, k2, grown_below (grown_trans s.g g) b (Nat.le_refl _), hl, s.lt0, s.lt1, Nat.lt_of_lt_of_le s.lt2 (Nat.le_trans g.size b.size)⟩, sp⟩
end Go.Proofs.YtcheikpmhdliiaaDoor

/- The contract of the reference's ReadOps. -/
namespace Go.Proofs.YtcheikpmhdliiaaDoor
open Go.RowKit
set_option maxRecDepth 100000

theorem readO_yes {l : List UInt8} {L : List OpT} (h : lstR opR l = some (L, [])) : readO l = some L := by
  unfold readO opsR
  rw [h]
theorem readO_no {l : List UInt8} {L : List OpT} {r : List UInt8} (h : lstR opR l = some (L, r)) (hr : 0 < r.length) : readO l = none := by
  unfold readO opsR
  rw [h]
  cases r with
  | nil => simp at hr
  | cons d r => rfl
theorem readO_bad {l : List UInt8} (h : lstR opR l = none) : readO l = none := by
  unfold readO opsR
  rw [h]
theorem OwnOl.mono' {b b' : Nat} {w : World} {v : Value} {L : List OpT} (h : OwnOl b w v L) (hb : b' ≤ b) : OwnOl b' w v L := h.mono hb

def RsO (w : World) (l : List UInt8) (e : Ending) (w' : World) : Prop :=
  (∃ L v, readO l = some L ∧ e = .returned (.tuple #[v, .int .i64 0]) ∧ OwnOl w.heap.size w' v L ∧ Below w.heap.size w w') ∨
  (readO l = none ∧ e = .returned (.tuple #[.slice none 0 0, .int .i64 12]) ∧ Below w.heap.size w w')

/-- The first field, and the block. -/
theorem St.start {B rb : Nat} {w w1 : World} {l1 : List UInt8} {wq1 : Bool} {x1 : Int} (rs : RS B w1 rb l1 wq1) (g : w.grownBy w1 (some rb)) (hl : l1.length ≤ 1099511627776) (hrb : rb < w.heap.size) :
    ∃ W, Hid ((Instr.storeAt 58 (.pointer (some ⟨w1.heap.size, 0, none⟩)) (.agg #[.int .i64 x1, strE, strE, int0, int0, int0, int0, strE, strE, strE, strE, strE, strE, int0, int0, int0, int0, strE, .slice none 0 0])).run Tryd.prog (w1.alloc (.cells #[int0, strE, strE, int0, int0, int0, int0, strE, strE, strE, strE, strE, strE, int0, int0, int0, int0, strE, .slice none 0 0] 58)) = .ok () W) ∧ Hid (St w B rb w1.heap.size W l1 wq1 [.int .i64 x1]) := by
  obtain ⟨b1, _⟩ := box_runs Tryd.underlying58 rfl inf58 w1 #[int0, strE, strE, int0, int0, int0, int0, strE, strE, strE, strE, strE, strE, int0, int0, int0, int0, strE, .slice none 0 0] #[.int .i64 x1, strE, strE, int0, int0, int0, int0, strE, strE, strE, strE, strE, strE, int0, int0, int0, int0, strE, .slice none 0 0] rfl rfl (by simp [Value.oneCell'])
  refine ⟨_, b1, ?_⟩
  have hg := heap_alloc_new w1 (.cells #[.int .i64 x1, strE, strE, int0, int0, int0, int0, strE, strE, strE, strE, strE, strE, int0, int0, int0, int0, strE, .slice none 0 0] 58)
  have hb : Below w1.heap.size w1 (w1.alloc (.cells #[.int .i64 x1, strE, strE, int0, int0, int0, int0, strE, strE, strE, strE, strE, strE, int0, int0, int0, int0, strE, .slice none 0 0] 58)) := (Below.refl _ _).alloc (Nat.le_refl _) _
  refine ⟨rs.kept (Nat.lt_of_lt_of_le hrb g.size) hb, ⟨fun j v hj => ?_, fun j hj => ?_⟩, grown_below g hb g.size, hl, hrb, g.size, by simp⟩
  · rcases j with _ | j
    · simp at hj
      subst hj
      exact cell_heap hg rfl
    · simp at hj
  · have e : ∀ k, k < 19 → ((#[.int .i64 x1, strE, strE, int0, int0, int0, int0, strE, strE, strE, strE, strE, strE, int0, int0, int0, int0, strE, .slice none 0 0] : Array Value)[k]?).isSome = true := by
      intro k hk
      simp [hk]
    constructor
    · have := e j hj
      rw [cell_of_row _ _ _ _ _ _ hg, Nat.zero_add]
      exact this
    · unfold World.frozen?
      dsimp only
      rw [hg]
      simp

/-- The last field, the whole loaded, and the list with it. -/
theorem St.last {w0 : World} {B rb ob base : Nat} {w : World} {l : List UInt8} {wq : Bool} {x1 : Int} {x2 x3 : ByteArray} {x4 x5 x6 x7 : Int} {x8 : ByteArray} {x9 : NameT} {x10 : LinkT}
    (s : St w0 B rb ob w l wq [.int .i64 x1, .string x2, .string x3, .int .i64 x4, .int .i64 x5, .int .i64 x6, .int .i64 x7, .string x8, .string x9.scope, .string x9.name, .string x9.text, .string x10.book, .string x10.sheet, .int .i64 x10.row, .int .i64 x10.col, .int .i64 x10.value.kind, .int .i64 x10.value.n, .string x10.value.s])
    {u : Value} {xs : List OpT} (hu : OwnOl base w0 u xs) (hb : base ≤ w0.heap.size) (hbr : rb < base) (hn : xs.length + 1 ≤ 536870912000) {wb : World} (hG : wb.grownBy w0 (some rb)) (hwb : wb.heap.size ≤ base) :
    Calls Tryd.prog 73 #[ptrOf rb] w fun e w1 => ∃ ca cn cc cl l' wq' w2 v4 w5, e = .returned (.slice ca cn cc) ∧ Hid ((Instr.storeAt 56 (.pointer (some ⟨ob, 18, none⟩)) (.slice ca cn cc)).run Tryd.prog w1 = .ok () w2) ∧
      Hid ((Instr.loadAt 58 (.pointer (some ⟨ob, 0, none⟩))).run Tryd.prog w2 = .ok (opV ⟨x1, x2, x3, x4, x5, x6, x7, x8, x9, x10, cl⟩ (.slice ca cn cc)) w2) ∧
      Hid ((Builtin.append_ #[22, 22] 22 #[u, .slice (some ⟨w2.heap.size, 0, none⟩) 1 1]).run Tryd.prog (w2.alloc (.cells #[.int .i64 x1, .string x2, .string x3, .int .i64 x4, .int .i64 x5, .int .i64 x6, .int .i64 x7, .string x8, .string x9.scope, .string x9.name, .string x9.text, .string x10.book, .string x10.sheet, .int .i64 x10.row, .int .i64 x10.col, .int .i64 x10.value.kind, .int .i64 x10.value.n, .string x10.value.s, .slice ca cn cc] 58)) = .ok v4 w5) ∧
      Hid (OwnOl base w5 v4 (xs ++ [⟨x1, x2, x3, x4, x5, x6, x7, x8, x9, x10, cl⟩]) ∧ RS B w5 rb l' wq' ∧ wb.grownBy w5 (some rb) ∧ Sp wq (lstR cellR l) cl l' wq' ∧ l'.length ≤ 1099511627776) := by
  have l0 := s.lt0
  have l1 := s.lt1
  have l2 := s.lt2
  refine (rcells_any s.rs (Nat.lt_of_lt_of_le s.lt0 s.g.size) s.hl).mono ?_
  rintro e w1 ⟨v, cl, l', wq', rfl, oc, rs, g, sp, hl⟩
  obtain ⟨ca, cc, rfl, _, _⟩ := oc.cls.slice
  have k : OB w1 ob _ := s.blk.kept (g.block ob s.lt2 (by simp; omega))
  obtain ⟨r, k2⟩ := k.put (o := 18) rfl (ty := 56) (v := .slice ca cl.length cc) (es := [.slice ca cl.length cc]) rfl (by kernel_rfl) (by intro y hy; simp at hy; subst hy; rfl) (by simp)
  have b := setCells_below (B := w0.heap.size) s.lt1 w1 18 [.slice ca cl.length cc]
  generalize hw2 : w1.setCells ob 18 [.slice ca cl.length cc] = w2 at *
  have ld := run_loadVar_any (P := Tryd.prog) w2 ⟨ob, 0, none⟩ 58 _ _ (fun j v hv => by rw [Addr.add_mid]; exact k2.1 j v hv) Tryd.underlying58 rfl (by kernel_rfl)
  have G1 := grown_trans s.g g
  have G2 : w0.grownBy w2 (some rb) := grown_below G1 b (Nat.le_refl _)
  have hu2 : OwnOl base w2 u xs := hu.kept fun i hi1 hi2 => G2.block i hi2 (by simp; omega)
  have oc2 : OwnCl base w2 (.slice ca cl.length cc) cl := OwnR.mono (OwnR.of_block oc fun q hq => by
    rw [← hw2]
    exact setCells_other ob _ 18 w1 q (by have := (OwnR.lt oc hq).1; omega)) (by have := s.g.size; omega)
  obtain ⟨v4, w5, r5, o5, b5⟩ := own_op hu2 (Nat.le_trans hb G2.size) ⟨x1, x2, x3, x4, x5, x6, x7, x8, x9, x10, cl⟩ oc2 (fun q hq e => by have := (OwnR.lt oc hq).1; have := (hu.lt e).2; have := s.g.size; omega) hn
  exact ⟨ca, _, cc, cl, l', wq', w2, v4, w5, rfl, r, ld, r5, o5, (rs.kept s.lt0 b).kept hbr b5, grown_below (grown_trans hG G2) b5 hwb, sp, hl⟩
end Go.Proofs.YtcheikpmhdliiaaDoor
