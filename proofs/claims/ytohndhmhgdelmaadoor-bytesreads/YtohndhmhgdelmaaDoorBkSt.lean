/- What BytesReads has in hand, call by call; no walk of its own. -/
import Derived.Test.YtohndhmhgdelmaaDoorBkRead
import Derived.Test.YtohndhmhgdelmaaDoorPutOps
namespace Go.Proofs.YtohndhmhgdelmaaDoor
open Go.RowKit
set_option maxRecDepth 100000
set_option linter.unusedVariables false
set_option linter.unusedSimpArgs false

theorem Bts.low {w u : World} {v : Value} {l : List UInt8} (h : Bts w v l) (hb : Below w.heap.size w u) : Bts u v l := h.below hb
theorem BkM.grow {u u' : World} {sv nv lv : Value} {x : BookT} (h : BkM 0 u.heap.size u sv nv lv x) (hb : Below u.heap.size u u') : BkM 0 u'.heap.size u' sv nv lv x := (h.below (Nat.le_refl _) hb).mono (Nat.le_refl _) hb.size
theorem Opl.grow {u u' : World} {x : Value} {L : List OpT} (h : Opl 0 u.heap.size u x L) (hb : Below u.heap.size u u') : Opl 0 u'.heap.size u' x L := (h.below (Nat.le_refl _) hb).mono (Nat.le_refl _) hb.size
theorem heap_lt {w : World} {i : Nat} {o : Obj} (h : w.heap[i]? = some o) : i < w.heap.size := (Array.getElem?_eq_some_iff.1 h).1

/-! ### Books -/
def KC (l : List UInt8) (X : BookT) (z : Int) : Prop := (z = 0 ∧ readK l = some X) ∨ (z = 12 ∧ readK l = none ∧ X = ⟨[], [], []⟩)
theorem KC.ok {l : List UInt8} {X : BookT} {z : Int} (h : KC l X z) : X.Ok ∧ (bookB X).length ≤ l.length + 30 := by
  rcases h with ⟨_, h⟩ | ⟨_, _, rfl⟩
  · obtain ⟨e, k⟩ := readK_inv h
    exact ⟨k, by rw [e]; omega⟩
  · refine ⟨⟨fun s hs => by simp at hs, fun y hy => by simp at hy⟩, ?_⟩
    have := numB_length (n := 0) (by constructor <;> decide)
    simp [bookB, lstB]
    omega
theorem KC.all (l : List UInt8) : ∃ X, KC l X 0 ∨ KC l X 12 := by
  rcases h : readK l with _ | X
  · exact ⟨⟨[], [], []⟩, .inr (.inr ⟨rfl, h, rfl⟩)⟩
  · exact ⟨X, .inl (.inl ⟨rfl, h⟩)⟩
structure StA (w : World) (X : BookT) (g : Nat) (sv nv lv : Value) (u : World) : Prop where
  blk : u.heap[g]? = some (.cells #[sv, nv, lv] 26 (0, 0))
  bk : BkM 0 u.heap.size u sv nv lv X
  bel : Below w.heap.size w u
theorem StA.grow {w u u' : World} {X : BookT} {g : Nat} {sv nv lv : Value} (h : StA w X g sv nv lv u) (hb : Below u.heap.size u u') : StA w X g sv nv lv u' :=
  ⟨(hb.block _ (heap_lt h.blk)).trans h.blk, h.bk.grow hb, h.bel.trans (hb.mono h.bel.size)⟩
theorem StA.drew {w u : World} {X : BookT} {g : Nat} {sv nv lv : Value} (h : StA w X g sv nv lv u) : StA w X g sv nv lv u.drew := h.grow (Below.refl _ u).drew
theorem st_box {w u : World} {X : BookT} {sa na la : Option Addr} {sn sc nn nc ln lc : Nat} (hM : BkM 0 u.heap.size u (.slice sa sn sc) (.slice na nn nc) (.slice la ln lc) X) (hB : Below w.heap.size w u) :
    ∃ W, Hid ((Instr.storeAt 26 (.pointer (some ⟨u.heap.size, 0, none⟩)) (.agg #[.slice sa sn sc, .slice na nn nc, .slice la ln lc])).run Tryd.prog (u.alloc (.cells #[.slice none 0 0, .slice none 0 0, .slice none 0 0] 26)) = .ok () W) ∧ Hid (StA w X u.heap.size (.slice sa sn sc) (.slice na nn nc) (.slice la ln lc) W ∧ Below u.heap.size u W) := by
  obtain ⟨b1, _⟩ := box_runs Tryd.underlying26 rfl inf26 u #[.slice none 0 0, .slice none 0 0, .slice none 0 0] #[.slice sa sn sc, .slice na nn nc, .slice la ln lc] rfl rfl (by simp [Value.oneCell'])
  have hb : Below u.heap.size u (u.alloc (.cells #[.slice sa sn sc, .slice na nn nc, .slice la ln lc] 26)) := (Below.refl _ _).alloc (Nat.le_refl _) _
  exact ⟨_, b1, ⟨heap_alloc_new u _, hM.grow hb, hB.trans (hb.mono hB.size)⟩, hb⟩
theorem BkM.shapes {lo hi : Nat} {u : World} {sv nv lv : Value} {x : BookT} (h : BkM lo hi u sv nv lv x) : ∃ sa sn sc na nn nc la ln lc, sv = .slice sa sn sc ∧ nv = .slice na nn nc ∧ lv = .slice la ln lc := by
  obtain ⟨sa, sc, e1, _, _⟩ := h.sh.slice
  obtain ⟨na, nc, e2, _, _⟩ := h.nm.slice
  obtain ⟨la, lc, e3, _, _⟩ := h.lk.slice
  exact ⟨sa, _, sc, na, _, nc, la, _, lc, e1, e2, e3⟩
theorem st_bk1 {w u : World} {v : Value} {l : List UInt8} {X : BookT} {z : Int} (hb : Bts w v l) (hl : l.length ≤ 20000) (hc : KC l X z) (h : Below w.heap.size w u) :
    Calls Tryd.prog 10 #[v] u fun e u' => ∃ sa sn sc na nn nc la ln lc W, e = .returned (.tuple #[.agg #[.slice sa sn sc, .slice na nn nc, .slice la ln lc], .int .i64 z]) ∧
      Hid ((Instr.storeAt 26 (.pointer (some ⟨u'.heap.size, 0, none⟩)) (.agg #[.slice sa sn sc, .slice na nn nc, .slice la ln lc])).run Tryd.prog (u'.alloc (.cells #[.slice none 0 0, .slice none 0 0, .slice none 0 0] 26)) = .ok () W) ∧ Hid (StA w X u'.heap.size (.slice sa sn sc) (.slice na nn nc) (.slice la ln lc) W) := by
  rcases hc with ⟨rfl, hk⟩ | ⟨rfl, hk, rfl⟩
  · refine (readBook_some (hb.low h) (by omega) hk).mono ?_
    rintro e u' ⟨sv, nv, lv, rfl, ob, hB⟩
    obtain ⟨sa, sn, sc, na, nn, nc, la, ln, lc, rfl, rfl, rfl⟩ := ob.bkm.shapes
    obtain ⟨W, r, s⟩ := st_box (ob.bkm.mono (Nat.zero_le _) (Nat.le_refl _)) (h.trans (hB.mono h.size))
    exact ⟨sa, sn, sc, na, nn, nc, la, ln, lc, W, rfl, r, s.out.1⟩
  · refine (readBook_none (hb.low h) (by omega) hk).mono ?_
    rintro e u' ⟨rfl, hB⟩
    obtain ⟨W, r, s⟩ := st_box (BkM.nil u' 0 u'.heap.size) (h.trans (hB.mono h.size))
    exact ⟨none, 0, 0, none, 0, 0, none, 0, 0, W, rfl, r, s.out.1⟩
theorem st_bk2 {w u : World} {v : Value} {l : List UInt8} {X : BookT} {z : Int} {g : Nat} {sv nv lv : Value} (hb : Bts w v l) (hl : l.length ≤ 20000) (hc : KC l X z) (h : StA w X g sv nv lv u) :
    Calls Tryd.prog 11 #[v] u fun e u' => ∃ sa sn sc na nn nc la ln lc W, e = .returned (.tuple #[.agg #[.slice sa sn sc, .slice na nn nc, .slice la ln lc], .int .i64 z]) ∧
      Hid ((Instr.storeAt 26 (.pointer (some ⟨u'.heap.size, 0, none⟩)) (.agg #[.slice sa sn sc, .slice na nn nc, .slice la ln lc])).run Tryd.prog (u'.alloc (.cells #[.slice none 0 0, .slice none 0 0, .slice none 0 0] 26)) = .ok () W) ∧ Hid (StA w X g sv nv lv W ∧ StA w X u'.heap.size (.slice sa sn sc) (.slice na nn nc) (.slice la ln lc) W) := by
  refine (rbook_any (hb.low h.bel) (by omega)).mono ?_
  rintro e u' (⟨x, sv', nv', lv', hk, rfl, bm, hB⟩ | ⟨hk, rfl, hB⟩)
  · rcases hc with ⟨rfl, hk2⟩ | ⟨_, hk2, _⟩
    · rw [hk] at hk2
      cases hk2
      obtain ⟨sa, sn, sc, na, nn, nc, la, ln, lc, rfl, rfl, rfl⟩ := bm.shapes
      obtain ⟨W, r, s⟩ := st_box bm (h.bel.trans (hB.mono h.bel.size))
      exact ⟨sa, sn, sc, na, nn, nc, la, ln, lc, W, rfl, r, (h.grow hB).grow s.out.2, s.out.1⟩
    · rw [hk] at hk2; cases hk2
  · rcases hc with ⟨_, hk2⟩ | ⟨rfl, hk2, rfl⟩
    · rw [hk] at hk2; cases hk2
    · obtain ⟨W, r, s⟩ := st_box (BkM.nil u' 0 u'.heap.size) (h.bel.trans (hB.mono h.bel.size))
      exact ⟨none, 0, 0, none, 0, 0, none, 0, 0, W, rfl, r, (h.grow hB).grow s.out.2, s.out.1⟩
/-- The bytes of a book at hand, by the reference; what is at hand stays. -/
theorem st_ref {w u : World} {l : List UInt8} {X : BookT} {z : Int} {g : Nat} {sv nv lv : Value} (hl : l.length ≤ 20000) (hc : KC l X z) (h : StA w X g sv nv lv u) :
    Calls Tryd.prog 9 #[.agg #[sv, nv, lv]] u fun e u' => ∃ v', e = .returned v' ∧ Bts u' v' (bookB X) ∧ Below u.heap.size u u' := by
  obtain ⟨k1, k2⟩ := hc.ok
  refine (refBook_any h.bk (Nat.le_refl _) k1 (by omega)).mono ?_
  rintro e u' ⟨v', rfl, o, b⟩
  exact ⟨v', rfl, o.bts, b⟩
theorem st_own {w u : World} {l : List UInt8} {X : BookT} {z : Int} {g : Nat} {sv nv lv : Value} (hl : l.length ≤ 20000) (hc : KC l X z) (h : StA w X g sv nv lv u) :
    Calls Tryd.prog 7 #[.agg #[sv, nv, lv]] u fun e u' => ∃ v', e = .returned v' ∧ Bts u' v' (bookB X) ∧ Below u.heap.size u u' := by
  obtain ⟨k1, k2⟩ := hc.ok
  refine (book_any h.bk (Nat.le_refl _) k1 (by omega)).mono ?_
  rintro e u' ⟨v', rfl, o, b⟩
  exact ⟨v', rfl, o.bts, b⟩

/-! ### Changes -/
def OC (l : List UInt8) (L : List OpT) (z : Int) : Prop := (z = 0 ∧ readO l = some L) ∨ (z = 12 ∧ readO l = none ∧ L = [])
theorem OC.ok {l : List UInt8} {L : List OpT} {z : Int} (h : OC l L z) : (∀ o ∈ L, o.Ok) ∧ (opsB L).length ≤ l.length + 30 := by
  rcases h with ⟨_, h⟩ | ⟨_, _, rfl⟩
  · obtain ⟨e, k⟩ := readO_inv h
    exact ⟨k, by rw [e]; omega⟩
  · refine ⟨fun s hs => by simp at hs, ?_⟩
    have := numB_length (n := 0) (by constructor <;> decide)
    simp [opsB, lstB]
    omega
theorem OC.all (l : List UInt8) : ∃ L, OC l L 0 ∨ OC l L 12 := by
  rcases h : readO l with _ | X
  · exact ⟨[], .inr (.inr ⟨rfl, h, rfl⟩)⟩
  · exact ⟨X, .inl (.inl ⟨rfl, h⟩)⟩
def StO (w : World) (L : List OpT) (x : Value) (u : World) : Prop := Opl 0 u.heap.size u x L ∧ Below w.heap.size w u
theorem StO.grow {w u u' : World} {L : List OpT} {x : Value} (h : StO w L x u) (hb : Below u.heap.size u u') : StO w L x u' := ⟨h.1.grow hb, h.2.trans (hb.mono h.2.size)⟩
theorem st_o1 {w u : World} {v : Value} {l : List UInt8} {L : List OpT} {z : Int} (hb : Bts w v l) (hl : l.length ≤ 20000) (hc : OC l L z) (h : Below w.heap.size w u) :
    Calls Tryd.prog 12 #[v] u fun e u' => ∃ q0 q1 q2, e = .returned (.tuple #[.slice q0 q1 q2, .int .i64 z]) ∧ Hid (StO w L (.slice q0 q1 q2) u') := by
  rcases hc with ⟨rfl, hk⟩ | ⟨rfl, hk, rfl⟩
  · refine (readOps_some (hb.low h) (by omega) hk).mono ?_
    rintro e u' ⟨x, rfl, o, hB⟩
    obtain ⟨a, c, rfl, _, _⟩ := o.opl.slice
    exact ⟨a, _, c, rfl, o.opl.mono (Nat.zero_le _) (Nat.le_refl _), h.trans (hB.mono h.size)⟩
  · refine (readOps_none (hb.low h) (by omega) hk).mono ?_
    rintro e u' ⟨rfl, hB⟩
    exact ⟨none, 0, 0, rfl, Opl.nil _ _ _, h.trans (hB.mono h.size)⟩
theorem st_o2 {w u : World} {v : Value} {l : List UInt8} {L : List OpT} {z : Int} {x : Value} (hb : Bts w v l) (hl : l.length ≤ 20000) (hc : OC l L z) (h : StO w L x u) :
    Calls Tryd.prog 13 #[v] u fun e u' => ∃ q0 q1 q2, e = .returned (.tuple #[.slice q0 q1 q2, .int .i64 z]) ∧ Hid (StO w L x u' ∧ StO w L (.slice q0 q1 q2) u') := by
  refine (rops_any (hb.low h.2) (by omega)).mono ?_
  rintro e u' (⟨x', y, hk, rfl, o, hB⟩ | ⟨hk, rfl, hB⟩)
  · rcases hc with ⟨rfl, hk2⟩ | ⟨_, hk2, _⟩
    · rw [hk] at hk2
      cases hk2
      obtain ⟨a, c, rfl, _, _⟩ := o.opl.slice
      exact ⟨a, _, c, rfl, h.grow hB, o.opl.mono (Nat.zero_le _) (Nat.le_refl _), h.2.trans (hB.mono h.2.size)⟩
    · rw [hk] at hk2; cases hk2
  · rcases hc with ⟨_, hk2⟩ | ⟨rfl, hk2, rfl⟩
    · rw [hk] at hk2; cases hk2
    · exact ⟨none, 0, 0, rfl, h.grow hB, Opl.nil _ _ _, h.2.trans (hB.mono h.2.size)⟩
theorem st_oref {w u : World} {l : List UInt8} {L : List OpT} {z : Int} {x : Value} (hl : l.length ≤ 20000) (hc : OC l L z) (h : StO w L x u) :
    Calls Tryd.prog 14 #[x] u fun e u' => ∃ v', e = .returned v' ∧ Bts u' v' (opsB L) ∧ Below u.heap.size u u' := by
  obtain ⟨k1, k2⟩ := hc.ok
  refine (refOps_any h.1 (Nat.le_refl _) k1 (by omega)).mono ?_
  rintro e u' ⟨v', rfl, o, b⟩
  exact ⟨v', rfl, o.bts, b⟩
theorem st_oown {w u : World} {l : List UInt8} {L : List OpT} {z : Int} {x : Value} (hl : l.length ≤ 20000) (hc : OC l L z) (h : StO w L x u) :
    Calls Tryd.prog 15 #[x] u fun e u' => ∃ v', e = .returned v' ∧ Bts u' v' (opsB L) ∧ Below u.heap.size u u' := by
  obtain ⟨k1, k2⟩ := hc.ok
  refine (ops_any h.1 (Nat.le_refl _) k1 (by omega)).mono ?_
  rintro e u' ⟨v', rfl, o, b⟩
  exact ⟨v', rfl, o.bts, b⟩

/-! ### Ints -/
def IC (l : List UInt8) (ns : List Int) (z : Int) : Prop := (z = 0 ∧ readI l = some ns) ∨ (z = 12 ∧ readI l = none ∧ ns = [])
theorem IC.all (l : List UInt8) : ∃ L, IC l L 0 ∨ IC l L 12 := by
  rcases h : readI l with _ | X
  · exact ⟨[], .inr (.inr ⟨rfl, h, rfl⟩)⟩
  · exact ⟨X, .inl (.inl ⟨rfl, h⟩)⟩
theorem Its.shape {w : World} {v : Value} {ns : List Int} (h : Its w v ns) : ∃ a c, v = .slice a ns.length c ∧ ns.length ≤ c ∧ c ≤ maxLen := by
  rcases h with ⟨rfl, rfl⟩ | ⟨a, cap, rfl, h1, h2, _⟩
  · exact ⟨none, 0, rfl, Nat.le_refl _, by decide⟩
  · exact ⟨_, _, rfl, h1, h2⟩
set_option maxHeartbeats 1000000 in
theorem intsSame_any {w : World} {x y : Value} {ns : List Int} (hx : Its w x ns) (hy : Its w y ns) (hl : ns.length ≤ 9223372036854775807) :
    Calls Tryd.prog 18 #[x, y] w fun e w' => e = .returned (.bool true) ∧ Below w.heap.size w w' := by
  have HX : Hid (Its w x ns) := hx
  have HY : Hid (Its w y ns) := hy
  obtain ⟨a, c, rfl⟩ : ∃ a c, x = .slice a ns.length c := by
    rcases hx with ⟨rfl, rfl⟩ | ⟨a, cap, rfl, _⟩
    · exact ⟨none, 0, rfl⟩
    · exact ⟨_, _, rfl⟩
  obtain ⟨a2, c2, rfl⟩ : ∃ a c, y = .slice a ns.length c := by
    rcases hy with ⟨rfl, rfl⟩ | ⟨a, cap, rfl, _⟩
    · exact ⟨none, 0, rfl⟩
    · exact ⟨_, _, rfl⟩
  clear hx hy
  go_enter Tryd.func18, Tryd.ntmps18
  go_wp2_with fail
  go_loopw [13] (fun u13 wr => ∃ k : Nat, u13 = .int .i64 k ∧ k ≤ ns.length ∧ wr.heap = w.heap ∧ Hid (Below w.heap.size w wr)) (fun u13 _ => ns.length - (intOf u13).toNat)
  case atStart => exact ⟨0, rfl, by omega, rfl, Below.refl _ _⟩
  case round =>
    obtain ⟨k, rfl, hk, hh, HB⟩ := hrel
    by_cases hlt : k < ns.length
    · have cx : Hid (∃ a', a = some a' ∧ wr.cell? (a'.add k) = some (.int .i64 ns[k])) := by
        rcases HX.out with ⟨h1, rfl⟩ | ⟨a', cap, h1, _, _, h4⟩
        · simp at hlt
        · cases h1
          exact ⟨a', rfl, (World.cell?_of_block (by rw [hh])).trans (h4 k _ (List.getElem?_eq_getElem hlt))⟩
      have cy : Hid (∃ a', a2 = some a' ∧ wr.cell? (a'.add k) = some (.int .i64 ns[k])) := by
        rcases HY.out with ⟨h1, rfl⟩ | ⟨a', cap, h1, _, _, h4⟩
        · simp at hlt
        · cases h1
          exact ⟨a', rfl, (World.cell?_of_block (by rw [hh])).trans (h4 k _ (List.getElem?_eq_getElem hlt))⟩
      obtain ⟨a', rfl, cx⟩ := cx.out
      obtain ⟨b', rfl, cy⟩ := cy.out
      have HH : Hid (wr.heap = w.heap) := hh
      clear hh
      generalize ns[k] = z at *
      go_wp2
      go_region
      go_wp2
      go_roundw
      case rel => exact ⟨k + 1, by go_num, by omega, HH.out, HB.out.drew⟩
      case measure => simp [intOf]; omega
    · clear hh
      go_wp2
      go_ret
      exact ⟨rfl, HB.out⟩

def StI (w : World) (ns : List Int) (x : Value) (u : World) : Prop := Its u x ns ∧ Below w.heap.size w u
theorem st_i1 {w u : World} {v : Value} {l : List UInt8} {ns : List Int} {z : Int} (hb : Bts w v l) (hl : l.length ≤ 20000) (hc : IC l ns z) (h : Below w.heap.size w u) :
    Calls Tryd.prog 16 #[v] u fun e u' => ∃ q0 q1 q2, e = .returned (.tuple #[.slice q0 q1 q2, .int .i64 z]) ∧ Hid (StI w ns (.slice q0 q1 q2) u') := by
  rcases hc with ⟨rfl, hk⟩ | ⟨rfl, hk, rfl⟩
  · refine (readInts_some (hb.low h) (by omega) hk).mono ?_
    rintro e u' ⟨x, rfl, o, _, hB⟩
    obtain ⟨a, c, rfl, _, _⟩ := o.shape
    exact ⟨a, _, c, rfl, o, h.trans (hB.mono h.size)⟩
  · refine (readInts_none (hb.low h) (by omega) hk).mono ?_
    rintro e u' ⟨rfl, hB⟩
    exact ⟨none, 0, 0, rfl, .inl ⟨rfl, rfl⟩, h.trans (hB.mono h.size)⟩
theorem st_i2 {w u : World} {v : Value} {l : List UInt8} {ns : List Int} {z : Int} {x : Value} (hb : Bts w v l) (hl : l.length ≤ 20000) (hc : IC l ns z) (h : StI w ns x u) :
    Calls Tryd.prog 17 #[v] u fun e u' => ∃ q0 q1 q2, e = .returned (.tuple #[.slice q0 q1 q2, .int .i64 z]) ∧ Hid (StI w ns x u' ∧ StI w ns (.slice q0 q1 q2) u') := by
  refine (rints_any (hb.low h.2) (by omega)).mono ?_
  rintro e u' (⟨x', y, hk, rfl, o, hB⟩ | ⟨hk, rfl, hB⟩)
  · rcases hc with ⟨rfl, hk2⟩ | ⟨_, hk2, _⟩
    · rw [hk] at hk2
      cases hk2
      obtain ⟨a, c, rfl, _, _⟩ := o.its.shape
      exact ⟨a, _, c, rfl, ⟨h.1.kept hB.block, h.2.trans (hB.mono h.2.size)⟩, o.its, h.2.trans (hB.mono h.2.size)⟩
    · rw [hk] at hk2; cases hk2
  · rcases hc with ⟨_, hk2⟩ | ⟨rfl, hk2, rfl⟩
    · rw [hk] at hk2; cases hk2
    · exact ⟨none, 0, 0, rfl, ⟨h.1.kept hB.block, h.2.trans (hB.mono h.2.size)⟩, .inl ⟨rfl, rfl⟩, h.2.trans (hB.mono h.2.size)⟩
theorem st_i3 {w u : World} {ns : List Int} {x y : Value} (h : StI w ns x u ∧ StI w ns y u) :
    Calls Tryd.prog 18 #[x, y] u fun e u' => e = .returned (.bool true) ∧ Hid (Below w.heap.size w u') := by
  obtain ⟨a, c, _, h1, h2⟩ := h.1.1.shape
  refine (intsSame_any h.1.1 h.2.1 (by unfold maxLen at h2; omega)).mono ?_
  rintro e u' ⟨rfl, hB⟩
  exact ⟨rfl, h.1.2.trans (hB.mono h.1.2.size)⟩

end Go.Proofs.YtohndhmhgdelmaaDoor
