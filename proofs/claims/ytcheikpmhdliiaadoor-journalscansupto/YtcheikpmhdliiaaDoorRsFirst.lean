/- The contract of the reference's First. -/
import Derived.Test.YtcheikpmhdliiaaDoorRsInts
namespace Go.Proofs.YtcheikpmhdliiaaDoor
open Go.RowKit
set_option maxRecDepth 100000

def RsF (w : World) (l : List UInt8) (e : Ending) (w' : World) : Prop :=
  ∃ ns v rv r wq, e = .returned (.tuple #[v, rv, .bool (!wq)]) ∧ OwnI w.heap.size w' v ns ∧ Bts w' rv r ∧ Below w.heap.size w w' ∧ Sp false (lstR numR l) ns r wq ∧ r.length ≤ 1099511627776

set_option maxHeartbeats 4000000 in
theorem rfirst_any {w : World} {v : Value} {l : List UInt8} (h : Bts w v l) (hl : l.length ≤ 1099511627776) :
    Calls Tryd.prog 43 #[v] w fun e w' => RsF w l e w' := by
  have C := rcount_any (rs_start h) hl
  obtain ⟨va, vc, rfl, _, _⟩ := h.slice
  clear h
  go_enter Tryd.func43, Tryd.ntmps43
  go_wp2_with fail
  refine C.mono ?_
  rintro e w1 ⟨n, l0, wr0, rfl, rs, g, s0, hl0⟩
  have S0 : Hid (Sp false (countR l) n l0 wr0) := s0
  have ST : Hid (∃ li wri, RS w.heap.size w1 w.heap.size li wri ∧ (rsW w (.slice va l.length vc)).grownBy w1 (some w.heap.size) ∧ Sq numR n l0 wr0 [] li wri ∧ li.length ≤ 1099511627776) := ⟨l0, wr0, rs, g, Sq.start s0 hl0, hl0⟩
  clear C rs g s0
  go_wp2_with fail
  go_loopw [6, 8] (fun u6 u8 wk => ∃ i : Nat, u8 = .int .i64 i ∧ ∃ xs, xs.length = i ∧ Hid (OwnI (w.heap.size + 1) wk u6 xs) ∧ Hid (∃ li wri, RS w.heap.size wk w.heap.size li wri ∧ (rsW w (.slice va l.length vc)).grownBy wk (some w.heap.size) ∧ Sq numR n l0 wr0 xs li wri ∧ li.length ≤ 1099511627776)) (fun _ u8 _ => n - (intOf u8).toNat)
  case atStart => exact ⟨0, rfl, [], rfl, World.ownsRow_nil _ _ _ _, ST⟩
  case round =>
    obtain ⟨i, rfl, xs, hxi, HO, HS⟩ := hrel
    clear ST
    obtain ⟨li, wri, rs, g, sq, hli⟩ := HS.out
    clear HS
    obtain ⟨a, c, h1, h2, h3, h4⟩ := rs.cells
    obtain ⟨c0, f0, c1, f1⟩ := cells126 h1
    by_cases hgo : i < n ∧ wri = false
    · obtain ⟨hlt, rfl⟩ := hgo
      have hn40 := sq.few
      have C3 : Calls Tryd.prog 69 #[ptrOf w.heap.size] wr fun e w4 => ∃ (x : Int) (v4 : Value) (w5 : World), e = .returned (.int .i64 x) ∧ Hid ((Builtin.append_ #[62, 62] 62 #[u6, .slice (some ⟨w4.heap.size, 0, none⟩) 1 1]).run Tryd.prog (w4.alloc (.cells #[.int .i64 x] 3)) = .ok v4 w5) ∧
          Hid (∃ xs', xs'.length = i + 1 ∧ Hid (OwnI (w.heap.size + 1) w5 v4 xs') ∧ Hid (∃ li wri, RS w.heap.size w5 w.heap.size li wri ∧ (rsW w (.slice va l.length vc)).grownBy w5 (some w.heap.size) ∧ Sq numR n l0 wr0 xs' li wri ∧ li.length ≤ 1099511627776)) := by
        refine (rnum_any rs hli).mono ?_
        rintro e w4 ⟨x, l3, wr3, rfl, rs3, g3, s3, hl3⟩
        have G3 := grown_trans g g3
        have hsz : w.heap.size + 1 ≤ w4.heap.size := by have := G3.size; simpa using this
        have ho : OwnI (w.heap.size + 1) w4 u6 xs := ownsRow_of_block HO.out fun b hb => g3.block b (World.ownsRow.lt HO.out b hb).2 (by have := (World.ownsRow.lt HO.out b hb).1; simp; omega)
        obtain ⟨v4, w5, r5, o5, b5⟩ := own_int ho hsz x (by omega)
        exact ⟨x, v4, w5, rfl, r5, xs ++ [x], by simp [hxi], o5, l3, wr3, rs3.kept (by omega) b5, grown_below G3 b5 (by simp), sq.step (by omega) s3, hl3⟩
      clear rs g sq h1 h2 h3 h4
      go_wp2_with fail
      refine C3.mono ?_
      rintro e w4 ⟨x3, v4, w5, rfl, R5, HF⟩
      clear C3 c0 f0 c1 f1
      go_wp2_with (at_builtin; refine wpList_append_run rfl _ _ 62 rfl _ _ _ _ rfl rfl R5.out ?_)
      clear R5
      go_roundw
      case rel => exact ⟨i + 1, by go_num, HF.out⟩
      case measure => simp [intOf]; omega
    · have sp : Sp false (lstR numR l) xs li wri := Sp.bindK S0.out (sq.stop fun hw => by
          have : ¬ i < n := fun h => hgo ⟨h, hw⟩
          omega)
      have B1 : Hid (Below w.heap.size w wr) := rsW_below g
      have OI : OwnI w.heap.size wr u6 xs := HO.out.mono (by omega)
      have FN : Hid (∀ w', Below wr.heap.size wr w' → RsF w l (.returned (.tuple #[u6, .slice a li.length c, .bool (!wri)])) w') := fun w' hw' =>
        ⟨xs, _, _, li, wri, rfl, ownsRow_of_block OI fun g hg => hw'.block g (World.ownsRow.lt OI g hg).2, h2.below hw', B1.out.trans (hw'.mono B1.out.size), sp, hli⟩
      clear rs g sq h2 h3 h4 h1 sp OI HO
      by_cases hlt : i < n
      · have hw : wri = true := by
          cases wri
          · exact absurd ⟨hlt, rfl⟩ hgo
          · rfl
        subst hw
        clear hgo
        go_wp2_with fail
        go_region_held_law (fun u => u.cell? ⟨w.heap.size, 0, none⟩ = some (.slice a li.length c) ∧ u.cell? ⟨w.heap.size, 1, none⟩ = some (.bool true)) (exact ⟨c0, c1⟩) (fail)
        go_wp2_with fail
        go_ret3
        exact FN.out _ ((Below.refl _ _).drew)
      · clear hgo
        cases wri with
        | true =>
          go_wp2_with fail
          go_region_held_law (fun u => u.cell? ⟨w.heap.size, 0, none⟩ = some (.slice a li.length c) ∧ u.cell? ⟨w.heap.size, 1, none⟩ = some (.bool true)) (exact ⟨c0, c1⟩) (fail)
          go_wp2_with fail
          go_ret3
          exact FN.out _ ((Below.refl _ _).drew)
        | false =>
          go_wp2_with fail
          go_region_held_law (fun u => u.cell? ⟨w.heap.size, 0, none⟩ = some (.slice a li.length c) ∧ u.cell? ⟨w.heap.size, 1, none⟩ = some (.bool false)) (exact ⟨c0, c1⟩) (fail)
          go_wp2_with fail
          go_ret3
          exact FN.out _ ((Below.refl _ _).drew)
end Go.Proofs.YtcheikpmhdliiaaDoor
