/- The contract of box.Read. -/
import Derived.Test.YthomhaegdlglhaaDoorSplit
import Derived.Test.YthomhaegdlglhaaDoorWrong
namespace Go.Proofs.YthomhaegdlglhaaDoor
open Go.RowKit
set_option maxRecDepth 100000

set_option maxHeartbeats 2000000 in
theorem read_any {w : World} {v : Value} {b : List UInt8} (h : Bts w v b) (T : Tab w) :
    Calls Tryd.prog 18 #[v] w fun e w' => (readB b = none ∧ e = .returned (.tuple #[.slice none 0 0, .int .i64 12]) ∧ Below w.heap.size w w') ∨
      ∃ L lv, readB b = some L ∧ e = .returned (.tuple #[lv, .int .i64 0]) ∧ Chs w' lv L ∧ Below w.heap.size w w' := by
  have O := open_any h T
  have HT : Hid (Tab w) := T
  clear h T
  go_enter Tryd.func18, Tryd.ntmps18
  go_wp2_with fail
  refine O.mono ?_
  rintro e w1 (⟨ho, ⟨x, y, rfl⟩, b1⟩ | ⟨en, da, c, dv, ho, rfl, o1, d1, b1, hx⟩)
  · have hR : Hid (readB b = none) := by show _ = _; unfold readB; rw [ho]
    go_wp2_with fail
    go_ret2
    exact .inl ⟨hR.out, rfl, b1⟩
  · have hen := (of_open ho).2
    have S := split_any o1.bts d1 hx (HT.out.below (Nat.le_refl _) b1) hen
    have B1 : Hid (Below w.heap.size w w1) := b1
    have HO : Hid (openB b = some (en, da)) := ho
    clear ho o1 d1 b1 hx O
    go_wp2_with fail
    refine S.mono ?_
    rintro e w2 ⟨lv, ok, L, rfl, oc, b2, hL, hs⟩
    have B2 : Hid (Below w.heap.size w w2) := B1.out.trans (b2.mono B1.out.size)
    cases ok with
    | false =>
      have hR : Hid (readB b = none) := by show _ = _; unfold readB; rw [HO.out]; simp only [hs]; rfl
      clear hs oc b2
      go_wp2_with fail
      go_ret2
      exact .inl ⟨hR.out, rfl, B2.out⟩
    | true =>
      have hR : Hid (readB b = if wrongB L = 0 then some L else none) := by show _ = _; unfold readB; rw [HO.out]; simp only [hs]; rfl
      have W := wrong_any oc.chs (by omega)
      have HCh : Hid (Chs w2 lv L) := oc.chs
      clear hs oc b2
      by_cases hw : wrongB L = 0
      · rw [hw] at W
        have hR' : Hid (readB b = some L) := by show _ = _; rw [hR.out, if_pos hw]
        clear hw hR
        go_wp2_with fail
        refine W.mono ?_
        rintro e w3 ⟨rfl, b3⟩
        go_wp2_with fail
        go_ret2
        exact .inr ⟨L, lv, hR'.out, rfl, HCh.out.below b3, B2.out.trans (b3.mono B2.out.size)⟩
      · have hR' : Hid (readB b = none) := by show _ = _; rw [hR.out, if_neg hw]
        generalize wrongB L = x at *
        have hx : ¬ ((x : Int) = 0) := by omega
        clear hR
        go_wp2_with fail
        refine W.mono ?_
        rintro e w3 ⟨rfl, b3⟩
        go_wp2_with fail
        go_ret2
        exact .inl ⟨hR'.out, rfl, B2.out.trans (b3.mono B2.out.size)⟩
end Go.Proofs.YthomhaegdlglhaaDoor
