/- The reference's Plan and Synced, plainly. -/
import Derived.Test.YtmeecjedikechaaRSync
namespace Go.Proofs.Ytmeecjedikechaa
open Go.RowKit Go.Maps
set_option maxRecDepth 100000
set_option linter.unusedVariables false
set_option linter.unusedSimpArgs false
def planP (n k : Int) (s : RS) (P : List PF) : Int × RS × List PF :=
  if s.off = true then (13, s, P) else if n < 0 ∨ k < 0 then (2, s, P) else (0, { s with cut := n, keep := k }, P)
set_option maxHeartbeats 1000000 in
theorem rplanP {K : Nat → Prop} {w : World} {rb : Nat} {s : RS} {P : List PF} (h : RefP K w rb s P) (n k : Int) :
    Calls Try.prog 38 #[ptrOf rb, .int .i64 n, .int .i64 k] w (Ends K w rb (planP n k s P)) := by
  have hR : Hid (RefP K w rb s P) := h
  obtain ⟨L, hW, -⟩ := h
  obtain ⟨fa, fc, hB, -, -⟩ := hW.slice
  obtain ⟨⟨-, c1, c2, c3, -⟩, cf⟩ := rbS_cells hB
  have f2 := cf 2
  have f3 := cf 3
  have HG : Hid (w.grownBy ((w.setCell ⟨rb, 2, none⟩ (.int .i64 n)).setCell ⟨rb, 3, none⟩ (.int .i64 k)) (some rb)) := gr_set (gr_set (gr_below (Below.refl _ _)))
  clear hW hB cf
  cases ho : s.off with
  | true =>
    have HE : Hid (Ends K w rb (planP n k s P) (.returned (.int .i64 13)) w) := by
      refine ⟨by simp [planP, ho], ?_, gr_below (Below.refl _ _)⟩
      simp only [planP, ho, if_true]
      exact hR.out.old
    rw [ho] at c1
    clear ho
    go_enter Try.func38, Try.ntmps38
    go_wp2
    go_ret
    exact HE.out
  | false =>
    rw [ho] at c1
    by_cases hn : n < 0
    · have HE : Hid (Ends K w rb (planP n k s P) (.returned (.int .i64 2)) w) := by
        refine ⟨by simp [planP, ho, hn], ?_, gr_below (Below.refl _ _)⟩
        simp only [planP, ho, hn, true_or, if_true, Bool.false_eq_true, if_false]
        exact hR.out.old
      clear ho
      go_enter Try.func38, Try.ntmps38
      go_wp2
      go_ret
      exact HE.out
    · by_cases hk : k < 0
      · have HE : Hid (Ends K w rb (planP n k s P) (.returned (.int .i64 2)) w) := by
          refine ⟨by simp [planP, ho, hn, hk], ?_, gr_below (Below.refl _ _)⟩
          simp only [planP, ho, hn, hk, or_true, if_true, Bool.false_eq_true, if_false]
          exact hR.out.old
        clear ho
        go_enter Try.func38, Try.ntmps38
        go_wp2
        go_ret
        exact HE.out
      · have HE : Hid (Ends K w rb (planP n k s P) (.returned (.int .i64 0)) ((w.setCell ⟨rb, 2, none⟩ (.int .i64 n)).setCell ⟨rb, 3, none⟩ (.int .i64 k))) := by
          refine ⟨by simp [planP, ho, hn, hk], ?_, HG.out⟩
          simp only [planP, ho, hn, hk, or_false, if_true, Bool.false_eq_true, if_false]
          refine RefP.old (RefP.setf hR.out (fun fv hb => ?_) HG.out)
          rw [rb_set3 (rb_set2 hb)]
          simp [rbS, ho]
        clear ho
        go_enter Try.func38, Try.ntmps38
        go_wp2
        go_ret
        exact HE.out
end Go.Proofs.Ytmeecjedikechaa
