/- The walk of octavoref02.ReadBook. -/
import Derived.Test.YtohndhmhgdelmaaDoorBkRs
import Derived.Deep.RegionHeldLaw
import Derived.Test.YtohndhmhgdelmaaDoorBkDraw
import Derived.Shelf.Abstract
import Derived.Test.YtohndhmhgdelmaaDoorBkWalk
namespace Go.Proofs.YtohndhmhgdelmaaDoor
open Go.RowKit
set_option maxRecDepth 100000
set_option linter.unusedVariables false
set_option linter.unusedSimpArgs false

def RsK (w : World) (l : List UInt8) (e : Ending) (w' : World) : Prop :=
  (∃ x sv nv lv, readK l = some x ∧ e = .returned (.tuple #[.agg #[sv, nv, lv], .int .i64 0]) ∧ BkM 0 w'.heap.size w' sv nv lv x ∧ Below w.heap.size w w') ∨
  (readK l = none ∧ e = .returned (.tuple #[.agg #[.slice none 0 0, .slice none 0 0, .slice none 0 0], .int .i64 12]) ∧ Below w.heap.size w w')

/-- A call by a contract, as one step of a region that draws. -/
theorem step_call_run {P : Program} {ops : Array Oper} {o : Oper} {a : Act} {w : World} {K : Act → World → Prop} {Q : Exit → Act → World → Prop} {E : Prop}
    (hg : o.guard = none) (n : Nat) (hdst : o.dst = some n) (f : FuncId) (xs : Array Operand) (ts : Array TypeId) (hop : o.op = Op.call { callee := Callee.value (Operand.func f), args := xs, argTypes := ts })
    (args : Array Value) (hargs : xs.map a.eval = args) (hE : ∀ (args : Array Value) (w : World), (callFunc f args).run P w = .ok (.enter f args) w) (R : Value → World → Prop)
    (C : Calls P f args w fun e w' => ∃ v, e = .returned v ∧ R v w') (hK : ∀ v w', R v w' → K (a.put (some n) v) w') : if Region.wanted o (yielded ops a.tmps) = true then Oper.wp P o a w K Q else E := by
  have hw : Region.wanted o (yielded ops a.tmps) = true := by simp [Region.wanted, hg]
  rw [if_pos hw]
  unfold Oper.wp
  have h : (execOp a.eval o).run P w = .ok (.enter f args) w := by
    simp [execOp, hop, resolve, invoke, hargs, hE, Deferred.ofValue, Act.eval]
  rw [h]
  refine C.mono ?_
  rintro e w' ⟨v, rfl, h⟩
  show K (a.put o.dst v) w'
  rw [hdst]
  exact hK v w' h
theorem enters33 : ∀ (args : Array Value) (w : World), (callFunc 33 args).run Tryd.prog w = .ok (.enter 33 args) w := enters_of Tryd.func33 (by kernel_rfl) rfl
theorem enters34 : ∀ (args : Array Value) (w : World), (callFunc 34 args).run Tryd.prog w = .ok (.enter 34 args) w := enters_of Tryd.func34 (by kernel_rfl) rfl
theorem enters35 : ∀ (args : Array Value) (w : World), (callFunc 35 args).run Tryd.prog w = .ok (.enter 35 args) w := enters_of Tryd.func35 (by kernel_rfl) rfl

theorem eqw_refl (w : World) : EqW w w := ⟨rfl, rfl, rfl, rfl⟩
theorem KS.book {w wk : World} {li : List UInt8} {wri : Bool} {sv nv lv : Value} {S : List SheetT} {N : List NameT} {L : List LinkT} {m : Nat} (hm : m ≤ wk.heap.size) (hS : Shs (w.heap.size + 3) m wk sv S) (hN : Nms (w.heap.size + 3) m wk nv N) (hL : OwnLl m wk lv L) : BkM (w.heap.size + 3) wk.heap.size wk sv nv lv ⟨S, N, L⟩ ∨ w.heap.size + 3 > m := by
  rcases Nat.lt_or_ge m (w.heap.size + 3) with h | h
  · exact .inr h
  · exact .inl ⟨hS.mono (Nat.le_refl _) hm, hN.mono (Nat.le_refl _) hm, Lks.mono hL.lks h (Nat.le_refl _)⟩

set_option maxHeartbeats 8000000 in
theorem rbook_any {w : World} {v : Value} {l : List UInt8} (h : Bts w v l) (hl : l.length ≤ 536870911999) :
    Calls Tryd.prog 11 #[v] w fun e w' => RsK w l e w' := by
  have K0 := KS.start h (by omega)
  obtain ⟨va, vc, rfl, _, _⟩ := h.slice
  have C := rcount_any K0.rs K0.hl
  have HK0 : Hid _ := K0
  clear h K0
  go_enter Tryd.func11, Tryd.ntmps11
  go_wp2_with fail
  refine C.mono ?_
  rintro e w1 ⟨n, l0, wr0, rfl, rs, g, s0, hl0⟩
  obtain ⟨k1, _, _⟩ := HK0.out.call (eqw_refl _) rs g hl0
  have S0 : Hid (Sp false (countR l) n l0 wr0) := s0
  have HNN : Hid (wr0 = false → n ≤ 536870911999) := fun e => by
    subst e
    rcases s0 with ⟨_, _, q⟩ | ⟨q, _⟩
    · have := (countR_inv q).2.1
      have := countR_len q
      omega
    · cases q
  have HST : Hid (∃ (S : List SheetT) (li : List UInt8) (wri : Bool) (sa : Option Addr) (sn sc : Nat), S.length = 0 ∧ KS w w1 li wri (.slice sa sn sc) (.slice none 0 0) (.slice none 0 0) ∧ OwnSl (w.heap.size + 3) w1 (.slice sa sn sc) S ∧ Sq sheetR n l0 wr0 S li wri) := ⟨[], l0, wr0, none, 0, 0, rfl, k1, OwnSl.nil _ _, Sq.start s0 hl0⟩
  clear C rs g s0 k1 HK0
  go_wp2_with fail
  go_loopw [7] (fun u7 wk => ∃ i : Nat, u7 = .int .i64 i ∧ Hid (∃ (S : List SheetT) (li : List UInt8) (wri : Bool) (sa : Option Addr) (sn sc : Nat), S.length = i ∧ KS w wk li wri (.slice sa sn sc) (.slice none 0 0) (.slice none 0 0) ∧ OwnSl (w.heap.size + 3) wk (.slice sa sn sc) S ∧ Sq sheetR n l0 wr0 S li wri)) (fun u7 _ => n - (intOf u7).toNat)
  case atStart => exact ⟨0, rfl, HST⟩
  case round =>
    obtain ⟨i, rfl, HR⟩ := hrel
    clear HST
    obtain ⟨S, li, wri, sa, sn, sc, hSi, ks, hO, sq⟩ := HR.out
    clear HR
    obtain ⟨a, c, h1, h2, h3, h4⟩ := ks.rs.cells
    obtain ⟨c0, f0, c1, f1⟩ := cells75 h1
    by_cases hgo : i < n ∧ wri = false
    · obtain ⟨hlt, rfl⟩ := hgo
      have hn40 : n ≤ 536870911999 := HNN.out (by
        rcases sq with ⟨_, q, _⟩ | ⟨q, _⟩
        · exact q
        · cases q)
      have SQ : Hid (Sq sheetR n l0 wr0 S li false) := sq
      have HS : Hid (KS w wr li false (.slice sa sn sc) (.slice none 0 0) (.slice none 0 0) ∧ OwnSl (w.heap.size + 3) wr (.slice sa sn sc) S) := ⟨ks, hO⟩
      have C1 := rtext_any ks.rs ks.hl
      clear ks hO sq h1 h2 h3 h4
      go_wp2_with fail
      refine C1.mono ?_
      rintro e w2 ⟨x1, l1, wq1, rfl, rs1, g1, s1, hl1⟩
      obtain ⟨k2, hk2, hs2⟩ := HS.out.1.call (eqw_refl _) rs1 g1 hl1
      have HS2 : Hid (KS w w2 l1 wq1 (.slice sa sn sc) (.slice none 0 0) (.slice none 0 0) ∧ OwnSl (w.heap.size + 3) w2 (.slice sa sn sc) S) := ⟨k2, HS.out.2.kept fun j hj1 hj2 => hk2 j hj2 (by omega)⟩
      have P1 : Hid (Sp false (textR li) x1 l1 wq1) := s1
      have HK : Hid (w2.heap[w.heap.size + 1 + 1]? = some (.cells #[.slice sa sn sc, .slice none 0 0, .slice none 0 0] 26)) := k2.xb
      have FR := fun u eq => ks_sheet (u := u) x1 HS2.out.1 eq HS2.out.2 (by omega)
      have HFR : Hid (∀ u : World, EqW u w2 → Calls Tryd.prog 33 #[ptrOf (w.heap.size + 1)] u fun e w4 => ∃ v, e = .returned v ∧ ShR w w2 l1 wq1 (.slice sa sn sc) (.slice none 0 0) (.slice none 0 0) S x1 v w4) := FR
      clear FR
      clear C1 rs1 g1 s1 k2 hk2 hs2 HS c0 f0 c1 f1
      go_wp2_with fail
      have y2 := cell_heap HK.out (j := 0) rfl
      refine wp_region_d (fun u => u.cell? ⟨w.heap.size + 1 + 1, 0, none⟩ = some (.slice sa sn sc)) (fun j => j == 9) (by kernel_rfl) ?_
      refine wpAnyD_pure (i := 0) (v := .pointer (some ⟨w.heap.size + 1 + 1, 0, none⟩)) rfl (by kernel_rfl) (by kernel_rfl) (by kernel_rfl) (fun _ _ _ h => h) (by rfl) (by intro u; go_simp) ?_
      try simp only [Act.put, List.setIfInBounds_toArray, List.set_cons_zero, List.set_cons_succ]
      refine wpAnyD_load (i := 1) (v := .slice sa sn sc) rfl (by kernel_rfl) (by kernel_rfl) (by kernel_rfl) (by kernel_rfl) (fun _ _ _ h => h) (by rfl) (by intro u hSu; go_simp) (y2) ?_
      try simp only [Act.put, List.setIfInBounds_toArray, List.set_cons_zero, List.set_cons_succ]
      refine wpAnyD_pure (i := 2) (v := .string x1) rfl (by kernel_rfl) (by kernel_rfl) (by kernel_rfl) (fun _ _ _ h => h) (by rfl) (by intro u; go_simp) ?_
      try simp only [Act.put, List.setIfInBounds_toArray, List.set_cons_zero, List.set_cons_succ]
      refine wpAnyD_pure (i := 3) (v := ptrOf (w.heap.size + 1)) rfl (by kernel_rfl) (by kernel_rfl) (by kernel_rfl) (fun _ _ _ h => h) (by rfl) (by intro u; go_simp) ?_
      try simp only [Act.put, List.setIfInBounds_toArray, List.set_cons_zero, List.set_cons_succ]
      refine wpAnyD_one (i := 4) (by kernel_rfl) rfl ?_
      intro K hK
      go_simp
      refine (HFR.out w2.drew ⟨rfl, rfl, rfl, rfl⟩).mono ?_
      rintro e w4 ⟨v4, rfl, ca, cn, cc, va4, vn4, vc4, w5, rfl, HK4, hrun, hc5, hf5, HF⟩
      refine hK _ _ (.inr fun _ => cell_heap HK4.out rfl) ?_
      clear hK
      try simp only [Act.put, List.setIfInBounds_toArray, List.set_cons_zero, List.set_cons_succ]
      refine wpAnyD_pure (i := 5) (v := .agg #[.string x1, .slice ca cn cc]) rfl (by kernel_rfl) (by kernel_rfl) (by kernel_rfl) (fun _ _ _ h => h) (by rfl) (by intro u; go_simp) ?_
      try simp only [Act.put, List.setIfInBounds_toArray, List.set_cons_zero, List.set_cons_succ]
      refine wpAnyD_one (i := 6) (by kernel_rfl) rfl ?_
      intro K hK
      go_simp
      refine hK _ _ (.inr fun _ => cell_old HK4.out rfl _) ?_
      clear hK
      try simp only [Act.put, List.setIfInBounds_toArray, List.set_cons_zero, List.set_cons_succ]
      refine wpAnyD_one (i := 7) (by kernel_rfl) rfl ?_
      intro K hK
      refine step_append_run rfl 37 rfl _ _ 22 rfl _ _ _ _ rfl rfl hrun ?_
      refine hK _ _ (.inr fun _ => hc5) ?_
      clear hK
      try simp only [Act.put, List.setIfInBounds_toArray, List.set_cons_zero, List.set_cons_succ]
      refine wpAnyD_pure (i := 8) (v := .pointer (some ⟨w.heap.size + 1 + 1, 0, none⟩)) rfl (by kernel_rfl) (by kernel_rfl) (by kernel_rfl) (fun _ _ _ h => h) (by rfl) (by intro u; go_simp) ?_
      try simp only [Act.put, List.setIfInBounds_toArray, List.set_cons_zero, List.set_cons_succ]
      refine wpAnyD_one (i := 9) (by kernel_rfl) rfl ?_
      intro K hK
      go_simp
      refine hK _ _ (.inl rfl) ?_
      clear hK
      try simp only [Act.put, List.setIfInBounds_toArray, List.set_cons_zero, List.set_cons_succ]
      refine wpAnyD_done (by kernel_rfl) ?_ _
      have HF2 : Hid (∃ (S : List SheetT) (li : List UInt8) (wri : Bool) (sa : Option Addr) (sn sc : Nat), S.length = i + 1 ∧ KS w (w5.setCell ⟨w.heap.size + 1 + 1, 0, none⟩ (.slice va4 vn4 vc4)) li wri (.slice sa sn sc) (.slice none 0 0) (.slice none 0 0) ∧ OwnSl (w.heap.size + 3) (w5.setCell ⟨w.heap.size + 1 + 1, 0, none⟩ (.slice va4 vn4 vc4)) (.slice sa sn sc) S ∧ Sq sheetR n l0 wr0 S li wri) := by
        obtain ⟨cl, l', wr', k6, o6, sp⟩ := HF.out
        refine ⟨S ++ [⟨x1, cl⟩], l', wr', va4, vn4, vc4, by simp [hSi], k6, o6, SQ.out.step (by omega) ?_⟩
        unfold sheetR
        exact Sp.bindK P1.out (Sp.bindK sp (Sp.pure wr' _ l'))
      clear HF SQ P1 HS2 HK HK4 hrun hc5 hf5 HFR y2
      go_wp2_with fail
      go_roundw
      case rel => exact ⟨i + 1, by go_num, HF2⟩
      case measure => simp [intOf]; omega
    · have sp1 : Hid (Sp false (lstR sheetR l) S li wri) := Sp.bindK S0.out (sq.stop fun hw => by
          have : ¬ i < n := fun h => hgo ⟨h, hw⟩
          omega)
      have C2 := rcount_any ks.rs ks.hl
      have HS1 : Hid (KS w wr li wri (.slice sa sn sc) (.slice none 0 0) (.slice none 0 0) ∧ OwnSl (w.heap.size + 3) wr (.slice sa sn sc) S) := ⟨ks, hO⟩
      have hcase : (i < n ∧ wri = true) ∨ ¬ i < n := by
        by_cases hlt : i < n
        · refine .inl ⟨hlt, ?_⟩
          cases wri
          · exact absurd ⟨hlt, rfl⟩ hgo
          · rfl
        · exact .inr hlt
      clear ks hO sq h1 h2 h3 h4 S0 HNN hgo
      rcases hcase with ⟨hlt, hw⟩ | hlt
      all_goals
        try (rw [hw] at c1; clear hw)
        go_wp2_with fail
        refine C2.mono ?_
        rintro e w2 ⟨n2, l2, wr2, rfl, rs2, g2, s2, hl2⟩
        obtain ⟨k2, hk2, hs2⟩ := HS1.out.1.call (eqw_refl _) rs2 g2 hl2
        have O2 := HS1.out.2.kept (w' := w2) fun j hj1 hj2 => hk2 j hj2 (by omega)
        have HST2 : Hid (∃ (X : List NameT) (li : List UInt8) (wri : Bool) (p0 : Option Addr) (p1 p2 : Nat), X.length = 0 ∧ KS w w2 li wri (.slice sa sn sc) (.slice p0 p1 p2) (.slice none 0 0) ∧ w2.heap.size ≤ w2.heap.size ∧ OwnNl w2.heap.size w2 (.slice p0 p1 p2) X ∧ Shs (w.heap.size + 3) w2.heap.size w2 (.slice sa sn sc) S ∧ Sq nameR n2 l2 wr2 X li wri) := ⟨[], l2, wr2, none, 0, 0, rfl, k2, Nat.le_refl _, OwnR.nil _ _ _ _ _, O2.shs, Sq.start s2 hl2⟩
        have HC2 : Hid (Sp wri (countR li) n2 l2 wr2) := s2
        have hm2 : Hid (w.heap.size + 3 ≤ w2.heap.size) := k2.sz
        clear C2 rs2 g2 s2 k2 hk2 hs2 HS1 O2
        go_wp2_with fail
        go_loopw [9] (fun u9 wk => ∃ i : Nat, u9 = .int .i64 i ∧ Hid (∃ (X : List NameT) (li : List UInt8) (wri : Bool) (p0 : Option Addr) (p1 p2 : Nat), X.length = i ∧ KS w wk li wri (.slice sa sn sc) (.slice p0 p1 p2) (.slice none 0 0) ∧ w2.heap.size ≤ wk.heap.size ∧ OwnNl w2.heap.size wk (.slice p0 p1 p2) X ∧ Shs (w.heap.size + 3) w2.heap.size wk (.slice sa sn sc) S ∧ Sq nameR n2 l2 wr2 X li wri)) (fun u9 _ => n2 - (intOf u9).toNat)
        case atStart => exact ⟨0, rfl, HST2⟩
        case round =>
          obtain ⟨i, rfl, HR⟩ := hrel
          clear HST2
          obtain ⟨X2, li2, wri2, na, nn, nc, hXi, ks, hsz, hO, hKP, sq⟩ := HR.out
          clear HR
          obtain ⟨a, c, h1, h2, h3, h4⟩ := ks.rs.cells
          obtain ⟨c0, f0, c1, f1⟩ := cells75 h1
          by_cases hgo : i < n2 ∧ wri2 = false
          · obtain ⟨hlt, rfl⟩ := hgo
            have hn40 := sq.few
            have HK : Hid _ := ks.xb
            have HFR : Hid (∀ u : World, EqW u wr → _) := fun u eq => ks_name ks eq hm2.out hsz hO hKP sq (by omega)
            clear ks hO sq h1 h2 h3 h4 hKP
            go_wp2_with fail
            have y2 := cell_heap HK.out (j := 1) rfl
            refine wp_region_d (fun u => u.cell? ⟨w.heap.size + 1 + 1, 1, none⟩ = some (.slice na nn nc)) (fun j => j == 7) (by kernel_rfl) ?_
            refine wpAnyD_pure (i := 0) (v := .pointer (some ⟨w.heap.size + 1 + 1, 1, none⟩)) rfl (by kernel_rfl) (by kernel_rfl) (by kernel_rfl) (fun _ _ _ h => h) (by rfl) (by intro u; go_simp) ?_
            try simp only [Act.put, List.setIfInBounds_toArray, List.set_cons_zero, List.set_cons_succ]
            refine wpAnyD_load (i := 1) (v := .slice na nn nc) rfl (by kernel_rfl) (by kernel_rfl) (by kernel_rfl) (by kernel_rfl) (fun _ _ _ h => h) (by rfl) (by intro u hSu; go_simp) (y2) ?_
            try simp only [Act.put, List.setIfInBounds_toArray, List.set_cons_zero, List.set_cons_succ]
            refine wpAnyD_pure (i := 2) (v := ptrOf (w.heap.size + 1)) rfl (by kernel_rfl) (by kernel_rfl) (by kernel_rfl) (fun _ _ _ h => h) (by rfl) (by intro u; go_simp) ?_
            try simp only [Act.put, List.setIfInBounds_toArray, List.set_cons_zero, List.set_cons_succ]
            refine wpAnyD_one (i := 3) (by kernel_rfl) rfl ?_
            intro K hK
            go_simp
            refine (HFR.out wr.drew ⟨rfl, rfl, rfl, rfl⟩).mono ?_
            rintro e w4 ⟨x, va4, vn4, vc4, w5, rfl, HK4, hrun, hc5, hf5, HF⟩
            refine hK _ _ (.inr fun _ => cell_heap HK4.out rfl) ?_
            clear hK
            try simp only [Act.put, List.setIfInBounds_toArray, List.set_cons_zero, List.set_cons_succ]
            refine wpAnyD_one (i := 4) (by kernel_rfl) rfl ?_
            intro K hK
            go_simp
            refine hK _ _ (.inr fun _ => cell_old HK4.out rfl _) ?_
            clear hK
            try simp only [Act.put, List.setIfInBounds_toArray, List.set_cons_zero, List.set_cons_succ]
            refine wpAnyD_one (i := 5) (by kernel_rfl) rfl ?_
            intro K hK
            refine step_append_run rfl 58 rfl _ _ 23 rfl _ _ _ _ rfl rfl hrun ?_
            refine hK _ _ (.inr fun _ => hc5) ?_
            clear hK
            try simp only [Act.put, List.setIfInBounds_toArray, List.set_cons_zero, List.set_cons_succ]
            refine wpAnyD_pure (i := 6) (v := .pointer (some ⟨w.heap.size + 1 + 1, 1, none⟩)) rfl (by kernel_rfl) (by kernel_rfl) (by kernel_rfl) (fun _ _ _ h => h) (by rfl) (by intro u; go_simp) ?_
            try simp only [Act.put, List.setIfInBounds_toArray, List.set_cons_zero, List.set_cons_succ]
            refine wpAnyD_one (i := 7) (by kernel_rfl) rfl ?_
            intro K hK
            go_simp
            refine hK _ _ (.inl rfl) ?_
            clear hK
            try simp only [Act.put, List.setIfInBounds_toArray, List.set_cons_zero, List.set_cons_succ]
            refine wpAnyD_done (by kernel_rfl) ?_ _

            have HF2 : Hid (∃ (X : List NameT) (li : List UInt8) (wri : Bool) (p0 : Option Addr) (p1 p2 : Nat), X.length = i + 1 ∧ KS w (w5.setCell ⟨w.heap.size + 1 + 1, 1, none⟩ (.slice va4 vn4 vc4)) li wri (.slice sa sn sc) (.slice p0 p1 p2) (.slice none 0 0) ∧ w2.heap.size ≤ (w5.setCell ⟨w.heap.size + 1 + 1, 1, none⟩ (.slice va4 vn4 vc4)).heap.size ∧ OwnNl w2.heap.size (w5.setCell ⟨w.heap.size + 1 + 1, 1, none⟩ (.slice va4 vn4 vc4)) (.slice p0 p1 p2) X ∧ Shs (w.heap.size + 3) w2.heap.size (w5.setCell ⟨w.heap.size + 1 + 1, 1, none⟩ (.slice va4 vn4 vc4)) (.slice sa sn sc) S ∧ Sq nameR n2 l2 wr2 X li wri) := by
              obtain ⟨l', wr', k6, z6, o6, kp, sq6⟩ := HF.out
              exact ⟨X2 ++ [x], l', wr', va4, vn4, vc4, by simp [hXi], k6, z6, o6, kp, sq6⟩
            clear HF HK HK4 hrun hc5 hf5 HFR y2
            go_wp2_with fail
            go_roundw
            case rel => exact ⟨i + 1, by go_num, HF2⟩
            case measure => simp [intOf]; omega
          · have sp2 : Hid (Sp wri (lstR nameR li) X2 li2 wri2) := Sp.bindK HC2.out (sq.stop fun hw => by
                have : ¬ i < n2 := fun h => hgo ⟨h, hw⟩
                omega)
            have C3 := rcount_any ks.rs ks.hl
            have HS2 : Hid (KS w wr li2 wri2 (.slice sa sn sc) (.slice na nn nc) (.slice none 0 0) ∧ OwnNl w2.heap.size wr (.slice na nn nc) X2 ∧ Shs (w.heap.size + 3) w2.heap.size wr (.slice sa sn sc) S) := ⟨ks, hO, hKP⟩
            have hcase : (i < n2 ∧ wri2 = true) ∨ ¬ i < n2 := by
              by_cases hlt : i < n2
              · refine .inl ⟨hlt, ?_⟩
                cases wri2
                · exact absurd ⟨hlt, rfl⟩ hgo
                · rfl
              · exact .inr hlt
            clear ks hO sq h1 h2 h3 h4 hgo hKP HC2
            rcases hcase with ⟨hlt, hw⟩ | hlt
            all_goals
              try (rw [hw] at c1; clear hw)
              go_wp2_with fail
              refine C3.mono ?_
              rintro e w3 ⟨n3, l3, wr3, rfl, rs3, g3, s3, hl3⟩
              obtain ⟨k3, hk3, hs3⟩ := HS2.out.1.call (eqw_refl _) rs3 g3 hl3
              have O3 : Shs (w.heap.size + 3) w3.heap.size w3 (.slice sa sn sc) S ∧ Nms (w.heap.size + 3) w3.heap.size w3 (.slice na nn nc) X2 := by
                obtain ⟨_, o2, s2⟩ := HS2.out
                have hm := hm2.out
                have o3 : OwnNl w2.heap.size w3 (.slice na nn nc) X2 := OwnR.of_block o2 fun j hj => hk3 j (OwnR.lt o2 hj).2 (by have := (OwnR.lt o2 hj).1; omega)
                exact ⟨(s2.kept fun j h1 h2 => hk3 j (by omega) (by omega)).mono (Nat.le_refl _) (by omega), o3.nms.mono (by omega) (Nat.le_refl _)⟩
              have HST3 : Hid (∃ (X : List LinkT) (li : List UInt8) (wri : Bool) (p0 : Option Addr) (p1 p2 : Nat), X.length = 0 ∧ KS w w3 li wri (.slice sa sn sc) (.slice na nn nc) (.slice p0 p1 p2) ∧ w3.heap.size ≤ w3.heap.size ∧ OwnLl w3.heap.size w3 (.slice p0 p1 p2) X ∧ (Shs (w.heap.size + 3) w3.heap.size w3 (.slice sa sn sc) S ∧ Nms (w.heap.size + 3) w3.heap.size w3 (.slice na nn nc) X2) ∧ Sq linkR n3 l3 wr3 X li wri) := ⟨[], l3, wr3, none, 0, 0, rfl, k3, Nat.le_refl _, OwnR.nil _ _ _ _ _, ⟨O3.1, O3.2⟩, Sq.start s3 hl3⟩
              have HC3 : Hid (Sp wri2 (countR li2) n3 l3 wr3) := s3
              have hm3 : Hid (w.heap.size + 3 ≤ w3.heap.size) := k3.sz
              clear C3 rs3 g3 s3 k3 hk3 hs3 HS2 O3
              go_wp2_with fail
              go_loopw [10] (fun u10 wk => ∃ i : Nat, u10 = .int .i64 i ∧ Hid (∃ (X : List LinkT) (li : List UInt8) (wri : Bool) (p0 : Option Addr) (p1 p2 : Nat), X.length = i ∧ KS w wk li wri (.slice sa sn sc) (.slice na nn nc) (.slice p0 p1 p2) ∧ w3.heap.size ≤ wk.heap.size ∧ OwnLl w3.heap.size wk (.slice p0 p1 p2) X ∧ (Shs (w.heap.size + 3) w3.heap.size wk (.slice sa sn sc) S ∧ Nms (w.heap.size + 3) w3.heap.size wk (.slice na nn nc) X2) ∧ Sq linkR n3 l3 wr3 X li wri)) (fun u10 _ => n3 - (intOf u10).toNat)
              case atStart => exact ⟨0, rfl, HST3⟩
              case round =>
                obtain ⟨i, rfl, HR⟩ := hrel
                clear HST3
                obtain ⟨X3, li3, wri3, la, ln, lc, hXi, ks, hsz, hO, hKP, sq⟩ := HR.out
                clear HR
                obtain ⟨a, c, h1, h2, h3, h4⟩ := ks.rs.cells
                obtain ⟨c0, f0, c1, f1⟩ := cells75 h1
                by_cases hgo : i < n3 ∧ wri3 = false
                · obtain ⟨hlt, rfl⟩ := hgo
                  have hn40 := sq.few
                  have HK : Hid _ := ks.xb
                  have HFR : Hid (∀ u : World, EqW u wr → _) := fun u eq => ks_link ks eq hm3.out hsz hO hKP.1 hKP.2 sq (by omega)
                  clear ks hO sq h1 h2 h3 h4 hKP
                  go_wp2_with fail
                  have y2 := cell_heap HK.out (j := 2) rfl
                  refine wp_region_d (fun u => u.cell? ⟨w.heap.size + 1 + 1, 2, none⟩ = some (.slice la ln lc)) (fun j => j == 7) (by kernel_rfl) ?_
                  refine wpAnyD_pure (i := 0) (v := .pointer (some ⟨w.heap.size + 1 + 1, 2, none⟩)) rfl (by kernel_rfl) (by kernel_rfl) (by kernel_rfl) (fun _ _ _ h => h) (by rfl) (by intro u; go_simp) ?_
                  try simp only [Act.put, List.setIfInBounds_toArray, List.set_cons_zero, List.set_cons_succ]
                  refine wpAnyD_load (i := 1) (v := .slice la ln lc) rfl (by kernel_rfl) (by kernel_rfl) (by kernel_rfl) (by kernel_rfl) (fun _ _ _ h => h) (by rfl) (by intro u hSu; go_simp) (y2) ?_
                  try simp only [Act.put, List.setIfInBounds_toArray, List.set_cons_zero, List.set_cons_succ]
                  refine wpAnyD_pure (i := 2) (v := ptrOf (w.heap.size + 1)) rfl (by kernel_rfl) (by kernel_rfl) (by kernel_rfl) (fun _ _ _ h => h) (by rfl) (by intro u; go_simp) ?_
                  try simp only [Act.put, List.setIfInBounds_toArray, List.set_cons_zero, List.set_cons_succ]
                  refine wpAnyD_one (i := 3) (by kernel_rfl) rfl ?_
                  intro K hK
                  go_simp
                  refine (HFR.out wr.drew ⟨rfl, rfl, rfl, rfl⟩).mono ?_
                  rintro e w4 ⟨x, va4, vn4, vc4, w5, rfl, HK4, hrun, hc5, hf5, HF⟩
                  refine hK _ _ (.inr fun _ => cell_heap HK4.out rfl) ?_
                  clear hK
                  try simp only [Act.put, List.setIfInBounds_toArray, List.set_cons_zero, List.set_cons_succ]
                  refine wpAnyD_one (i := 4) (by kernel_rfl) rfl ?_
                  intro K hK
                  go_simp
                  refine hK _ _ (.inr fun _ => cell_old HK4.out rfl _) ?_
                  clear hK
                  try simp only [Act.put, List.setIfInBounds_toArray, List.set_cons_zero, List.set_cons_succ]
                  refine wpAnyD_one (i := 5) (by kernel_rfl) rfl ?_
                  intro K hK
                  refine step_append_run rfl 79 rfl _ _ 24 rfl _ _ _ _ rfl rfl hrun ?_
                  refine hK _ _ (.inr fun _ => hc5) ?_
                  clear hK
                  try simp only [Act.put, List.setIfInBounds_toArray, List.set_cons_zero, List.set_cons_succ]
                  refine wpAnyD_pure (i := 6) (v := .pointer (some ⟨w.heap.size + 1 + 1, 2, none⟩)) rfl (by kernel_rfl) (by kernel_rfl) (by kernel_rfl) (fun _ _ _ h => h) (by rfl) (by intro u; go_simp) ?_
                  try simp only [Act.put, List.setIfInBounds_toArray, List.set_cons_zero, List.set_cons_succ]
                  refine wpAnyD_one (i := 7) (by kernel_rfl) rfl ?_
                  intro K hK
                  go_simp
                  refine hK _ _ (.inl rfl) ?_
                  clear hK
                  try simp only [Act.put, List.setIfInBounds_toArray, List.set_cons_zero, List.set_cons_succ]
                  refine wpAnyD_done (by kernel_rfl) ?_ _

                  have HF2 : Hid (∃ (X : List LinkT) (li : List UInt8) (wri : Bool) (p0 : Option Addr) (p1 p2 : Nat), X.length = i + 1 ∧ KS w (w5.setCell ⟨w.heap.size + 1 + 1, 2, none⟩ (.slice va4 vn4 vc4)) li wri (.slice sa sn sc) (.slice na nn nc) (.slice p0 p1 p2) ∧ w3.heap.size ≤ (w5.setCell ⟨w.heap.size + 1 + 1, 2, none⟩ (.slice va4 vn4 vc4)).heap.size ∧ OwnLl w3.heap.size (w5.setCell ⟨w.heap.size + 1 + 1, 2, none⟩ (.slice va4 vn4 vc4)) (.slice p0 p1 p2) X ∧ (Shs (w.heap.size + 3) w3.heap.size (w5.setCell ⟨w.heap.size + 1 + 1, 2, none⟩ (.slice va4 vn4 vc4)) (.slice sa sn sc) S ∧ Nms (w.heap.size + 3) w3.heap.size (w5.setCell ⟨w.heap.size + 1 + 1, 2, none⟩ (.slice va4 vn4 vc4)) (.slice na nn nc) X2) ∧ Sq linkR n3 l3 wr3 X li wri) := by
                    obtain ⟨l', wr', k6, z6, o6, kp1, kp2, sq6⟩ := HF.out
                    exact ⟨X3 ++ [x], l', wr', va4, vn4, vc4, by simp [hXi], k6, z6, o6, ⟨kp1, kp2⟩, sq6⟩
                  clear HF HK HK4 hrun hc5 hf5 HFR y2
                  go_wp2_with fail
                  go_roundw
                  case rel => exact ⟨i + 1, by go_num, HF2⟩
                  case measure => simp [intOf]; omega
                · have sp3 : Hid (Sp wri2 (lstR linkR li2) X3 li3 wri3) := Sp.bindK HC3.out (sq.stop fun hw => by
                      have : ¬ i < n3 := fun h => hgo ⟨h, hw⟩
                      omega)
                  have spB : Hid (Sp false (bookR l) (⟨S, X2, X3⟩ : BookT) li3 wri3) := by
                    unfold bookR
                    exact Sp.bindK sp1.out (Sp.bindK sp2.out (Sp.bindK sp3.out (Sp.pure wri3 _ li3)))
                  have HB : Hid (Below w.heap.size w wr) := ks.bel
                  have HM : Hid (Shs (w.heap.size + 3) w3.heap.size wr (.slice sa sn sc) S ∧ Nms (w.heap.size + 3) w3.heap.size wr (.slice na nn nc) X2 ∧ OwnLl w3.heap.size wr (.slice la ln lc) X3) := ⟨hKP.1, hKP.2, hO⟩
                  obtain ⟨rz, qz0, qz1, _⟩ := store_row (es := #[.slice none 0 0, .slice none 0 0, .slice none 0 0]) ks.res inf26 rfl rfl (by simp [Value.oneCell'])
                  obtain ⟨rg, qg0, qg1, qg2⟩ := store_row (es := #[.slice sa sn sc, .slice na nn nc, .slice la ln lc]) ks.res inf26 rfl rfl (by simp [Value.oneCell'])
                  have RZ : Hid _ := rz
                  have RG : Hid _ := rg
                  have RL : Hid _ := load26 ks.xb rfl
                  have QZ : Hid _ := qz0
                  have QG : Hid _ := qg0
                  have EZ : Hid (Below w.heap.size w (wr.setRow w.heap.size #[.slice none 0 0, .slice none 0 0, .slice none 0 0])) := setRow_below HB.out (Nat.le_refl _)
                  have EG : Hid (BkM 0 (wr.setRow w.heap.size #[.slice sa sn sc, .slice na nn nc, .slice la ln lc]).heap.size (wr.setRow w.heap.size #[.slice sa sn sc, .slice na nn nc, .slice la ln lc]) (.slice sa sn sc) (.slice na nn nc) (.slice la ln lc) ⟨S, X2, X3⟩ ∧ Below w.heap.size w (wr.setRow w.heap.size #[.slice sa sn sc, .slice na nn nc, .slice la ln lc])) := by
                    obtain ⟨m1, m2, m3⟩ := HM.out
                    have hz := qg2.size
                    have hm := hm3.out
                    refine ⟨⟨?_, ?_, ?_⟩, setRow_below HB.out (Nat.le_refl _)⟩
                    · exact (m1.kept fun j h1 h2 => qg1 j (by omega)).mono (Nat.zero_le _) (by omega)
                    · exact (m2.kept fun j h1 h2 => qg1 j (by omega)).mono (Nat.zero_le _) (by omega)
                    · exact (m3.lks.kept fun j h1 h2 => qg1 j (by omega)).mono (Nat.zero_le _) (by omega)
                  clear ks hO sq h1 h2 h3 h4 hKP rz rg qz0 qz1 qg0 qg1 qg2 HM sp1 sp2 sp3 HC3
                  have hcase : (i < n3 ∧ wri3 = true) ∨ (¬ i < n3 ∧ wri3 = true) ∨ (¬ i < n3 ∧ wri3 = false ∧ 0 < li3.length) ∨ (¬ i < n3 ∧ wri3 = false ∧ li3 = []) := by
                    by_cases hlt : i < n3
                    · refine .inl ⟨hlt, ?_⟩
                      cases wri3
                      · exact absurd ⟨hlt, rfl⟩ hgo
                      · rfl
                    · cases wri3
                      · rcases Nat.eq_zero_or_pos li3.length with h | h
                        · exact .inr (.inr (.inr ⟨hlt, rfl, List.eq_nil_of_length_eq_zero h⟩))
                        · exact .inr (.inr (.inl ⟨hlt, rfl, h⟩))
                      · exact .inr (.inl ⟨hlt, rfl⟩)
                  clear hgo
                  rcases hcase with ⟨hlt, rfl⟩ | ⟨hlt, rfl⟩ | ⟨hlt, rfl, hz⟩ | ⟨hlt, rfl, rfl⟩
                  · have HN : Hid (readK l = none) := by
                      rcases spB.out with ⟨h, _⟩ | ⟨_, h | h⟩
                      · cases h
                      · cases h
                      · exact readK_bad h
                    clear spB
                    go_wp2_with (refine wpList_store_run rfl 26 _ _ rfl _ _ _ rfl rfl RZ.out ?_)
                    exact bodyPost_ret_by (results_row_tmp rfl _ _ w.heap.size 26 _ (0, 0) _ rfl QZ.out Tryd.underlying26 rfl (by kernel_rfl) _ rfl) rfl (.inr ⟨HN.out, rfl, EZ.out⟩)
                  · have HN : Hid (readK l = none) := by
                      rcases spB.out with ⟨h, _⟩ | ⟨_, h | h⟩
                      · cases h
                      · cases h
                      · exact readK_bad h
                    clear spB
                    go_wp2_with (refine wpList_store_run rfl 26 _ _ rfl _ _ _ rfl rfl RZ.out ?_)
                    exact bodyPost_ret_by (results_row_tmp rfl _ _ w.heap.size 26 _ (0, 0) _ rfl QZ.out Tryd.underlying26 rfl (by kernel_rfl) _ rfl) rfl (.inr ⟨HN.out, rfl, EZ.out⟩)
                  · have HN : Hid (readK l = none) := by
                      rcases spB.out with ⟨_, _, h⟩ | ⟨h, _⟩
                      · exact readK_no h hz
                      · cases h
                    clear spB
                    generalize li3.length = m at *
                    go_wp2_with (refine wpList_store_run rfl 26 _ _ rfl _ _ _ rfl rfl RZ.out ?_)
                    exact bodyPost_ret_by (results_row_tmp rfl _ _ w.heap.size 26 _ (0, 0) _ rfl QZ.out Tryd.underlying26 rfl (by kernel_rfl) _ rfl) rfl (.inr ⟨HN.out, rfl, EZ.out⟩)
                  · have HN : Hid (readK l = some ⟨S, X2, X3⟩) := by
                      rcases spB.out with ⟨_, _, h⟩ | ⟨h, _⟩
                      · exact readK_yes h
                      · cases h
                    clear spB
                    go_wp2_with (first
                      | (refine wpList_load_run rfl 26 _ rfl _ _ rfl RL.out ?_)
                      | (refine wpList_store_run rfl 26 _ _ rfl _ _ _ rfl rfl RG.out ?_))
                    exact bodyPost_ret_by (results_row_tmp rfl _ _ w.heap.size 26 _ (0, 0) _ rfl QG.out Tryd.underlying26 rfl (by kernel_rfl) _ rfl) rfl (.inl ⟨_, _, _, _, HN.out, rfl, EG.out.1, EG.out.2⟩)


end Go.Proofs.YtohndhmhgdelmaaDoor
