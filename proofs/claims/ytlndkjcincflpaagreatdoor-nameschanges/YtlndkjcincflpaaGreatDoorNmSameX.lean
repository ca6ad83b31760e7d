/- NmDrop, NmCat, VDraw, NmSame. -/
import Derived.Test.YtlndkjcincflpaaGreatDoorNmFind2X
import Derived.OrdersHeld
import Derived.Deep.RegionHeld
import Derived.Deep.RegionHeldLaw
import Derived.WalkKit
import Derived.Laws.StructEq
set_option linter.unusedVariables false
set_option linter.unusedSimpArgs false
namespace Go.Proofs.YtlndkjcincflpaaGreatDoor
open Go.RowKit Go.Nm
set_option maxRecDepth 100000
def drpK (s : ByteArray) (L : List NM) : List NM := L.filter fun y => !(y.s.toList == s.toList)
theorem drp_len (s : ByteArray) (L : List NM) : (drpK s L).length ≤ L.length := List.length_filter_le _ _
theorem filter_take {q : NM → Bool} {L : List NM} {k : Nat} (hk : k < L.length) : (L.take (k + 1)).filter q = (L.take k).filter q ++ if q L[k] = true then [L[k]] else [] := by
  rw [List.take_succ_eq_append_getElem hk, List.filter_append]
  congr 1
  by_cases h : q L[k] = true <;> simp [h]
theorem nslice_box (wr : World) (y : NM) : (Instr.buildSlice 22 1 #[(0, nmV y)]).run Tryz.prog (wr.alloc (nmO y)) = .ok (.slice (some ⟨wr.heap.size + 1, 0, none⟩) 1 1) ((wr.alloc (nmO y)).alloc (nmO y)) := by
  have := nslice_one (wr.alloc (nmO y)) y
  rw [show (wr.alloc (nmO y)).heap.size = wr.heap.size + 1 by simp] at this
  exact this
theorem ownM_box {base : Nat} {wr : World} {v : Value} {L : List NM} (h : OwnM base wr v L) (y : NM) (hn : L.length + 1 ≤ 100000) (hbase : base ≤ wr.heap.size) :
    ∃ v' w', Hid ((Builtin.append_ #[22, 22] 22 #[v, .slice (some ⟨wr.heap.size + 1, 0, none⟩) 1 1]).run Tryz.prog ((wr.alloc (nmO y)).alloc (nmO y)) = .ok v' w') ∧ OwnM base w' v' (L ++ [y]) ∧ ((wr.alloc (nmO y)).alloc (nmO y)).grownBy w' v.ownBlock ∧ Below base ((wr.alloc (nmO y)).alloc (nmO y)) w' := by
  have hb : Below wr.heap.size wr ((wr.alloc (nmO y)).alloc (nmO y)) := bel_alloc (bel_alloc (Below.refl _ _) _) _
  refine ownM_one (h.below hb) ?_ hn (Nat.le_trans hbase hb.size)
  have := heap_alloc_new (wr.alloc (nmO y)) (nmO y)
  rw [show (wr.alloc (nmO y)).heap.size = wr.heap.size + 1 by simp] at this
  exact this
set_option maxHeartbeats 8000000 in
theorem drop_any (L : List NM) (s : ByteArray) (hn : L.length ≤ 1000) (w : World) (p : Option Addr) (m c : Nat) (h : Rds w p m L) :
    Calls Tryz.prog 14 #[.slice p m c, .string s] w fun e w' => ∃ v, e = .returned v ∧ OwnM w.heap.size w' v (drpK s L) ∧ Below w.heap.size w w' := by
  have HR : Hid (Rds w p m L) := h
  have HN : Hid (m = L.length) := h.1
  have hn2 : m ≤ 1000 := by rw [h.1]; exact hn
  clear h hn
  go_enter Tryz.func14, Tryz.ntmps14
  go_wp2
  go_loopw [5, 10] (fun v i wr => ∃ (k : Nat), k ≤ m ∧ i = .int .i64 (k : Nat) ∧ Hid (OwnM w.heap.size wr v (drpK s (L.take k))) ∧ Hid (Below w.heap.size w wr)) (fun _ i _ => m - (intOf i).toNat)
  case atStart => exact ⟨0, Nat.zero_le _, rfl, OwnM.nil _ _, Below.refl _ _⟩
  case round =>
    obtain ⟨k, hk, rfl, HW, HB⟩ := hrel
    by_cases hlt : k < m
    · have hki : (k : Int) < m := by omega
      have hkL : k < L.length := by rw [← HN.out]; exact hlt
      obtain ⟨a', rfl, RL⟩ := (HR.out.below HB.out).load hkL
      have RLh : Hid _ := RL
      have RS : Hid _ := mbox wr L[k]
      have hcc := n_cells (heap_alloc_new wr (nmO L[k]))
      have RL2 : Hid _ := nload (heap_alloc_new wr (nmO L[k]))
      have HBa : Hid (Below w.heap.size w (wr.alloc (nmO L[k]))) := bel_alloc HB.out _
      have hlen : (drpK s (L.take k)).length ≤ 1000 := by have := drp_len s (L.take k); rw [List.length_take] at this; omega
      obtain ⟨va, vc, rfl, _⟩ := HW.out.slice
      have HT : Hid (drpK s (L.take (k + 1)) = drpK s (L.take k) ++ if (!(L[k].s.toList == s.toList)) = true then [L[k]] else []) := filter_take hkL
      clear RL
      generalize L[k] = y at *
      by_cases e1 : y.s.toList = s.toList
      · have e1b : (y.s.toList == s.toList) = true := by simpa using e1
        have HT2 : Hid (drpK s (L.take (k + 1)) = drpK s (L.take k)) := by show _ = _; rw [HT.out, e1b]; simp
        have HWa : Hid (OwnM w.heap.size (wr.alloc (nmO y)) (.slice va (drpK s (L.take k)).length vc) (drpK s (L.take k))) := HW.out.below (bel_alloc (Below.refl _ _) _)
        clear e1 HT HW RL2
        go_wp2_with (first
          | (refine nl_load rfl 24 _ rfl _ _ rfl RLh.out ?_; clear RLh)
          | (refine nl_store rfl 24 _ _ rfl _ _ _ rfl rfl RS.out ?_; clear RS))
        go_roundw
        case rel => exact ⟨k + 1, by omega, by go_num, by rw [HT2.out]; exact HWa, HBa⟩
        case measure => simp [intOf]; omega
      · have e1b := beq_l e1
        have RB : Hid _ := nslice_box wr y
        obtain ⟨v', w', RA, o1, g1, b1⟩ := ownM_box HW.out y (by omega) HB.out.size
        have HB2 : Hid (Below w.heap.size w w') := (bel_alloc HBa.out (nmO y)).trans b1
        have HO2 : Hid (OwnM w.heap.size w' v' (drpK s (L.take (k + 1)))) := by show OwnM _ _ _ _; rw [HT.out, e1b]; exact o1
        clear e1 HT HW o1 g1 b1
        go_wp2_with (first
          | (refine nl_load rfl 24 _ rfl _ _ rfl RLh.out ?_; clear RLh)
          | (refine nl_store rfl 24 _ _ rfl _ _ _ rfl rfl RS.out ?_; clear RS)
          | (refine nl_load rfl 24 _ rfl _ _ rfl RL2.out ?_; clear RL2)
          | (refine nl_bslice rfl 22 1 _ rfl _ _ _ (by go_simp) RB.out ?_; clear RB)
          | (at_builtin; refine nl_append rfl _ _ 22 22 rfl _ _ _ _ rfl rfl RA.out ?_; clear RA))
        go_roundw
        case rel => exact ⟨k + 1, by omega, by go_num, HO2, HB2⟩
        case measure => simp [intOf]; omega
    · have hki : ¬ (k : Int) < m := by omega
      have HE0 := HW.out
      rw [List.take_of_length_le (by rw [← HN.out]; omega)] at HE0
      have HE : Hid _ := HE0
      clear HE0
      go_wp2
      go_ret
      exact ⟨_, rfl, HE.out, HB.out⟩
set_option maxHeartbeats 8000000 in
theorem rdrop_any (L : List NM) (s : ByteArray) (hn : L.length ≤ 1000) (w : World) (p : Option Addr) (m c : Nat) (h : Rds w p m L) :
    Calls Tryz.prog 16 #[.slice p m c, .string s] w fun e w' => ∃ v, e = .returned v ∧ OwnM w.heap.size w' v (drpK s L) ∧ Below w.heap.size w w' := by
  have HR : Hid (Rds w p m L) := h
  have HN : Hid (m = L.length) := h.1
  have hn2 : m ≤ 1000 := by rw [h.1]; exact hn
  clear h hn
  go_enter Tryz.func16, Tryz.ntmps16
  go_wp2
  go_loopw [5, 10] (fun v i wr => ∃ (k : Nat), k ≤ m ∧ i = .int .i64 (k : Nat) ∧ Hid (OwnM w.heap.size wr v (drpK s (L.take k))) ∧ Hid (Below w.heap.size w wr)) (fun _ i _ => m - (intOf i).toNat)
  case atStart => exact ⟨0, Nat.zero_le _, rfl, OwnM.nil _ _, Below.refl _ _⟩
  case round =>
    obtain ⟨k, hk, rfl, HW, HB⟩ := hrel
    by_cases hlt : k < m
    · have hki : (k : Int) < m := by omega
      have hkL : k < L.length := by rw [← HN.out]; exact hlt
      obtain ⟨a', rfl, RL⟩ := (HR.out.below HB.out).load hkL
      have RLh : Hid _ := RL
      have RS : Hid _ := mbox wr L[k]
      have hcc := n_cells (heap_alloc_new wr (nmO L[k]))
      have RL2 : Hid _ := nload (heap_alloc_new wr (nmO L[k]))
      have HBa : Hid (Below w.heap.size w (wr.alloc (nmO L[k]))) := bel_alloc HB.out _
      have hlen : (drpK s (L.take k)).length ≤ 1000 := by have := drp_len s (L.take k); rw [List.length_take] at this; omega
      obtain ⟨va, vc, rfl, _⟩ := HW.out.slice
      have HT : Hid (drpK s (L.take (k + 1)) = drpK s (L.take k) ++ if (!(L[k].s.toList == s.toList)) = true then [L[k]] else []) := filter_take hkL
      clear RL
      generalize L[k] = y at *
      by_cases e1 : y.s.toList = s.toList
      · have e1b : (y.s.toList == s.toList) = true := by simpa using e1
        have HT2 : Hid (drpK s (L.take (k + 1)) = drpK s (L.take k)) := by show _ = _; rw [HT.out, e1b]; simp
        have HWa : Hid (OwnM w.heap.size (wr.alloc (nmO y)) (.slice va (drpK s (L.take k)).length vc) (drpK s (L.take k))) := HW.out.below (bel_alloc (Below.refl _ _) _)
        clear e1 HT HW RL2
        go_wp2_with (first
          | (refine nl_load rfl 24 _ rfl _ _ rfl RLh.out ?_; clear RLh)
          | (refine nl_store rfl 24 _ _ rfl _ _ _ rfl rfl RS.out ?_; clear RS))
        go_roundw
        case rel => exact ⟨k + 1, by omega, by go_num, by rw [HT2.out]; exact HWa, HBa⟩
        case measure => simp [intOf]; omega
      · have e1b := beq_l e1
        have RB : Hid _ := nslice_box wr y
        obtain ⟨v', w', RA, o1, g1, b1⟩ := ownM_box HW.out y (by omega) HB.out.size
        have HB2 : Hid (Below w.heap.size w w') := (bel_alloc HBa.out (nmO y)).trans b1
        have HO2 : Hid (OwnM w.heap.size w' v' (drpK s (L.take (k + 1)))) := by show OwnM _ _ _ _; rw [HT.out, e1b]; exact o1
        clear e1 HT HW o1 g1 b1
        go_wp2_with (first
          | (refine nl_load rfl 24 _ rfl _ _ rfl RLh.out ?_; clear RLh)
          | (refine nl_store rfl 24 _ _ rfl _ _ _ rfl rfl RS.out ?_; clear RS)
          | (refine nl_load rfl 24 _ rfl _ _ rfl RL2.out ?_; clear RL2)
          | (refine nl_bslice rfl 22 1 _ rfl _ _ _ (by go_simp) RB.out ?_; clear RB)
          | (at_builtin; refine nl_append rfl _ _ 22 22 rfl _ _ _ _ rfl rfl RA.out ?_; clear RA))
        go_roundw
        case rel => exact ⟨k + 1, by omega, by go_num, HO2, HB2⟩
        case measure => simp [intOf]; omega
    · have hki : ¬ (k : Int) < m := by omega
      have HE0 := HW.out
      rw [List.take_of_length_le (by rw [← HN.out]; omega)] at HE0
      have HE : Hid _ := HE0
      clear HE0
      go_wp2
      go_ret
      exact ⟨_, rfl, HE.out, HB.out⟩
end Go.Proofs.YtlndkjcincflpaaGreatDoor

namespace Go.Proofs.YtlndkjcincflpaaGreatDoor
open Go.RowKit Go.Nm
set_option maxRecDepth 100000
theorem grow_zero (w : World) : Calls Tryz.prog 54 #[.slice none 0 0, .int .i64 0] w fun e w' => ∃ v, e = .returned v ∧ OwnM w.heap.size w' v [] ∧ Below w.heap.size w w' := by
  go_enter Tryz.func54, Tryz.ntmps54
  go_wp2
  go_ret
  exact ⟨_, rfl, OwnM.nil _ _, Below.refl _ _⟩
set_option maxHeartbeats 4000000 in
theorem grow_any (n : Nat) (h0 : 0 < n) (hn : n ≤ 100000) (w : World) : Calls Tryz.prog 54 #[.slice none 0 0, .int .i64 (n : Nat)] w fun e w' => ∃ v, e = .returned v ∧ OwnM w.heap.size w' v [] ∧ Below w.heap.size w w' := by
  obtain ⟨i, z, hi, hz, hz1, hz2, hz3, _⟩ := ninfo
  have R := Lib.run_append_nil_zeros w 22 3 22 24 i z .i64 .i64 Tryz.underlying22 Tryz.underlying3 hi hz n h0 (by omega) (by omega) (by rw [hz2]; omega)
  have hge := grownCap_ge w n 0 24
  have hcm : grownCap w n 0 24 ≤ maxLen := grownCap_le_maxLen w n 0 24 (by simp only [maxLen]; omega)
  generalize grownCap w n 0 24 = cap at *
  have hsz : (Builtin.zeroCells z.cells n ++ Builtin.zeroCells z.cells (cap - n)).size = cap * 3 := by
    simp only [Array.size_append, size_zeroCells, hz3, ← Nat.add_mul]
    congr 1
    omega
  generalize Builtin.zeroCells z.cells n ++ Builtin.zeroCells z.cells (cap - n) = cur at *
  have RA : Hid _ := R
  have HO : Hid (OwnM w.heap.size (w.drew.alloc (.cells cur 24)) (.slice (some ⟨w.heap.size, 0, none⟩) 0 cap) []) :=
    ⟨rfl, .inr ⟨w.heap.size, cap, cur, rfl, Nat.le_refl _, heap_alloc_new w.drew _, Nat.zero_le _, hcm, hsz, by simp⟩⟩
  have HB : Hid (Below w.heap.size w (w.drew.alloc (.cells cur 24))) := bel_alloc (Below.refl _ _).drew _
  have hp : (0 : Int) < n := by omega
  have hp2 : ¬ (n : Int) < 0 := by omega
  have hcap : ¬ cap = 0 := by omega
  have hcapi : (0 : Int) ≤ cap := by omega
  clear R hsz hcm hi hz hz1 hz2 hz3 hge
  go_enter Tryz.func54, Tryz.ntmps54
  go_wp2_with (at_builtin; refine nl_append rfl _ _ 22 3 rfl _ _ _ _ rfl rfl RA.out ?_; clear RA)
  go_ret
  exact ⟨_, rfl, HO.out, HB.out⟩
structure MPart where
  p : Option Addr
  c : Nat
  L : List NM
abbrev pv (q : MPart) : Value := .slice q.p q.L.length q.c
def catP (Ps : List MPart) : List NM := Ps.flatMap (·.L)
theorem catP_succ {Ps : List MPart} {k : Nat} (hk : k < Ps.length) : catP (Ps.take (k + 1)) = catP (Ps.take k) ++ Ps[k].L := by
  unfold catP
  rw [List.take_succ_eq_append_getElem hk, List.flatMap_append]
  simp
theorem catP_le (Ps : List MPart) (k : Nat) : (catP (Ps.take k)).length ≤ (catP Ps).length := by
  conv => rhs; rw [← List.take_append_drop k Ps]
  unfold catP
  rw [List.flatMap_append, List.length_append]
  omega
set_option maxHeartbeats 8000000 in
theorem concat_any (Ps : List MPart) (hk : Ps.length ≤ 10) (hn : (catP Ps).length ≤ 1000) (w : World) (g : Nat) (hc : ∀ i (h : i < Ps.length), w.cell? ⟨g, i, none⟩ = some (pv Ps[i])) (hP : ∀ q ∈ Ps, Rds w q.p q.L.length q.L ∧ (q.p = none → q.c = 0)) :
    Calls Tryz.prog 38 #[.slice (some ⟨g, 0, none⟩) Ps.length Ps.length] w fun e w' => ∃ v, e = .returned v ∧ OwnM w.heap.size w' v (catP Ps) ∧ Below w.heap.size w w' := by
  have HC : Hid (∀ i (h : i < Ps.length), w.cell? ⟨g, i, none⟩ = some (pv Ps[i])) := hc
  have HP : Hid (∀ q ∈ Ps, Rds w q.p q.L.length q.L ∧ (q.p = none → q.c = 0)) := hP
  have HG : Hid (∀ t : Nat, t ≤ 1000 → ∀ u, Calls Tryz.prog 54 #[.slice none 0 0, .int .i64 (t : Nat)] u fun e w' => ∃ v, e = .returned v ∧ OwnM u.heap.size w' v [] ∧ Below u.heap.size u w') := fun t ht u => by
    rcases Nat.eq_zero_or_pos t with rfl | h
    · exact grow_zero u
    · exact grow_any t h (by omega) u
  obtain ⟨n, hN⟩ : ∃ n, Ps.length = n := ⟨_, rfl⟩
  have HN : Hid (Ps.length = n) := hN
  rw [hN]
  rw [hN] at hk
  clear hc hP hN
  go_enter Tryz.func38, Tryz.ntmps38
  go_wp2
  go_loopw [3, 11] (fun s i wr => ∃ (k t : Nat), k ≤ n ∧ i = .int .i64 (k : Nat) ∧ s = .int .i64 (t : Nat) ∧ t ≤ 1000 ∧ Hid (t = (catP (Ps.take k)).length) ∧ wr = w) (fun _ i _ => n - (intOf i).toNat)
  case atStart => exact ⟨0, 0, Nat.zero_le _, rfl, rfl, Nat.zero_le _, rfl, rfl⟩
  case round =>
    obtain ⟨k, t, hkn, rfl, rfl, ht, HT, hw⟩ := hrel
    obtain rfl := hw.symm
    clear hw
    by_cases hlt : k < n
    · have hki : (k : Int) < n := by omega
      have hkL : k < Ps.length := by rw [HN.out]; exact hlt
      have hck := HC.out k hkL
      have hle := catP_le Ps (k + 1)
      rw [catP_succ hkL, List.length_append] at hle
      have hle2 : t + Ps[k].L.length ≤ 1000 := by rw [HT.out]; omega
      have HT2 : Hid (t + Ps[k].L.length = (catP (Ps.take (k + 1))).length) := by show _ = _; rw [catP_succ hkL, List.length_append, HT.out]
      generalize Ps[k] = q at *
      obtain ⟨qp, qc, qL⟩ := q
      have hnn : ¬ ((t : Int) + (qL.length : Nat) < 0) := by omega
      clear HT hle
      simp only [pv] at hck hle2 HT2
      generalize qL.length = ql at *
      go_wp2
      go_roundw
      case rel => exact ⟨k + 1, t + ql, by omega, by go_num, by go_num, hle2, HT2, trivial⟩
      case measure => simp [intOf]; omega
    · have hki : ¬ (k : Int) < n := by omega
      have C := HG.out t ht w
      clear HT
      go_wp2_with (go_at_call 54; refine C.mono ?_; rintro e w1 ⟨v, rfl, hO, hB⟩; have HO : Hid _ := hO; have HB : Hid _ := hB; clear hO hB)
      go_loopw [6, 27] (fun v i wz => ∃ (k : Nat), k ≤ n ∧ i = .int .i64 (k : Nat) ∧ Hid (OwnM w.heap.size wz v (catP (Ps.take k))) ∧ Hid (Below w.heap.size w wz)) (fun _ i _ => n - (intOf i).toNat)
      case atStart => exact ⟨0, Nat.zero_le _, rfl, HO, HB⟩
      case round =>
        obtain ⟨k, hkn, rfl, HW, HB2⟩ := hrel
        clear HO HB
        by_cases hlt : k < n
        · have hki : (k : Int) < n := by omega
          have hkL : k < Ps.length := by rw [HN.out]; exact hlt
          have hck := ncell_bel HB2.out (HC.out k hkL)
          have hq := HP.out Ps[k] (List.getElem_mem hkL)
          have hle := catP_le Ps (k + 1)
          have HS : Hid (catP (Ps.take (k + 1)) = catP (Ps.take k) ++ Ps[k].L) := catP_succ hkL
          rw [HS.out, List.length_append] at hle
          obtain ⟨va, vc, rfl, _⟩ := HW.out.slice
          obtain ⟨v', w', RA, o1, g1, b1⟩ := ownM_cat (c := Ps[k].c) HW.out (hq.1.below HB2.out) hq.2 (by omega) HB2.out.size
          have HB3 : Hid (Below w.heap.size w w') := HB2.out.trans b1
          have HO3 : Hid (OwnM w.heap.size w' v' (catP (Ps.take (k + 1)))) := by show OwnM _ _ _ _; rw [HS.out]; exact o1
          clear o1 g1 b1 hle HS HW hq
          generalize Ps[k] = q at *
          obtain ⟨qp, qc, qL⟩ := q
          simp only [pv] at hck RA
          generalize qL.length = ql at *
          go_wp2_with (at_builtin; refine nl_append rfl _ _ 22 22 rfl _ _ _ _ rfl rfl RA.out ?_; clear RA)
          go_roundw
          case rel => exact ⟨k + 1, by omega, by go_num, HO3, HB3⟩
          case measure => simp [intOf]; omega
        · have hki : ¬ (k : Int) < n := by omega
          have HE0 := HW.out
          rw [List.take_of_length_le (by rw [HN.out]; omega)] at HE0
          have HE : Hid _ := HE0
          clear HE0
          go_wp2
          go_ret
          exact ⟨_, rfl, HE.out, HB2.out⟩
end Go.Proofs.YtlndkjcincflpaaGreatDoor

namespace Go

section
variable {P : Program} {ops : Array Oper} {Q : Exit → Act → World → Prop} {md : Region.Mode} {S S2 : World → Prop} {D : Nat → Bool}

def wpAnyD (P : Program) (md : Region.Mode) (ops : Array Oper) (Q : Exit → Act → World → Prop) (S : World → Prop) (D : Nat → Bool) : Nat → Array Bool → Act → World → Prop
  | 0, listed, a, w => Region.ready md ops listed = [] ∧ Q .normal a w
  | fuel + 1, listed, a, w =>
    (Region.ready md ops listed = [] → Q .normal a w) ∧
    ∀ i ∈ Region.ready md ops listed, wpOp P ops Q i (fun a' w' => (D i = true ∨ (S w → S w')) ∧ wpAnyD P md ops Q S D fuel (listed.setIfInBounds i true) a' w') a w

theorem wpAny_of_d : ∀ (fuel : Nat) (listed : Array Bool) (a : Act) (w : World), wpAnyD P md ops Q S D fuel listed a w → wpAny P md ops Q fuel listed a w
  | 0, _, _, _, h => h
  | fuel + 1, _, _, _, h => ⟨h.1, fun i hi => wpOp_mono (fun a' w' h' => wpAny_of_d fuel _ a' w' h'.2) (h.2 i hi)⟩

theorem wpAnyD_first {i : Nat} {oi : Oper} {v : Value} (hi : ops[i]? = some oi) (hsel : ∀ (j : Nat) (o : Oper) cs b, ops[j]? = some o → o.op ≠ .select cs b)
    (hQ : ∀ c a w, Q (.panic c) (a.put oi.dst v) w → Q (.panic c) a w)
    (hk : ∀ (j : Nat) (oj : Oper), ops[j]? = some oj → (∀ e ∈ oj.after, Region.binds md e = true → e.on ≠ i) → ∀ w w', S2 w → (D j = true ∨ (S w → S w')) → S2 w') :
    ∀ (fuel : Nat) (listed : Array Bool) (a : Act) (w : World),
      (∀ j oj, ops[j]? = some oj → j ≠ i → listed.getD j true = false → (∀ e ∈ oj.after, Region.binds md e = true → e.on ≠ i) → oi.apart ops oj = true) →
      i ∈ Region.ready md ops listed → YieldsIf P ops S2 oi v a → S2 w →
      wpAnyD P md ops Q S D fuel (listed.setIfInBounds i true) (a.put oi.dst v) w → wpAnyD P md ops Q S D (fuel + 1) listed a w := by
  intro fuel
  induction fuel with
  | zero =>
    intro listed a w _ hr hy hS H
    refine ⟨fun h => (by rw [h] at hr; cases hr), fun j hj => ?_⟩
    by_cases hji : j = i
    · subst hji; exact hy.wpOp hi hS ⟨.inr id, H⟩
    · have := ready_mono hj hji
      rw [H.1] at this
      cases this
  | succ fuel ih =>
    intro listed a w hfree hr hy hS H
    refine ⟨fun h => (by rw [h] at hr; cases hr), fun j hj => ?_⟩
    by_cases hji : j = i
    · subst hji; exact hy.wpOp hi hS ⟨.inr id, H⟩
    · have h1 := H.2 j (ready_mono hj hji)
      obtain ⟨hjun, oj, hoj, hall⟩ := mem_ready.1 hj
      have hnot : ∀ e ∈ oj.after, Region.binds md e = true → e.on ≠ i := fun e he hb heq => by
        have h1 := hall e he hb
        have h0 := (mem_ready.1 hr).1
        rw [heq] at h1
        rcases Nat.lt_or_ge i listed.size with h' | h'
        · simp [h'] at h0 h1; rw [h0] at h1; cases h1
        · simp [Array.getElem?_eq_none h'] at h1
      have h2 := wpOp_putIf hoj (hfree j oj hoj hji hjun hnot) (fun cs b => hsel i oi cs b hi) (fun cs b => hsel j oj cs b hoj) hQ hy h1
      have hfree' : ∀ k ok, ops[k]? = some ok → k ≠ i → (listed.setIfInBounds j true).getD k true = false →
          (∀ e ∈ ok.after, Region.binds md e = true → e.on ≠ i) → oi.apart ops ok = true := fun k ok hk hki hun hno => by
        refine hfree k ok hk hki ?_ hno
        by_cases hjk : j = k
        · subst hjk; exact hjun
        · rw [getD_set_ne true hjk] at hun; exact hun
      refine wpOp_mono (fun a' w' h3 => ⟨h3.2.1, ih (listed.setIfInBounds j true) a' w' hfree' (ready_mono hr (Ne.symm hji)) h3.1 (hk j oj hoj hnot w w' hS h3.2.1) ?_⟩) h2
      rw [Array.setIfInBounds_comm _ _ hji]
      exact h3.2.2

theorem wpAnyD_pure {i : Nat} {oi : Oper} {v : Value} {fuel : Nat} {listed : Array Bool} {a : Act} {w : World} (hi : ops[i]? = some oi)
    (hs : Region.noSelect ops = true) (hf : Region.free md ops listed i = true) (hr : (Region.ready md ops listed).contains i = true)
    (hQ : ∀ c a w, Q (.panic c) (a.put oi.dst v) w → Q (.panic c) a w) (hg : Region.wanted oi (yielded ops a.tmps) = true) (hy : ∀ w, (execOp a.eval oi).run P w = .ok (.value v) w)
    (h : wpAnyD P md ops Q S D fuel (listed.setIfInBounds i true) (a.put oi.dst v) w) : wpAnyD P md ops Q S D (fuel + 1) listed a w :=
  wpAnyD_first (S2 := fun _ => True) hi (Region.noSelect_spec hs) hQ (fun _ _ _ _ _ _ _ _ => trivial) fuel listed a w (Region.free_spec hi hf) (by simpa using hr) (.inl ⟨hg, fun w _ => hy w⟩) trivial h

theorem wpAnyD_load {i : Nat} {oi : Oper} {v : Value} {fuel : Nat} {listed : Array Bool} {a : Act} {w : World} (hi : ops[i]? = some oi)
    (hs : Region.noSelect ops = true) (hf : Region.free md ops listed i = true) (hr : (Region.ready md ops listed).contains i = true)
    (hD : ((List.range ops.size).all fun j => !D j || ((ops[j]?.map fun o => o.after.any fun e => Region.binds md e && e.on == i).getD false)) = true)
    (hQ : ∀ c a w, Q (.panic c) (a.put oi.dst v) w → Q (.panic c) a w) (hg : Region.wanted oi (yielded ops a.tmps) = true) (hy : ∀ w, S w → (execOp a.eval oi).run P w = .ok (.value v) w) (hS : S w)
    (h : wpAnyD P md ops Q S D fuel (listed.setIfInBounds i true) (a.put oi.dst v) w) : wpAnyD P md ops Q S D (fuel + 1) listed a w := by
  refine wpAnyD_first (S2 := S) hi (Region.noSelect_spec hs) hQ (fun j oj hj hno w w' hS hc => ?_) fuel listed a w (Region.free_spec hi hf) (by simpa using hr) (.inl ⟨hg, hy⟩) hS h
  rcases hc with hc | hc
  · exfalso
    rw [List.all_eq_true] at hD
    have hlt : j < ops.size := (Array.getElem?_eq_some_iff.1 hj).1
    have := hD j (by simpa using hlt)
    rw [hc, hj] at this
    simp only [Bool.not_true, Bool.false_or, Option.map_some, Option.getD_some, Array.any_eq_true] at this
    obtain ⟨q, hq, hb⟩ := this
    simp only [Bool.and_eq_true, beq_iff_eq] at hb
    exact hno _ (Array.getElem_mem hq) hb.1 hb.2
  · exact hc hS

theorem wpAnyD_one {i : Nat} {o : Oper} {fuel : Nat} {listed : Array Bool} {a : Act} {w : World} (hr : Region.ready md ops listed = [i]) (ho : ops[i]? = some o)
    (h : ∀ K' : Act → World → Prop, (∀ a' w', (D i = true ∨ (S w → S w')) → wpAnyD P md ops Q S D fuel (listed.setIfInBounds i true) a' w' → K' a' w') → if Region.wanted o (yielded ops a.tmps) = true then Oper.wp P o a w K' Q else K' (a.put o.dst undef) w) :
    wpAnyD P md ops Q S D (fuel + 1) listed a w := by
  refine ⟨fun h0 => (by rw [hr] at h0; cases h0), fun j hj => ?_⟩
  rw [hr] at hj
  obtain rfl : j = i := by simpa using hj
  exact wpOp_step ho fun K' hK => h K' fun a' w' h1 h2 => hK a' w' ⟨h1, h2⟩
theorem wpAnyD_done {listed : Array Bool} {a : Act} {w : World} (hr : Region.ready md ops listed = []) (h : Q .normal a w) :
    ∀ fuel, wpAnyD P md ops Q S D fuel listed a w
  | 0 => ⟨hr, h⟩
  | _ + 1 => ⟨fun _ => h, by rw [hr]; simp⟩
theorem wp_region_d {id : Nat} {a : Act} {w : World} (S : World → Prop) (D : Nat → Bool) (hm : P.follows .mixedOrders = true)
    (h : wpAnyD P .any ops Q S D ops.size (Array.replicate ops.size false) a w.drew) : (Code.region id ops true).wp P Q a w :=
  wp_region_any hm (wpAny_of_d _ _ _ _ h)
theorem wpAnyD_pured {i d : Nat} {oi : Oper} {v : Value} {fuel : Nat} {listed : Array Bool} {a : Act} {w : World} (hi : ops[i]? = some oi)
    (hd : oi.dst = some d) (hs : Region.noSelect ops = true) (hf : Region.free md ops listed i = true) (hr : (Region.ready md ops listed).contains i = true)
    (hQ : ∀ c a w, Q (.panic c) (a.put (some d) v) w → Q (.panic c) a w) (hg : Region.wanted oi (yielded ops a.tmps) = true) (hy : ∀ w, (execOp a.eval oi).run P w = .ok (.value v) w)
    (h : wpAnyD P md ops Q S D fuel (listed.setIfInBounds i true) (a.put (some d) v) w) : wpAnyD P md ops Q S D (fuel + 1) listed a w :=
  wpAnyD_pure hi hs hf hr (hd ▸ hQ) hg hy (hd ▸ h)
theorem wpAnyD_loadd {i d : Nat} {oi : Oper} {v : Value} {fuel : Nat} {listed : Array Bool} {a : Act} {w : World} (hi : ops[i]? = some oi)
    (hd : oi.dst = some d) (hs : Region.noSelect ops = true) (hf : Region.free md ops listed i = true) (hr : (Region.ready md ops listed).contains i = true)
    (hD : ((List.range ops.size).all fun j => !D j || ((ops[j]?.map fun o => o.after.any fun e => Region.binds md e && e.on == i).getD false)) = true)
    (hQ : ∀ c a w, Q (.panic c) (a.put (some d) v) w → Q (.panic c) a w) (hg : Region.wanted oi (yielded ops a.tmps) = true) (hy : ∀ w, S w → (execOp a.eval oi).run P w = .ok (.value v) w) (hS : S w)
    (h : wpAnyD P md ops Q S D fuel (listed.setIfInBounds i true) (a.put (some d) v) w) : wpAnyD P md ops Q S D (fuel + 1) listed a w :=
  wpAnyD_load hi hs hf hr hD (hd ▸ hQ) hg hy hS (hd ▸ h)
end
end Go

namespace Go.Proofs.YtlndkjcincflpaaGreatDoor
open Go.RowKit Go.Nm
set_option maxRecDepth 100000
theorem nguard : Tryz.prog.eqGuardType Tryz.prog.depth 24 = false := by kernel_rfl
theorem nheld : Tryz.prog.stoodInHeld 24 = false := by kernel_rfl
theorem nstr : Tryz.prog.underlying 24 = some (.struct (Tryz.prog.fieldsOf 24)) := by kernel_rfl
abbrev nf0 : Field := { name := "Scope", type := 9, offset := 0, embedded := false, tag := "", pkgPath := "", byteOffset := 0 }
abbrev nf1 : Field := { name := "Name", type := 9, offset := 1, embedded := false, tag := "", pkgPath := "", byteOffset := 16 }
abbrev nf2 : Field := { name := "Text", type := 9, offset := 2, embedded := false, tag := "", pkgPath := "", byteOffset := 32 }
theorem nfields : (Tryz.prog.fieldsOf 24).toList = [nf0, nf1, nf2] := by kernel_rfl
theorem neqn (x : NM) (W : World) : (Op.equalIn 10000 24 (nmV x) (nmV x)).run Tryz.prog W = .ok true W := by
  rw [run_equalIn_struct W 9999 24 _ _ nstr nheld, nfields]
  have h9 := Tryz.underlying9
  have a9 := Tryz.isAgg9
  have z9 := Tryz.sizeOf9
  simp only [Op.eqFields]
  go_simp
theorem nrun_eq (x : NM) (W : World) : (binOp .eql 24 (nmV x) (nmV x)).run Tryz.prog W = .ok (.bool true) W := by
  rw [run_eql_struct, neqn]
  rfl
theorem nrun_ne (x : NM) (W : World) : (binOp .neq 24 (nmV x) (nmV x)).run Tryz.prog W = .ok (.bool false) W := by
  rw [run_neq_struct, neqn]
  rfl
theorem nexec_load {P : Program} {ev : Operand → Value} {o : Oper} {ty : TypeId} {x : Operand} {p v : Value} {u : World} (ho : o.op = .load ty x) (hx : ev x = p) (hrun : (Instr.loadAt ty p).run P u = .ok v u) : (execOp ev o).run P u = .ok (.value v) u := by
  unfold execOp
  simp only [ho, hx, Sem.run_bind, Sem.run_pure, hrun, Result.andThen_ok]
theorem nrun_drew {w : World} {a : Addr} {x : NM} (h : ∀ u : World, u.heap = w.heap → (Instr.loadAt 24 (.pointer (some a))).run Tryz.prog u = .ok (nmV x) u) : (Instr.loadAt 24 (.pointer (some a))).run Tryz.prog w.drew = .ok (nmV x) w.drew := h _ rfl
set_option maxHeartbeats 8000000 in
theorem nsame_any (L : List NM) (hn : L.length ≤ 1000) (w : World) (p q : Option Addr) (n c m d : Nat) (h : Rds w p n L) (k : Rds w q m L) :
    Calls Tryz.prog 15 #[.slice p n c, .slice q m d] w fun e w' => e = .returned (.bool true) ∧ Below w.heap.size w w' := by
  obtain rfl : m = n := by rw [h.1, k.1]
  have HR : Hid (Rds w p m L) := h
  have HK : Hid (Rds w q m L) := k
  have HN : Hid (m = L.length) := h.1
  have hn2 : m ≤ 1000 := by rw [h.1]; exact hn
  clear h k hn
  go_enter Tryz.func15, Tryz.ntmps15
  go_wp2
  go_loopw [13] (fun i wr => ∃ (k : Nat), k ≤ m ∧ i = .int .i64 (k : Nat) ∧ Hid (Below w.heap.size w wr)) (fun i _ => m - (intOf i).toNat)
  case atStart => exact ⟨0, Nat.zero_le _, rfl, Below.refl _ _⟩
  case round =>
    obtain ⟨k, hk, rfl, HB⟩ := hrel
    by_cases hlt : k < m
    · have hki : (k : Int) < m := by omega
      have hkL : k < L.length := by rw [← HN.out]; exact hlt
      have HBd : Hid (Below w.heap.size w wr.drew) := HB.out.drew
      obtain ⟨a', rfl, RL⟩ := (HR.out.below HBd.out).load hkL
      obtain ⟨b', rfl, RK⟩ := (HK.out.below HBd.out).load hkL
      have NE := fun W => nrun_ne L[k] W
      have HS : Hid ((Instr.loadAt 24 (.pointer (some (a'.add (k * 3))))).run Tryz.prog wr.drew = .ok (nmV L[k]) wr.drew ∧ (Instr.loadAt 24 (.pointer (some (b'.add (k * 3))))).run Tryz.prog wr.drew = .ok (nmV L[k]) wr.drew) := ⟨RL, RK⟩
      clear RL RK
      generalize L[k] = y at *
      go_wp2
      refine wp_region_d (fun u => (Instr.loadAt 24 (.pointer (some (a'.add (k * 3))))).run Tryz.prog u = .ok (nmV y) u ∧ (Instr.loadAt 24 (.pointer (some (b'.add (k * 3))))).run Tryz.prog u = .ok (nmV y) u) (fun _ => false) (by kernel_rfl) ?_
      refine wpAnyD_pured (i := 0) (v := .slice (some a') m c) rfl rfl (by kernel_rfl) (by kernel_rfl) (by kernel_rfl) (fun _ _ _ h => h) (by go_simp) (by intro u; go_simp) ?_
      try simp only [Act.put, List.setIfInBounds_toArray, List.set_cons_zero, List.set_cons_succ]
      refine wpAnyD_pured (i := 1) (v := .int .i64 (k : Int)) rfl rfl (by kernel_rfl) (by kernel_rfl) (by kernel_rfl) (fun _ _ _ h => h) (by go_simp) (by intro u; go_simp) ?_
      try simp only [Act.put, List.setIfInBounds_toArray, List.set_cons_zero, List.set_cons_succ]
      refine wpAnyD_pured (i := 2) (v := .pointer (some (a'.add (k * 3)))) rfl rfl (by kernel_rfl) (by kernel_rfl) (by kernel_rfl) (fun _ _ _ h => h) (by go_simp) (by intro u; go_simp) ?_
      try simp only [Act.put, List.setIfInBounds_toArray, List.set_cons_zero, List.set_cons_succ]
      refine wpAnyD_loadd (i := 3) (v := nmV y) rfl rfl (by kernel_rfl) (by kernel_rfl) (by kernel_rfl) (by kernel_rfl) (fun _ _ _ h => h) (by go_simp) (fun u hSu => nexec_load rfl rfl hSu.1) HS.out ?_
      try simp only [Act.put, List.setIfInBounds_toArray, List.set_cons_zero, List.set_cons_succ]
      refine wpAnyD_pured (i := 4) (v := .slice (some b') m d) rfl rfl (by kernel_rfl) (by kernel_rfl) (by kernel_rfl) (fun _ _ _ h => h) (by go_simp) (by intro u; go_simp) ?_
      try simp only [Act.put, List.setIfInBounds_toArray, List.set_cons_zero, List.set_cons_succ]
      refine wpAnyD_pured (i := 5) (v := .int .i64 (k : Int)) rfl rfl (by kernel_rfl) (by kernel_rfl) (by kernel_rfl) (fun _ _ _ h => h) (by go_simp) (by intro u; go_simp) ?_
      try simp only [Act.put, List.setIfInBounds_toArray, List.set_cons_zero, List.set_cons_succ]
      refine wpAnyD_pured (i := 6) (v := .pointer (some (b'.add (k * 3)))) rfl rfl (by kernel_rfl) (by kernel_rfl) (by kernel_rfl) (fun _ _ _ h => h) (by go_simp) (by intro u; go_simp) ?_
      try simp only [Act.put, List.setIfInBounds_toArray, List.set_cons_zero, List.set_cons_succ]
      refine wpAnyD_loadd (i := 7) (v := nmV y) rfl rfl (by kernel_rfl) (by kernel_rfl) (by kernel_rfl) (by kernel_rfl) (fun _ _ _ h => h) (by go_simp) (fun u hSu => nexec_load rfl rfl hSu.2) HS.out ?_
      try simp only [Act.put, List.setIfInBounds_toArray, List.set_cons_zero, List.set_cons_succ]
      refine wpAnyD_pured (i := 8) (v := .bool false) rfl rfl (by kernel_rfl) (by kernel_rfl) (by kernel_rfl) (fun _ _ _ h => h) (by go_simp) (by intro u; go_simp) ?_
      try simp only [Act.put, List.setIfInBounds_toArray, List.set_cons_zero, List.set_cons_succ]
      refine wpAnyD_done (by kernel_rfl) ?_ _
      go_wp2
      go_roundw
      case rel => exact ⟨k + 1, by omega, by go_num, HBd⟩
      case measure => simp [intOf]; omega
    · have hki : ¬ (k : Int) < m := by omega
      go_wp2
      go_ret
      exact ⟨rfl, HB.out⟩
end Go.Proofs.YtlndkjcincflpaaGreatDoor
