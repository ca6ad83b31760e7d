/- The contract of the reference's Scan: a journal that is bound. -/
import Derived.Test.YtcheikpmhdliiaaDoorRsScan
import Derived.Test.YtcheikpmhdliiaaDoorRsOps
namespace Go.Proofs.YtcheikpmhdliiaaDoor
open Go.RowKit
set_option maxRecDepth 100000

theorem scan_yes {l : List UInt8} {id : Int} (h : In64 id) (hl : (beginJ id).length ≤ l.length) (he : l.take (beginJ id).length = beginJ id) : scanJ l id = followJ l (beginJ id).length := by
  unfold scanJ
  rw [own_yes h hl he]
  simp
theorem next_one {l : List UInt8} {k : Nat} {ns : List Int} {r : List UInt8} (h : (unframeB l).2.2 = 0) (hq : lstR numR (unframeB l).1 = some (ns, r)) (hns : ∀ s, ns = [s] → s = (k : Int) + 1 → ∀ L, readO r = some L → L = []) : nextJ l k = none := by
  refine next_bad h fun L hG => ?_
  obtain ⟨r', h1, h2, h3⟩ := readG_ref.1 hG
  rw [hq] at h1
  cases h1
  exact h3 (hns _ rfl rfl L h2)
theorem next_none {l : List UInt8} {k : Nat} (h : (unframeB l).2.2 = 0) (hq : lstR numR (unframeB l).1 = none) : nextJ l k = none := by
  refine next_bad h fun L hG => ?_
  obtain ⟨r', h1, h2, h3⟩ := readG_ref.1 hG
  rw [hq] at h1
  cases h1
theorem next_yes {l : List UInt8} {k : Nat} {r : List UInt8} (h : (unframeB l).2.2 = 0) (hq : lstR numR (unframeB l).1 = some ([(k : Int) + 1], r)) {L : List OpT} (hL : readO r = some L) (hne : L ≠ []) : nextJ l k = some (L, (unframeB l).2.1) :=
  next_ref h (readG_ref.2 ⟨r, hq, hL, hne⟩)
theorem lst_len {c : List UInt8} {ns : List Int} {r : List UInt8} (h : lstR numR c = some (ns, r)) : r.length ≤ c.length := by
  have := (lstR_inv (B := numB) (P := In64) (fun l x r h => numR_inv h) h).1
  rw [this, List.length_append]
  omega

set_option maxHeartbeats 8000000 in
theorem rscan_yes {w : World} {v : Value} {l : List UInt8} (h : Bts w v l) {id : Int} (hid : In64 id) (hn : (beginJ id).length ≤ l.length) (he : l.take (beginJ id).length = beginJ id) (hl : l.length ≤ 1000000000) :
    Calls Tryd.prog 19 #[v, .int .i64 id] w fun e w' => LgJ w (scanJ l id) e w' := by
  have HN : Hid (scanJ l id = followJ l (beginJ id).length) := scan_yes hid hn he
  have C := rbegin_any (w.alloc (.cells logZ 40)) hid
  have hp : 0 < (beginJ id).length := by unfold beginJ; rw [frameB_length]; omega
  have H : Hid (Bts w v l) := h
  rcases h with ⟨rfl, rfl⟩ | ⟨a, cap, rfl, h1, h2, h3⟩
  · rw [List.length_nil] at hn; omega
  go_enter Tryd.func19, Tryd.ntmps19
  go_wp2_with fail
  refine C.mono ?_
  rintro e w1 ⟨bv, rfl, o1, b1⟩
  have cb := fun m => conv_bts (o1.bts.drewN m)
  have hb1 : Below w.heap.size w w1 := ((Below.refl _ w).alloc (Nat.le_refl _) _).trans (b1.mono (by simp))
  have ca : ∀ m, (convert 24 9 (.slice (some a) (beginJ id).length cap)).run Tryd.prog (w1.drewN m) = .ok (.string ⟨(l.take (beginJ id).length).toArray⟩) (w1.drewN m) := by
    intro m
    rcases H.out.below hb1 with ⟨e, _⟩ | ⟨a', cap', e, k1, k2, k3⟩
    · cases e
    · cases e
      exact conv_bts (Bts.drewN (Bts.part hn (by omega) k2 k3) m)
  rw [he] at ca
  obtain ⟨ba, bc, rfl, _, _⟩ := o1.bts.slice
  have B1 : Hid (Below (w.heap.size + 1) (w.alloc (.cells logZ 40)) w1) := below_size b1
  clear C o1 b1 h3 hb1 he
  generalize (⟨(beginJ id).toArray⟩ : ByteArray) = s at *
  generalize (beginJ id).length = n0 at *
  have h2' : cap ≤ 9223372036854775807 := h2
  have g1 : ¬ (l.length : Int) < (n0 : Int) := by omega
  have g2 : decide ((l.length : Int) < (n0 : Int)) = false := by simpa using hn
  have g3 : (n0 : Int) ≤ (cap : Int) := by omega
  have s3 : (s.toList == s.toList) = true := by simp
  go_wp2_with fail
  go_quiet ((fail))
  have B2 : Hid (Below (w.heap.size + 1) (w.alloc (.cells logZ 40)) (w1.drewN nq)) := belowN B1.out nq
  clear ca cb B1 s3
  generalize w1.drewN nq = w2 at *
  go_wp2_with fail
  have g2n : decide (l.length < n0) = false := by simpa using hn
  simp only [g2n]
  clear g2 g2n
  go_loopw [7] (fun _ wr => ∃ gv gs good, Hid (FolR w w2.heap.size l n0 wr gv gs good)) (fun _ wr => l.length - goodOf w2.heap.size wr)
  case atStart =>
    refine ⟨.slice none 0 0, [], n0, ?_⟩
    have hs2 : w.heap.size + 1 ≤ w2.heap.size := by have := B2.out.size; simpa using this
    have hb2 : Below w.heap.size w w2 := ((Below.refl _ w).alloc (Nat.le_refl _) _).trans (B2.out.mono (by omega))
    refine ⟨?_, heap_alloc_new w2 _, OwnGp.nil _ _ _, by simp, hb2.alloc hb2.size _, ⟨by omega, by simp⟩, Nat.le_refl _, hn, by simp, by simp⟩
    exact (Below.heap_alloc w2 _ _ (by omega)).trans ((B2.out.block _ (by omega)).trans (heap_alloc_new w _))
  case round =>
    obtain ⟨gv, gs, good, HF⟩ := hrel
    obtain ⟨ga, gc, rfl, _, _⟩ := HF.out.2.2.1.gps.slice
    have k1 : good ≤ l.length := HF.out.2.2.2.2.2.2.2.1
    have k2 : gs.length < 1000000000 := by have := HF.out.2.2.2.2.2.2.2.2.1; omega
    have c1 : wr.cell? ⟨w2.heap.size, 1, none⟩ = some (.int .i64 (good : Int)) := cell_heap HF.out.2.1 rfl
    have hub := unframe_bound (l.drop good)
    have E1 : Hid ((unframeB (l.drop good)).2.2 ≠ 0 → nextJ (l.drop good) gs.length = none) := fun h => next_err h _
    have E2 : Hid ((unframeB (l.drop good)).2.2 = 0 → lstR numR (unframeB (l.drop good)).1 = none → nextJ (l.drop good) gs.length = none) := fun h => next_none h
    have E3 : Hid ((unframeB (l.drop good)).2.2 = 0 → ∀ ns r, lstR numR (unframeB (l.drop good)).1 = some (ns, r) → (∀ s, ns = [s] → s = (gs.length : Int) + 1 → ∀ L, readO r = some L → L = []) → nextJ (l.drop good) gs.length = none) := fun h ns r => next_one h
    have E4 : Hid ((unframeB (l.drop good)).2.2 = 0 → ∀ r, lstR numR (unframeB (l.drop good)).1 = some ([(gs.length : Int) + 1], r) → ∀ L, readO r = some L → L ≠ [] → nextJ (l.drop good) gs.length = some (L, (unframeB (l.drop good)).2.1)) := fun h r hq L => next_yes h hq
    have NX : Hid (∀ tv, Bts wr tv (l.drop good) → Calls Tryd.prog 42 #[tv] wr fun e w' => ∃ c, e = .returned (.tuple #[c, .int .i64 (unframeB (l.drop good)).2.1, .int .i64 (unframeB (l.drop good)).2.2]) ∧ Own wr.heap.size w' c (unframeB (l.drop good)).1 ∧ Below wr.heap.size wr w') := fun tv ht => refUn_any ht
    have NIL : Hid (l.drop good = [] → ¬ (unframeB (l.drop good)).2.2 = 0) := fun e => by rw [e]; decide
    have BTT : Hid (Bts wr (.slice (if cap = good then some a else some (a.add good)) (l.length - good) (cap - good)) (l.drop good)) := by
      rcases H.out.below HF.out.2.2.2.2.1 with ⟨e, _⟩ | ⟨a', cap', e, k2, k3, k4⟩
      · cases e
      · cases e
        exact Bts.tail k1 k2 k3 k4
    have n1 : (good : Int) ≤ (l.length : Int) := by omega
    have n2 : (good : Int) ≤ (cap : Int) := by omega
    have DL : Hid (cap = good → l.drop good = []) := fun e => List.drop_eq_nil_of_le (by omega)
    generalize unframeB (l.drop good) = u at *
    obtain ⟨uc, un, er⟩ := u
    dsimp only at *
    have hcl : uc.length ≤ 131072 := hub.2.2
    clear hub B2
    by_cases hce : cap = good
    · have BT : Hid (Bts wr (.slice (some a) 0 0) (l.drop good)) := by
        have := BTT.out
        rw [if_pos hce, hce, Nat.sub_self, show l.length - good = 0 by omega] at this
        exact this
      have her : ¬ er = 0 := NIL.out (DL.out hce)
      have he' : ¬ (er : Int) = 0 := by omega
      have HX : Hid (nextJ (l.drop good) gs.length = none) := E1.out her
      clear BTT E1 E2 E3 E4 NIL DL
      subst hce
      go_wp2_with fail
      refine (NX.out _ BT.out).mono ?_
      rintro e w3 ⟨cv, rfl, o3, b3⟩
      clear NX BT o3
      obtain ⟨d0, d1, d2, wz, ST, HZ, LG⟩ := HF.out.ends b3
      go_wp2_with (refine wpList_store_run rfl 40 _ _ rfl _ _ _ rfl rfl ST.out ?_)
      exact bodyPost_ret_by (results_cell_row rfl _ _ w.heap.size 40 _ (0, 0) _ rfl HZ.out Tryd.underlying40 rfl (by kernel_rfl)) rfl (by rw [HN.out]; exact LG.out HX.out)
    · have BT : Hid (Bts wr (.slice (some (a.add good)) (l.length - good) (cap - good)) (l.drop good)) := by
        have := BTT.out
        rwa [if_neg hce] at this
      clear BTT NIL DL
      by_cases her : er = 0
      · subst her
        go_wp2_with fail
        refine (NX.out _ BT.out).mono ?_
        rintro e w3 ⟨cv, rfl, o3, b3⟩
        have B3 : Hid (Below wr.heap.size wr w3) := b3
        have F := rfirst_any o3.bts (by omega)
        clear NX BT o3 b3 E1 c1
        go_wp2_with fail
        refine F.mono ?_
        rintro e w4 ⟨ns, nv, rv, r, wq, rfl, oi, br, b4, sp, hr⟩
        have B4 : Hid (Below wr.heap.size wr w4) := B3.out.trans (b4.mono B3.out.size)
        obtain ⟨c0, _, _, _⟩ := HF.out.ends B4.out
        have its := oi.its
        have BR : Hid (Bts w4 rv r) := br
        clear F oi b4 B3 br
        cases wq with
        | true =>
          have HX : Hid (nextJ (l.drop good) gs.length = none) := by
            rcases sp with ⟨q, _⟩ | ⟨_, q | q⟩
            · cases q
            · cases q
            · exact E2.out (by simp) q
          clear E2 E3 E4 its sp
          go_wp2_with fail
          go_quiet ((fail))
          obtain ⟨d0, d1, d2, wz, ST, HZ, LG⟩ := HF.out.ends (belowN B4.out nq)
          go_wp2_with (refine wpList_store_run rfl 40 _ _ rfl _ _ _ rfl rfl ST.out ?_)
          exact bodyPost_ret_by (results_cell_row rfl _ _ w.heap.size 40 _ (0, 0) _ rfl HZ.out Tryd.underlying40 rfl (by kernel_rfl)) rfl (by rw [HN.out]; exact LG.out HX.out)
        | false =>
          have hq : lstR numR uc = some (ns, r) := by
            rcases sp with ⟨_, _, q⟩ | ⟨q, _⟩
            · exact q
            · cases q
          have hrl := lst_len hq
          clear E2 sp
          by_cases hone : ns.length = 1
          · obtain ⟨s0, rfl⟩ := List.length_eq_one_iff.1 hone
            rcases its with ⟨_, e⟩ | ⟨na, nc, rfl, i1, i2, i3⟩
            · cases e
            have i0 : w4.cell? na = some (.int .i64 s0) := by have := i3 0 s0 rfl; simpa [Addr.add] using this
            by_cases hs : s0 = (gs.length : Int) + 1
            · have RO := fun m => rops_any (BR.out.drewN m) (by omega)
              clear i3 hone
              subst hs
              go_wp2_with fail
              go_quiet ((fail))
              have B5 : Hid (Below wr.heap.size wr (w4.drewN nq)) := belowN B4.out nq
              have RO1 := RO nq
              clear RO B4 BR c0 i0
              generalize w4.drewN nq = w5 at *
              go_wp2_with fail
              refine RO1.mono ?_
              rintro e w6 (⟨L, lv, q, rfl, ol, b6⟩ | ⟨q, rfl, b6⟩)
              · have B6 : Hid (Below wr.heap.size wr w6) := B5.out.trans (b6.mono B5.out.size)
                obtain ⟨la, lc, rfl, _, _⟩ := ol.opl.slice
                by_cases hL : L = []
                · subst hL
                  have HX : Hid (nextJ (l.drop good) gs.length = none) := E3.out (by simp) _ _ hq (by rintro s _ _ L' hL'; rw [q] at hL'; cases hL'; rfl)
                  clear RO1 b6 ol E3 E4 hq q
                  obtain ⟨d0, d1, d2, wz, ST, HZ, LG⟩ := HF.out.ends B6.out
                  go_wp2_with (refine wpList_store_run rfl 40 _ _ rfl _ _ _ rfl rfl ST.out ?_)
                  exact bodyPost_ret_by (results_cell_row rfl _ _ w.heap.size 40 _ (0, 0) _ rfl HZ.out Tryd.underlying40 rfl (by kernel_rfl)) rfl (by rw [HN.out]; exact LG.out HX.out)
                · have hx := E4.out (by simp) r hq L q hL
                  obtain ⟨v3, w3', RA, d0, f0, d1, f1, d2, HS, hn1, hn8, va, vn, vc, rfl⟩ := HF.out.step hl hx (readO_inv q).2 (ol.mono B5.out.size) B6.out
                  have hL1 : ¬ L.length = 0 := fun e => hL (List.eq_nil_of_length_eq_zero e)
                  have hL2 : ¬ (L.length : Int) = 0 := by omega
                  obtain ⟨p0, p1, p2, _⟩ := HF.out.ends B6.out
                  have hgn : (good : Int) + (un : Int) ≤ 1000000000 := by omega
                  have GW : Hid (goodOf w2.heap.size wr = good) := HF.out.good
                  have HS2 : Hid (∃ L', FolR w w2.heap.size l n0 ((w3'.setCell ⟨w2.heap.size, 0, none⟩ (.slice va vn vc)).setCell ⟨w2.heap.size, 1, none⟩ (.int .i64 ((good : Int) + (un : Int)))) (.slice va vn vc) (gs ++ [L']) (good + un)) := ⟨L, HS.out⟩
                  clear RO1 b6 ol E3 E4 hq q hx HS B5 B6 hL
                  generalize L.length = Ln at *
                  go_wp2_with (at_builtin; refine wpList_append_run rfl _ _ 36 rfl _ _ _ _ rfl rfl RA.out ?_)
                  go_roundw
                  case rel => exact ⟨_, _, _, HS2.out.choose_spec⟩
                  case measure =>
                    obtain ⟨L', HS1⟩ := HS2.out
                    have e1 := HS1.good
                    have e2 := GW.out
                    show l.length - goodOf w2.heap.size _ < l.length - goodOf w2.heap.size _
                    rw [e1, e2]
                    omega
              · have B6 : Hid (Below wr.heap.size wr w6) := B5.out.trans (b6.mono B5.out.size)
                have HX : Hid (nextJ (l.drop good) gs.length = none) := E3.out (by simp) _ _ hq (by rintro s _ _ L' hL'; rw [q] at hL'; cases hL')
                clear RO1 b6 E3 E4 hq q
                obtain ⟨d0, d1, d2, wz, ST, HZ, LG⟩ := HF.out.ends B6.out
                go_wp2_with (refine wpList_store_run rfl 40 _ _ rfl _ _ _ rfl rfl ST.out ?_)
                exact bodyPost_ret_by (results_cell_row rfl _ _ w.heap.size 40 _ (0, 0) _ rfl HZ.out Tryd.underlying40 rfl (by kernel_rfl)) rfl (by rw [HN.out]; exact LG.out HX.out)
            · have HX : Hid (nextJ (l.drop good) gs.length = none) := E3.out (by simp) _ _ hq (by rintro s e1 e2; cases e1; exact absurd e2 hs)
              clear E3 E4 i3 hq hone
              go_wp2_with fail
              go_quiet ((fail))
              obtain ⟨d0, d1, d2, wz, ST, HZ, LG⟩ := HF.out.ends (belowN B4.out nq)
              go_wp2_with (refine wpList_store_run rfl 40 _ _ rfl _ _ _ rfl rfl ST.out ?_)
              exact bodyPost_ret_by (results_cell_row rfl _ _ w.heap.size 40 _ (0, 0) _ rfl HZ.out Tryd.underlying40 rfl (by kernel_rfl)) rfl (by rw [HN.out]; exact LG.out HX.out)
          · have HX : Hid (nextJ (l.drop good) gs.length = none) := E3.out (by simp) _ _ hq (by rintro s e1 _; rw [e1] at hone; exact absurd rfl hone)
            obtain ⟨na, nc, rfl⟩ : ∃ na nc, nv = .slice na ns.length nc := by
              rcases its with ⟨rfl, rfl⟩ | ⟨na, nc, rfl, _⟩
              · exact ⟨none, 0, rfl⟩
              · exact ⟨some na, nc, rfl⟩
            have hone' : ¬ (ns.length : Int) = 1 := by omega
            clear E3 E4 its hq
            generalize ns.length = nn at *
            go_wp2_with fail
            go_quiet ((fail))
            obtain ⟨d0, d1, d2, wz, ST, HZ, LG⟩ := HF.out.ends (belowN B4.out nq)
            go_wp2_with (refine wpList_store_run rfl 40 _ _ rfl _ _ _ rfl rfl ST.out ?_)
            exact bodyPost_ret_by (results_cell_row rfl _ _ w.heap.size 40 _ (0, 0) _ rfl HZ.out Tryd.underlying40 rfl (by kernel_rfl)) rfl (by rw [HN.out]; exact LG.out HX.out)
      · have he' : ¬ (er : Int) = 0 := by omega
        have HX : Hid (nextJ (l.drop good) gs.length = none) := E1.out her
        clear E1 E2 E3 E4
        go_wp2_with fail
        refine (NX.out _ BT.out).mono ?_
        rintro e w3 ⟨cv, rfl, o3, b3⟩
        clear NX BT o3
        obtain ⟨d0, d1, d2, wz, ST, HZ, LG⟩ := HF.out.ends b3
        go_wp2_with (refine wpList_store_run rfl 40 _ _ rfl _ _ _ rfl rfl ST.out ?_)
        exact bodyPost_ret_by (results_cell_row rfl _ _ w.heap.size 40 _ (0, 0) _ rfl HZ.out Tryd.underlying40 rfl (by kernel_rfl)) rfl (by rw [HN.out]; exact LG.out HX.out)

end Go.Proofs.YtcheikpmhdliiaaDoor
