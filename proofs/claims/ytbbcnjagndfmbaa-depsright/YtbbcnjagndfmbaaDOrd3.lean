/- The document's Order, of a number that is not below 0 and not above 4096. -/
import Derived.Test.YtbbcnjagndfmbaaDOrd2
namespace Go.Proofs.Ytbbcnjagndfmbaa
open Go.RowKit Go.Dp
set_option maxRecDepth 100000
set_option linter.unusedVariables false
set_option linter.unusedSimpArgs false
/-- What Order answers. -/
def OAns (B : Nat) (w' : World) (e : Ending) (n : Nat) (E : List (Nat × Nat)) : Prop :=
  ∃ ov rv, e = .returned (.tuple #[ov, rv]) ∧ w'.ownsRow B 3 1 ov (orderB n E).length (nV (orderB n E)) ∧ w'.ownsRow B 4 1 rv n (bV (ringB n E))
set_option maxHeartbeats 16000000 in
theorem rorder_nat {w : World} {av : Value} {n : Nat} {L : List (Int × Int)} (h : Pr w av L) (hl : L.length ≤ 1099511627776) (hn : n ≤ 4096) :
    Calls Try.prog 8 #[.int .i64 (n : Nat), av] w fun e w' => OAns w.heap.size w' e n (kept n L) ∧ Below w.heap.size w w' := by
  have HA : Hid (Pr w av L) := h
  obtain ⟨a0, c0, rfl⟩ := h.slice
  have h0 : Hid (OwnP w.heap.size w (.slice none 0 0) (zz (kept n (L.take 0)))) := World.ownsRow_nil ..
  clear h
  go_enter Try.func8, Try.ntmps8
  go_wp2
  go_loopw [6, 22] (fun v6 v22 wr => ∃ k : Nat, v22 = .int .i64 (k : Nat) ∧ k ≤ L.length ∧ Hid (OwnP w.heap.size wr v6 (zz (kept n (L.take k)))) ∧ Hid (Below w.heap.size w wr)) (fun _ v22 _ => L.length - (intOf v22).toNat)
  case atStart => exact ⟨0, rfl, Nat.zero_le _, h0.out, Below.refl _ _⟩
  case round =>
    obtain ⟨k, rfl, hk, HO, HB⟩ := hrel
    by_cases hkl : k < L.length
    · have hki : (k : Int) < L.length := by omega
      obtain ⟨a', c', e', RL⟩ := Pr.load (L := L) (Rd.below HA.out HB.out) hkl
      cases e'
      have HN : ¬ (0 ≤ L[k].1 ∧ L[k].1 < (n : Int) ∧ 0 ≤ L[k].2 ∧ L[k].2 < (n : Int)) → Hid (kept n (L.take (k + 1)) = kept n (L.take k)) := fun h => kept_no hkl h
      have HY : (0 ≤ L[k].1 ∧ L[k].1 < (n : Int) ∧ 0 ≤ L[k].2 ∧ L[k].2 < (n : Int)) → Hid (zz (kept n (L.take (k + 1))) = zz (kept n (L.take k)) ++ [L[k]]) := fun h => kept_yes hkl h
      have HLn : Hid ((zz (kept n (L.take k))).length + 1 ≤ 4398046511104) := by
        have := kept_len n (L.take k)
        rw [List.length_take] at this
        show _ ≤ _
        rw [List.length_map]; omega
      have RLh : Hid _ := RL
      generalize L[k] = y at *
      have RSt : Hid _ := pbox wr y
      have RLb : Hid _ := pload (x := y) (heap_alloc_new wr (pO y))
      obtain ⟨c1, c2⟩ := p_cells (heap_alloc_new wr (pO y))
      have hBA := bel_alloc (w1 := wr) (Below.refl wr.heap.size wr) (pO y)
      have HO1 : Hid (OwnP w.heap.size (wr.alloc (pO y)) _ (zz (kept n (L.take k)))) := own_below HO.out hBA
      have HB1 : Hid (Below w.heap.size w (wr.alloc (pO y))) := bel_alloc HB.out _
      obtain ⟨x, z⟩ := y
      dsimp only at *
      clear RL hBA HO HB
      by_cases q : 0 ≤ x ∧ x < (n : Int) ∧ 0 ≤ z ∧ z < (n : Int)
      · have HY := HY q
        clear HN
        obtain ⟨q1, q2, q3, q4⟩ := q
        have RB : Hid _ := pslice_one (wr.alloc (pO (x, z))) (x, z)
        have hBA := bel_alloc (w1 := wr.alloc (pO (x, z))) (Below.refl _ _) (pO (x, z))
        have hrd : Pr ((wr.alloc (pO (x, z))).alloc (pO (x, z))) (.slice (some ⟨(wr.alloc (pO (x, z))).heap.size, 0, none⟩) 1 1) [(x, z)] := by
          refine ⟨_, _, rfl, Nat.le_refl _, by decide, .inr ⟨_, rfl, fun j u hj => ?_⟩⟩
          rw [Addr.add_mid, cell_of_row _ (wr.alloc (pO (x, z))).heap.size (0 + j) _ _ _ (heap_alloc_new (wr.alloc (pO (x, z))) _), Nat.zero_add, ← hj]
          simp
        obtain ⟨v2, w2, RA, HO2, _, HB2⟩ := ownP_cat (own_below HO1.out hBA) hrd (by have := HLn.out; simpa using this) (Nat.le_trans HB1.out.size hBA.size)
        rw [← HY.out] at HO2
        have HO3 : Hid _ := HO2
        have HB3 : Hid (Below w.heap.size w w2) := (bel_alloc HB1.out _).trans HB2
        rw [show (wr.alloc (pO (x, z))).heap.size = wr.heap.size + 1 by simp] at RB RA
        clear HO1 HB1 HO2 HB2 hrd hBA HLn HY
        go_wp2_with (first
          | (refine nl_load rfl 33 _ rfl _ _ rfl RLh.out ?_; clear RLh)
          | (refine nl_load rfl 33 _ rfl _ _ rfl RLb.out ?_; clear RLb)
          | (refine nl_store rfl 33 _ _ rfl _ _ _ rfl rfl RSt.out ?_; clear RSt)
          | (refine nl_bslice rfl 22 1 _ rfl _ _ _ (by go_simp) RB.out ?_; clear RB)
          | (at_builtin; refine nl_append rfl _ _ 22 22 rfl _ _ _ _ rfl rfl RA.out ?_; clear RA))
        go_roundw
        case rel => exact ⟨k + 1, by go_num, by omega, HO3.out, HB3.out⟩
        case measure => simp [intOf]; omega
      · have HN := HN q
        rw [← HN.out] at HO1
        clear HY HN RLb
        have q' : (¬ 0 ≤ x) ∨ (0 ≤ x ∧ ¬ x < (n : Int)) ∨ (0 ≤ x ∧ x < (n : Int) ∧ ¬ 0 ≤ z) ∨ (0 ≤ x ∧ x < (n : Int) ∧ 0 ≤ z ∧ ¬ z < (n : Int)) := by omega
        clear q
        rcases q' with q1 | ⟨q1, q2⟩ | ⟨q1, q2, q3⟩ | ⟨q1, q2, q3, q4⟩
        all_goals
          go_wp2_with (first
            | (refine nl_load rfl 33 _ rfl _ _ rfl RLh.out ?_; clear RLh)
            | (refine nl_store rfl 33 _ _ rfl _ _ _ rfl rfl RSt.out ?_; clear RSt))
          go_roundw
          case rel => exact ⟨k + 1, by go_num, by omega, HO1.out, HB1.out⟩
          case measure => simp [intOf]; omega
    · have hki : ¬ (k : Int) < L.length := by omega
      rw [List.take_of_length_le (by omega)] at HO
      have HKl : Hid (∀ e ∈ kept n L, e.1 < n ∧ e.2 < n) := kept_lt
      have HKn : Hid ((kept n L).length ≤ 1099511627776) := by have := kept_len n L; show _ ≤ _; omega
      clear HA h0
      generalize hKE : kept n L = E at *
      have HKE : Hid (kept n L = E) := hKE
      clear hKE
      generalize wr = W1 at *
      have HE : Hid (Pr W1 _ (zz E)) := own_rd HO.out
      obtain ⟨ae, ce, e6⟩ := own_slice HO.out
      rw [List.length_map] at e6
      subst e6
      obtain ⟨A, w2, RM, hR2, hB2⟩ := ro_make W1 25 4 (.bool false) 1 Try.underlying25 (by kernel_rfl) rfl n (by omega) (by omega)
      have HF0 : Hid (FR W1 A n E 0 (.slice none 0 0) w2) := FR.begin hR2 hB2
      clear HO hR2 hB2
      go_wp2_with (first
        | (refine nl_make rfl 25 _ _ rfl _ _ _ _ rfl rfl RM.out ?_; clear RM))
      go_loopw [9, 11] (fun v9 v11 wr => ∃ k : Nat, v11 = .int .i64 (k : Nat) ∧ k ≤ n ∧ Hid (FR W1 A n E k v9 wr)) (fun _ v11 _ => n - (intOf v11).toNat)
      case atStart => exact ⟨0, rfl, Nat.zero_le _, HF0.out⟩
      case round =>
        clear HF0
        obtain ⟨k, rfl, hk, HF⟩ := hrel
        by_cases hkn : k < n
        · have hki : (k : Int) < n := by omega
          have hcn : ((k : Nat) : Int) ≤ 4096 := by omega
          have CR : Hid (Calls Try.prog 15 #[.int .i64 (n : Nat), .slice ae E.length ce, .int .i64 (k : Nat)] wr _) := reach_any (f := k) (Rd.below HE.out HF.out.bel) HKl.out hkn hn HKn.out
          have HFN := fun (w2 : World) (A' : Addr) (S : List Bool) (hR : Ro wr.heap.size w2 4 A' n n (bV S)) (hS : S.length = n) (hF : ∀ b, S[b]? = some true ↔ Far n E k b) (hb : Below wr.heap.size wr w2) => HF.out.next hkn hn hR hS hF hb
          have HFN2 : Hid _ := HFN
          obtain ⟨a9, c9, rfl⟩ : ∃ a c, _ = Value.slice a k c := by obtain ⟨vs, h1, h2, _⟩ := HF.out.far; exact own_slice h2
          clear HFN
          go_wp2_with fail
          refine CR.out.mono ?_
          rintro e w2 ⟨⟨A', S, rfl, hR, hS, hF⟩, hb⟩
          obtain ⟨v9, w3, RA, ⟨A9, c9', rfl, q1⟩, q2, ⟨b, q3⟩, q4, HF3⟩ := HFN2.out w2 A' S hR hS hF hb
          have HF3 : Hid _ := HF3
          clear HFN2 CR hR hS hF hb
          generalize farB n E k k = f at *
          go_wp2_with (first
            | (at_builtin; refine nl_append rfl _ _ 32 32 rfl _ _ _ _ rfl rfl RA.out ?_; clear RA))
          go_roundw
          case rel => exact ⟨k + 1, by go_num, by omega, HF3.out⟩
          case measure => simp [intOf]; omega
        · have hki : ¬ (k : Int) < n := by omega
          obtain rfl : k = n := by omega
          have HFm : Hid (Fm wr _ k (farB k E)) := HF.out.fm
          have HRg : Hid (Ro W1.heap.size wr 4 A k k (bV (ringB k E))) := HF.out.rg
          have HW : Hid (Below w.heap.size w wr) := HB.out.trans (HF.out.bel.mono HB.out.size)
          have HW1 : Hid (w.heap.size ≤ W1.heap.size) := HB.out.size
          obtain ⟨a9, c9, rfl⟩ : ∃ a c, _ = Value.slice a k c := by obtain ⟨vs, h1, h2, _⟩ := HF.out.far; exact own_slice h2
          obtain ⟨D, w3, RD, hD3, hB3⟩ := ro_make wr 25 4 (.bool false) 1 Try.underlying25 (by kernel_rfl) rfl k (by omega) (by omega)
          have HD0 : Hid (DR wr D k (ordB k E 0) (.slice none 0 0) w3) := DR.begin hD3 hB3
          clear HF HE HKl HKn HB hD3 hB3
          generalize wr = W2 at *
          go_wp2_with (first
            | (refine nl_make rfl 25 _ _ rfl _ _ _ _ rfl rfl RD.out ?_; clear RD))
          go_loopw [13] (fun v13 wr => ∃ m : Nat, Hid (DR W2 D k (ordB k E m) v13 wr)) (fun v13 _ => k - lenV v13)
          case atStart => exact ⟨0, HD0.out⟩
          case round =>
            clear HD0
            obtain ⟨m, HD⟩ := hrel
            obtain ⟨a3, c3, rfl⟩ := own_slice HD.out.out
            by_cases hlen : (ordB k E m).length < k
            · have hli : (((ordB k E m).length : Nat) : Int) < k := by omega
              have HNN : Hid ((∀ j, j < k → j ∈ ordB k E m ∨ readyB k E (ordB k E m) j = false) → False) := none_next hlen
              have HSN : Hid (∀ i, i < k → i ∉ ordB k E m → readyB k E (ordB k E m) i = true → (∀ j, j < i → j ∈ ordB k E m ∨ readyB k E (ordB k E m) j = false) → ordB k E (m + 1) = ordB k E m ++ groupB k E i) := fun i h1 h2 h3 h4 => step_next h1 h2 h3 h4
              have HLe : Hid ((ordB k E (m + 1)).length ≤ k) := ord_le
              generalize hO2 : ordB k E (m + 1) = out2 at *
              have HO2 : Hid (ordB k E (m + 1) = out2) := hO2
              clear hO2
              generalize ordB k E m = out at *
              generalize wr = W3 at *
              go_wp2
              go_loopw [13, 14] (fun v13 v14 wr => wr = W3 ∧ v13 = .slice a3 out.length c3 ∧ ∃ i : Nat, v14 = .int .i64 (i : Nat) ∧ i ≤ k ∧ Hid (∀ j, j < i → j ∈ out ∨ readyB k E out j = false)) (fun _ v14 _ => k - (intOf v14).toNat)
              case atStart => exact ⟨rfl, rfl, 0, rfl, Nat.zero_le _, fun j hj => absurd hj (Nat.not_lt_zero _)⟩
              case round =>
                obtain ⟨rfl, rfl, i, rfl, hi, HJ⟩ := hrel
                by_cases hik : i < k
                · have hii : (i : Int) < k := by omega
                  obtain ⟨d1, d2⟩ := HD.out.done.cell (j := i) (bl_at hik)
                  have HJ2 : (i ∈ out ∨ readyB k E out i = false) → Hid (∀ j, j < i + 1 → j ∈ out ∨ readyB k E out j = false) := fun h j hj => by
                    rcases Nat.lt_succ_iff_lt_or_eq.1 hj with hj | rfl
                    · exact HJ.out j hj
                    · exact h
                  have CR : Hid (Calls Try.prog 16 #[.slice a9 k c9, .slice (some D) k k, .int .i64 (i : Nat)] wr _) := ready_any (HFm.out.below HD.out.bel) (own_rd HD.out.done.own) hik hn
                  rw [rdy_eq] at CR
                  cases hc : out.contains i with
                  | true =>
                    have HJ3 := HJ2 (.inl (by simpa using hc))
                    rw [hc] at d1
                    clear CR HJ2 hc
                    go_wp2
                    go_roundw
                    case rel => exact ⟨by first | rfl | trivial, by first | rfl | trivial, i + 1, by go_num, by omega, HJ3.out⟩
                    case measure => simp [intOf]; omega
                  | false =>
                    rw [hc] at d1
                    cases hr : readyB k E out i with
                    | false =>
                      have HJ3 := HJ2 (.inr hr)
                      rw [hr] at CR
                      clear HJ2 hc hr
                      go_wp2_with (go_at_call 16; refine CR.out.mono ?_; clear CR; rintro e w' ⟨rfl, rfl⟩)
                      go_roundw
                      case rel => exact ⟨by first | rfl | trivial, by first | rfl | trivial, i + 1, by go_num, by omega, HJ3.out⟩
                      case measure => simp [intOf]; omega
                    | true =>
                      have HS := HSN.out i hik (by simpa using hc) hr HJ.out
                      have HS2 : Hid (out2 = out ++ groupB k E i) := HS
                      have HG : Hid (0 < (groupB k E i).length) := group_pos hik
                      rw [hr] at CR
                      clear HJ2 HJ HSN HNN HS hc hr
                      have HDz : Hid (DR W2 D k (out ++ grp k E i i) (.slice a3 out.length c3) wr) := by rw [grp_zero, List.append_nil]; exact HD.out
                      clear HD
                      go_wp2_with (go_at_call 16; refine CR.out.mono ?_; clear CR; rintro e w' ⟨rfl, rfl⟩)
                      clear d1 d2
                      go_loopw [13, 15] (fun v13 v15 wr => ∃ q : Nat, v15 = .int .i64 (q : Nat) ∧ i ≤ q ∧ q ≤ k ∧ Hid (DR W2 D k (out ++ grp k E i q) v13 wr)) (fun _ v15 _ => k - (intOf v15).toNat)
                      case atStart => exact ⟨i, rfl, Nat.le_refl _, hi, HDz.out⟩
                      case round =>
                        clear HDz
                        obtain ⟨q, rfl, hiq, hq, HD⟩ := hrel
                        obtain ⟨a4, c4, rfl⟩ := own_slice HD.out.out
                        by_cases hqk : q < k
                        · have hqi : (q : Int) < k := by omega
                          have hgl := grp_len (n := k) (E := E) (i := i) (k := q)
                          obtain ⟨⟨b, g1⟩, g2, v5, w5, RA, HD5⟩ := HD.out.next hqk (by rw [List.length_append]; omega)
                          obtain ⟨F1, f1, F2, f2, e1, x1, x2⟩ := (HFm.out.below HD.out.bel).at hik hqk
                          obtain ⟨F3, f3, F4, f4, e2, x3, x4⟩ := (HFm.out.below HD.out.bel).at hqk hik
                          cases e1; cases e2
                          have HSt : Hid _ := grp_succ (n := k) (E := E) (i := i) (k := q) hiq
                          have HD5h : Hid _ := HD5
                          have HDh : Hid _ := HD.out
                          simp only [List.length_append] at *
                          by_cases hqe : q = i
                          · have HR : Hid (DR W2 D k (out ++ grp k E i (q + 1)) v5 w5) := by
                              show DR _ _ _ _ _ _
                              rw [HSt.out, if_pos (by simp [hqe]), ← List.append_assoc]
                              exact HD5h.out
                            subst hqe
                            clear HSt HD5h HDh HD5 HD hgl x1 x2 x3 x4
                            go_wp2_with (first
                              | (at_builtin; refine nl_append rfl _ _ 24 24 rfl _ _ _ _ rfl rfl RA.out ?_; clear RA))
                            go_roundw
                            case rel => exact ⟨q + 1, by go_num, by omega, by omega, HR.out⟩
                            case measure => simp [intOf]; omega
                          · have hqe2 : ((q : Nat) : Int) ≠ (i : Nat) := by omega
                            have HYs : (farB k E i q && farB k E q i) = true → Hid (DR W2 D k (out ++ grp k E i (q + 1)) v5 w5) := fun hs => by
                              show DR _ _ _ _ _ _
                              rw [HSt.out, if_pos (by unfold sameB; rw [hs, Bool.or_true]), ← List.append_assoc]
                              exact HD5h.out
                            have HNo : (farB k E i q && farB k E q i) = false → Hid (DR W2 D k (out ++ grp k E i (q + 1)) _ wr) := fun hs => by
                              show DR _ _ _ _ _ _
                              rw [HSt.out, if_neg (by unfold sameB; rw [hs, Bool.or_false]; simp [hqe])]
                              exact HDh.out
                            clear HSt HD5h HDh HD5 HD hgl hqe
                            cases f1 : farB k E i q with
                            | false =>
                              have HR := HNo (by rw [f1]; rfl)
                              rw [f1] at x2
                              clear HYs HNo f1 x3 x4
                              go_wp2
                              go_roundw
                              case rel => exact ⟨q + 1, by go_num, by omega, by omega, HR.out⟩
                              case measure => simp [intOf]; omega
                            | true =>
                              cases f2 : farB k E q i with
                              | false =>
                                have HR := HNo (by rw [f1, f2]; rfl)
                                rw [f1] at x2
                                rw [f2] at x4
                                clear HYs HNo f1 f2
                                go_wp2
                                go_roundw
                                case rel => exact ⟨q + 1, by go_num, by omega, by omega, HR.out⟩
                                case measure => simp [intOf]; omega
                              | true =>
                                have HR := HYs (by rw [f1, f2]; rfl)
                                rw [f1] at x2
                                rw [f2] at x4
                                clear HYs HNo f1 f2
                                go_wp2_with (first
                                  | (at_builtin; refine nl_append rfl _ _ 24 24 rfl _ _ _ _ rfl rfl RA.out ?_; clear RA))
                                go_roundw
                                case rel => exact ⟨q + 1, by go_num, by omega, by omega, HR.out⟩
                                case measure => simp [intOf]; omega
                        · have hqi : ¬ (q : Int) < k := by omega
                          obtain rfl : q = k := by omega
                          have HR : Hid (DR W2 D q (ordB q E (m + 1)) (.slice a4 (out ++ grp q E i q).length c4) wr) := by
                            show DR _ _ _ _ _ _
                            rw [HO2.out, HS2.out]
                            exact HD.out
                          have HMe : Hid ((out ++ grp q E i q).length ≤ q ∧ out.length < (out ++ grp q E i q).length) := by
                            have h1 := HLe.out
                            rw [HS2.out] at h1
                            have h2 := HG.out
                            rw [grp_all]
                            exact ⟨h1, by rw [List.length_append]; omega⟩
                          clear HD HS2 HG HLe
                          go_wp2
                          go_roundw
                          case rel => exact ⟨m + 1, HR.out⟩
                          case measure => simp only [lenV]; have := HMe.out; first | omega | (simp; omega)
                · exact (HNN.out fun j hj => HJ.out j (by omega)).elim
            · have hli : ¬ (((ordB k E m).length : Nat) : Int) < k := by omega
              have HE : Hid (ordB k E m = orderB k E) := ord_done hlen
              have HRg2 := (HRg.out.below HD.out.bel).own
              have HB2 : Hid (Below w.heap.size w wr) := HW.out.trans (HD.out.bel.mono HW.out.size)
              have HOut : Hid (wr.ownsRow w.heap.size 3 1 (.slice a3 (ordB k E m).length c3) (orderB k E).length (nV (orderB k E))) := by
                show World.ownsRow _ _ _ _ _ _ _
                rw [← HE.out]
                exact World.ownsRow.mono HD.out.out HW.out.size
              have HRing : Hid (wr.ownsRow w.heap.size 4 1 (.slice (some A) k k) k (bV (ringB k E))) := World.ownsRow.mono HRg2 HW1.out
              clear HD HE HRg2 hlen
              go_wp2
              go_ret2
              refine ⟨?_, HB2.out⟩
              rw [HKE.out]
              exact ⟨.slice a3 (ordB k E m).length c3, .slice (some A) k k, rfl, HOut.out, HRing.out⟩
end Go.Proofs.Ytbbcnjagndfmbaa
