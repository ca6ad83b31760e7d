/- readings: what each number reads. -/
import Derived.Test.YtbbcnjagndfmbaaXMem
namespace Go.Proofs.Ytbbcnjagndfmbaa
open Go.RowKit Go.Dp
set_option maxRecDepth 100000
set_option linter.unusedVariables false
set_option linter.unusedSimpArgs false
theorem inside_any {w : World} {g n : Nat} (hc : w.cell? ⟨g, 0, none⟩ = some (.int .i64 (n : Nat))) (x : Int) :
    Calls Try.prog 17 #[.int .i64 x, .pointer (some ⟨g, 0, none⟩)] w fun e w' => e = .returned (.bool (decide (0 ≤ x ∧ x < (n : Int)))) ∧ w' = w := by
  by_cases h1 : 0 ≤ x
  · by_cases h2 : x < (n : Int)
    · go_enter Try.func17, Try.ntmps17
      go_wp2
      go_ret
      exact ⟨by simp [h1, h2], rfl⟩
    · have e : decide (0 ≤ x ∧ x < (n : Int)) = false := decide_eq_false fun q => h2 q.2
      rw [e]
      clear e
      go_enter Try.func17, Try.ntmps17
      go_wp2
      go_ret
      exact ⟨rfl, rfl⟩
  · have e : decide (0 ≤ x ∧ x < (n : Int)) = false := decide_eq_false fun q => h1 q.1
    rw [e]
    clear e
    go_enter Try.func17, Try.ntmps17
    go_wp2
    go_ret
    exact ⟨rfl, rfl⟩
theorem kept_yesx {n k : Nat} {L : List (Int × Int)} (hk : k < L.length) (h : 0 ≤ L[k].1 ∧ L[k].1 < (n : Int) ∧ 0 ≤ L[k].2 ∧ L[k].2 < (n : Int)) : kept n (L.take (k + 1)) = kept n (L.take k) ++ [(L[k].1.toNat, L[k].2.toNat)] := by
  unfold kept
  rw [List.take_succ_eq_append_getElem hk, List.filterMap_append]
  congr 1
  simp only [List.filterMap_cons, List.filterMap_nil, if_pos h]
theorem reads_upd {E : List (Nat × Nat)} {p : Nat × Nat} : reads (E ++ [p]) = upd (reads E) p.1 (reads E p.1 ++ [p.2]) := by
  funext a
  rw [reads_cat]
  unfold upd
  by_cases h : p.1 = a
  · rw [if_pos h, if_pos h.symm, h]
  · rw [if_neg h, if_neg (fun e => h e.symm)]
/-- What readings keeps. -/
structure RK (w0 w : World) (A : Addr) (n : Nat) (f : Nat → List Nat) : Prop where
  rr : ∃ b vs, Bs w b ∧ RR w0.heap.size w b 0 A n vs f
  bel : Below w0.heap.size w0 w
theorem RK.begin {w0 w : World} {A : Addr} {n : Nat} (h : Ro w0.heap.size w 24 A n n (List.replicate n (.slice none 0 0))) (hb : Below w0.heap.size w0 w) : RK w0 w A n (reads []) := by
  obtain ⟨g, rfl, h1, h2⟩ := h.form
  refine ⟨⟨fun k j => if k = 100 ∧ j = 0 then some g else none, _, ⟨fun k1 j1 k2 j2 x e1 e2 => ?_, fun k j x e => ?_⟩, h, rfl, fun j hj => ⟨.slice none 0 0, by simp [hj], World.ownsRow_nil .., ?_⟩⟩, hb⟩
  · split at e1
    · split at e2
      · omega
      · cases e2
    · cases e1
  · split at e
    · cases e; exact h2
    · cases e
  · simp [Value.ownBlock]
theorem RK.push {w0 w : World} {A : Addr} {n : Nat} {f : Nat → List Nat} (h : RK w0 w A n f) {g : Nat} (hg : g < n) (x : Nat) (hl : (f g).length + 1 ≤ 4398046511104) :
    ∃ a c a' c' w2, w.cell? (A.add g) = some (.slice a (f g).length c) ∧ Hid ((Builtin.append_ #[24, 24] 24 #[.slice a (f g).length c, .slice (some ⟨w.heap.size, 0, none⟩) 1 1]).run Try.prog (w.alloc (.cells #[.int .i64 (x : Nat)] 3)) = .ok (.slice a' ((f g).length + 1) c') w2) ∧
      w2.cell? (A.add g) = some (.slice a (f g).length c) ∧ w2.frozen? (A.add g) = false ∧ RK w0 (w2.setCell (A.add g) (.slice a' ((f g).length + 1) c')) A n (upd f g (f g ++ [x])) := by
  obtain ⟨⟨b, vs, B, r⟩, hb⟩ := h
  obtain ⟨u, v', w2, h1, ⟨a, c, rfl⟩, ⟨a', c', rfl⟩, h2, h3, h4, h5, h6, h7, h8, _⟩ := r.push B hg x hl hb.size
  exact ⟨a, c, a', c', w2, h1, h2, h3, h4, ⟨_, _, h6, h5⟩, hb.trans h8⟩
theorem RK.below {w0 w w' : World} {A : Addr} {n : Nat} {f : Nat → List Nat} (h : RK w0 w A n f) (hb : Below w.heap.size w w') : RK w0 w' A n f := by
  obtain ⟨⟨b, vs, B, r⟩, h2⟩ := h
  exact ⟨⟨b, vs, B.mono hb.size, r.kp (Kp.of_below hb) (fun _ _ _ h => h) (fun h => h) (fun _ => rfl) rfl⟩, bel_step h2 hb⟩
set_option maxHeartbeats 8000000 in
theorem readings_any {w : World} {av : Value} {n : Nat} {L : List (Int × Int)} (h : Pr w av L) (hl : L.length ≤ 1099511627776) (hn : n ≤ 4096) :
    Calls Try.prog 11 #[.int .i64 (n : Nat), av] w fun e w' => ∃ A, e = .returned (.slice (some A) n n) ∧ RdR w' (.slice (some A) n n) n (reads (kept n L)) ∧ Below w.heap.size w w' := by
  obtain ⟨a0, c0, rfl⟩ := h.slice
  have hB0 := bel_alloc (w1 := w) (Below.refl w.heap.size w) (.cells #[.int .i64 (n : Nat)] 3)
  have HA : Hid (Pr (w.alloc (.cells #[.int .i64 (n : Nat)] 3)) _ L) := h.below hB0
  have hbox : (w.alloc (.cells #[.int .i64 (n : Nat)] 3)).cell? ⟨w.heap.size, 0, none⟩ = some (.int .i64 (n : Nat)) := by
    rw [cell_of_row _ w.heap.size 0 _ _ _ (heap_alloc_new w _)]; rfl
  have HBW : Hid (Below w.heap.size w (w.alloc (.cells #[.int .i64 (n : Nat)] 3))) := hB0
  obtain ⟨A, w2, RM, hR2, hB2⟩ := ro_make (w.alloc (.cells #[.int .i64 (n : Nat)] 3)) 36 24 (.slice none 0 0) 24 Try.underlying36 (by kernel_rfl) rfl n (by omega) (by omega)
  have HK0 : Hid (RK (w.alloc (.cells #[.int .i64 (n : Nat)] 3)) w2 A n (reads (kept n (L.take 0)))) := RK.begin hR2 hB2
  have HBX : Hid (∀ u, Below (w.alloc (.cells #[.int .i64 (n : Nat)] 3)).heap.size (w.alloc (.cells #[.int .i64 (n : Nat)] 3)) u → u.cell? ⟨w.heap.size, 0, none⟩ = some (.int .i64 (n : Nat))) := fun u hu => cell_bel hu hbox
  clear hR2 hB2 hB0 h
  go_enter Try.func11, Try.ntmps11
  generalize hW1 : w.alloc (.cells #[.int .i64 (n : Nat)] 3) = W1 at *
  go_wp2_with (first
    | (refine nl_make rfl 36 _ _ rfl _ _ _ _ rfl rfl RM.out ?_; clear RM))
  go_loopw [16] (fun v16 wr => ∃ k : Nat, v16 = .int .i64 (k : Nat) ∧ k ≤ L.length ∧ Hid (RK W1 wr A n (reads (kept n (L.take k))))) (fun v16 _ => L.length - (intOf v16).toNat)
  case atStart => exact ⟨0, rfl, Nat.zero_le _, HK0.out⟩
  case round =>
    clear HK0
    obtain ⟨k, rfl, hk, HK⟩ := hrel
    by_cases hkl : k < L.length
    · have hki : (k : Int) < L.length := by omega
      obtain ⟨a', c', e', RL⟩ := Pr.load (L := L) (Rd.below HA.out HK.out.bel) hkl
      cases e'
      have HN : ¬ (0 ≤ L[k].1 ∧ L[k].1 < (n : Int) ∧ 0 ≤ L[k].2 ∧ L[k].2 < (n : Int)) → Hid (kept n (L.take (k + 1)) = kept n (L.take k)) := fun h => kept_no hkl h
      have HY : (0 ≤ L[k].1 ∧ L[k].1 < (n : Int) ∧ 0 ≤ L[k].2 ∧ L[k].2 < (n : Int)) → Hid (reads (kept n (L.take (k + 1))) = upd (reads (kept n (L.take k))) L[k].1.toNat (reads (kept n (L.take k)) L[k].1.toNat ++ [L[k].2.toNat])) := fun h => by
        show _ = _
        rw [kept_yesx hkl h, reads_upd]
      have HLn : Hid (∀ g, (reads (kept n (L.take k)) g).length + 1 ≤ 4398046511104) := fun g => by
        have := kept_len n (L.take k)
        have := reads_len (E := kept n (L.take k)) (a := g)
        rw [List.length_take] at *
        omega
      have RLh : Hid _ := RL
      generalize L[k] = y at *
      have RSt : Hid _ := pbox wr y
      obtain ⟨c1, c2⟩ := p_cells (heap_alloc_new wr (pO y))
      have HK1 : Hid (RK W1 (wr.alloc (pO y)).drew A n (reads (kept n (L.take k)))) := HK.out.below (bel_alloc (Below.refl _ _) _).drew
      have HC : Hid (∀ x : Int, Calls Try.prog 17 #[.int .i64 x, .pointer (some ⟨w.heap.size, 0, none⟩)] (wr.alloc (pO y)).drew fun e w' => e = .returned (.bool (decide (0 ≤ x ∧ x < (n : Int)))) ∧ w' = (wr.alloc (pO y)).drew) := fun x => inside_any (HBX.out _ HK1.out.bel) x
      obtain ⟨x, z⟩ := y
      dsimp only at *
      clear RL HBX HK
      have Cx := HC.out x
      have Cz := HC.out z
      clear HC
      by_cases qx : 0 ≤ x ∧ x < (n : Int)
      · rw [decide_eq_true qx] at Cx
        by_cases qz : 0 ≤ z ∧ z < (n : Int)
        · rw [decide_eq_true qz] at Cz
          have HY1 := HY ⟨qx.1, qx.2, qz⟩
          clear HN HY
          obtain ⟨x, rfl⟩ := Int.eq_ofNat_of_zero_le qx.1
          obtain ⟨z, rfl⟩ := Int.eq_ofNat_of_zero_le qz.1
          simp only [Int.toNat_natCast] at HY1
          obtain ⟨a2, c2', a3, c3, w3, p1, RA, p3, p4, HK3⟩ := HK1.out.push (g := x) (by omega) z (HLn.out x)
          rw [← HY1.out] at HK3
          have HK4 : Hid _ := HK3
          have Cx1 : Hid _ := Cx
          have Cz1 : Hid _ := Cz
          have hxn : (x : Int) < n := qx.2
          clear HLn HK1 HY1 HK3 Cx Cz qx qz
          generalize (reads (kept n (L.take k)) x).length = m at *
          go_wp2_with (first
            | (refine nl_load rfl 33 _ rfl _ _ rfl RLh.out ?_; clear RLh)
            | (refine nl_store rfl 33 _ _ rfl _ _ _ rfl rfl RSt.out ?_; clear RSt))
          go_region
          generalize (wr.alloc (pO (_, _))).drew = W2 at *
          go_wp2_with (first
            | (go_at_call 17; refine Calls.mono Cx1.out ?_; clear Cx1; rintro e wz ⟨rfl, rfl⟩)
            | (go_at_call 17; refine Calls.mono Cz1.out ?_; clear Cz1; rintro e wz ⟨rfl, rfl⟩)
            | (at_builtin; refine nl_append rfl _ _ 24 24 rfl _ _ _ _ rfl rfl RA.out ?_; clear RA))
          go_roundw
          case rel => exact ⟨k + 1, by go_num, by omega, HK4.out⟩
          case measure => simp [intOf]; omega
        · rw [decide_eq_false qz] at Cz
          have HN1 := HN fun q => qz q.2.2
          rw [← HN1.out] at HK1
          have Cx : Hid _ := id Cx
          have Cz : Hid _ := id Cz
          clear HLn HY qx qz HN HN1
          go_wp2_with (first
            | (refine nl_load rfl 33 _ rfl _ _ rfl RLh.out ?_; clear RLh)
            | (refine nl_store rfl 33 _ _ rfl _ _ _ rfl rfl RSt.out ?_; clear RSt))
          go_region
          generalize (wr.alloc (pO (_, _))).drew = W2 at *
          go_wp2_with (first
            | (go_at_call 17; refine Calls.mono Cx.out ?_; clear Cx; rintro e wz ⟨rfl, rfl⟩)
            | (go_at_call 17; refine Calls.mono Cz.out ?_; clear Cz; rintro e wz ⟨rfl, rfl⟩))
          go_roundw
          case rel => exact ⟨k + 1, by go_num, by omega, HK1.out⟩
          case measure => simp [intOf]; omega
      · rw [decide_eq_false qx] at Cx
        have HN1 := HN fun q => qx ⟨q.1, q.2.1⟩
        rw [← HN1.out] at HK1
        have Cx : Hid _ := id Cx
        clear HLn HY qx HN HN1 Cz
        go_wp2_with (first
          | (refine nl_load rfl 33 _ rfl _ _ rfl RLh.out ?_; clear RLh)
          | (refine nl_store rfl 33 _ _ rfl _ _ _ rfl rfl RSt.out ?_; clear RSt))
        go_region
        generalize (wr.alloc (pO (_, _))).drew = W2 at *
        go_wp2_with (first
          | (go_at_call 17; refine Calls.mono Cx.out ?_; clear Cx; rintro e wz ⟨rfl, rfl⟩))
        go_roundw
        case rel => exact ⟨k + 1, by go_num, by omega, HK1.out⟩
        case measure => simp [intOf]; omega
    · have hki : ¬ (k : Int) < L.length := by omega
      rw [List.take_of_length_le (by omega)] at HK
      have HF : Hid (RdR wr (.slice (some A) n n) n (reads (kept n L)) ∧ Below w.heap.size w wr) := by
        obtain ⟨⟨b, vs, B, r⟩, hb⟩ := HK.out
        exact ⟨r.rdr, bel_step HBW.out hb⟩
      clear HBX HA HK
      go_wp2
      go_ret
      exact ⟨A, rfl, HF.out.1, HF.out.2⟩
end Go.Proofs.Ytbbcnjagndfmbaa
