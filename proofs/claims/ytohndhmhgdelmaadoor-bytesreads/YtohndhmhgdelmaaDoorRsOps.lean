/- The walk of the reference's ReadOps. -/
import Derived.Test.YtohndhmhgdelmaaDoorRsOp
namespace Go.Proofs.YtohndhmhgdelmaaDoor
open Go.RowKit
set_option maxRecDepth 100000

set_option maxHeartbeats 8000000 in
theorem rops_any {w : World} {v : Value} {l : List UInt8} (h : Bts w v l) (hl : l.length ≤ 536870911999) :
    Calls Tryd.prog 13 #[v] w fun e w' => RsO w l e w' := by
  have C := rcount_any (rs_start h) (by omega)
  obtain ⟨va, vc, rfl, _, _⟩ := h.slice
  clear h
  go_enter Tryd.func13, Tryd.ntmps13
  go_wp2_with fail
  refine C.mono ?_
  rintro e w1 ⟨n, l0, wr0, rfl, rs, g, s0, hl0⟩
  have S0 : Hid (Sp false (countR l) n l0 wr0) := s0
  have HNN : Hid (wr0 = false → n ≤ 536870911999) := fun e => by
    subst e
    rcases s0 with ⟨_, _, q⟩ | ⟨q, _⟩
    · have := (countR_inv q).2.1
      have := countR_len q
      omega
    · cases q
  have ST : Hid (∃ li wri, RS w.heap.size w1 w.heap.size li wri ∧ (rsW w (.slice va l.length vc)).grownBy w1 (some w.heap.size) ∧ Sq opR n l0 wr0 [] li wri ∧ li.length ≤ 1099511627776) := ⟨l0, wr0, rs, g, Sq.start s0 hl0, hl0⟩
  clear C rs g s0
  go_wp2_with fail
  go_loopw [5, 7] (fun u5 u7 wk => ∃ i : Nat, u7 = .int .i64 i ∧ ∃ xs, xs.length = i ∧ Hid (OwnOl (w.heap.size + 1) wk u5 xs) ∧ Hid (∃ li wri, RS w.heap.size wk w.heap.size li wri ∧ (rsW w (.slice va l.length vc)).grownBy wk (some w.heap.size) ∧ Sq opR n l0 wr0 xs li wri ∧ li.length ≤ 1099511627776)) (fun _ u7 _ => n - (intOf u7).toNat)
  case atStart => exact ⟨0, rfl, [], rfl, OwnOl.nil _ _, ST⟩
  case round =>
    obtain ⟨i, rfl, xs, hxi, HO, HS⟩ := hrel
    clear ST
    obtain ⟨li, wri, rs, g, sq, hli⟩ := HS.out
    clear HS
    obtain ⟨a, c, h1, h2, h3, h4⟩ := rs.cells
    obtain ⟨c0, f0, c1, f1⟩ := cells75 h1
    by_cases hgo : i < n ∧ wri = false
    · obtain ⟨hlt, rfl⟩ := hgo
      have hn40 : n ≤ 536870911999 := HNN.out (by
        rcases sq with ⟨_, q, _⟩ | ⟨q, _⟩
        · exact q
        · cases q)
      have SQ : Hid (Sq opR n l0 wr0 xs li false) := sq
      have G0 : Hid ((rsW w (.slice va l.length vc)).grownBy wr (some w.heap.size)) := g
      have C1 := rnum_any rs hli
      have HRB : Hid (w.heap.size + 1 ≤ wr.heap.size) := by have := g.size; show _ ≤ _; simpa using this
      clear rs g sq h1 h2 h3 h4
      go_wp2_with fail
      refine C1.mono ?_
      rintro e w1 ⟨x1, l1, wq1, rfl, rs1, g1, s1, hl1⟩
      have P1 : Hid (Sp false (numR li) x1 l1 wq1) := s1
      obtain ⟨W1, R1, S1⟩ := St.start (x1 := x1) rs1 g1 hl1 (by have := HRB.out; omega)
      clear C1 rs1 g1 s1 c0 f0 c1 f1
      go_wp2_with (refine wpList_store_run rfl 84 _ _ rfl _ _ _ rfl rfl R1.out ?_)
      clear R1
      have C2 := S1.out.field (R := textR) 9 1 (fun x => [.string x]) (rtext_any S1.out.rs S1.out.hl) 1 (fun x => ⟨rfl, rfl, by intro u hu; simp at hu; subst hu; rfl⟩) (by kernel_rfl) rfl (by decide)
      clear S1
      try go_wp2_with fail
      refine C2.mono ?_
      rintro e v2 ⟨x2, l2, wq2, W2, rfl, R2, S2, P2⟩
      clear C2
      go_wp2_with (refine wpList_store_run rfl 9 _ _ rfl _ _ _ rfl rfl R2.out ?_)
      clear R2
      have C3 := S2.out.field (R := textR) 9 2 (fun x => [.string x]) (rtext_any S2.out.rs S2.out.hl) 1 (fun x => ⟨rfl, rfl, by intro u hu; simp at hu; subst hu; rfl⟩) (by kernel_rfl) rfl (by decide)
      clear S2
      refine C3.mono ?_
      rintro e v3 ⟨x3, l3, wq3, W3, rfl, R3, S3, P3⟩
      clear C3
      go_wp2_with (refine wpList_store_run rfl 9 _ _ rfl _ _ _ rfl rfl R3.out ?_)
      clear R3
      have C4 := S3.out.field (R := numR) 3 3 (fun x => [.int .i64 x]) (rnum_any S3.out.rs S3.out.hl) 1 (fun x => ⟨rfl, rfl, by intro u hu; simp at hu; subst hu; rfl⟩) (by kernel_rfl) rfl (by decide)
      clear S3
      refine C4.mono ?_
      rintro e v4 ⟨x4, l4, wq4, W4, rfl, R4, S4, P4⟩
      clear C4
      go_wp2_with (refine wpList_store_run rfl 3 _ _ rfl _ _ _ rfl rfl R4.out ?_)
      clear R4
      have C5 := S4.out.field (R := numR) 3 4 (fun x => [.int .i64 x]) (rnum_any S4.out.rs S4.out.hl) 1 (fun x => ⟨rfl, rfl, by intro u hu; simp at hu; subst hu; rfl⟩) (by kernel_rfl) rfl (by decide)
      clear S4
      refine C5.mono ?_
      rintro e v5 ⟨x5, l5, wq5, W5, rfl, R5, S5, P5⟩
      clear C5
      go_wp2_with (refine wpList_store_run rfl 3 _ _ rfl _ _ _ rfl rfl R5.out ?_)
      clear R5
      have C6 := S5.out.field (R := numR) 3 5 (fun x => [.int .i64 x]) (rnum_any S5.out.rs S5.out.hl) 1 (fun x => ⟨rfl, rfl, by intro u hu; simp at hu; subst hu; rfl⟩) (by kernel_rfl) rfl (by decide)
      clear S5
      refine C6.mono ?_
      rintro e v6 ⟨x6, l6, wq6, W6, rfl, R6, S6, P6⟩
      clear C6
      go_wp2_with (refine wpList_store_run rfl 3 _ _ rfl _ _ _ rfl rfl R6.out ?_)
      clear R6
      have C7 := S6.out.field (R := numR) 3 6 (fun x => [.int .i64 x]) (rnum_any S6.out.rs S6.out.hl) 1 (fun x => ⟨rfl, rfl, by intro u hu; simp at hu; subst hu; rfl⟩) (by kernel_rfl) rfl (by decide)
      clear S6
      refine C7.mono ?_
      rintro e v7 ⟨x7, l7, wq7, W7, rfl, R7, S7, P7⟩
      clear C7
      go_wp2_with (refine wpList_store_run rfl 3 _ _ rfl _ _ _ rfl rfl R7.out ?_)
      clear R7
      have C8 := S7.out.field (R := textR) 9 7 (fun x => [.string x]) (rtext_any S7.out.rs S7.out.hl) 1 (fun x => ⟨rfl, rfl, by intro u hu; simp at hu; subst hu; rfl⟩) (by kernel_rfl) rfl (by decide)
      clear S7
      refine C8.mono ?_
      rintro e v8 ⟨x8, l8, wq8, W8, rfl, R8, S8, P8⟩
      clear C8
      go_wp2_with (refine wpList_store_run rfl 9 _ _ rfl _ _ _ rfl rfl R8.out ?_)
      clear R8
      have C9 := S8.out.field (R := nameR) 64 8 (fun x => [.string x.scope, .string x.name, .string x.text]) (rname_any S8.out.rs (Nat.lt_of_lt_of_le S8.out.lt0 S8.out.g.size) S8.out.hl) 3 (fun x => ⟨rfl, rfl, by intro u hu; simp at hu; rcases hu with rfl | rfl | rfl <;> rfl⟩) (by kernel_rfl) rfl (by decide)
      clear S8
      refine C9.mono ?_
      rintro e v9 ⟨x9, l9, wq9, W9, rfl, R9, S9, P9⟩
      clear C9
      go_wp2_with (refine wpList_store_run rfl 64 _ _ rfl _ _ _ rfl rfl R9.out ?_)
      clear R9
      have C10 := S9.out.field (R := linkR) 69 11 (fun x => [.string x.book, .string x.sheet, .int .i64 x.row, .int .i64 x.col, .int .i64 x.value.kind, .int .i64 x.value.n, .string x.value.s]) (rlink_any S9.out.rs (Nat.lt_of_lt_of_le S9.out.lt0 S9.out.g.size) S9.out.hl) 7 (fun x => ⟨rfl, rfl, by intro u hu; simp at hu; rcases hu with rfl | rfl | rfl | rfl | rfl | rfl | rfl <;> rfl⟩) (by kernel_rfl) rfl (by decide)
      clear S9
      refine C10.mono ?_
      rintro e v10 ⟨x10, l10, wq10, W10, rfl, R10, S10, P10⟩
      clear C10
      go_wp2_with (refine wpList_store_run rfl 69 _ _ rfl _ _ _ rfl rfl R10.out ?_)
      clear R10
      have C11 := S10.out.last HO.out HRB.out (by omega) (by omega) G0.out (by simp)
      refine C11.mono ?_
      rintro e v11 ⟨ca, cn, cc, cl, l11, wq11, w2, v4, w5, rfl, R11, RL, RA, HF⟩
      have HF2 : Hid (∃ xs', xs'.length = i + 1 ∧ Hid (OwnOl (w.heap.size + 1) w5 v4 xs') ∧ Hid (∃ li wri, RS w.heap.size w5 w.heap.size li wri ∧ (rsW w (.slice va l.length vc)).grownBy w5 (some w.heap.size) ∧ Sq opR n l0 wr0 xs' li wri ∧ li.length ≤ 1099511627776)) := by
        obtain ⟨e1, e2, e3, e4, e5⟩ := HF.out
        have sp : Sp false (opR li) (⟨x1, x2, x3, x4, x5, x6, x7, x8, x9, x10, cl⟩ : OpT) l11 wq11 := by
          unfold opR
          exact Sp.bindK P1.out (Sp.bindK P2.out (Sp.bindK P3.out (Sp.bindK P4.out (Sp.bindK P5.out (Sp.bindK P6.out (Sp.bindK P7.out (Sp.bindK P8.out (Sp.bindK P9.out (Sp.bindK P10.out (Sp.bindK e4 (Sp.pure wq11 _ l11)))))))))))
        exact ⟨_, by simp [hxi], e1, l11, wq11, e2, e3, SQ.out.step (by omega) sp, e5⟩
      clear C11 HF S10 P1 P2 P3 P4 P5 P6 P7 P8 P9 P10 SQ G0 HO
      go_wp2_with (first
        | (refine wpList_store_run rfl 50 _ _ rfl _ _ _ rfl rfl R11.out ?_)
        | (refine wpList_load_run rfl 84 _ rfl _ _ rfl RL.out ?_)
        | (at_builtin; refine wpList_append_run rfl _ _ 37 rfl _ _ _ _ rfl rfl RA.out ?_))
      clear R11 RL RA
      go_roundw
      case rel => exact ⟨i + 1, by go_num, HF2.out⟩
      case measure => simp [intOf]; omega
    · have sp : Sp false (lstR opR l) xs li wri := Sp.bindK S0.out (sq.stop fun hw => by
          have : ¬ i < n := fun h => hgo ⟨h, hw⟩
          omega)
      have B1 : Hid (Below w.heap.size w wr) := rsW_below g
      clear rs g sq h2 h3 h4 h1
      by_cases hlt : i < n
      · have hw : wri = true := by
          cases wri
          · exact absurd ⟨hlt, rfl⟩ hgo
          · rfl
        subst hw
        have HN : Hid (readO l = none) := by
          rcases sp with ⟨h, _⟩ | ⟨_, h | h⟩
          · cases h
          · cases h
          · exact readO_bad h
        clear hgo sp
        go_wp2_with fail
        go_ret2
        exact .inr ⟨HN.out, rfl, B1.out⟩
      · clear hgo
        cases wri with
        | true =>
          have HN : Hid (readO l = none) := by
            rcases sp with ⟨h, _⟩ | ⟨_, h | h⟩
            · cases h
            · cases h
            · exact readO_bad h
          clear sp
          go_wp2_with fail
          go_ret2
          exact .inr ⟨HN.out, rfl, B1.out⟩
        | false =>
          have hq : lstR opR l = some (xs, li) := by
            rcases sp with ⟨_, _, h⟩ | ⟨h, _⟩
            · exact h
            · cases h
          clear sp
          by_cases hz : 0 < li.length
          · have HN : Hid (readO l = none) := readO_no hq hz
            clear hq
            generalize li.length = m at *
            go_wp2_with fail
            go_ret2
            exact .inr ⟨HN.out, rfl, B1.out⟩
          · have HN : Hid (readO l = some xs) := readO_yes (by rw [hq]; congr; exact List.eq_nil_of_length_eq_zero (by omega))
            clear hq
            have OI : Hid (OwnOl w.heap.size wr u5 xs) := HO.out.mono (by omega)
            generalize li.length = m at *
            go_wp2_with fail
            go_ret2
            exact .inl ⟨xs, u5, HN.out, rfl, OI.out, B1.out⟩
end Go.Proofs.YtohndhmhgdelmaaDoor
