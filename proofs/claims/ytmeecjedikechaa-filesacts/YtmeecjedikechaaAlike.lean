/- octavolaw01.alike: both worlds are the same. -/
import Derived.Test.YtmeecjedikechaaAlike0
import Derived.Deep.RegionHeldLaw
namespace Go.Proofs.Ytmeecjedikechaa
open Go.RowKit Go.Maps Go.Sort
set_option maxRecDepth 100000
set_option linter.unusedVariables false
set_option linter.unusedSimpArgs false
def Q3 (base b bm rb : Nat) (r : RS) (P : List PF) (w : World) (fv : Value) (u : World) : Prop := (∃ K Kr, JB K Kr base b bm rb r P u) ∧ Below base w u ∧ u.cell? ⟨rb, 0, none⟩ = some fv
theorem srt_look : ∀ {P : List PF}, Srt P → ∀ {p : PF}, p ∈ P → lookP p.nm P = some p
  | x :: P, h, p, hp => by
    have hx := (List.pairwise_cons.1 h).1
    rw [look_cons]
    rcases List.mem_cons.1 hp with rfl | hm
    · rw [if_pos rfl]
    · have := hx p hm
      rw [if_neg (fun e => by rw [e] at this; exact absurd this (List.lt_irrefl _)), srt_look (List.pairwise_cons.1 h).2 hm]
theorem good_size {nm : ByteArray} (h : goodB nm = true) : nm.size ≤ maxLen := by
  unfold goodB at h
  simp only [Bool.and_eq_true, decide_eq_true_eq] at h
  have := h.1.2
  simp only [maxLen]
  omega
theorem bts_keepJ {w w' : World} {a : Option Addr} {n c : Nat} {l : List UInt8} (h : Byt.Bts w (.slice a n c) l) (hk : ∀ x, a = some x → l ≠ [] → w'.heap[x.block]? = w.heap[x.block]?) : Byt.Bts w' (.slice a n c) l := by
  rcases h with h | ⟨x, cap, h1, h2, h3, h4⟩
  · exact .inl h
  · refine .inr ⟨x, cap, h1, h2, h3, fun j u hj => ?_⟩
    simp only [Value.slice.injEq] at h1
    have hl : l ≠ [] := by rintro rfl; simp [Byt.bcells] at hj
    have e := hk x h1.1 hl
    rw [← h4 j u hj]
    refine World.cell?_of_block ?_
    rw [Byt.addr_block]
    exact e
set_option maxHeartbeats 8000000 in
theorem alike_any {K : Nat → Prop} {base : Nat} {w : World} {b bm rb : Nat} {r : RS} {P : List PF} (h : JA K base b bm rb r P w) : Calls Try.prog 11 #[ptrOf b, ptrOf rb] w (AdJ base b bm rb w) := by
  have h16 := h.le
  have HQ : Hid (Q0 base b bm rb r P w w.drew) := (show Q0 base b bm rb r P w w from ⟨⟨K, K, h.jb⟩, Below.refl _ _⟩).drew
  have N1 : Hid (∀ u, Q0 base b bm rb r P w u → _) := fun u hu => Q0.names hu
  have N2 : Hid (∀ u v, Q0 base b bm rb r P w u → Txs u v (P.map fun p => p.nm) → _) := fun u v hu hv => Q0.rnames hu hv
  have N3 : Hid (∀ u v x, Q0 base b bm rb r P w u → Txs u v (P.map fun p => p.nm) → Txs u x (P.map fun p => p.nm) → _) := fun u v x hu hv hx => Q0.texts hu hv hx
  have N4 : Hid (∀ u, Q0 base b bm rb r P w u → _) := fun u hu => Q0.on hu
  have N5 : Hid (∀ u, Q0 base b bm rb r P w u → _) := fun u hu => Q0.ops hu
  have N6 : Hid (∀ u, Q0 base b bm rb r P w u → _) := fun u hu => Q0.written hu
  have e1 : ((!r.off) == r.off) = false := by cases r.off <;> rfl
  have e2 : (r.ops != r.ops) = false := by simp
  have e3 : (r.written != r.written) = false := by simp
  clear h
  go_enter Try.func11, Try.ntmps11
  go_wp2
  go_region_held_law (fun u => u.cell? ⟨rb, 1, none⟩ = some (.bool r.off) ∧ u.cell? ⟨rb, 4, none⟩ = some (.int .i64 r.ops) ∧ u.cell? ⟨rb, 5, none⟩ = some (.int .i64 r.written)) (exact HQ.out.cells) (first
    | (go_at_call 24; refine (N1.out _ HQ.out).mono ?_; rintro e w1 ⟨v1, rfl, hq1, hv1⟩; have HQ : Hid (Q0 base b bm rb r P w w1) := hq1; have HV : Hid (Txs w1 v1 (P.map fun p => p.nm)) := hv1; clear hq1 hv1)
    | (go_at_call 42; refine (N2.out _ _ HQ.out HV.out).mono ?_; rintro e w2 ⟨x1, rfl, hq1, hv1, hx1⟩; have HQ : Hid (Q0 base b bm rb r P w w2) := hq1; have HV2 : Hid (Txs w2 v1 (P.map fun p => p.nm) ∧ Txs w2 x1 (P.map fun p => p.nm)) := ⟨hv1, hx1⟩; clear hq1 hv1 hx1)
    | (go_at_call 41; refine (N3.out _ _ _ HQ.out HV2.out.1 HV2.out.2).mono ?_; rintro e w3 ⟨rfl, hq1⟩; have HQ : Hid (Q0 base b bm rb r P w w3) := hq1; clear hq1)
    | (go_at_call 19; refine (N4.out _ HQ.out).mono ?_; rintro e w' ⟨rfl, hw⟩; obtain rfl := hw.symm; clear hw)
    | (go_at_call 28; refine (N5.out _ HQ.out).mono ?_; rintro e w' ⟨rfl, hw⟩; obtain rfl := hw.symm; clear hw)
    | (go_at_call 29; refine (N6.out _ HQ.out).mono ?_; rintro e w' ⟨rfl, hw⟩; obtain rfl := hw.symm; clear hw))
  have HQ3 : Hid (∃ fa fc, Q3 base b bm rb r P w (.slice fa P.length fc) w3) := by
    obtain ⟨⟨K3, Kr3, j3⟩, b3⟩ := HQ.out
    have j3' := j3
    obtain ⟨s, D, F, hS, hR, _⟩ := j3
    obtain ⟨L, hW, hA⟩ := hR
    obtain ⟨fa, fc, hB, _⟩ := hW.slice
    rw [hA.len] at hB
    exact ⟨fa, fc, ⟨_, _, j3'⟩, b3, (rbS_cells hB).1.1⟩
  clear N1 N2 N3 N4 N5 N6 HV HV2 HQ e1 e2 e3
  obtain ⟨fa, fc, hq3⟩ := HQ3.out
  have H3 : Hid (Q3 base b bm rb r P w (.slice fa P.length fc) w3) := hq3
  have c0 := hq3.2.2
  clear hq3 HQ3
  go_wp2_with fail
  clear c0
  go_loopw [49] (fun i wr => ∃ k : Nat, i = .int .i64 k ∧ k ≤ P.length ∧ Hid (Q3 base b bm rb r P w (.slice fa P.length fc) wr)) (fun i _ => P.length - (intOf i).toNat)
  case atStart => exact ⟨0, rfl, by omega, H3⟩
  case round =>
    obtain ⟨k, rfl, hk, HD⟩ := hrel
    clear H3
    by_cases hlt : k < P.length
    · obtain ⟨⟨K, Kr, j⟩, bD, cD⟩ := HD.out
      have hkp : P[k]? = some P[k] := List.getElem?_eq_getElem hlt
      have hmem : P[k] ∈ P := List.getElem_mem hlt
      generalize P[k] = p at hkp hmem
      have HJ : Hid (JB K Kr base b bm rb r P wr) := j
      have HP : Hid (p ∈ P ∧ Srt P ∧ GoodP P) := by
        obtain ⟨s, D, F, hS, hR, hL, hK, hr, hb, hrb, hG⟩ := j
        exact ⟨hmem, hL.srt, hG⟩
      have hRf : ∃ a' fc' ta tc, wr.cell? ⟨rb, 0, none⟩ = some (.slice (some a') P.length fc') ∧ (∀ wr', Below wr.heap.size wr wr' → (Instr.loadAt 70 (.pointer (some (a'.add (k * 3))))).run Try.prog wr' = .ok (.agg #[.string p.nm, .slice ta p.data.length tc, .int .i64 p.sy]) wr') ∧ Hold Kr wr ⟨p.nm, ta, p.data.length, tc, p.sy⟩ p := by
        obtain ⟨s, D, F, hS, hR, _⟩ := j
        obtain ⟨a', fc', ta, tc, q1, -, -, q2, q3⟩ := RefP.file2 hR hkp
        exact ⟨a', fc', ta, tc, q1, q2, q3⟩
      obtain ⟨a', fc', ta, tc, q1, q2, q3⟩ := hRf
      rw [cD] at q1
      simp only [Option.some.injEq, Value.slice.injEq] at q1
      obtain ⟨rfl, -, rfl⟩ := q1
      have HR : Hid ((Instr.loadAt 70 (.pointer (some (a'.add (k * 3))))).run Try.prog wr = .ok (.agg #[.string p.nm, .slice ta p.data.length tc, .int .i64 p.sy]) wr) := q2 _ (Below.refl _ _)
      have HO : Hid (Hold Kr wr ⟨p.nm, ta, p.data.length, tc, p.sy⟩ p) := q3
      have c1 := cell_alloc (show Q0 base b bm rb r P w wr from ⟨⟨K, Kr, j⟩, bD⟩).cells.1 (.cells #[.string p.nm, .slice ta p.data.length tc, .int .i64 p.sy] 70)
      have HB1 : Hid (Below wr.heap.size wr (wr.alloc (.cells #[.string p.nm, .slice ta p.data.length tc, .int .i64 p.sy] 70)) ∧ Below base w wr ∧ wr.cell? ⟨rb, 0, none⟩ = some (.slice (some a') P.length fc)) := ⟨(Below.refl _ wr).alloc (Nat.le_refl _) _, bD, cD⟩
      clear j hkp hmem q2 q3 bD cD HD
      rcases Bool.eq_false_or_eq_true r.off with ho | ho
      · rw [ho] at c1
        have HE : Hid ((∃ K r P, JA K base b bm rb r P (wr.alloc (.cells #[.string p.nm, .slice ta p.data.length tc, .int .i64 p.sy] 70))) ∧ Below base w (wr.alloc (.cells #[.string p.nm, .slice ta p.data.length tc, .int .i64 p.sy] 70))) := ⟨⟨_, _, _, (HJ.out.same HB1.out.1).ja⟩, HB1.out.2.1.trans (HB1.out.1.mono HJ.out.bas)⟩
        clear ho HJ HP HO HB1
        go_wp2_with (refine wpList_loadR rfl 70 _ rfl _ _ rfl HR.out ?_)
        go_ret
        exact ⟨rfl, HE.out.1, HE.out.2⟩
      · rw [ho] at c1
        have HQ1 : Hid (readP p.nm r P = (p.data, 0) ∧ syncedP p.nm r P = ((p.sy : Int), 0) ∧ p.nm.size ≤ maxLen) := by
          have hg := HP.out.2.2 p HP.out.1
          have hk2 := srt_look HP.out.2.1 HP.out.1
          refine ⟨?_, ?_, good_size hg⟩
          · unfold readP; rw [ho, hg, hk2]; simp
          · unfold syncedP; rw [ho, hg, hk2]; simp
        clear ho HP
        have J1 := HJ.out.up HB1.out.1
        have R1 := J1.read p.nm HQ1.out.2.2 HQ1.out.1
        have HG1 : Hid (Nw K wr (wr.alloc (.cells #[.string p.nm, .slice ta p.data.length tc, .int .i64 p.sy] 70)) wr.heap.size ∧ (∀ i, Kr i → Nw K wr (wr.alloc (.cells #[.string p.nm, .slice ta p.data.length tc, .int .i64 p.sy] 70)) i) ∧ (wr.alloc (.cells #[.string p.nm, .slice ta p.data.length tc, .int .i64 p.sy] 70)).heap[wr.heap.size]? = some (.cells #[.string p.nm, .slice ta p.data.length tc, .int .i64 p.sy] 70 (0, 0)) ∧ Kr rb) := ⟨.inr ⟨Nat.le_refl _, by simp⟩, J1.kr, heap_alloc_new wr _, HJ.out.krb⟩
        have HX1 : Hid (∀ i, Kr i → (wr.alloc (.cells #[.string p.nm, .slice ta p.data.length tc, .int .i64 p.sy] 70)).heap[i]? = wr.heap[i]?) := fun i hi => HB1.out.1.block i (HJ.out.kb i (HJ.out.kr i hi))
        have HW1 : Hid (Below base w (wr.alloc (.cells #[.string p.nm, .slice ta p.data.length tc, .int .i64 p.sy] 70)) ∧ wr.cell? ⟨rb, 0, none⟩ = some (.slice (some a') P.length fc)) := ⟨HB1.out.2.1.trans (HB1.out.1.mono HJ.out.bas), HB1.out.2.2⟩
        clear J1 HJ HB1
        have k0 := (fcells70 HG1.out.2.2.1).1
        go_wp2_with (refine wpList_loadR rfl 70 _ rfl _ _ rfl HR.out ?_)
        clear k0 c1 HR
        generalize Nw K wr (wr.alloc (.cells #[.string p.nm, .slice ta p.data.length tc, .int .i64 p.sy] 70)) = K1 at *
        refine R1.mono ?_
        rintro e w4 ⟨v, rfl, o4, j4, b4⟩
        have R2 := j4.synced p.nm HQ1.out.2.2 HQ1.out.2.1
        have HX4 : Hid (w4.heap[wr.heap.size]? = some (.cells #[.string p.nm, .slice ta p.data.length tc, .int .i64 p.sy] 70 (0, 0)) ∧ (∀ i, Kr i → w4.heap[i]? = wr.heap[i]?) ∧ Below base w w4 ∧ Byt.Own (wr.alloc (.cells #[.string p.nm, .slice ta p.data.length tc, .int .i64 p.sy] 70)).heap.size w4 v p.data) := ⟨(b4.keep _ HG1.out.1).trans HG1.out.2.2.1, fun i hi => (b4.keep _ (HG1.out.2.1 i hi)).trans (HX1.out i hi), HW1.out.1.trans b4.below, o4⟩
        clear R1 o4 j4 b4 HX1
        have k0 := (fcells70 HX4.out.1).1
        go_wp2_with fail
        clear k0
        refine R2.mono ?_
        rintro e w5 ⟨rfl, j5, b5⟩
        have HX5 : Hid (w5.heap[wr.heap.size]? = some (.cells #[.string p.nm, .slice ta p.data.length tc, .int .i64 p.sy] 70 (0, 0)) ∧ (∀ i, Kr i → w5.heap[i]? = wr.heap[i]?) ∧ Below base w w5) := ⟨(b5.keep _ (.inl HG1.out.1)).trans HX4.out.1, fun i hi => (b5.keep _ (.inl (HG1.out.2.1 i hi))).trans (HX4.out.2.1 i hi), HX4.out.2.2.1.trans b5.below⟩
        have o5 : Byt.Own (wr.alloc (.cells #[.string p.nm, .slice ta p.data.length tc, .int .i64 p.sy] 70)).heap.size w5 v p.data := HX4.out.2.2.2.of_block fun g hg => b5.keep _ (.inr (HX4.out.2.2.2.lt hg))
        have t5 : Byt.Bts w5 (.slice ta p.data.length tc) p.data := bts_keepJ HO.out.bts fun x hx hne => HX5.out.2.1 _ (HO.out.pl x hx hne)
        have SM := same_yes (bts_srcJ o5.bts) (bts_srcJ t5)
        have H5 : Hid (Q3 base b bm rb r P w (.slice (some a') P.length fc) w5) := by
          refine ⟨⟨_, _, j5⟩, HX5.out.2.2, ?_⟩
          rw [← HW1.out.2]
          exact World.cell?_of_block (HX5.out.2.1 rb HG1.out.2.2.2)
        obtain ⟨k5, k6, k7⟩ := fcells70 HX5.out.1
        have ez : ((p.sy : Int) != (p.sy : Int)) = false := by simp
        clear R2 o5 t5 j5 b5 HX4 HX5 HG1 HW1 HQ1 HO
        go_wp2_with (go_at_call 22; refine SM.mono ?_; rintro e w' ⟨rfl, hw⟩; obtain rfl := hw.symm; clear hw)
        go_roundw
        case rel => exact ⟨k + 1, by go_num, by omega, H5⟩
        case measure => simp [intOf]; omega
    · obtain ⟨⟨K, Kr, j⟩, bD, cD⟩ := HD.out
      have HE : Hid ((∃ K r P, JA K base b bm rb r P wr) ∧ Below base w wr) := ⟨⟨_, _, _, j.ja⟩, bD⟩
      clear HD j bD cD
      go_wp2
      go_ret
      exact ⟨rfl, HE.out.1, HE.out.2⟩
end Go.Proofs.Ytmeecjedikechaa
