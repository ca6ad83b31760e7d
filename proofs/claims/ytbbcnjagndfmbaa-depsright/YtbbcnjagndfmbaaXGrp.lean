/- groups: of each number the least one of its ring group. -/
import Derived.Test.YtbbcnjagndfmbaaXSr
namespace Go.Proofs.Ytbbcnjagndfmbaa
open Go.RowKit Go.Dp
set_option maxRecDepth 100000
set_option linter.unusedVariables false
set_option linter.unusedSimpArgs false
/-- The world when the search begins. -/
abbrev gW (w2 : World) (G : Addr) (n : Nat) : World :=
  ((((w2.alloc (.cells #[.slice (some G) n n] 24)).alloc (.map #[] 0)).alloc (.cells #[.map (some (w2.heap.size + 1))] 44)).alloc (.cells #[.slice none 0 0] 24)).alloc (.cells #[.nilFunc] 45)
theorem nl_makeMap {P : Program} {ops : Array Oper} {rest : List Oper} {o : Oper} {a : Act} {w : World} {Q : Exit → Act → World → Prop} (hgd : o.guard = none) (ty : TypeId) (ho : o.op = .makeMap ty none)
    (h : wpList P ops Q rest (a.put o.dst (.map (some w.heap.size))) (w.alloc (.map #[] 0))) : wpList P ops Q (o :: rest) a w := by
  have hrun : (Instr.makeMap ty none).run P w = .ok (.map (some w.heap.size)) (w.alloc (.map #[] 0)) := rfl
  refine wpList_plain hgd fun K hK => ?_
  unfold Oper.wp execOp
  simp only [ho, Option.map_none, Sem.run_bind, Sem.run_pure, hrun, Result.andThen_ok]
  exact hK _ _ h
theorem al_old {w : World} {o : Obj} {i : Nat} (h : i < w.heap.size) : (w.alloc o).heap[i]? = w.heap[i]? := (bel_alloc (w1 := w) (Below.refl _ _) o).block i h
theorem inf45 : (Try.prog.info? 45).map (·.size) = some 1 := by kernel_rfl
theorem GS.begin {w w2 : World} {A : Addr} {n c ga : Nat} (h : Ro (w.alloc (.cells #[.slice (some A) n c] 36)).heap.size w2 3 ⟨ga, 0, none⟩ n n (List.replicate n (.int .i64 0))) (hb : Below (w.alloc (.cells #[.slice (some A) n c] 36)).heap.size (w.alloc (.cells #[.slice (some A) n c] 36)) w2) :
    ∃ w3, Hid ((Instr.storeAt 45 (.pointer (some ⟨w2.heap.size + 4, 0, none⟩)) (fnV w.heap.size w2.heap.size)).run Try.prog (gW w2 ⟨ga, 0, none⟩ n) = .ok () w3) ∧ GS w A n c ga w2.heap.size w3 (fun _ => none) [] (fun _ => 0) 0 := by
  obtain ⟨g, e, h1, h2⟩ := h.form
  cases e
  have hw1 : (w.alloc (.cells #[.slice (some A) n c] 36)).heap.size = w.heap.size + 1 := by simp
  have hs := hb.size
  have B0 : Below w2.heap.size w2 (gW w2 ⟨ga, 0, none⟩ n) := bel_alloc (bel_alloc (bel_alloc (bel_alloc (bel_alloc (Below.refl _ _) _) _) _) _) _
  have bw : Below w.heap.size w w2 := bel_step (bel_alloc (Below.refl _ _) _) hb
  have n4 : (gW w2 ⟨ga, 0, none⟩ n).heap[w2.heap.size + 4]? = some (.cells #[.nilFunc] 45) := by
    have := heap_alloc_new ((((w2.alloc (.cells #[.slice (some ⟨ga, 0, none⟩) n n] 24)).alloc (.map #[] 0)).alloc (.cells #[.map (some (w2.heap.size + 1))] 44)).alloc (.cells #[.slice none 0 0] 24)) (.cells #[.nilFunc] 45)
    simpa using this
  have sz : (gW w2 ⟨ga, 0, none⟩ n).heap.size = w2.heap.size + 5 := by simp
  obtain ⟨w3, r3, hn, gw⟩ := st_box (v := fnV w.heap.size w2.heap.size) n4 inf45 rfl
  have K : ∀ x, x < w2.heap.size + 4 → w3.heap[x]? = (gW w2 ⟨ga, 0, none⟩ n).heap[x]? := fun x hx => gw.block x (by omega) (by simp; omega)
  have B : Below w2.heap.size w2 w3 := ⟨gw.os.trans B0.os, gw.tape.trans B0.tape, gw.output.trans B0.output, Nat.le_trans B0.size gw.size, fun i hi => (K i (by omega)).trans (B0.block i hi)⟩
  refine ⟨w3, r3, bel_step bw B, by omega, by omega, ?_, ?_, ?_, ?_, ⟨none, 0, ?_, World.ownsRow_nil ..⟩, hn, ?_⟩
  · rw [B.block _ (by omega), hb.block _ (by omega)]
    exact heap_alloc_new w _
  · rw [K _ (by omega)]
    have b1 := bel_alloc (w1 := w2.alloc (.cells #[.slice (some ⟨ga, 0, none⟩) n n] 24)) (Below.refl _ _) (.map #[] 0)
    rw [(bel_alloc (bel_alloc (bel_alloc b1 (.cells #[.map (some (w2.heap.size + 1))] 44)) (.cells #[.slice none 0 0] 24)) (.cells #[.nilFunc] 45)).block _ (by simp)]
    exact heap_alloc_new w2 _
  · have m0 := MapR.begin (w2.alloc (.cells #[.slice (some ⟨ga, 0, none⟩) n n] 24))
    have hz : (w2.alloc (.cells #[.slice (some ⟨ga, 0, none⟩) n n] 24)).heap.size = w2.heap.size + 1 := by simp
    rw [hz] at m0
    refine m0.of_block ?_
    rw [K _ (by omega)]
    have b1 := bel_alloc (w1 := (w2.alloc (.cells #[.slice (some ⟨ga, 0, none⟩) n n] 24)).alloc (.map #[] 0)) (Below.refl _ _) (.cells #[.map (some (w2.heap.size + 1))] 44)
    exact (bel_alloc (bel_alloc b1 (.cells #[.slice none 0 0] 24)) (.cells #[.nilFunc] 45)).block _ (by simp)
  · rw [K _ (by omega)]
    have b1 := bel_alloc (w1 := ((w2.alloc (.cells #[.slice (some ⟨ga, 0, none⟩) n n] 24)).alloc (.map #[] 0)).alloc (.cells #[.map (some (w2.heap.size + 1))] 44)) (Below.refl _ _) (.cells #[.slice none 0 0] 24)
    rw [(bel_alloc b1 (.cells #[.nilFunc] 45)).block _ (by simp)]
    have := heap_alloc_new ((w2.alloc (.cells #[.slice (some ⟨ga, 0, none⟩) n n] 24)).alloc (.map #[] 0)) (.cells #[.map (some (w2.heap.size + 1))] 44)
    simpa using this
  · rw [K _ (by omega)]
    have b1 := bel_alloc (w1 := (((w2.alloc (.cells #[.slice (some ⟨ga, 0, none⟩) n n] 24)).alloc (.map #[] 0)).alloc (.cells #[.map (some (w2.heap.size + 1))] 44)).alloc (.cells #[.slice none 0 0] 24)) (Below.refl _ _) (.cells #[.nilFunc] 45)
    rw [b1.block _ (by simp)]
    have := heap_alloc_new (((w2.alloc (.cells #[.slice (some ⟨ga, 0, none⟩) n n] 24)).alloc (.map #[] 0)).alloc (.cells #[.map (some (w2.heap.size + 1))] 44)) (.cells #[.slice none 0 0] 24)
    simpa using this
  · have := (h.below B)
    refine ⟨World.ownsRow.mono ?_ (show w.heap.size ≤ (w.alloc (.cells #[.slice (some A) n c] 36)).heap.size by omega)⟩
    have e : nV ((List.range n).map fun _ => 0) = List.replicate n (.int .i64 0) := by
      apply List.ext_getElem?
      intro j
      by_cases hj : j < n
      · simp [List.getElem?_range hj, hj]
      · simp [hj]
    rw [e]
    exact this.own
set_option maxHeartbeats 16000000 in
theorem groups_any {w : World} {A : Addr} {n c : Nat} {E : List (Nat × Nat)} (hR : RdR w (.slice (some A) n c) n (reads E)) (hE : ∀ e ∈ E, e.1 < n ∧ e.2 < n) (hn : n ≤ 4096) (hEl : E.length ≤ 1099511627776) :
    Calls Try.prog 12 #[.slice (some A) n c] w fun e w' => (∃ (G : Addr) (gr : Nat → Nat), e = .returned (.slice (some G) n n) ∧ GrC w' G n gr ∧ GR n E gr) ∧ Below w.heap.size w w' := by
  have hbox : (w.alloc (.cells #[.slice (some A) n c] 36)).cell? ⟨w.heap.size, 0, none⟩ = some (.slice (some A) n c) := by
    rw [cell_of_row _ w.heap.size 0 _ _ _ (heap_alloc_new w _)]; rfl
  obtain ⟨G, w2, RM, hR2, hB2⟩ := ro_make (w.alloc (.cells #[.slice (some A) n c] 36)) 24 3 (.int .i64 0) 8 Try.underlying24 ninf3 rfl n (by omega) (by omega)
  obtain ⟨ga, hga, h1, h2⟩ := hR2.form
  obtain ⟨w3, RS, HG0⟩ : ∃ w3, Hid ((Instr.storeAt 45 (.pointer (some ⟨w2.heap.size + 4, 0, none⟩)) (fnV w.heap.size w2.heap.size)).run Try.prog (gW w2 G n) = .ok () w3) ∧ Hid (GS w A n c ga w2.heap.size w3 (fun _ => none) [] (fun _ => 0) 0) := by
    rw [hga] at hR2 ⊢
    exact GS.begin hR2 hB2
  have hGA : Hid (G = ⟨ga, 0, none⟩) := hga
  have HSr : Hid (∀ (d : Nat) (u : World) (a : Nat) (sn : Nat → Option Nat) (op : List Nat) (gr : Nat → Nat) (cnt : Nat), n - cnt ≤ d → GS w A n c ga w2.heap.size u sn op gr cnt → TI n E sn op gr cnt → a < n → sn a = none → (∀ x ∈ op, Far n E x a) →
      Calls Try.prog 18 #[.int .i64 (a : Nat), .pointer (some ⟨w2.heap.size + 2, 0, none⟩), .pointer (some ⟨w2.heap.size + 3, 0, none⟩), .pointer (some ⟨w.heap.size, 0, none⟩), .pointer (some ⟨w2.heap.size + 4, 0, none⟩), .pointer (some ⟨w2.heap.size, 0, none⟩)] u (SP w A n c ga w2.heap.size E a sn op cnt)) := search_any hR hE hn hEl
  have HBw : Hid (∀ u, Below w2.heap.size w2 u → u.cell? ⟨w.heap.size, 0, none⟩ = some (.slice (some A) n c)) := fun u hu => cell_bel hu (cell_bel hB2 hbox)
  have HEf : Hid (∀ e ∈ E, e.1 < n ∧ e.2 < n) := hE
  have pb := cell_bel (bel_alloc (w1 := w2) (Below.refl _ _) (.cells #[.slice (some G) n n] 24)) (cell_bel hB2 hbox)
  have pr := cell0 HG0.out.bx
  clear hR2 hB2 hga h1 h2 hR hE
  go_enter Try.func12, Try.ntmps12
  go_wp2_with (first
    | (refine nl_make rfl 24 _ _ rfl _ _ _ _ rfl rfl RM.out ?_; clear RM)
    | (refine nl_makeMap rfl 44 rfl ?_)
    | (refine nl_store rfl 45 _ _ rfl _ _ _ rfl rfl RS.out ?_; clear RS))
  clear pb HBw hbox
  go_loopw [17] (fun v17 wr => ∃ (k : Nat) (sn : Nat → Option Nat) (gr : Nat → Nat) (cnt : Nat), v17 = .int .i64 (k : Nat) ∧ k ≤ n ∧ Hid (GS w A n c ga w2.heap.size wr sn [] gr cnt) ∧ Hid (TI n E sn [] gr cnt) ∧ Hid (∀ x, x < k → sn x ≠ none)) (fun v17 _ => n - (intOf v17).toNat)
  case atStart => exact ⟨0, _, _, _, rfl, Nat.zero_le _, HG0.out, TI.begin, fun x hx => absurd hx (Nat.not_lt_zero _)⟩
  case round =>
    clear HG0 pr
    obtain ⟨k, sn, gr, cnt, rfl, hk, HG, HT, HK⟩ := hrel
    by_cases hkn : k < n
    · have hki : (k : Int) < n := by omega
      have y1 := cell0 HG.out.sbx
      have LK := HG.out.mp.look k (by omega)
      cases hsk : sn k with
      | some v =>
        rw [hsk] at LK
        simp only [Option.getD_some, Option.isSome_some] at LK
        have LK1 : Hid _ := LK
        have HK2 : Hid (∀ x, x < k + 1 → sn x ≠ none) := fun x hx => by
          rcases Nat.lt_succ_iff_lt_or_eq.1 hx with h | rfl
          · exact HK.out x h
          · rw [hsk]; simp
        clear LK HK hsk
        go_wp2_with (first
          | (refine nl_lookup rfl 44 _ _ rfl _ _ _ rfl rfl LK1.out ?_; clear LK1))
        go_roundw
        case rel => exact ⟨k + 1, _, _, _, by go_num, by omega, HG.out, HT.out, HK2.out⟩
        case measure => simp [intOf]; omega
      | none =>
        rw [hsk] at LK
        simp only [Option.getD_none, Option.isSome_none] at LK
        have LK1 : Hid _ := LK
        have C : Hid _ := HSr.out _ wr k sn [] gr cnt (Nat.le_refl _) HG.out HT.out hkn hsk (by simp)
        have y2 := cell0 HG.out.fbx
        have HK2 : Hid (∀ sn' op' gr' cnt' r, TP n E k sn [] cnt sn' op' gr' cnt' r → op' = [] ∧ TI n E sn' op' gr' cnt' ∧ ∀ x, x < k + 1 → sn' x ≠ none) := fun sn' op' gr' cnt' r p => by
          refine ⟨?_, p.inv, fun x hx => ?_⟩
          · obtain ⟨new, e, _, _, _, _, q⟩ := p.new
            by_cases hn : new = []
            · rw [e, hn]; rfl
            · obtain ⟨y, hy, _⟩ := q hn
              cases hy
          · rcases Nat.lt_succ_iff_lt_or_eq.1 hx with h | rfl
            · cases c1 : sn x with
              | none => exact absurd c1 (HK.out x h)
              | some v => rw [p.ext x v c1]; simp
            · exact p.seen
        clear LK HK hsk HSr HG HT
        go_wp2_with (first
          | (refine nl_lookup rfl 44 _ _ rfl _ _ _ rfl rfl LK1.out ?_; clear LK1)
          | (go_at_call 18; refine Calls.mono C.out ?_; clear C; rintro e2 u ⟨r, sn2, op2, gr2, cnt2, rfl, hg, hp⟩; obtain ⟨ho, ht, hk2⟩ := HK2.out _ _ _ _ _ hp; subst ho; have HG2 : Hid _ := hg; have HT2 : Hid _ := ht; have HK3 : Hid _ := hk2; clear hg hp ht hk2 HK2))
        go_roundw
        case rel => exact ⟨k + 1, _, _, _, by go_num, by omega, HG2.out, HT2.out, HK3.out⟩
        case measure => simp [intOf]; omega
    · have hki : ¬ (k : Int) < n := by omega
      have y3 := cell0 HG.out.gbx
      rw [← hGA.out] at y3
      have HF : Hid (GrC wr G n gr ∧ GR n E gr ∧ Below w.heap.size w wr) := by
        refine ⟨fun i hi => ?_, GR.of_ti HT.out HEf.out fun x hx => HK.out x (by omega), HG.out.bel⟩
        have := (HG.out.gro.cell (j := i) (u := .int .i64 (gr i : Nat)) (by simp [List.getElem?_range hi])).1
        rw [hGA.out]
        exact this
      clear HG HT HK HSr
      go_wp2
      go_ret
      exact ⟨⟨G, rfl, gr, HF.out.1, HF.out.2.1⟩, HF.out.2.2⟩
end Go.Proofs.Ytbbcnjagndfmbaa
