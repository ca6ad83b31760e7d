/- For every list of bytes the law BytesReads returns true: read as a book, as changes and as numbers they are the document's values, or none, and what is read is written as the same bytes; the argument reads as it read before. No condition on the input; the table of sums is as the program's text lays it (the card ties it). -/
import Derived.Test.YtohndhmhgdelmaaDoorRows
import Derived.Test.YtohndhmhgdelmaaDoorCards
import Derived.Test.YtohndhmhgdelmaaDoorTie
import Derived.Test.YtohndhmhgdelmaaDoorLaid
import Derived.Test.YtohndhmhgdelmaaDoorBkReads
import Derived.SizedLaws
import Derived.SevenTiedAt
namespace Go.Proofs.YtohndhmhgdelmaaDoor
namespace bytesReads
open Go.ChangeShapes Go.WideShapes Go.ChangeAt Go.RowKit
set_option linter.unusedVariables false

theorem laidOut : laidOutB Tryd.prog = true := by kernel_rfl
theorem bytes5 : Tryd.checked.prog.bytesOf 5 = 1 := by kernel_rfl
theorem wf_u8 {n : Int} (h : (Lit.int .u8 n).wf = true) : 0 ≤ n ∧ n < 256 := by
  have h1 : IntKind.u8.min = 0 := rfl
  have h2 : IntKind.u8.max = 255 := rfl
  simp [Lit.wf] at h
  omega
theorem bts_row {W : World} {x : Addr} {len cap : Nat} {zs : List Int} (h1 : len ≤ cap) (h2 : cap ≤ maxLen) (hz : zs.length = cap) (hc : ∀ i, i < zs.length → W.cell? (x.add i) = some (.int .u8 (zs.getD i 0))) (hw : ∀ n ∈ zs, (Lit.int .u8 n).wf = true) :
    Bts W (.slice (some x) len cap) ((zs.take len).map fun z => UInt8.ofNat z.toNat) := by
  have hl : ((zs.take len).map fun z => UInt8.ofNat z.toNat).length = len := by simp; omega
  refine .inr ⟨x, cap, by rw [hl], by omega, h2, fun j u hj => ?_⟩
  have hjn : j < len := by
    rcases Nat.lt_or_ge j len with e | e
    · exact e
    · rw [List.getElem?_eq_none (by rw [bcells_length, hl]; exact e)] at hj; cases hj
  have hjz : j < zs.length := by omega
  have hz1 : zs[j]? = some zs[j] := List.getElem?_eq_getElem hjz
  obtain ⟨q1, q2⟩ := wf_u8 (hw zs[j] (List.getElem_mem _))
  rw [hc j hjz, List.getD_eq_getElem?_getD, hz1]
  simp [bcells, hjn, hz1] at hj
  subst hj
  simp
  omega

set_option maxRecDepth 100000 in
theorem lifted (os : Os) (started : os.Started) (H : Type) (enc : TypeId × Value → H) :
    ReturnsInHanded {} Tryd.checked os 4 .any (fun w args => (Rows.bytesReadsSpec.pre enc Tryd.prog Tryd.f4 [] false w args ∧ laidMetH Tryd.prog laidS w) ∧ sizedMet enc Tryd.prog Tryd.f4 (OpenSpec.ofChange Rows.bytesReadsSpec) false w args)
      (Rows.bytesReadsSpec.post enc Tryd.prog Tryd.f4 false true false false) := by
  refine returnsInHanded_of_change_and (C := Tryd.checked) (X := fun w _ => laidMetH Tryd.prog laidS w) (fun _ _ _ hh h => h.of_heap hh) own started (by kernel_rfl) Tryd.func4
    (ChangeSpec.witness_shaped (enc := enc) (C := Tryd.checked) (os := os) (X := fun w _ => laidMetH Tryd.prog laidS w) false (World.doorLaid Tryd.prog 400 os) #[.slice none 0 0] 8 rfl (World.shaped_of_RefB (by kernel_rfl) (by kernel_rfl)) (by kernel_rfl) (by kernel_rfl) (by kernel_rfl) (door_met os _)) ?_
  intro W base args ds gs before hval0 hW hcnd hsz hL _
  have hval : ∀ (j : Nat) t v, Tryd.f4.params[j]? = some t → args[j]? = some v → Value.okWide Tryd.prog W .any base t v := hval0
  have hW' := hW
  obtain ⟨p, q, hA0, hV, rfl, hfz, hnd⟩ := hW
  have hA : DataW.TrodAll enc Tryd.prog W 0 (fun _ => true) true Tryd.f4.params.toList args.toList ds p := hA0
  rw [Tryd.params4] at hA hval
  obtain ⟨v0, vs0, d0, ds0, p0, q0, hargs, rfl, rfl, h0, r0⟩ := trodAll_cons hA
  obtain ⟨rfl, rfl, rfl⟩ := trodAll_nil r0
  obtain rfl : args = #[v0] := by cases args; simp_all
  obtain ⟨rfl, rfl⟩ := trodVars_none hV
  obtain ⟨a0, len0, cap0, rfl⟩ := okWide_slice Tryd.underlying29 (hval 0 29 v0 rfl rfl)
  have k0 := h0
  have lt0 : ∀ x ∈ p0, x.block < W.heap.size := by obtain ⟨m, hm⟩ := k0; exact DataW.trod_lt m _ _ _ hm
  obtain ⟨l0, hn0, hm0⟩ : ∃ l, Bts W (.slice a0 len0 cap0) l ∧ l.length ≤ 140737488355328 := by
    obtain ⟨fuel, hf⟩ := h0
    rcases open_ints Tryd.underlying29 Tryd.underlying5 (by kernel_rfl) hf with ⟨hcs, _⟩ | ⟨x, l, c, zs, hcs, _, hl, hm, hz, hx, hcell, hwz⟩
    · simp [Value.cells] at hcs
      obtain ⟨rfl, rfl, rfl⟩ := hcs
      exact ⟨[], .inl ⟨rfl, rfl⟩, by simp⟩
    · simp [Value.cells] at hcs
      obtain ⟨rfl, rfl, rfl⟩ := hcs
      simp only [if_true] at hz
      refine ⟨_, bts_row hl hm (by omega) hcell hwz, ?_⟩
      simp only [Prod.mk.injEq] at hx
      have hd := hx.1
      have h9 := sized_slice hsz (j := 0) (t := 29) (e := 5) rfl (by rw [hd]; rfl) Tryd.underlying29
      rw [bytes5] at h9
      simp only [lits, List.length_map, List.length_take, List.length_drop, reachBytes] at h9 ⊢
      omega
  clear hA0 hval0
  refine (reads_walk hn0 (of_laid hL) hm0).mono fun e W' ⟨he, bel⟩ => ?_
  subst he
  exact ⟨_, rfl, _, _, _, [], _, [], hW', trodAll_mk1 (shut_bool Tryd.underlying4 _), (trodAll_cons_mk (Below.trod laidOut (by kernel_rfl) (of_decide_eq_true (by kernel_rfl)) k0 bel lt0) trodAll_mk0), rfl, bel.frame _, fun h => by cases h⟩

theorem over : Rows.BytesReadsSaid :=
  OpenClaim.holds_of_wide 4 Tryd.f4 rfl rfl rfl rfl rfl rfl rfl ⟨rfl, rfl, rfl, rfl, rfl⟩ rfl rfl rfl rfl rfl (by kernel_rfl) Tryd.func4 (by kernel_rfl)
    (of_decide_eq_true (by kernel_rfl)) (by unfold Func.isWrapper; first | (rw [if_pos (by decide +kernel)]; kernel_rfl) | (rw [if_neg (by decide +kernel)]; exact ⟨rfl, rfl⟩))
    (fun os started H enc _ => lifted os started H enc)
end bytesReads

theorem bytesReads_card_holds : Rows.BytesReadsCardSaid :=
  Claim7.holds_tied_plain_at .later [] [.data] true (true, "a770591a68fd25ef1c78c602449fe9a07f7c3f18f1f7a1641d0ed7df49c09ce8") true
    bytesReads.over (fun _ h => by cases h) (by kernel_rfl) (fun _ h => by cases h) bytesReads_row_tie rfl ⟨rfl, rfl⟩ (by kernel_rfl) rfl
    (fun f fn hf hfn => by
      obtain rfl : f = 4 := Option.some.inj ((show Tryd.prog.funcNamed "octavo/octavolaw02.BytesReads" = some 4 by kernel_rfl).symm.trans hf) |>.symm
      obtain rfl : fn = Tryd.f4 := (Option.some.inj (Tryd.func4.symm.trans hfn)).symm
      exact ⟨by kernel_rfl, fun j t ht => by
        rw [Tryd.params4] at ht
        have h3 : t = 29 := by
          rcases j with _ | j
          · simpa using ht.symm
          · simp at ht
        subst h3
        exact (show Tryd.prog.wantsStandIn 29 = false by kernel_rfl)⟩)
    (by kernel_rfl)
#print axioms bytesReads_card_holds
end Go.Proofs.YtohndhmhgdelmaaDoor
