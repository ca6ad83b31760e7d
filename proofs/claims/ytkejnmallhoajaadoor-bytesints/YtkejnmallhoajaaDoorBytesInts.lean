/- For every list of ints the law BytesInts returns true: their bytes are the document's, and are read back to the very list; the argument reads as it read before. The table of sums is as the program's text lays it (the card ties it). -/
import Derived.Test.YtkejnmallhoajaaDoorRows
import Derived.Test.YtkejnmallhoajaaDoorCards
import Derived.Test.YtkejnmallhoajaaDoorTie
import Derived.Test.YtkejnmallhoajaaDoorLaid
import Derived.Test.YtkejnmallhoajaaDoorIntsWalk
import Derived.SizedLaws
import Derived.SevenTiedAt
namespace Go.Proofs.YtkejnmallhoajaaDoor
namespace bytesInts
open Go.ChangeShapes Go.WideShapes Go.ChangeAt Go.RowKit
set_option linter.unusedVariables false

theorem bytes3 : Tryd.checked.prog.bytesOf 3 = 8 := by kernel_rfl
theorem laidOut : laidOutB Tryd.prog = true := by kernel_rfl
theorem wf_i64 {n : Int} (h : (Lit.int .i64 n).wf = true) : In64 n := by
  have h1 : IntKind.i64.min = -9223372036854775808 := rfl
  have h2 : IntKind.i64.max = 9223372036854775807 := rfl
  simp [Lit.wf] at h
  constructor <;> omega

set_option maxRecDepth 100000 in
theorem lifted (os : Os) (started : os.Started) (H : Type) (enc : TypeId × Value → H) :
    ReturnsInHanded {} Tryd.checked os 5 .any (fun w args => (Rows.bytesIntsSpec.pre enc Tryd.prog Tryd.f5 [] false w args ∧ laidMetH Tryd.prog laidS w) ∧ sizedMet enc Tryd.prog Tryd.f5 (OpenSpec.ofChange Rows.bytesIntsSpec) false w args)
      (Rows.bytesIntsSpec.post enc Tryd.prog Tryd.f5 false true false false) := by
  refine returnsInHanded_of_change_and (C := Tryd.checked) (X := fun w _ => laidMetH Tryd.prog laidS w) (fun _ _ _ hh h => h.of_heap hh) own started (by kernel_rfl) Tryd.func5
    (ChangeSpec.witness_shaped (enc := enc) (C := Tryd.checked) (os := os) (X := fun w _ => laidMetH Tryd.prog laidS w) false (World.doorLaid Tryd.prog 400 os) #[.slice none 0 0] 8 rfl (World.shaped_of_RefB (by kernel_rfl) (by kernel_rfl)) (by kernel_rfl) (by kernel_rfl) (by kernel_rfl) (door_met os _)) ?_
  intro W base args ds gs before hval0 hW hcnd hsz hL _
  have hval : ∀ (j : Nat) t v, Tryd.f5.params[j]? = some t → args[j]? = some v → Value.okWide Tryd.prog W .any base t v := hval0
  have hW' := hW
  obtain ⟨p, q, hA0, hV, rfl, hfz, hnd⟩ := hW
  have hA : DataW.TrodAll enc Tryd.prog W 0 (fun _ => true) true Tryd.f5.params.toList args.toList ds p := hA0
  rw [Tryd.params5] at hA hval
  obtain ⟨v0, vs0, d0, ds0, p0, q0, hargs, rfl, rfl, h0, r0⟩ := trodAll_cons hA
  obtain ⟨rfl, rfl, rfl⟩ := trodAll_nil r0
  obtain rfl : args = #[v0] := by cases args; simp_all
  obtain ⟨rfl, rfl⟩ := trodVars_none hV
  obtain ⟨a0, len0, cap0, rfl⟩ := okWide_slice Tryd.underlying36 (hval 0 36 v0 rfl rfl)
  have k0 := h0
  have lt0 : ∀ x ∈ p0, x.block < W.heap.size := by obtain ⟨m, hm⟩ := k0; exact DataW.trod_lt m _ _ _ hm
  obtain ⟨ns, hn0, hn1, hn2⟩ : ∃ ns, Its W (.slice a0 len0 cap0) ns ∧ (∀ n ∈ ns, In64 n) ∧ ns.length ≤ 140737488355328 := by
    obtain ⟨fuel, hf⟩ := h0
    rcases open_ints Tryd.underlying36 Tryd.underlying3 (by kernel_rfl) hf with ⟨hcs, _⟩ | ⟨x, l, c, zs, hcs, _, hl, hm, hz, hx, hcell, hwz⟩
    · simp [Value.cells] at hcs
      obtain ⟨rfl, rfl, rfl⟩ := hcs
      exact ⟨[], .inl ⟨rfl, rfl⟩, by simp, by simp⟩
    · simp [Value.cells] at hcs
      obtain ⟨rfl, rfl, rfl⟩ := hcs
      simp only [if_true] at hz
      have hlen : (zs.take len0).length = len0 := by simp; omega
      refine ⟨zs.take len0, .inr ⟨x, cap0, by rw [hlen], by omega, hm, fun j n hj => ?_⟩, fun n hn => wf_i64 (hwz n (List.mem_of_mem_take hn)), ?_⟩
      · have hj2 : zs[j]? = some n := by
          rw [List.getElem?_take] at hj
          split at hj
          · exact hj
          · cases hj
        have hjl : j < zs.length := by
          rcases Nat.lt_or_ge j zs.length with e | e
          · exact e
          · rw [List.getElem?_eq_none e] at hj2; cases hj2
        rw [hcell j hjl, List.getD_eq_getElem?_getD, hj2]
        rfl
      · simp only [Prod.mk.injEq] at hx
        have hd := hx.1
        have h9 := sized_slice hsz (j := 0) (t := 36) (e := 3) rfl (by rw [hd]; rfl) Tryd.underlying36
        rw [bytes3] at h9
        simp only [lits, List.length_map, List.length_take, List.length_drop, reachBytes] at h9
        omega
  clear hA0 hval0
  refine (ints_walk hn0 hn1 (of_laid hL) hn2).mono fun e W' ⟨he, bel⟩ => ?_
  subst he
  exact ⟨_, rfl, _, _, _, [], _, [], hW', trodAll_mk1 (shut_bool Tryd.underlying4 _), (trodAll_cons_mk (Below.trod laidOut (by kernel_rfl) (of_decide_eq_true (by kernel_rfl)) k0 bel lt0) trodAll_mk0), rfl, bel.frame _, fun h => by cases h⟩

theorem over : Rows.BytesIntsSaid :=
  OpenClaim.holds_of_wide 5 Tryd.f5 rfl rfl rfl rfl rfl rfl rfl ⟨rfl, rfl, rfl, rfl, rfl⟩ rfl rfl rfl rfl rfl (by kernel_rfl) Tryd.func5 (by kernel_rfl)
    (of_decide_eq_true (by kernel_rfl)) (by unfold Func.isWrapper; first | (rw [if_pos (by decide +kernel)]; kernel_rfl) | (rw [if_neg (by decide +kernel)]; exact ⟨rfl, rfl⟩))
    (fun os started H enc _ => lifted os started H enc)
end bytesInts

theorem bytesInts_card_holds : Rows.BytesIntsCardSaid :=
  Claim7.holds_tied_plain_at .later [] [.data] true (true, "5d8f88a593fc9d97d7ee4966e5a029006633a00d2746f972fd65d038695023eb") true
    bytesInts.over (fun _ h => by cases h) (by kernel_rfl) (fun _ h => by cases h) bytesInts_row_tie rfl ⟨rfl, rfl⟩ (by kernel_rfl) rfl
    (fun f fn hf hfn => by
      obtain rfl : f = 5 := Option.some.inj ((show Tryd.prog.funcNamed "octavo/octavolaw02.BytesInts" = some 5 by kernel_rfl).symm.trans hf) |>.symm
      obtain rfl : fn = Tryd.f5 := (Option.some.inj (Tryd.func5.symm.trans hfn)).symm
      exact ⟨by kernel_rfl, fun j t ht => by
        rw [Tryd.params5] at ht
        have h3 : t = 36 := by
          rcases j with _ | j
          · simpa using ht.symm
          · simp at ht
        subst h3
        exact (show Tryd.prog.wantsStandIn 36 = false by kernel_rfl)⟩)
    (by kernel_rfl)
#print axioms bytesInts_card_holds
end Go.Proofs.YtkejnmallhoajaaDoor
