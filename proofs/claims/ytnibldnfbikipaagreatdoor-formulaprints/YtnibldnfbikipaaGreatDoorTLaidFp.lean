/- TLaid. -/
import Derived.Handed
import Derived.HandedShaped
import Derived.LaidMore
import Derived.LaidSub
import Derived.Lay
import Derived.Lib.SmallJoins
import Derived.OpenShut
import Derived.ProofKit
import Derived.Stop.Joined
import Derived.Stop.LaidErr
import Derived.Test.YtnibldnfbikipaaGreatDoorRows
import Derived.Test.YtnibldnfbikipaaGreatDoorTOpFp
set_option linter.unusedVariables false
set_option linter.unusedSimpArgs false
set_option maxHeartbeats 16000000
set_option maxRecDepth 100000
namespace Go.Proofs.YtnibldnfbikipaaGreatDoor
open Go.ChangeShapes Go.WideShapes Go.ChangeAt Go.WideElems Go.RowKit
abbrev laidS : List (String × DataW Unit) := [("math/bits.deBruijn32tab", Rows.laid_math_bits_deBruijn32tab), ("math/bits.deBruijn64tab", Rows.laid_math_bits_deBruijn64tab), ("internal/strconv.uint64pow10", Rows.laid_internal_strconv_uint64pow10), ("unicode/utf8.acceptRanges", Rows.laid_unicode_utf8_acceptRanges), ("strconv.ErrRange", Rows.laid_strconv_ErrRange), ("strconv.ErrSyntax", Rows.laid_strconv_ErrSyntax), ("octavo/value.faults", Rows.laid_octavo_value_faults), ("octavo/token.operators", Rows.laid_octavo_token_operators), ("unicode/utf8.first", Rows.laid_unicode_utf8_first)]
theorem own : ownKnob Tryz.prog.godebug = none := by kernel_rfl
theorem all_met (os : Os) (args : Array Value) : laidMetH Tryz.prog laidS ((World.laidAll Tryz.prog os laidS).forCall (fun _ _ => 0) ⟨#[], args, []⟩).memory := by
 rw [MakeChecks.laidMetH_plain _ _ _ (by kernel_rfl)]
 exact laidMet_laidAll _ (by kernel_rfl) (by kernel_rfl)
theorem pow_data : (Rows.laid_internal_strconv_uint64pow10 : DataW Unit) = Lib.tabData .u64 Lib.pow10Tab := by kernel_rfl
theorem ptab_laid {W : World} (h : laidMetH Tryz.prog laidS W) : PTab W := by
 have h1 := laidMetH.filter (fun x => x.1 == "internal/strconv.uint64pow10") h
 have e : laidS.filter (fun x => x.1 == "internal/strconv.uint64pow10") = [("internal/strconv.uint64pow10", Lib.tabData .u64 Lib.pow10Tab)] := by
  rw [← pow_data]
  kernel_rfl
 rw [e, MakeChecks.laidMetH_plain _ _ _ (by kernel_rfl)] at h1
 exact Lib.tabIs_of_head (g := 5) (t := 281) (e := 178) (n := 20) (by kernel_rfl) (by kernel_rfl) Tryz.underlying281 Tryz.underlying178 (by kernel_rfl) (by kernel_rfl) h1
theorem gFaults : Tryz.prog.globalNamed "octavo/value.faults" = some 1 := by kernel_rfl
theorem tFaults : (Tryz.prog.globals[1]?).map (·.type) = some 200 := by kernel_rfl
theorem ftab_laid {W : World} (h0 : laidMetH Tryz.prog laidS W) : FTab W := by
 have h := laidMetH.filter (fun x => x.1 == "octavo/value.faults") h0
 have e : laidS.filter (fun x => x.1 == "octavo/value.faults") = [("octavo/value.faults", Rows.laid_octavo_value_faults)] := by kernel_rfl
 rw [e, MakeChecks.laidMetH_plain _ _ _ (by kernel_rfl)] at h
 obtain ⟨ps, ⟨g0, t0, cs0, f0, p0, q0, hg0, ht0, hv0, hd0, _, _⟩, _, _⟩ := h
 obtain rfl := Option.some.inj (gFaults.symm.trans hg0)
 obtain rfl := Option.some.inj (tFaults.symm.trans ht0)
 obtain ⟨xs, m1, rfl, hx1, hlen, hn3, hel⟩ := DataW.trod_array Tryz.underlying200 hd0
 have c9 : Tryz.prog.cellsOf 9 = 1 := by kernel_rfl
 simp only [Prod.mk.injEq] at hx1
 intro i hi
 have h1 := hel i hi
 have hxi : xs[i]? = some xs[i] := List.getElem?_eq_getElem (by omega)
 rw [hxi] at h1
 obtain ⟨b, e1, e2, _⟩ := DataW.trod_string Tryz.underlying9 h1
 rw [c9, Nat.mul_one] at e1
 have hk : b = fnm i := by
  have hy : (Rows.laid_octavo_value_faults : DataW Unit) = .agg ((List.range 9).map fun n => .lit (.string (fnm n).data.toList)) := by kernel_rfl
  have hz := hx1.1
  rw [hy] at hz
  have hz2 : ((List.range 9).map fun n => (DataW.lit (.string (fnm n).data.toList) : DataW Unit)) = xs.map (·.1) := by injection hz
  have hz3 := congrArg (fun l => l[i]?) hz2
  simp only [List.getElem?_map, hxi, Option.map_some, e2] at hz3
  rw [List.getElem?_range hi] at hz3
  simp at hz3
  exact (bytes_inj (congrArg Array.toList hz3)).symm
 have hc := World.var?_cell hg0 hv0 i
 rw [hc, ← hk]
 have : (cs0.toList.drop i)[0]? = some (.string b) := by
  have := congrArg (fun l => l[0]?) e1
  simpa using this
 simpa using this
theorem gOps : Tryz.prog.globalNamed "octavo/token.operators" = some 0 := by kernel_rfl
theorem tOps : (Tryz.prog.globals[0]?).map (·.type) = some 236 := by kernel_rfl
theorem otab_laid {W : World} (h0 : laidMetH Tryz.prog laidS W) : ∀ i, i < 17 → W.cell? ⟨0, i, none⟩ = some (.string (ba (opn i))) := by
 have h := laidMetH.filter (fun x => x.1 == "octavo/token.operators") h0
 have e : laidS.filter (fun x => x.1 == "octavo/token.operators") = [("octavo/token.operators", Rows.laid_octavo_token_operators)] := by kernel_rfl
 rw [e, MakeChecks.laidMetH_plain _ _ _ (by kernel_rfl)] at h
 obtain ⟨ps, ⟨g0, t0, cs0, f0, p0, q0, hg0, ht0, hv0, hd0, _, _⟩, _, _⟩ := h
 obtain rfl := Option.some.inj (gOps.symm.trans hg0)
 obtain rfl := Option.some.inj (tOps.symm.trans ht0)
 obtain ⟨xs, m1, rfl, hx1, hlen, hn3, hel⟩ := DataW.trod_array Tryz.underlying236 hd0
 have c9 : Tryz.prog.cellsOf 9 = 1 := by kernel_rfl
 simp only [Prod.mk.injEq] at hx1
 intro i hi
 have h1 := hel i hi
 have hxi : xs[i]? = some xs[i] := List.getElem?_eq_getElem (by omega)
 rw [hxi] at h1
 obtain ⟨b, e1, e2, _⟩ := DataW.trod_string Tryz.underlying9 h1
 rw [c9, Nat.mul_one] at e1
 have hk : b = ba (opn i) := by
  have hy : (Rows.laid_octavo_token_operators : DataW Unit) = .agg ((List.range 17).map fun n => .lit (.string (ba (opn n)).data.toList)) := by kernel_rfl
  have hz := hx1.1
  rw [hy] at hz
  have hz2 : ((List.range 17).map fun n => (DataW.lit (.string (ba (opn n)).data.toList) : DataW Unit)) = xs.map (·.1) := by injection hz
  have hz3 := congrArg (fun l => l[i]?) hz2
  simp only [List.getElem?_map, hxi, Option.map_some, e2] at hz3
  rw [List.getElem?_range hi] at hz3
  simp at hz3
  exact (bytes_inj (show (ba (opn i)).data.toList = b.data.toList from hz3)).symm
 have hc := World.var?_cell hg0 hv0 i
 rw [hc, ← hk]
 have : (cs0.toList.drop i)[0]? = some (.string b) := by
  have := congrArg (fun l => l[0]?) e1
  simpa using this
 simpa using this
theorem gES : Tryz.prog.globalNamed "strconv.ErrSyntax" = some 6 := by kernel_rfl
theorem gESType : (Tryz.prog.globals[6]?).map (·.type) = some 166 := by kernel_rfl
theorem gER : Tryz.prog.globalNamed "strconv.ErrRange" = some 7 := by kernel_rfl
theorem gERType : (Tryz.prog.globals[7]?).map (·.type) = some 166 := by kernel_rfl
theorem cellsES : Tryz.prog.cellsOf 305 = 1 := by kernel_rfl
theorem cells9 : Tryz.prog.cellsOf 9 = 1 := by kernel_rfl
theorem star : "*" ++ "errors.errorString" = "*errors.errorString" := by decide
theorem row116 (u : TypeId) (h : Tryz.prog.typeName? 3 u = some "*errors.errorString") : u = 303 :=
 typeName_ptr_named (nm := "errors.errorString") (by rw [star]; kernel_rfl) (by kernel_rfl) (by decide) u (by rw [star]; exact h)
theorem errs_laid {W : World} (h0 : laidMetH Tryz.prog laidS W) : Errs W := by
 have h1 := laidMetH.filter (fun x => x.1 == "strconv.ErrSyntax") h0
 have e1 : laidS.filter (fun x => x.1 == "strconv.ErrSyntax") = [("strconv.ErrSyntax", Rows.laid_strconv_ErrSyntax)] := by kernel_rfl
 rw [e1, MakeChecks.laidMetH_plain _ _ _ (by kernel_rfl)] at h1
 have h2 := laidMetH.filter (fun x => x.1 == "strconv.ErrRange") h0
 have e2 : laidS.filter (fun x => x.1 == "strconv.ErrRange") = [("strconv.ErrRange", Rows.laid_strconv_ErrRange)] := by kernel_rfl
 rw [e2, MakeChecks.laidMetH_plain _ _ _ (by kernel_rfl)] at h2
 obtain ⟨a1, _, v1, -, -, -⟩ := laid_sentinel h1 gES gESType Tryz.underlying166 row116 Tryz.underlying303 Tryz.underlying305 rfl rfl Tryz.underlying9 cellsES cells9
 obtain ⟨a2, _, v2, -, -, -⟩ := laid_sentinel h2 gER gERType Tryz.underlying166 row116 Tryz.underlying303 Tryz.underlying305 rfl rfl Tryz.underlying9 cellsES cells9
 exact ⟨_, _, _, _, by have h0 := World.var?_cell gES v1 0; simpa using h0, by have h0 := World.var?_cell gER v2 0; simpa using h0⟩
theorem max_shaped {W : World} (h : W.ShapedOpen Tryz.prog) : ∃ m, W.cell? ⟨2, 0, none⟩ = some (.int .i64 m) :=
 Go.Proofs.cell_of_shapedOpen_int (zero := #[.int .i64 0]) (t := 3) h (of_decide_eq_true (by kernel_rfl)) (by kernel_rfl) rfl (by kernel_rfl) (by kernel_rfl) Tryz.underlying3
theorem ops_list (i : Nat) (h : i < 17) : opn i = (([[60, 62], [60, 61], [62, 61], [43], [45], [42], [47], [94], [38], [61], [60], [62], [37], [40], [41], [44], [58]] : List (List UInt8))[i]'h) := by
 have : i = 0 ∨ i = 1 ∨ i = 2 ∨ i = 3 ∨ i = 4 ∨ i = 5 ∨ i = 6 ∨ i = 7 ∨ i = 8 ∨ i = 9 ∨ i = 10 ∨ i = 11 ∨ i = 12 ∨ i = 13 ∨ i = 14 ∨ i = 15 ∨ i = 16 := by omega
 rcases this with rfl | rfl | rfl | rfl | rfl | rfl | rfl | rfl | rfl | rfl | rfl | rfl | rfl | rfl | rfl | rfl | rfl <;> rfl
theorem of_laid {W : World} (h : laidMetH Tryz.prog laidS W) (hsh : W.ShapedOpen Tryz.prog) : Tab9 W := ⟨⟨⟨ptab_laid h, ftab_laid h⟩, errs_laid h⟩, fun i hi => by rw [← ops_list i hi]; exact otab_laid h i hi, max_shaped hsh⟩
theorem returns_and_shaped {H : Type} {enc : TypeId × Value → H} {a : Assume} {C : Checked} {os : Os} {f : FuncId} {fn : Func} {s : ChangeSpec} {conds : List PathCond} {apart fresh handsOn again : Bool} {X : World → Array Value → Prop}
  (hX : ∀ (w w' : World) (args : Array Value), w.heap = w'.heap → X w args → X w' args)
  (own : ownKnob C.prog.godebug = none) (started : os.Started) (noInit : C.prog.inits.idxOf? f = none) (hfn : C.prog.funcs[f]? = some fn)
  (witness : ∃ (w : World) (tape : Tape) (i : Input), w.os = os ∧ (w.forCall tape i).Shaped C.prog ∧ i.vars = [] ∧ Input.okWide C.prog (w.forCall tape i) .any w.heap.size f i ∧
   ((s.pre enc C.prog fn conds apart (w.forCall tape i).memory i.args ∧ X (w.forCall tape i).memory i.args) ∧ sizedMet enc C.prog fn (OpenSpec.ofChange s) apart (w.forCall tape i).memory i.args) ∧ a.holds C.prog (lone (Frame.enter C.prog f i.args .normal) [] (w.forCall tape i)))
  (contract : ∀ (W : World) (base : Nat) (args : Array Value) (ds gs : List (DataW H)) (before : List MemPlace),
   (∀ (j : Nat) t v, fn.params[j]? = some t → args[j]? = some v → Value.okWide C.prog W .any base t v) →
   DataW.Whole enc C.prog fn.params.toList s.vars apart W args.toList ds gs before →
   conds.all (PathCond.test C.prog ⟨fn.params.toList, ds, s.plain.varTypes C.prog, gs⟩) = true →
   (DataW.weightsEach C.prog (fn.params.toList ++ s.plain.varTypes C.prog) (ds ++ gs)).all (· ≤ reachBytes) = true → X W args → W.ShapedOpen C.prog →
   a.holds C.prog (lone (Frame.enter C.prog f args .normal) [] W) →
   Calls C.prog f args W fun e W' => ∃ v, e = .returned v ∧ s.post enc C.prog fn apart fresh handsOn again W args v W') :
  ReturnsInHanded a C os f .any (fun w args => (s.pre enc C.prog fn conds apart w args ∧ X w args) ∧ sizedMet enc C.prog fn (OpenSpec.ofChange s) apart w args) (s.post enc C.prog fn apart fresh handsOn again) := by
 refine returnsInHanded_of_calls own started noInit witness ?_
 intro w tape i _ hsh _ hok hpre hholds
 obtain ⟨_, _, _, fn', hfn', _, _, _, _, hval⟩ := hok
 have e : fn' = fn := Option.some.inj (hfn'.symm.trans hfn)
 subst e
 obtain ⟨⟨⟨ds, gs, before, hw, hc⟩, hx⟩, hz⟩ := hpre
 have hw' := DataW.Whole.of_heap (w' := w.forCall tape i) (by rfl) hw
 refine (contract (w.forCall tape i) w.heap.size i.args ds gs before hval hw' hc (hz.weights hw) (hX _ _ _ (by rfl) hx) hsh hholds).mono fun e W' ⟨v, he, hp⟩ => ?_
 subst he
 exact ChangeSpec.post_blind hp
end Go.Proofs.YtnibldnfbikipaaGreatDoor
