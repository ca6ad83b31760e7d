/- TLaid, HPure, RwAt, RwRf. -/
import Derived.Handed
import Derived.HandedShaped
import Derived.LaidMore
import Derived.LaidSub
import Derived.Lay
import Derived.Lib.SmallJoins
import Derived.OpenShut
import Derived.ProofKit
import Derived.Stop.Joined
import Derived.Stop.LaidErr
import Derived.Test.YtljmklbbngpllaaGreatDoorRows
import Derived.WideShapes
import Derived.Test.YtljmklbbngpllaaGreatDoorTOpPl
set_option linter.unusedVariables false
set_option linter.unusedSimpArgs false
set_option maxHeartbeats 16000000
set_option maxRecDepth 100000
namespace Go.Proofs.YtljmklbbngpllaaGreatDoor
open Go.ChangeShapes Go.WideShapes Go.ChangeAt Go.WideElems Go.RowKit
abbrev laidS : List (String × DataW Unit) := [("math/bits.deBruijn32tab", Rows.laid_math_bits_deBruijn32tab), ("math/bits.deBruijn64tab", Rows.laid_math_bits_deBruijn64tab), ("internal/strconv.uint64pow10", Rows.laid_internal_strconv_uint64pow10), ("unicode/utf8.acceptRanges", Rows.laid_unicode_utf8_acceptRanges), ("strconv.ErrRange", Rows.laid_strconv_ErrRange), ("strconv.ErrSyntax", Rows.laid_strconv_ErrSyntax), ("octavo/value.faults", Rows.laid_octavo_value_faults), ("octavo/token.operators", Rows.laid_octavo_token_operators), ("unicode/utf8.first", Rows.laid_unicode_utf8_first)]
theorem own : ownKnob Tryz.prog.godebug = none := by kernel_rfl
theorem all_met (os : Os) (args : Array Value) : laidMetH Tryz.prog laidS ((World.laidAll Tryz.prog os laidS).forCall (fun _ _ => 0) ⟨#[], args, []⟩).memory := by
 rw [MakeChecks.laidMetH_plain _ _ _ (by kernel_rfl)]
 exact laidMet_laidAll _ (by kernel_rfl) (by kernel_rfl)
theorem pow_data : (Rows.laid_internal_strconv_uint64pow10 : DataW Unit) = Lib.tabData .u64 Lib.pow10Tab := by kernel_rfl
theorem ptab_laid {W : World} (h : laidMetH Tryz.prog laidS W) : PTab W := by
 have h1 := laidMetH.filter (fun x => x.1 == "internal/strconv.uint64pow10") h
 have e : laidS.filter (fun x => x.1 == "internal/strconv.uint64pow10") = [("internal/strconv.uint64pow10", Lib.tabData .u64 Lib.pow10Tab)] := by
  rw [← pow_data]
  kernel_rfl
 rw [e, MakeChecks.laidMetH_plain _ _ _ (by kernel_rfl)] at h1
 exact Lib.tabIs_of_head (g := 5) (t := 253) (e := 195) (n := 20) (by kernel_rfl) (by kernel_rfl) Tryz.underlying253 Tryz.underlying195 (by kernel_rfl) (by kernel_rfl) h1
theorem gFaults : Tryz.prog.globalNamed "octavo/value.faults" = some 1 := by kernel_rfl
theorem tFaults : (Tryz.prog.globals[1]?).map (·.type) = some 172 := by kernel_rfl
theorem ftab_laid {W : World} (h0 : laidMetH Tryz.prog laidS W) : FTab W := by
 have h := laidMetH.filter (fun x => x.1 == "octavo/value.faults") h0
 have e : laidS.filter (fun x => x.1 == "octavo/value.faults") = [("octavo/value.faults", Rows.laid_octavo_value_faults)] := by kernel_rfl
 rw [e, MakeChecks.laidMetH_plain _ _ _ (by kernel_rfl)] at h
 obtain ⟨ps, ⟨g0, t0, cs0, f0, p0, q0, hg0, ht0, hv0, hd0, _, _⟩, _, _⟩ := h
 obtain rfl := Option.some.inj (gFaults.symm.trans hg0)
 obtain rfl := Option.some.inj (tFaults.symm.trans ht0)
 obtain ⟨xs, m1, rfl, hx1, hlen, hn3, hel⟩ := DataW.trod_array Tryz.underlying172 hd0
 have c9 : Tryz.prog.cellsOf 9 = 1 := by kernel_rfl
 simp only [Prod.mk.injEq] at hx1
 intro i hi
 have h1 := hel i hi
 have hxi : xs[i]? = some xs[i] := List.getElem?_eq_getElem (by omega)
 rw [hxi] at h1
 obtain ⟨b, e1, e2, _⟩ := DataW.trod_string Tryz.underlying9 h1
 rw [c9, Nat.mul_one] at e1
 have hk : b = fnm i := by
  have hy : (Rows.laid_octavo_value_faults : DataW Unit) = .agg ((List.range 9).map fun n => .lit (.string (fnm n).data.toList)) := by kernel_rfl
  have hz := hx1.1
  rw [hy] at hz
  have hz2 : ((List.range 9).map fun n => (DataW.lit (.string (fnm n).data.toList) : DataW Unit)) = xs.map (·.1) := by injection hz
  have hz3 := congrArg (fun l => l[i]?) hz2
  simp only [List.getElem?_map, hxi, Option.map_some, e2] at hz3
  rw [List.getElem?_range hi] at hz3
  simp at hz3
  exact (bytes_inj (congrArg Array.toList hz3)).symm
 have hc := World.var?_cell hg0 hv0 i
 rw [hc, ← hk]
 have : (cs0.toList.drop i)[0]? = some (.string b) := by
  have := congrArg (fun l => l[0]?) e1
  simpa using this
 simpa using this
theorem gOps : Tryz.prog.globalNamed "octavo/token.operators" = some 0 := by kernel_rfl
theorem tOps : (Tryz.prog.globals[0]?).map (·.type) = some 180 := by kernel_rfl
theorem otab_laid {W : World} (h0 : laidMetH Tryz.prog laidS W) : ∀ i, i < 17 → W.cell? ⟨0, i, none⟩ = some (.string (ba (opn i))) := by
 have h := laidMetH.filter (fun x => x.1 == "octavo/token.operators") h0
 have e : laidS.filter (fun x => x.1 == "octavo/token.operators") = [("octavo/token.operators", Rows.laid_octavo_token_operators)] := by kernel_rfl
 rw [e, MakeChecks.laidMetH_plain _ _ _ (by kernel_rfl)] at h
 obtain ⟨ps, ⟨g0, t0, cs0, f0, p0, q0, hg0, ht0, hv0, hd0, _, _⟩, _, _⟩ := h
 obtain rfl := Option.some.inj (gOps.symm.trans hg0)
 obtain rfl := Option.some.inj (tOps.symm.trans ht0)
 obtain ⟨xs, m1, rfl, hx1, hlen, hn3, hel⟩ := DataW.trod_array Tryz.underlying180 hd0
 have c9 : Tryz.prog.cellsOf 9 = 1 := by kernel_rfl
 simp only [Prod.mk.injEq] at hx1
 intro i hi
 have h1 := hel i hi
 have hxi : xs[i]? = some xs[i] := List.getElem?_eq_getElem (by omega)
 rw [hxi] at h1
 obtain ⟨b, e1, e2, _⟩ := DataW.trod_string Tryz.underlying9 h1
 rw [c9, Nat.mul_one] at e1
 have hk : b = ba (opn i) := by
  have hy : (Rows.laid_octavo_token_operators : DataW Unit) = .agg ((List.range 17).map fun n => .lit (.string (ba (opn n)).data.toList)) := by kernel_rfl
  have hz := hx1.1
  rw [hy] at hz
  have hz2 : ((List.range 17).map fun n => (DataW.lit (.string (ba (opn n)).data.toList) : DataW Unit)) = xs.map (·.1) := by injection hz
  have hz3 := congrArg (fun l => l[i]?) hz2
  simp only [List.getElem?_map, hxi, Option.map_some, e2] at hz3
  rw [List.getElem?_range hi] at hz3
  simp at hz3
  exact (bytes_inj (show (ba (opn i)).data.toList = b.data.toList from hz3)).symm
 have hc := World.var?_cell hg0 hv0 i
 rw [hc, ← hk]
 have : (cs0.toList.drop i)[0]? = some (.string b) := by
  have := congrArg (fun l => l[0]?) e1
  simpa using this
 simpa using this
theorem gES : Tryz.prog.globalNamed "strconv.ErrSyntax" = some 6 := by kernel_rfl
theorem gESType : (Tryz.prog.globals[6]?).map (·.type) = some 139 := by kernel_rfl
theorem gER : Tryz.prog.globalNamed "strconv.ErrRange" = some 7 := by kernel_rfl
theorem gERType : (Tryz.prog.globals[7]?).map (·.type) = some 139 := by kernel_rfl
theorem cellsES : Tryz.prog.cellsOf 268 = 1 := by kernel_rfl
theorem cells9 : Tryz.prog.cellsOf 9 = 1 := by kernel_rfl
theorem star : "*" ++ "errors.errorString" = "*errors.errorString" := by decide
theorem row116 (u : TypeId) (h : Tryz.prog.typeName? 3 u = some "*errors.errorString") : u = 266 :=
 typeName_ptr_named (nm := "errors.errorString") (by rw [star]; kernel_rfl) (by kernel_rfl) (by decide) u (by rw [star]; exact h)
theorem errs_laid {W : World} (h0 : laidMetH Tryz.prog laidS W) : Errs W := by
 have h1 := laidMetH.filter (fun x => x.1 == "strconv.ErrSyntax") h0
 have e1 : laidS.filter (fun x => x.1 == "strconv.ErrSyntax") = [("strconv.ErrSyntax", Rows.laid_strconv_ErrSyntax)] := by kernel_rfl
 rw [e1, MakeChecks.laidMetH_plain _ _ _ (by kernel_rfl)] at h1
 have h2 := laidMetH.filter (fun x => x.1 == "strconv.ErrRange") h0
 have e2 : laidS.filter (fun x => x.1 == "strconv.ErrRange") = [("strconv.ErrRange", Rows.laid_strconv_ErrRange)] := by kernel_rfl
 rw [e2, MakeChecks.laidMetH_plain _ _ _ (by kernel_rfl)] at h2
 obtain ⟨a1, _, v1, -, -, -⟩ := laid_sentinel h1 gES gESType Tryz.underlying139 row116 Tryz.underlying266 Tryz.underlying268 rfl rfl Tryz.underlying9 cellsES cells9
 obtain ⟨a2, _, v2, -, -, -⟩ := laid_sentinel h2 gER gERType Tryz.underlying139 row116 Tryz.underlying266 Tryz.underlying268 rfl rfl Tryz.underlying9 cellsES cells9
 exact ⟨_, _, _, _, by have h0 := World.var?_cell gES v1 0; simpa using h0, by have h0 := World.var?_cell gER v2 0; simpa using h0⟩
theorem max_shaped {W : World} (h : W.ShapedOpen Tryz.prog) : ∃ m, W.cell? ⟨2, 0, none⟩ = some (.int .i64 m) :=
 Go.Proofs.cell_of_shapedOpen_int (zero := #[.int .i64 0]) (t := 3) h (of_decide_eq_true (by kernel_rfl)) (by kernel_rfl) rfl (by kernel_rfl) (by kernel_rfl) Tryz.underlying3
theorem ops_list (i : Nat) (h : i < 17) : opn i = (([[60, 62], [60, 61], [62, 61], [43], [45], [42], [47], [94], [38], [61], [60], [62], [37], [40], [41], [44], [58]] : List (List UInt8))[i]'h) := by
 have : i = 0 ∨ i = 1 ∨ i = 2 ∨ i = 3 ∨ i = 4 ∨ i = 5 ∨ i = 6 ∨ i = 7 ∨ i = 8 ∨ i = 9 ∨ i = 10 ∨ i = 11 ∨ i = 12 ∨ i = 13 ∨ i = 14 ∨ i = 15 ∨ i = 16 := by omega
 rcases this with rfl | rfl | rfl | rfl | rfl | rfl | rfl | rfl | rfl | rfl | rfl | rfl | rfl | rfl | rfl | rfl | rfl <;> rfl
theorem of_laid {W : World} (h : laidMetH Tryz.prog laidS W) (hsh : W.ShapedOpen Tryz.prog) : Tab9 W := ⟨⟨⟨ptab_laid h, ftab_laid h⟩, errs_laid h⟩, fun i hi => by rw [← ops_list i hi]; exact otab_laid h i hi, max_shaped hsh⟩
theorem returns_and_shaped {H : Type} {enc : TypeId × Value → H} {a : Assume} {C : Checked} {os : Os} {f : FuncId} {fn : Func} {s : ChangeSpec} {conds : List PathCond} {apart fresh handsOn again : Bool} {X : World → Array Value → Prop}
  (hX : ∀ (w w' : World) (args : Array Value), w.heap = w'.heap → X w args → X w' args)
  (own : ownKnob C.prog.godebug = none) (started : os.Started) (noInit : C.prog.inits.idxOf? f = none) (hfn : C.prog.funcs[f]? = some fn)
  (witness : ∃ (w : World) (tape : Tape) (i : Input), w.os = os ∧ (w.forCall tape i).Shaped C.prog ∧ i.vars = [] ∧ Input.okWide C.prog (w.forCall tape i) .any w.heap.size f i ∧
   ((s.pre enc C.prog fn conds apart (w.forCall tape i).memory i.args ∧ X (w.forCall tape i).memory i.args) ∧ sizedMet enc C.prog fn (OpenSpec.ofChange s) apart (w.forCall tape i).memory i.args) ∧ a.holds C.prog (lone (Frame.enter C.prog f i.args .normal) [] (w.forCall tape i)))
  (contract : ∀ (W : World) (base : Nat) (args : Array Value) (ds gs : List (DataW H)) (before : List MemPlace),
   (∀ (j : Nat) t v, fn.params[j]? = some t → args[j]? = some v → Value.okWide C.prog W .any base t v) →
   DataW.Whole enc C.prog fn.params.toList s.vars apart W args.toList ds gs before →
   conds.all (PathCond.test C.prog ⟨fn.params.toList, ds, s.plain.varTypes C.prog, gs⟩) = true →
   (DataW.weightsEach C.prog (fn.params.toList ++ s.plain.varTypes C.prog) (ds ++ gs)).all (· ≤ reachBytes) = true → X W args → W.ShapedOpen C.prog →
   a.holds C.prog (lone (Frame.enter C.prog f args .normal) [] W) →
   Calls C.prog f args W fun e W' => ∃ v, e = .returned v ∧ s.post enc C.prog fn apart fresh handsOn again W args v W') :
  ReturnsInHanded a C os f .any (fun w args => (s.pre enc C.prog fn conds apart w args ∧ X w args) ∧ sizedMet enc C.prog fn (OpenSpec.ofChange s) apart w args) (s.post enc C.prog fn apart fresh handsOn again) := by
 refine returnsInHanded_of_calls own started noInit witness ?_
 intro w tape i _ hsh _ hok hpre hholds
 obtain ⟨_, _, _, fn', hfn', _, _, _, _, hval⟩ := hok
 have e : fn' = fn := Option.some.inj (hfn'.symm.trans hfn)
 subst e
 obtain ⟨⟨⟨ds, gs, before, hw, hc⟩, hx⟩, hz⟩ := hpre
 have hw' := DataW.Whole.of_heap (w' := w.forCall tape i) (by rfl) hw
 refine (contract (w.forCall tape i) w.heap.size i.args ds gs before hval hw' hc (hz.weights hw) (hX _ _ _ (by rfl) hx) hsh hholds).mono fun e W' ⟨v, he, hp⟩ => ?_
 subst he
 exact ChangeSpec.post_blind hp
end Go.Proofs.YtljmklbbngpllaaGreatDoor
namespace Go.Proofs.YtljmklbbngpllaaGreatDoor.Hs
open Go.RowKit
def goodB (a n m : Int) : Bool := decide (1 ≤ m) && decide (m ≤ 1000) && decide (1 ≤ a) && decide (a ≤ m) && decide (n ≠ 0) && decide (-(m - a + 1) ≤ n) && decide (n ≤ m - a + 1)
theorem goodB_iff {a n m : Int} : goodB a n m = true ↔ (1 ≤ m ∧ m ≤ 1000 ∧ 1 ≤ a ∧ a ≤ m ∧ n ≠ 0 ∧ -(m - a + 1) ≤ n ∧ n ≤ m - a + 1) := by
 unfold goodB; simp; omega
def nxF (a n : Int) : Int := if n < 0 then a - n else a
def mvF (a n p : Int) : Int := if p < a then p else if p < nxF a n then a else p + n
def mvB (a n p : Int) : Bool := decide (p < a) || !decide (p < nxF a n)
def posB (a n m p : Int) : Bool := goodB a n m && (decide (1 ≤ p) && decide (p ≤ m)) && mvB a n p && decide (mvF a n p ≤ m)
def posF (a n m p : Int) : Int := if posB a n m p = true then mvF a n p else 0
def loF (a n lo : Int) : Int := mvF a n lo
def hiF (a n m hi : Int) : Int := min (if mvB a n hi = true then mvF a n hi else mvF a n hi - 1) m
def spB (a n m lo hi : Int) : Bool := goodB a n m && (decide (1 ≤ lo) && decide (lo ≤ m)) && (decide (1 ≤ hi) && decide (hi ≤ m)) && decide (lo ≤ hi) && decide (loF a n lo ≤ hiF a n m hi)
def spL (a n m lo hi : Int) : Int := if spB a n m lo hi = true then loF a n lo else 0
def spH (a n m lo hi : Int) : Int := if spB a n m lo hi = true then hiF a n m hi else 0
abbrev shV (a n m : Int) : Value := .agg #[.int .i64 a, .int .i64 n, .int .i64 m]
abbrev shO (a n m : Int) (t : TypeId) : Obj := .cells #[.int .i64 a, .int .i64 n, .int .i64 m] t
theorem ret_bool {a b : Bool} (h : a = b) : (Ending.returned (.bool a)) = .returned (.bool b) := by rw [h]
theorem bel1 {w w1 : World} {o : Obj} (hb : Below (w.alloc o).heap.size (w.alloc o) w1) : Below w.heap.size w w1 :=
 ((Below.refl _ _).alloc (Nat.le_refl _) o).trans (hb.mono (by simp))
theorem bel_step {w w1 w2 : World} (h : Below w.heap.size w w1) (hb : Below w1.heap.size w1 w2) : Below w.heap.size w w2 := h.trans (hb.mono h.size)
theorem bel_alloc {w w1 : World} (h : Below w.heap.size w w1) (o : Obj) : Below w.heap.size w (w1.alloc o) := h.alloc h.size _
theorem new1 {w x : World} {o : Obj} (h : Below (w.alloc o).heap.size (w.alloc o) x) : x.heap[w.heap.size]? = some o := by
 rw [h.block _ (by simp)]
 exact heap_alloc_new w o
theorem s_cells {u : World} {g : Nat} {a b c : Value} {t : TypeId} (h : u.heap[g]? = some (.cells #[a, b, c] t (0, 0))) : u.cell? ⟨g, 0, none⟩ = some a ∧ u.cell? ⟨g, 1, none⟩ = some b ∧ u.cell? ⟨g, 2, none⟩ = some c := by
 simp [World.cell?, h]
def RC (W : World) (f : Nat) (args : Array Value) (r : Value) : Prop := ∀ u, Below W.heap.size W u → Calls Tryz.prog f args u fun e w' => e = .returned r ∧ Below W.heap.size W w'
theorem RC.of {W : World} {f : Nat} {args : Array Value} {r : Value} (h : ∀ u, Calls Tryz.prog f args u fun e w' => e = .returned r ∧ Below u.heap.size u w') : RC W f args r := fun u hu =>
 (h u).mono fun _ _ ⟨h1, h2⟩ => ⟨h1, bel_step hu h2⟩
theorem has_any (a n m p : Int) (w : World) : Calls Tryz.prog 39 #[shV a n m, .int .i64 p] w fun e w' => e = .returned (.bool (decide (1 ≤ p) && decide (p ≤ m))) ∧ Below w.heap.size w w' := by
 have HB : Hid (Below w.heap.size w (w.alloc (shO a n m 32))) := bel_alloc (Below.refl _ _) _
 go_enter Tryz.func39, Tryz.ntmps39
 go_wp2
 all_goals (go_ret; refine ⟨ret_bool ?_, HB.out⟩; rw [Bool.eq_iff_iff]; simp; omega)
theorem good_any (a n m : Int) (w : World) : Calls Tryz.prog 19 #[shV a n m] w fun e w' => e = .returned (.bool (goodB a n m)) ∧ Below w.heap.size w w' := by
 have HB0 : Hid (Below (w.alloc (shO a n m 32)).heap.size (w.alloc (shO a n m 32)) (w.alloc (shO a n m 32))) := Below.refl _ _
 have HB1 : Hid (Below w.heap.size w (w.alloc (shO a n m 32))) := bel_alloc (Below.refl _ _) _
 have HH : RC (w.alloc (shO a n m 32)) 39 #[shV a n m, .int .i64 a] _ := RC.of fun u => has_any a n m a u
 generalize hR : goodB a n m = R
 have HR : Hid (goodB a n m = R) := hR
 clear hR
 by_cases h1 : m < 1
 ·go_enter Tryz.func19, Tryz.ntmps19
  go_wp2
  all_goals (go_ret; refine ⟨ret_bool ?_, by first | exact HB1.out | exact bel1 HB2.out⟩; rw [← HR.out]; rw [Bool.eq_iff_iff, goodB_iff]; simp; try omega)
 by_cases h2 : 1000 < m
 ·go_enter Tryz.func19, Tryz.ntmps19
  go_wp2
  all_goals (go_ret; refine ⟨ret_bool ?_, by first | exact HB1.out | exact bel1 HB2.out⟩; rw [← HR.out]; rw [Bool.eq_iff_iff, goodB_iff]; simp; try omega)
 rcases Bool.eq_false_or_eq_true (decide (1 ≤ a) && decide (a ≤ m)) with hx | hx
 ·rw [hx] at HH
  have hy : 1 ≤ a ∧ a ≤ m := by simpa using hx
  have hy1 := hy.1
  have hy2 := hy.2
  clear hy hx
  go_enter Tryz.func19, Tryz.ntmps19
  go_wp2_with (go_at_call 39; refine (HH _ HB0.out).mono ?_; rintro e w1 ⟨rfl, hb⟩; have HB2 : Hid (Below (w.alloc (shO a n m 32)).heap.size (w.alloc (shO a n m 32)) w1) := hb; clear hb; obtain ⟨c0, c1, c2⟩ := s_cells (new1 HB2.out))
  all_goals (go_ret; refine ⟨ret_bool ?_, by first | exact HB1.out | exact bel1 HB2.out⟩; rw [← HR.out]; rw [Bool.eq_iff_iff, goodB_iff]; simp; try omega)
 ·rw [hx] at HH
  have hy : Hid (¬ (1 ≤ a ∧ a ≤ m)) := by unfold Hid; simpa using hx
  clear hx
  go_enter Tryz.func19, Tryz.ntmps19
  go_wp2_with (go_at_call 39; refine (HH _ HB0.out).mono ?_; rintro e w1 ⟨rfl, hb⟩; have HB2 : Hid (Below (w.alloc (shO a n m 32)).heap.size (w.alloc (shO a n m 32)) w1) := hb; clear hb; obtain ⟨c0, c1, c2⟩ := s_cells (new1 HB2.out))
  all_goals (have hy2 := hy.out; go_ret; refine ⟨ret_bool ?_, by first | exact HB1.out | exact bel1 HB2.out⟩; rw [← HR.out]; rw [Bool.eq_iff_iff, goodB_iff]; simp; try omega)
end Go.Proofs.YtljmklbbngpllaaGreatDoor.Hs
namespace Go.Proofs.YtljmklbbngpllaaGreatDoor
open Go.RowKit
abbrev plcO (b s : ByteArray) (r c : Int) : Obj := .cells #[.string b, .string s, .int .i64 r, .int .i64 c] 30
def orS (a b : ByteArray) : ByteArray := if a.toList = [] then b else a
theorem orS_cases (a b : ByteArray) : ((a.toList == []) = false ∧ orS a b = a) ∨ (a.toList = [] ∧ (b.toList == []) = false ∧ orS a b = b) ∨ (a.toList = [] ∧ b.toList = [] ∧ orS a b = b ∧ b = ⟨#[]⟩) := by
 unfold orS
 by_cases h : a.toList = []
 ·by_cases g : b.toList = []
  ·right; right
   refine ⟨h, g, by rw [if_pos h], ?_⟩
   apply Go.WideShapes.bytes_inj
   rw [← ByteArray.toList_eq, g]
  ·right; left
   exact ⟨h, by simpa using g, by rw [if_pos h]⟩
 ·left
  exact ⟨by simpa using h, by rw [if_neg h]⟩
theorem orS_any {w : World} {g : Nat} {a b : ByteArray} (h0 : w.cell? ⟨g, 0, none⟩ = some (.string a)) (h1 : w.cell? ⟨g, 1, none⟩ = some (.string b)) :
  Calls Tryz.prog 111 #[.slice (some ⟨g, 0, none⟩) 2 2] w fun e w' => e = .returned (.string (orS a b)) ∧ w' = w := by
 rcases orS_cases a b with ⟨t1, e⟩ | ⟨t1, t2, e⟩ | ⟨t1, t2, e, e2⟩
 all_goals
  rw [e]
  clear e
  try rw [e2]
  go_enter Tryz.func111, Tryz.ntmps111
  go_wp2
  refine wp_loop_rounds 6 ?_
  rw [rounds_succ]
  go_wp2
  try (rw [rounds_succ]; go_wp2)
  try (rw [rounds_succ]; go_wp2)
  go_ret
  exact ⟨rfl, rfl⟩
abbrev strO (x y : ByteArray) : Obj := .cells #[.string x, .string y] 9
theorem orS_in {u : World} {g : Nat} {x y : ByteArray} (h : u.heap[g]? = some (strO x y)) : Calls Tryz.prog 111 #[.slice (some ⟨g, 0, none⟩) 2 2] u fun e w' => e = .returned (.string (orS x y)) ∧ w' = u := by
 have c := fun j => cell_of_row _ g j _ 9 _ h
 exact orS_any ((c 0).trans rfl) ((c 1).trans rfl)
theorem at_any (b1 s1 : ByteArray) (r1 c1 : Int) (fr fc : Bool) (b2 s2 : ByteArray) (r2 c2 : Int) (w : World) :
  Calls Tryz.prog 70 #[refV b1 s1 r1 c1 fr fc, plcV b2 s2 r2 c2] w fun e w' => e = .returned (plcV (orS b1 b2) (orS s1 s2) r1 c1) ∧ Below w.heap.size w w' := by
 have HC : Hid (∀ u : World, Below ((w.alloc (refO b1 s1 r1 c1 fr fc)).alloc (plcO b2 s2 r2 c2)).heap.size ((w.alloc (refO b1 s1 r1 c1 fr fc)).alloc (plcO b2 s2 r2 c2)) u → (u.cell? ⟨w.heap.size, 0, none⟩ = some (.string b1) ∧ u.cell? ⟨w.heap.size, 1, none⟩ = some (.string s1) ∧ u.cell? ⟨w.heap.size, 2, none⟩ = some (.int .i64 r1) ∧ u.cell? ⟨w.heap.size, 3, none⟩ = some (.int .i64 c1)) ∧ (u.cell? ⟨w.heap.size + 1, 0, none⟩ = some (.string b2) ∧ u.cell? ⟨w.heap.size + 1, 1, none⟩ = some (.string s2))) :=
  fun u hu => ⟨⟨(r_cells (new2 hu).1).1, (r_cells (new2 hu).1).2.1, (r_cells (new2 hu).1).2.2.1, (r_cells (new2 hu).1).2.2.2.1⟩, (p_cells (new2 hu).2).1, (p_cells (new2 hu).2).2.1⟩
 have HR : Hid (Below ((w.alloc (refO b1 s1 r1 c1 fr fc)).alloc (plcO b2 s2 r2 c2)).heap.size ((w.alloc (refO b1 s1 r1 c1 fr fc)).alloc (plcO b2 s2 r2 c2)) ((w.alloc (refO b1 s1 r1 c1 fr fc)).alloc (plcO b2 s2 r2 c2))) := Below.refl _ _
 have e3 : (((w.alloc (refO b1 s1 r1 c1 fr fc)).alloc (plcO b2 s2 r2 c2)).alloc (plcO ⟨#[]⟩ ⟨#[]⟩ 0 0)).heap.size = w.heap.size + 3 := by simp
 have F1 : ((((w.alloc (refO b1 s1 r1 c1 fr fc)).alloc (plcO b2 s2 r2 c2)).alloc (plcO ⟨#[]⟩ ⟨#[]⟩ 0 0)).alloc (strO b1 b2)).drew.heap[w.heap.size + 3]? = some (strO b1 b2) := e3 ▸ heap_alloc_new _ _
 have F2 : (((((w.alloc (refO b1 s1 r1 c1 fr fc)).alloc (plcO b2 s2 r2 c2)).alloc (plcO ⟨#[]⟩ ⟨#[]⟩ 0 0)).alloc (strO b1 b2)).alloc (strO s1 s2)).drew.heap[w.heap.size + 3]? = some (strO b1 b2) := e3 ▸ (new2 (Below.refl _ _)).1
 have F3 : (((((w.alloc (refO b1 s1 r1 c1 fr fc)).alloc (plcO b2 s2 r2 c2)).alloc (plcO ⟨#[]⟩ ⟨#[]⟩ 0 0)).alloc (strO s1 s2)).alloc (strO b1 b2)).drew.heap[w.heap.size + 4]? = some (strO b1 b2) := by
  have := (new2 (w := (((w.alloc (refO b1 s1 r1 c1 fr fc)).alloc (plcO b2 s2 r2 c2)).alloc (plcO ⟨#[]⟩ ⟨#[]⟩ 0 0))) (a := (strO s1 s2)) (b := (strO b1 b2)) (Below.refl _ _)).2
  rw [e3] at this
  exact this
 have F4 : (((((w.alloc (refO b1 s1 r1 c1 fr fc)).alloc (plcO b2 s2 r2 c2)).alloc (plcO ⟨#[]⟩ ⟨#[]⟩ 0 0)).alloc (strO b1 b2)).alloc (strO s1 s2)).drew.heap[w.heap.size + 4]? = some (strO s1 s2) := by
  have := (new2 (w := (((w.alloc (refO b1 s1 r1 c1 fr fc)).alloc (plcO b2 s2 r2 c2)).alloc (plcO ⟨#[]⟩ ⟨#[]⟩ 0 0))) (a := (strO b1 b2)) (b := (strO s1 s2)) (Below.refl _ _)).2
  rw [e3] at this
  exact this
 have F5 : (((((w.alloc (refO b1 s1 r1 c1 fr fc)).alloc (plcO b2 s2 r2 c2)).alloc (plcO ⟨#[]⟩ ⟨#[]⟩ 0 0)).alloc (strO s1 s2)).alloc (strO b1 b2)).drew.heap[w.heap.size + 3]? = some (strO s1 s2) := e3 ▸ (new2 (Below.refl _ _)).1
 clear e3
 have Z1 : (((((w.alloc (refO b1 s1 r1 c1 fr fc)).alloc (plcO b2 s2 r2 c2)).alloc (plcO ⟨#[]⟩ ⟨#[]⟩ 0 0)).alloc (strO b1 b2)).alloc (strO s1 s2)).drew.heap[w.heap.size + 2]? = some (plcO ⟨#[]⟩ ⟨#[]⟩ 0 0) := (new3 (bel_alloc (bel_alloc (Below.refl _ _) _) _)).2.2
 have Z2 : (((((w.alloc (refO b1 s1 r1 c1 fr fc)).alloc (plcO b2 s2 r2 c2)).alloc (plcO ⟨#[]⟩ ⟨#[]⟩ 0 0)).alloc (strO s1 s2)).alloc (strO b1 b2)).drew.heap[w.heap.size + 2]? = some (plcO ⟨#[]⟩ ⟨#[]⟩ 0 0) := (new3 (bel_alloc (bel_alloc (Below.refl _ _) _) _)).2.2
 obtain ⟨k0, k1, k2, k3⟩ := p_cells Z1
 obtain ⟨k4, k5, k6, k7⟩ := p_free Z1
 obtain ⟨l0, l1, l2, l3⟩ := p_cells Z2
 obtain ⟨l4, l5, l6, l7⟩ := p_free Z2
 clear Z1 Z2
 obtain ⟨g3, q3⟩ : ∃ g, w.heap.size + 3 = g := ⟨_, rfl⟩
 obtain ⟨g4, q4⟩ : ∃ g, w.heap.size + 4 = g := ⟨_, rfl⟩
 have q5 : g3 + 1 = g4 := by omega
 have n1 : ¬ w.heap.size + 2 = g3 := by omega
 have n2 : ¬ w.heap.size + 2 = g4 := by omega
 have n3 : ¬ g3 = w.heap.size + 2 := by omega
 have n4 : ¬ g4 = w.heap.size + 2 := by omega
 have n5 : w.heap.size + 2 < g3 := by omega
 have n6 : w.heap.size + 2 < g4 := by omega
 rw [q3] at F1 F2 F5
 rw [q4] at F3 F4
 have A1 := fun u h => orS_in (u := u) (g := g3) (x := b1) (y := b2) h
 have A2 := fun u h => orS_in (u := u) (g := g4) (x := b1) (y := b2) h
 have B1 := fun u h => orS_in (u := u) (g := g3) (x := s1) (y := s2) h
 have B2 := fun u h => orS_in (u := u) (g := g4) (x := s1) (y := s2) h
 generalize orS b1 b2 = x1 at *
 generalize orS s1 s2 = x2 at *
 go_enter Tryz.func70, Tryz.ntmps70
 go_wp2
 go_region_held_law (fun u => (u.cell? ⟨w.heap.size, 0, none⟩ = some (.string b1) ∧ u.cell? ⟨w.heap.size, 1, none⟩ = some (.string s1) ∧ u.cell? ⟨w.heap.size, 2, none⟩ = some (.int .i64 r1) ∧ u.cell? ⟨w.heap.size, 3, none⟩ = some (.int .i64 c1)) ∧ (u.cell? ⟨w.heap.size + 1, 0, none⟩ = some (.string b2) ∧ u.cell? ⟨w.heap.size + 1, 1, none⟩ = some (.string s2)))
  ((refine HC.out _ ?_; repeat (first | exact HR.out | refine Below.drew ?_ | refine Below.setCell ?_ (by simp) _ | refine bel_alloc ?_ _))) (first
  | (go_at_call_of 111 g3; refine (A1 _ ?hh).mono ?_; (case hh => with_reducible assumption); rintro e w' ⟨rfl, hw⟩; obtain rfl := hw.symm; clear hw)
  | (go_at_call_of 111 g4; refine (A2 _ ?hh).mono ?_; (case hh => with_reducible assumption); rintro e w' ⟨rfl, hw⟩; obtain rfl := hw.symm; clear hw)
  | (go_at_call_of 111 g3; refine (B1 _ ?hh).mono ?_; (case hh => with_reducible assumption); rintro e w' ⟨rfl, hw⟩; obtain rfl := hw.symm; clear hw)
  | (go_at_call_of 111 g4; refine (B2 _ ?hh).mono ?_; (case hh => with_reducible assumption); rintro e w' ⟨rfl, hw⟩; obtain rfl := hw.symm; clear hw))
 all_goals
  go_wp2
  refine bodyPost_ret (v := plcV x1 x2 r1 c1) (by simp [results, Tryz.results70, go_sem, *]) rfl ?_
  refine ⟨rfl, ?_⟩
  repeat (first | exact Below.refl _ _ | refine Below.drew ?_ | refine bel_alloc ?_ _ | refine Below.setCell ?_ (by simp) _)
end Go.Proofs.YtljmklbbngpllaaGreatDoor
namespace Go.Proofs.YtljmklbbngpllaaGreatDoor.Rw
open Go.RowKit
structure Chg where
 bk : ByteArray
 sh : ByteArray
 dr : Bool
 co : Bool
 a : Int
 n : Int
 m : Int
structure Hm where
 hb : ByteArray
 hs : ByteArray
 hr : Int
 hc : Int
structure Rf where
 b : ByteArray
 h : ByteArray
 r : Int
 c : Int
 fr : Bool
 fc : Bool
abbrev rfV (x : Rf) : Value := refV x.b x.h x.r x.c x.fr x.fc
abbrev rfO (x : Rf) : Obj := refO x.b x.h x.r x.c x.fr x.fc
abbrev hmV (H : Hm) : Value := plcV H.hb H.hs H.hr H.hc
def z0 : Rf := ⟨⟨#[]⟩, ⟨#[]⟩, 0, 0, false, false⟩
def eqR (x y : Rf) : Bool := (x.b.toList == y.b.toList) && ((x.h.toList == y.h.toList) && ((x.r == y.r) && ((x.c == y.c) && ((x.fr == y.fr) && (x.fc == y.fc)))))
def ofR (C : Chg) (H : Hm) (x : Rf) : Bool := ((orS x.b H.hb).toList == C.bk.toList) && ((orS x.h H.hs).toList == C.sh.toList)
def ln (C : Chg) (x : Rf) : Int := if C.co = true then x.c else x.r
def setLn (C : Chg) (x : Rf) (v : Int) : Rf := if C.co = true then ⟨x.b, x.h, x.r, v, x.fr, x.fc⟩ else ⟨x.b, x.h, v, x.c, x.fr, x.fc⟩
def mvB (C : Chg) (x : Rf) : Bool := !C.dr && Hs.posB C.a C.n C.m (ln C x)
def mvX (C : Chg) (x : Rf) : Rf := if C.dr = true then z0 else setLn C x (Hs.posF C.a C.n C.m (ln C x))
def o1 (x y : Rf) : Rf := if y.r < x.r then ⟨x.b, x.h, y.r, x.c, y.fr, x.fc⟩ else x
def o2 (x y : Rf) : Rf := if y.r < x.r then ⟨y.b, y.h, x.r, y.c, x.fr, y.fc⟩ else y
def c1 (x y : Rf) : Rf := if y.c < x.c then ⟨x.b, x.h, x.r, y.c, x.fr, y.fc⟩ else x
def c2 (x y : Rf) : Rf := if y.c < x.c then ⟨y.b, y.h, y.r, x.c, y.fr, x.fc⟩ else y
def lo (x y : Rf) : Rf := c1 (o1 x y) (o2 x y)
def hi (x y : Rf) : Rf := c2 (o1 x y) (o2 x y)
def arB (C : Chg) (x y : Rf) : Bool := !C.dr && Hs.spB C.a C.n C.m (ln C x) (ln C y)
def arX (C : Chg) (x y : Rf) : Rf := if C.dr = true then z0 else setLn C x (Hs.spL C.a C.n C.m (ln C x) (ln C y))
def arY (C : Chg) (x y : Rf) : Rf := if C.dr = true then z0 else setLn C y (Hs.spH C.a C.n C.m (ln C x) (ln C y))
end Go.Proofs.YtljmklbbngpllaaGreatDoor.Rw
