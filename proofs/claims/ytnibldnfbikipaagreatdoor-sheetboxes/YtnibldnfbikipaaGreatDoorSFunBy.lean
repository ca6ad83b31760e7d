/- TLaid, SPure, SMem, SFun. -/
import Derived.Deep.Slices
import Derived.Handed
import Derived.HandedShaped
import Derived.LaidMore
import Derived.LaidSub
import Derived.Lay
import Derived.Lib.SmallJoins
import Derived.OpenShut
import Derived.OwnWalk
import Derived.ProofKit
import Derived.Stop.Joined
import Derived.Stop.LaidErr
import Derived.Test.YtnibldnfbikipaaGreatDoorRows
import Derived.Test.YtnibldnfbikipaaGreatDoorTOpBy
set_option linter.unusedVariables false
set_option linter.unusedSimpArgs false
set_option maxHeartbeats 16000000
set_option maxRecDepth 100000
namespace Go.Proofs.YtnibldnfbikipaaGreatDoor
open Go.ChangeShapes Go.WideShapes Go.ChangeAt Go.WideElems Go.RowKit
abbrev laidS : List (String × DataW Unit) := [("math/bits.deBruijn32tab", Rows.laid_math_bits_deBruijn32tab), ("math/bits.deBruijn64tab", Rows.laid_math_bits_deBruijn64tab), ("internal/strconv.uint64pow10", Rows.laid_internal_strconv_uint64pow10), ("unicode/utf8.acceptRanges", Rows.laid_unicode_utf8_acceptRanges), ("strconv.ErrRange", Rows.laid_strconv_ErrRange), ("strconv.ErrSyntax", Rows.laid_strconv_ErrSyntax), ("octavo/value.faults", Rows.laid_octavo_value_faults), ("octavo/token.operators", Rows.laid_octavo_token_operators), ("unicode/utf8.first", Rows.laid_unicode_utf8_first)]
theorem own : ownKnob Tryz.prog.godebug = none := by kernel_rfl
theorem all_met (os : Os) (args : Array Value) : laidMetH Tryz.prog laidS ((World.laidAll Tryz.prog os laidS).forCall (fun _ _ => 0) ⟨#[], args, []⟩).memory := by
 rw [MakeChecks.laidMetH_plain _ _ _ (by kernel_rfl)]
 exact laidMet_laidAll _ (by kernel_rfl) (by kernel_rfl)
theorem pow_data : (Rows.laid_internal_strconv_uint64pow10 : DataW Unit) = Lib.tabData .u64 Lib.pow10Tab := by kernel_rfl
theorem ptab_laid {W : World} (h : laidMetH Tryz.prog laidS W) : PTab W := by
 have h1 := laidMetH.filter (fun x => x.1 == "internal/strconv.uint64pow10") h
 have e : laidS.filter (fun x => x.1 == "internal/strconv.uint64pow10") = [("internal/strconv.uint64pow10", Lib.tabData .u64 Lib.pow10Tab)] := by
  rw [← pow_data]
  kernel_rfl
 rw [e, MakeChecks.laidMetH_plain _ _ _ (by kernel_rfl)] at h1
 exact Lib.tabIs_of_head (g := 5) (t := 281) (e := 178) (n := 20) (by kernel_rfl) (by kernel_rfl) Tryz.underlying281 Tryz.underlying178 (by kernel_rfl) (by kernel_rfl) h1
theorem gFaults : Tryz.prog.globalNamed "octavo/value.faults" = some 1 := by kernel_rfl
theorem tFaults : (Tryz.prog.globals[1]?).map (·.type) = some 200 := by kernel_rfl
theorem ftab_laid {W : World} (h0 : laidMetH Tryz.prog laidS W) : FTab W := by
 have h := laidMetH.filter (fun x => x.1 == "octavo/value.faults") h0
 have e : laidS.filter (fun x => x.1 == "octavo/value.faults") = [("octavo/value.faults", Rows.laid_octavo_value_faults)] := by kernel_rfl
 rw [e, MakeChecks.laidMetH_plain _ _ _ (by kernel_rfl)] at h
 obtain ⟨ps, ⟨g0, t0, cs0, f0, p0, q0, hg0, ht0, hv0, hd0, _, _⟩, _, _⟩ := h
 obtain rfl := Option.some.inj (gFaults.symm.trans hg0)
 obtain rfl := Option.some.inj (tFaults.symm.trans ht0)
 obtain ⟨xs, m1, rfl, hx1, hlen, hn3, hel⟩ := DataW.trod_array Tryz.underlying200 hd0
 have c9 : Tryz.prog.cellsOf 9 = 1 := by kernel_rfl
 simp only [Prod.mk.injEq] at hx1
 intro i hi
 have h1 := hel i hi
 have hxi : xs[i]? = some xs[i] := List.getElem?_eq_getElem (by omega)
 rw [hxi] at h1
 obtain ⟨b, e1, e2, _⟩ := DataW.trod_string Tryz.underlying9 h1
 rw [c9, Nat.mul_one] at e1
 have hk : b = fnm i := by
  have hy : (Rows.laid_octavo_value_faults : DataW Unit) = .agg ((List.range 9).map fun n => .lit (.string (fnm n).data.toList)) := by kernel_rfl
  have hz := hx1.1
  rw [hy] at hz
  have hz2 : ((List.range 9).map fun n => (DataW.lit (.string (fnm n).data.toList) : DataW Unit)) = xs.map (·.1) := by injection hz
  have hz3 := congrArg (fun l => l[i]?) hz2
  simp only [List.getElem?_map, hxi, Option.map_some, e2] at hz3
  rw [List.getElem?_range hi] at hz3
  simp at hz3
  exact (bytes_inj (congrArg Array.toList hz3)).symm
 have hc := World.var?_cell hg0 hv0 i
 rw [hc, ← hk]
 have : (cs0.toList.drop i)[0]? = some (.string b) := by
  have := congrArg (fun l => l[0]?) e1
  simpa using this
 simpa using this
theorem gOps : Tryz.prog.globalNamed "octavo/token.operators" = some 0 := by kernel_rfl
theorem tOps : (Tryz.prog.globals[0]?).map (·.type) = some 236 := by kernel_rfl
theorem otab_laid {W : World} (h0 : laidMetH Tryz.prog laidS W) : ∀ i, i < 17 → W.cell? ⟨0, i, none⟩ = some (.string (ba (opn i))) := by
 have h := laidMetH.filter (fun x => x.1 == "octavo/token.operators") h0
 have e : laidS.filter (fun x => x.1 == "octavo/token.operators") = [("octavo/token.operators", Rows.laid_octavo_token_operators)] := by kernel_rfl
 rw [e, MakeChecks.laidMetH_plain _ _ _ (by kernel_rfl)] at h
 obtain ⟨ps, ⟨g0, t0, cs0, f0, p0, q0, hg0, ht0, hv0, hd0, _, _⟩, _, _⟩ := h
 obtain rfl := Option.some.inj (gOps.symm.trans hg0)
 obtain rfl := Option.some.inj (tOps.symm.trans ht0)
 obtain ⟨xs, m1, rfl, hx1, hlen, hn3, hel⟩ := DataW.trod_array Tryz.underlying236 hd0
 have c9 : Tryz.prog.cellsOf 9 = 1 := by kernel_rfl
 simp only [Prod.mk.injEq] at hx1
 intro i hi
 have h1 := hel i hi
 have hxi : xs[i]? = some xs[i] := List.getElem?_eq_getElem (by omega)
 rw [hxi] at h1
 obtain ⟨b, e1, e2, _⟩ := DataW.trod_string Tryz.underlying9 h1
 rw [c9, Nat.mul_one] at e1
 have hk : b = ba (opn i) := by
  have hy : (Rows.laid_octavo_token_operators : DataW Unit) = .agg ((List.range 17).map fun n => .lit (.string (ba (opn n)).data.toList)) := by kernel_rfl
  have hz := hx1.1
  rw [hy] at hz
  have hz2 : ((List.range 17).map fun n => (DataW.lit (.string (ba (opn n)).data.toList) : DataW Unit)) = xs.map (·.1) := by injection hz
  have hz3 := congrArg (fun l => l[i]?) hz2
  simp only [List.getElem?_map, hxi, Option.map_some, e2] at hz3
  rw [List.getElem?_range hi] at hz3
  simp at hz3
  exact (bytes_inj (show (ba (opn i)).data.toList = b.data.toList from hz3)).symm
 have hc := World.var?_cell hg0 hv0 i
 rw [hc, ← hk]
 have : (cs0.toList.drop i)[0]? = some (.string b) := by
  have := congrArg (fun l => l[0]?) e1
  simpa using this
 simpa using this
theorem gES : Tryz.prog.globalNamed "strconv.ErrSyntax" = some 6 := by kernel_rfl
theorem gESType : (Tryz.prog.globals[6]?).map (·.type) = some 166 := by kernel_rfl
theorem gER : Tryz.prog.globalNamed "strconv.ErrRange" = some 7 := by kernel_rfl
theorem gERType : (Tryz.prog.globals[7]?).map (·.type) = some 166 := by kernel_rfl
theorem cellsES : Tryz.prog.cellsOf 305 = 1 := by kernel_rfl
theorem cells9 : Tryz.prog.cellsOf 9 = 1 := by kernel_rfl
theorem star : "*" ++ "errors.errorString" = "*errors.errorString" := by decide
theorem row116 (u : TypeId) (h : Tryz.prog.typeName? 3 u = some "*errors.errorString") : u = 303 :=
 typeName_ptr_named (nm := "errors.errorString") (by rw [star]; kernel_rfl) (by kernel_rfl) (by decide) u (by rw [star]; exact h)
theorem errs_laid {W : World} (h0 : laidMetH Tryz.prog laidS W) : Errs W := by
 have h1 := laidMetH.filter (fun x => x.1 == "strconv.ErrSyntax") h0
 have e1 : laidS.filter (fun x => x.1 == "strconv.ErrSyntax") = [("strconv.ErrSyntax", Rows.laid_strconv_ErrSyntax)] := by kernel_rfl
 rw [e1, MakeChecks.laidMetH_plain _ _ _ (by kernel_rfl)] at h1
 have h2 := laidMetH.filter (fun x => x.1 == "strconv.ErrRange") h0
 have e2 : laidS.filter (fun x => x.1 == "strconv.ErrRange") = [("strconv.ErrRange", Rows.laid_strconv_ErrRange)] := by kernel_rfl
 rw [e2, MakeChecks.laidMetH_plain _ _ _ (by kernel_rfl)] at h2
 obtain ⟨a1, _, v1, -, -, -⟩ := laid_sentinel h1 gES gESType Tryz.underlying166 row116 Tryz.underlying303 Tryz.underlying305 rfl rfl Tryz.underlying9 cellsES cells9
 obtain ⟨a2, _, v2, -, -, -⟩ := laid_sentinel h2 gER gERType Tryz.underlying166 row116 Tryz.underlying303 Tryz.underlying305 rfl rfl Tryz.underlying9 cellsES cells9
 exact ⟨_, _, _, _, by have h0 := World.var?_cell gES v1 0; simpa using h0, by have h0 := World.var?_cell gER v2 0; simpa using h0⟩
theorem max_shaped {W : World} (h : W.ShapedOpen Tryz.prog) : ∃ m, W.cell? ⟨2, 0, none⟩ = some (.int .i64 m) :=
 Go.Proofs.cell_of_shapedOpen_int (zero := #[.int .i64 0]) (t := 3) h (of_decide_eq_true (by kernel_rfl)) (by kernel_rfl) rfl (by kernel_rfl) (by kernel_rfl) Tryz.underlying3
theorem ops_list (i : Nat) (h : i < 17) : opn i = (([[60, 62], [60, 61], [62, 61], [43], [45], [42], [47], [94], [38], [61], [60], [62], [37], [40], [41], [44], [58]] : List (List UInt8))[i]'h) := by
 have : i = 0 ∨ i = 1 ∨ i = 2 ∨ i = 3 ∨ i = 4 ∨ i = 5 ∨ i = 6 ∨ i = 7 ∨ i = 8 ∨ i = 9 ∨ i = 10 ∨ i = 11 ∨ i = 12 ∨ i = 13 ∨ i = 14 ∨ i = 15 ∨ i = 16 := by omega
 rcases this with rfl | rfl | rfl | rfl | rfl | rfl | rfl | rfl | rfl | rfl | rfl | rfl | rfl | rfl | rfl | rfl | rfl <;> rfl
theorem of_laid {W : World} (h : laidMetH Tryz.prog laidS W) (hsh : W.ShapedOpen Tryz.prog) : Tab9 W := ⟨⟨⟨ptab_laid h, ftab_laid h⟩, errs_laid h⟩, fun i hi => by rw [← ops_list i hi]; exact otab_laid h i hi, max_shaped hsh⟩
theorem returns_and_shaped {H : Type} {enc : TypeId × Value → H} {a : Assume} {C : Checked} {os : Os} {f : FuncId} {fn : Func} {s : ChangeSpec} {conds : List PathCond} {apart fresh handsOn again : Bool} {X : World → Array Value → Prop}
  (hX : ∀ (w w' : World) (args : Array Value), w.heap = w'.heap → X w args → X w' args)
  (own : ownKnob C.prog.godebug = none) (started : os.Started) (noInit : C.prog.inits.idxOf? f = none) (hfn : C.prog.funcs[f]? = some fn)
  (witness : ∃ (w : World) (tape : Tape) (i : Input), w.os = os ∧ (w.forCall tape i).Shaped C.prog ∧ i.vars = [] ∧ Input.okWide C.prog (w.forCall tape i) .any w.heap.size f i ∧
   ((s.pre enc C.prog fn conds apart (w.forCall tape i).memory i.args ∧ X (w.forCall tape i).memory i.args) ∧ sizedMet enc C.prog fn (OpenSpec.ofChange s) apart (w.forCall tape i).memory i.args) ∧ a.holds C.prog (lone (Frame.enter C.prog f i.args .normal) [] (w.forCall tape i)))
  (contract : ∀ (W : World) (base : Nat) (args : Array Value) (ds gs : List (DataW H)) (before : List MemPlace),
   (∀ (j : Nat) t v, fn.params[j]? = some t → args[j]? = some v → Value.okWide C.prog W .any base t v) →
   DataW.Whole enc C.prog fn.params.toList s.vars apart W args.toList ds gs before →
   conds.all (PathCond.test C.prog ⟨fn.params.toList, ds, s.plain.varTypes C.prog, gs⟩) = true →
   (DataW.weightsEach C.prog (fn.params.toList ++ s.plain.varTypes C.prog) (ds ++ gs)).all (· ≤ reachBytes) = true → X W args → W.ShapedOpen C.prog →
   a.holds C.prog (lone (Frame.enter C.prog f args .normal) [] W) →
   Calls C.prog f args W fun e W' => ∃ v, e = .returned v ∧ s.post enc C.prog fn apart fresh handsOn again W args v W') :
  ReturnsInHanded a C os f .any (fun w args => (s.pre enc C.prog fn conds apart w args ∧ X w args) ∧ sizedMet enc C.prog fn (OpenSpec.ofChange s) apart w args) (s.post enc C.prog fn apart fresh handsOn again) := by
 refine returnsInHanded_of_calls own started noInit witness ?_
 intro w tape i _ hsh _ hok hpre hholds
 obtain ⟨_, _, _, fn', hfn', _, _, _, _, hval⟩ := hok
 have e : fn' = fn := Option.some.inj (hfn'.symm.trans hfn)
 subst e
 obtain ⟨⟨⟨ds, gs, before, hw, hc⟩, hx⟩, hz⟩ := hpre
 have hw' := DataW.Whole.of_heap (w' := w.forCall tape i) (by rfl) hw
 refine (contract (w.forCall tape i) w.heap.size i.args ds gs before hval hw' hc (hz.weights hw) (hX _ _ _ (by rfl) hx) hsh hholds).mono fun e W' ⟨v, he, hp⟩ => ?_
 subst he
 exact ChangeSpec.post_blind hp
end Go.Proofs.YtnibldnfbikipaaGreatDoor
namespace Go.Proofs.YtnibldnfbikipaaGreatDoor.Sh
open Go.RowKit
structure CellT where
 row : Int
 col : Int
 text : ByteArray
structure NameT where
 scope : ByteArray
 name : ByteArray
 text : ByteArray
structure ValT where
 kind : Int
 n : Int
 s : ByteArray
structure LinkT where
 book : ByteArray
 sheet : ByteArray
 row : Int
 col : Int
 value : ValT
structure SheetT where
 name : ByteArray
 cells : List CellT
structure BookT where
 sheets : List SheetT
 names : List NameT
 links : List LinkT
abbrev strE : Value := .string ⟨#[]⟩
abbrev int0 : Value := .int .i64 0
theorem addr_block (a : Addr) (n : Nat) : (a.add n).block = a.block := by unfold Addr.add; split <;> rfl
theorem ownsRow_of_block {w w' : World} {base : Nat} {e : TypeId} {size : Nat} {v : Value} {n : Nat} {xs : List Value} (h : w.ownsRow base e size v n xs)
  (hk : ∀ g, v.ownBlock = some g → w'.heap[g]? = w.heap[g]?) : w'.ownsRow base e size v n xs := by
 refine ⟨h.1, ?_⟩
 rcases h.2 with hn | ⟨g, cap, cur, rfl, hb, hgg, rest⟩
 ·exact .inl hn
 ·exact .inr ⟨g, cap, cur, rfl, hb, by rw [hk g rfl]; exact hgg, rest⟩
abbrev cellV (c : CellT) : Value := .agg #[.int .i64 c.row, .int .i64 c.col, .string c.text]
abbrev nameV (x : NameT) : Value := .agg #[.string x.scope, .string x.name, .string x.text]
abbrev valV (v : ValT) : Value := .agg #[.int .i64 v.kind, .int .i64 v.n, .string v.s]
abbrev linkV (x : LinkT) : Value := .agg #[.string x.book, .string x.sheet, .int .i64 x.row, .int .i64 x.col, .int .i64 x.value.kind, .int .i64 x.value.n, .string x.value.s]
def cellC (c : CellT) : List Value := [.int .i64 c.row, .int .i64 c.col, .string c.text]
def Rws (lo hi sz : Nat) (w : World) (v : Value) (n : Nat) (C : Nat → List Value) : Prop :=
 (v = .slice none 0 0 ∧ n = 0) ∨ ∃ a cap, v = .slice (some a) n cap ∧ n ≤ cap ∧ cap ≤ maxLen ∧ (0 < n → lo ≤ a.block ∧ a.block < hi) ∧ ∀ j i u, j < n → (C j)[i]? = some u → w.cell? (a.add (j * sz + i)) = some u
theorem Rws.kept {lo hi sz : Nat} {w w' : World} {v : Value} {n : Nat} {C : Nat → List Value} (h : Rws lo hi sz w v n C) (hk : ∀ i, lo ≤ i → i < hi → w'.heap[i]? = w.heap[i]?) : Rws lo hi sz w' v n C := by
 rcases h with h | ⟨a, cap, h1, h2, h3, h4, h5⟩
 ·exact .inl h
 ·refine .inr ⟨a, cap, h1, h2, h3, h4, fun j i u hj hu => ?_⟩
  rw [← h5 j i u hj hu]
  obtain ⟨q1, q2⟩ := h4 (by omega)
  exact World.cell?_of_block (hk _ (by rw [addr_block]; exact q1) (by rw [addr_block]; exact q2))
theorem Rws.mono {lo hi lo' hi' sz : Nat} {w : World} {v : Value} {n : Nat} {C : Nat → List Value} (h : Rws lo hi sz w v n C) (h1 : lo' ≤ lo) (h2 : hi ≤ hi') : Rws lo' hi' sz w v n C := by
 rcases h with h | ⟨a, cap, g1, g2, g3, g4, g5⟩
 ·exact .inl h
 ·exact .inr ⟨a, cap, g1, g2, g3, fun hn => by have := g4 hn; omega, g5⟩
theorem Rws.slice {lo hi sz : Nat} {w : World} {v : Value} {n : Nat} {C : Nat → List Value} (h : Rws lo hi sz w v n C) : ∃ a c, v = .slice a n c ∧ n ≤ c ∧ c ≤ maxLen := by
 rcases h with ⟨rfl, rfl⟩ | ⟨a, cap, rfl, h1, h2, _⟩
 ·exact ⟨none, 0, rfl, Nat.le_refl _, by decide⟩
 ·exact ⟨_, _, rfl, h1, h2⟩
theorem Rws.congr {lo hi sz : Nat} {w : World} {v : Value} {n : Nat} {C D : Nat → List Value} (h : Rws lo hi sz w v n C) (hc : ∀ j, j < n → D j = C j) : Rws lo hi sz w v n D := by
 rcases h with h | ⟨a, cap, g1, g2, g3, g4, g5⟩
 ·exact .inl h
 ·exact .inr ⟨a, cap, g1, g2, g3, g4, fun j i u hj hu => g5 j i u hj (by rw [← hc j hj]; exact hu)⟩
def Cls (lo hi : Nat) (w : World) (v : Value) (L : List CellT) : Prop := Rws lo hi 3 w v L.length fun j => (L[j]?.map cellC).getD []
section
variable {lo hi : Nat} {w w' : World} {v : Value}
theorem Cls.kept {L : List CellT} (h : Cls lo hi w v L) (hk : ∀ i, lo ≤ i → i < hi → w'.heap[i]? = w.heap[i]?) : Cls lo hi w' v L := Rws.kept h hk
theorem Cls.below {base : Nat} {L : List CellT} (h : Cls lo hi w v L) (hh : hi ≤ base) (hb : Below base w w') : Cls lo hi w' v L := h.kept fun i _ hi => hb.block i (by omega)
theorem Cls.slice {L : List CellT} (h : Cls lo hi w v L) : ∃ a c, v = .slice a L.length c ∧ L.length ≤ c ∧ c ≤ maxLen := Rws.slice h
theorem Cls.nil (w : World) (lo hi : Nat) : Cls lo hi w (.slice none 0 0) [] := .inl ⟨rfl, rfl⟩
end
theorem off_add (a : Addr) (m i : Nat) (hi : 0 < i) : (⟨(a.add m).block, (a.add m).off + i, none⟩ : Addr) = a.add (m + i) := by
 unfold Addr.add
 by_cases hm : m = 0
 ·subst hm
  simp; omega
 ·simp [hm]; omega
theorem Rws.at {lo hi sz : Nat} {w : World} {a : Option Addr} {n c : Nat} {C : Nat → List Value} (h : Rws lo hi sz w (.slice a n c) n C) {k : Nat} (hk : k < n) :
  ∃ a', a = some a' ∧ (∀ u, (C k)[0]? = some u → w.cell? (a'.add (k * sz)) = some u) ∧ ∀ i u, 0 < i → (C k)[i]? = some u → w.cell? ⟨(a'.add (k * sz)).block, (a'.add (k * sz)).off + i, none⟩ = some u := by
 rcases h with ⟨_, e2⟩ | ⟨a', cap, g1, g2, g3, g4, g5⟩
 ·omega
 ·cases g1
  refine ⟨a', rfl, fun u hu => by simpa using g5 k 0 u hk hu, fun i u hi hu => ?_⟩
  rw [off_add _ _ _ hi]
  exact g5 k i u hk hu
theorem inf57 : (Tryz.prog.info? 57).map (fun i => (i.zero, i.size, i.bytes)) = some (some (.agg #[.int .i64 0, .int .i64 0, .string ⟨#[]⟩]), 3, 32) := by kernel_rfl
theorem run_loadVar_any {P : Program} (w : World) (x : Addr) (ty : TypeId) (cs : List Value) (d : TypeDesc) (hc : ∀ j v, cs[j]? = some v → w.cell? (x.add j) = some v)
  (hu : P.underlying ty = some d) (hd : d.isRow = true) (hi : (P.info? ty).map (·.size) = some cs.length) :
  (Instr.loadAt ty (.pointer (some x))).run P w = .ok (.agg cs.toArray) w := by
 have hl : (loadCells x cs.length).run P w = .ok cs.toArray w := run_loadCells_list (P := P) w x cs hc
 cases hq : P.info? ty with
 | none => simp [hq] at hi
 | some i =>
  have hs : i.size = cs.length := by simpa [hq] using hi
  have hagg : (isAgg ty).run P w = .ok true w := by
   unfold isAgg
   rw [Sem.run_bind, run_underlying hu w]
   cases d <;> simp_all
  simp [Instr.loadAt, Instr.sureAddr, loadVar, Sem.run_bind, hagg, sizeOf, typeInfo, hq, hs, hl]
theorem wpList_load_run {P : Program} {ops : Array Oper} {rest : List Oper} {o : Oper} {a : Act} {w : World} {Q : Exit → Act → World → Prop} (hgd : o.guard = none) (ty : TypeId) (x : Operand) (ho : o.op = .load ty x)
  (p v : Value) (hx : a.eval x = p) (hrun : (Instr.loadAt ty p).run P w = .ok v w) (h : wpList P ops Q rest (a.put o.dst v) w) : wpList P ops Q (o :: rest) a w := by
 refine wpList_plain hgd fun K hK => ?_
 unfold Oper.wp execOp
 simp only [ho, hx, Sem.run_bind, Sem.run_pure, hrun, Result.andThen_ok]
 exact hK _ _ h
theorem wpList_store_run {P : Program} {ops : Array Oper} {rest : List Oper} {o : Oper} {a : Act} {w : World} {Q : Exit → Act → World → Prop} (hgd : o.guard = none) (ty : TypeId) (x y : Operand) (ho : o.op = .store ty x y)
  (p v : Value) (w' : World) (hx : a.eval x = p) (hy : a.eval y = v) (hrun : (Instr.storeAt ty p v).run P w = .ok () w') (h : wpList P ops Q rest (a.put o.dst undef) w') : wpList P ops Q (o :: rest) a w := by
 refine wpList_plain hgd fun K hK => ?_
 unfold Oper.wp execOp
 simp only [ho, hx, hy, Sem.run_bind, Sem.run_pure, hrun, Result.andThen_ok]
 exact hK _ _ h
theorem box_runs {t : TypeId} {zv : Value} {sz bytes : Nat} {d : TypeDesc} (hu : Tryz.prog.underlying t = some d) (hd : d.isRow = true) (hinf : (Tryz.prog.info? t).map (fun i => (i.zero, i.size, i.bytes)) = some (some zv, sz, bytes)) (w : World) (zs es : Array Value) (hz : zs.size = sz) (he : es.size = sz) (h1 : es.all (·.oneCell') = true) :
  (Instr.storeAt t (.pointer (some ⟨w.heap.size, 0, none⟩)) (.agg es)).run Tryz.prog (w.alloc (.cells zs t)) = .ok () (w.alloc (.cells es t)) ∧
  (Instr.loadAt t (.pointer (some ⟨w.heap.size, 0, none⟩))).run Tryz.prog (w.alloc (.cells es t)) = .ok (.agg es) (w.alloc (.cells es t)) := by
 have hi : (Tryz.prog.info? t).map (·.size) = some es.size := by
  cases hq : Tryz.prog.info? t with
  | none => simp [hq] at hinf
  | some i => simp [hq] at hinf ⊢; omega
 refine ⟨run_storeAt_new w t zs es hi (by omega) h1, ?_⟩
 have := run_loadVar_any (P := Tryz.prog) (w.alloc (.cells es t)) ⟨w.heap.size, 0, none⟩ t es.toList d (fun j v hv => by
  have hadd : (⟨w.heap.size, 0, none⟩ : Addr).add j = ⟨w.heap.size, j, none⟩ := by unfold Addr.add; split <;> simp_all
  rw [hadd, cell_of_row _ _ j es t (0, 0) (heap_alloc_new w _)]
  simpa using hv) hu hd (by simpa using hi)
 simpa using this
theorem Rws.load {lo hi sz : Nat} {w : World} {a : Option Addr} {n c : Nat} {C : Nat → List Value} (h : Rws lo hi sz w (.slice a n c) n C) {k : Nat} (hk : k < n) {t : TypeId} {d : TypeDesc} (hu : Tryz.prog.underlying t = some d) (hd : d.isRow = true) (hi : (Tryz.prog.info? t).map (·.size) = some (C k).length) :
  ∃ a', a = some a' ∧ (Instr.loadAt t (.pointer (some (a'.add (k * sz))))).run Tryz.prog w = .ok (.agg (C k).toArray) w := by
 rcases h with ⟨_, e2⟩ | ⟨a', cap, g1, g2, g3, g4, g5⟩
 ·omega
 ·cases g1
  refine ⟨a', rfl, run_loadVar_any w _ t (C k) d (fun j v hv => ?_) hu hd hi⟩
  rw [Go.Deep.add_add]
  exact g5 k j v hk hv
def nameC (x : NameT) : List Value := [.string x.scope, .string x.name, .string x.text]
def linkC (x : LinkT) : List Value := [.string x.book, .string x.sheet, .int .i64 x.row, .int .i64 x.col, .int .i64 x.value.kind, .int .i64 x.value.n, .string x.value.s]
def sheetC (s : SheetT) (cv : Value) : List Value := [.string s.name, cv]
abbrev sheetV (s : SheetT) (cv : Value) : Value := .agg #[.string s.name, cv]
def namesC (L : List NameT) : Nat → List Value := fun j => (L[j]?.map nameC).getD []
def linksC (L : List LinkT) : Nat → List Value := fun j => (L[j]?.map linkC).getD []
def sheetsC (L : List SheetT) (cv : Nat → Value) : Nat → List Value := fun j => (L[j]?.map fun o => sheetC o (cv j)).getD []
def Nms (lo hi : Nat) (w : World) (v : Value) (L : List NameT) : Prop := Rws lo hi 3 w v L.length (namesC L)
def Lks (lo hi : Nat) (w : World) (v : Value) (L : List LinkT) : Prop := Rws lo hi 7 w v L.length (linksC L)
def Shs (lo hi : Nat) (w : World) (v : Value) (L : List SheetT) : Prop := ∃ cv : Nat → Value, Rws lo hi 2 w v L.length (sheetsC L cv) ∧ ∀ j o, L[j]? = some o → Cls lo hi w (cv j) o.cells
structure BkM (lo hi : Nat) (w : World) (sv nv lv : Value) (x : BookT) : Prop where
 sh : Shs lo hi w sv x.sheets
 nm : Nms lo hi w nv x.names
 lk : Lks lo hi w lv x.links
section
variable {lo hi : Nat} {w w' : World} {v : Value}
theorem Nms.kept {L : List NameT} (h : Nms lo hi w v L) (hk : ∀ i, lo ≤ i → i < hi → w'.heap[i]? = w.heap[i]?) : Nms lo hi w' v L := Rws.kept h hk
theorem Lks.kept {L : List LinkT} (h : Lks lo hi w v L) (hk : ∀ i, lo ≤ i → i < hi → w'.heap[i]? = w.heap[i]?) : Lks lo hi w' v L := Rws.kept h hk
theorem Shs.kept {L : List SheetT} (h : Shs lo hi w v L) (hk : ∀ i, lo ≤ i → i < hi → w'.heap[i]? = w.heap[i]?) : Shs lo hi w' v L := by
 obtain ⟨cv, h1, h2⟩ := h
 exact ⟨cv, h1.kept hk, fun j o hj => (h2 j o hj).kept hk⟩
theorem Nms.below {base : Nat} {L : List NameT} (h : Nms lo hi w v L) (hh : hi ≤ base) (hb : Below base w w') : Nms lo hi w' v L := h.kept fun i _ hi => hb.block i (by omega)
theorem Lks.below {base : Nat} {L : List LinkT} (h : Lks lo hi w v L) (hh : hi ≤ base) (hb : Below base w w') : Lks lo hi w' v L := h.kept fun i _ hi => hb.block i (by omega)
theorem Shs.below {base : Nat} {L : List SheetT} (h : Shs lo hi w v L) (hh : hi ≤ base) (hb : Below base w w') : Shs lo hi w' v L := h.kept fun i _ hi => hb.block i (by omega)
theorem Nms.slice {L : List NameT} (h : Nms lo hi w v L) : ∃ a c, v = .slice a L.length c ∧ L.length ≤ c ∧ c ≤ maxLen := Rws.slice h
theorem Lks.slice {L : List LinkT} (h : Lks lo hi w v L) : ∃ a c, v = .slice a L.length c ∧ L.length ≤ c ∧ c ≤ maxLen := Rws.slice h
theorem Shs.slice {L : List SheetT} (h : Shs lo hi w v L) : ∃ a c, v = .slice a L.length c ∧ L.length ≤ c ∧ c ≤ maxLen := by
 obtain ⟨_, h, _⟩ := h
 exact h.slice
theorem BkM.below {base : Nat} {sv nv lv : Value} {x : BookT} (h : BkM lo hi w sv nv lv x) (hh : hi ≤ base) (hb : Below base w w') : BkM lo hi w' sv nv lv x := ⟨h.sh.below hh hb, h.nm.below hh hb, h.lk.below hh hb⟩
end
theorem inf78 : (Tryz.prog.info? 78).map (fun i => (i.zero, i.size, i.bytes)) = some (some (.agg #[strE, .slice none 0 0]), 2, 40) := by kernel_rfl
theorem inf89 : (Tryz.prog.info? 89).map (fun i => (i.zero, i.size, i.bytes)) = some (some (.agg #[strE, strE, strE]), 3, 48) := by kernel_rfl
theorem inf91 : (Tryz.prog.info? 91).map (fun i => (i.zero, i.size, i.bytes)) = some (some (.agg #[strE, strE, int0, int0, int0, int0, strE]), 7, 80) := by kernel_rfl
theorem Rws.runs {lo hi sz : Nat} {w : World} {a : Option Addr} {n c : Nat} {C : Nat → List Value} (h : Rws lo hi sz w (.slice a n c) n C) {k : Nat} (hk : k < n) {t : TypeId} {d : TypeDesc} (hu : Tryz.prog.underlying t = some d) (hd : d.isRow = true) {zv : Value} {bytes : Nat}
  (hinf : (Tryz.prog.info? t).map (fun i => (i.zero, i.size, i.bytes)) = some (some zv, sz, bytes)) {cs : List Value} (hC : C k = cs) (hl : cs.length = sz) (h1 : cs.toArray.all (·.oneCell') = true) (zs : Array Value) (hz : zs.size = sz) :
  ∃ a' ov W, a = some a' ∧ ov = .agg cs.toArray ∧ W = w.alloc (.cells cs.toArray t) ∧
   Hid ((Instr.loadAt t (.pointer (some (a'.add (k * sz))))).run Tryz.prog w = .ok ov w) ∧
   Hid ((Instr.storeAt t (.pointer (some ⟨w.heap.size, 0, none⟩)) ov).run Tryz.prog (w.alloc (.cells zs t)) = .ok () W) ∧
   Hid ((Instr.loadAt t (.pointer (some ⟨w.heap.size, 0, none⟩))).run Tryz.prog W = .ok ov W) := by
 have hi : (Tryz.prog.info? t).map (·.size) = some cs.length := by
  cases hq : Tryz.prog.info? t with
  | none => simp [hq] at hinf
  | some i => simp [hq] at hinf ⊢; omega
 obtain ⟨a', e1, e2⟩ := Rws.load h hk (t := t) hu hd (by rw [hC]; exact hi)
 rw [hC] at e2
 obtain ⟨b1, b2⟩ := box_runs hu hd hinf w zs cs.toArray hz (by simpa using hl) h1
 exact ⟨a', _, _, e1, rfl, rfl, e2, b1, b2⟩
theorem getD_some {α : Type} {L : List α} {f : α → List Value} {k : Nat} (hk : k < L.length) : (L[k]?.map f).getD [] = f L[k] := by simp [List.getElem?_eq_getElem hk]
theorem Nms.runs {lo hi : Nat} {w : World} {a : Option Addr} {c : Nat} {L : List NameT} (h : Nms lo hi w (.slice a L.length c) L) {k : Nat} (hk : k < L.length) :
  ∃ a' ov W, a = some a' ∧ ov = nameV L[k] ∧ W = w.alloc (.cells (nameC L[k]).toArray 89) ∧
   Hid ((Instr.loadAt 89 (.pointer (some (a'.add (k * 3))))).run Tryz.prog w = .ok ov w) ∧
   Hid ((Instr.storeAt 89 (.pointer (some ⟨w.heap.size, 0, none⟩)) ov).run Tryz.prog (w.alloc (.cells #[strE, strE, strE] 89)) = .ok () W) ∧
   Hid ((Instr.loadAt 89 (.pointer (some ⟨w.heap.size, 0, none⟩))).run Tryz.prog W = .ok ov W) :=
 Rws.runs h hk Tryz.underlying89 rfl inf89 (getD_some hk) rfl (by simp [nameC, Value.oneCell']) _ rfl
theorem Lks.runs {lo hi : Nat} {w : World} {a : Option Addr} {c : Nat} {L : List LinkT} (h : Lks lo hi w (.slice a L.length c) L) {k : Nat} (hk : k < L.length) :
  ∃ a' ov W, a = some a' ∧ ov = linkV L[k] ∧ W = w.alloc (.cells (linkC L[k]).toArray 91) ∧
   Hid ((Instr.loadAt 91 (.pointer (some (a'.add (k * 7))))).run Tryz.prog w = .ok ov w) ∧
   Hid ((Instr.storeAt 91 (.pointer (some ⟨w.heap.size, 0, none⟩)) ov).run Tryz.prog (w.alloc (.cells #[strE, strE, int0, int0, int0, int0, strE] 91)) = .ok () W) ∧
   Hid ((Instr.loadAt 91 (.pointer (some ⟨w.heap.size, 0, none⟩))).run Tryz.prog W = .ok ov W) :=
 Rws.runs h hk Tryz.underlying91 rfl inf91 (getD_some hk) rfl (by simp [linkC, Value.oneCell']) _ rfl
theorem Shs.runs {lo hi : Nat} {w : World} {a : Option Addr} {c : Nat} {L : List SheetT} (h : Shs lo hi w (.slice a L.length c) L) {k : Nat} (hk : k < L.length) :
  ∃ a' cv ov W, a = some a' ∧ ov = sheetV L[k] cv ∧ Cls lo hi w cv L[k].cells ∧ W = w.alloc (.cells (sheetC L[k] cv).toArray 78) ∧
   Hid ((Instr.loadAt 78 (.pointer (some (a'.add (k * 2))))).run Tryz.prog w = .ok ov w) ∧
   Hid ((Instr.storeAt 78 (.pointer (some ⟨w.heap.size, 0, none⟩)) ov).run Tryz.prog (w.alloc (.cells #[strE, .slice none 0 0] 78)) = .ok () W) ∧
   Hid ((Instr.loadAt 78 (.pointer (some ⟨w.heap.size, 0, none⟩))).run Tryz.prog W = .ok ov W) := by
 obtain ⟨cv, hr, hc⟩ := h
 have hcs := hc k _ (List.getElem?_eq_getElem hk)
 obtain ⟨ca, cc, e1, _, _⟩ := hcs.slice
 obtain ⟨a', ov, W, q⟩ := Rws.runs hr hk Tryz.underlying78 rfl inf78 (getD_some (f := fun o => sheetC o (cv k)) hk) rfl (by rw [e1]; simp [sheetC, Value.oneCell']) #[strE, .slice none 0 0] rfl
 exact ⟨a', cv k, ov, W, q.1, q.2.1, hcs, q.2.2⟩
theorem cell_heap {w : World} {b j : Nat} {xs : Array Value} {t : TypeId} {z : Nat × Nat} {v : Value} (h : w.heap[b]? = some (.cells xs t z)) (hj : xs[j]? = some v) : w.cell? ⟨b, j, none⟩ = some v := by
 rw [cell_of_row w b j xs t z h]; exact hj
theorem Cls.runs {lo hi : Nat} {w : World} {a : Option Addr} {c : Nat} {L : List CellT} (h : Cls lo hi w (.slice a L.length c) L) {k : Nat} (hk : k < L.length) :
  ∃ a' ov W, a = some a' ∧ ov = cellV L[k] ∧ W = w.alloc (.cells (cellC L[k]).toArray 57) ∧
   Hid ((Instr.loadAt 57 (.pointer (some (a'.add (k * 3))))).run Tryz.prog w = .ok ov w) ∧
   Hid ((Instr.storeAt 57 (.pointer (some ⟨w.heap.size, 0, none⟩)) ov).run Tryz.prog (w.alloc (.cells #[int0, int0, strE] 57)) = .ok () W) ∧
   Hid ((Instr.loadAt 57 (.pointer (some ⟨w.heap.size, 0, none⟩))).run Tryz.prog W = .ok ov W) :=
 Rws.runs h hk Tryz.underlying57 rfl inf57 (getD_some hk) rfl (by simp [cellC, Value.oneCell']) _ rfl
theorem blk_lt {w : World} {g : Nat} {o : Obj} (h : w.heap[g]? = some o) : g < w.heap.size := (Array.getElem?_eq_some_iff.1 h).1
theorem bel_alloc {base : Nat} {w u : World} (h : Below base w u) (hb : base ≤ w.heap.size) (o : Obj) : Below base w (u.alloc o) := h.alloc (Nat.le_trans hb h.size) o
theorem bel_step {base : Nat} {w u w' : World} (h : Below base w u) (hb : base ≤ u.heap.size) (h2 : Below u.heap.size u w') : Below base w w' := h.trans (h2.mono hb)
def idxI : Option Nat → Int
 | some i => i
 | none => -1
def idxN (L : List SheetT) (s : ByteArray) : Option Nat := L.findIdx? fun t => t.name.toList == s.toList
def cellsO (L : List SheetT) (s : ByteArray) : List CellT := match idxN L s with
 | some i => (L[i]?.map (·.cells)).getD []
 | none => []
def atB (r c : Int) (d : CellT) : Bool := d.row == r && d.col == c
def getL (L : List CellT) (r c : Int) : ByteArray := match L.find? (atB r c) with
 | some d => d.text
 | none => ⟨#[]⟩
def cntL (L : List SheetT) : Nat := (L.map fun s => s.cells.length).sum
theorem findIdx_none {α : Type} {p : α → Bool} {L : List α} (h : ∀ j (hj : j < L.length), p L[j] = false) : L.findIdx? p = none := by
 rw [List.findIdx?_eq_none_iff]
 intro x hx
 obtain ⟨j, hj, rfl⟩ := List.mem_iff_getElem.1 hx
 exact h j hj
theorem findIdx_some {α : Type} {p : α → Bool} {L : List α} {k : Nat} (hk : k < L.length) (h : ∀ j (hj : j < k), p (L[j]'(by omega)) = false) (hp : p L[k] = true) : L.findIdx? p = some k := by
 rw [List.findIdx?_eq_some_iff_getElem]
 exact ⟨hk, hp, fun j hj => by simpa using h j hj⟩
theorem idx_lt {L : List SheetT} {s : ByteArray} {i : Nat} (h : idxN L s = some i) : i < L.length := by
 unfold idxN at h
 rw [List.findIdx?_eq_some_iff_getElem] at h
 exact h.1
theorem find_none {α : Type} {p : α → Bool} {L : List α} (h : ∀ j (hj : j < L.length), p L[j] = false) : L.find? p = none := by
 rw [List.find?_eq_none]
 intro x hx
 obtain ⟨j, hj, rfl⟩ := List.mem_iff_getElem.1 hx
 simpa using h j hj
theorem find_some {α : Type} {p : α → Bool} {L : List α} {k : Nat} (hk : k < L.length) (h : ∀ j (hj : j < k), p (L[j]'(by omega)) = false) (hp : p L[k] = true) : L.find? p = some L[k] := by
 rw [List.find?_eq_some_iff_getElem]
 exact ⟨hp, k, hk, rfl, fun j hj => by simpa using h j hj⟩
def cpI (a b : Int) : Int := if a < b then -1 else if b < a then 1 else 0
def ordC (a b : CellT) : Int := if cpI a.row b.row ≠ 0 then cpI a.row b.row else cpI a.col b.col
def Lt (a b : CellT) : Prop := a.row < b.row ∨ a.row = b.row ∧ a.col < b.col
theorem cpI_ways (a b : Int) : (cpI a b = -1 ∧ a < b) ∨ (cpI a b = 0 ∧ a = b) ∨ (cpI a b = 1 ∧ b < a) := by
 unfold cpI
 split
 ·exact .inl ⟨rfl, by assumption⟩
 ·split
  ·exact .inr (.inr ⟨rfl, by assumption⟩)
  ·exact .inr (.inl ⟨rfl, by omega⟩)
theorem ordC_ways (a b : CellT) : (ordC a b = -1 ∧ Lt a b) ∨ (ordC a b = 0 ∧ a.row = b.row ∧ a.col = b.col) ∨ (ordC a b = 1 ∧ Lt b a) := by
 unfold ordC Lt
 rcases cpI_ways a.row b.row with ⟨h1, h2⟩ | ⟨h1, h2⟩ | ⟨h1, h2⟩
 ·rw [h1]; exact .inl ⟨rfl, .inl h2⟩
 ·rw [h1]
  rcases cpI_ways a.col b.col with ⟨g1, g2⟩ | ⟨g1, g2⟩ | ⟨g1, g2⟩
  ·exact .inl ⟨by simpa using g1, .inr ⟨h2, g2⟩⟩
  ·exact .inr (.inl ⟨by simpa using g1, h2, g2⟩)
  ·exact .inr (.inr ⟨by simpa using g1, .inr ⟨h2.symm, g2⟩⟩)
 ·rw [h1]; exact .inr (.inr ⟨rfl, .inl h2⟩)
theorem Lt.trans {a b c : CellT} (h : Lt a b) (k : Lt b c) : Lt a c := by unfold Lt at *; omega
theorem Lt.irrefl {a b : CellT} (h : Lt a b) : ¬ Lt b a := by unfold Lt at *; omega
theorem ord_neg {a b : CellT} : ordC a b < 0 ↔ Lt a b := by
 rcases ordC_ways a b with ⟨h1, h2⟩ | ⟨h1, h2, h3⟩ | ⟨h1, h2⟩
 ·rw [h1]; simp [h2]
 ·rw [h1]; unfold Lt; omega
 ·rw [h1]; have := h2.irrefl; simp [this]
theorem ord_zero {a b : CellT} : ordC a b = 0 ↔ (a.row = b.row ∧ a.col = b.col) := by
 rcases ordC_ways a b with ⟨h1, h2⟩ | ⟨h1, h2, h3⟩ | ⟨h1, h2⟩
 ·rw [h1]; unfold Lt at h2; omega
 ·rw [h1]; simp [h2, h3]
 ·rw [h1]; unfold Lt at h2; omega
def Rise (L : List CellT) : Prop := L.Pairwise Lt
def insB (r c : Int) : Bool := decide (1 ≤ r ∧ r ≤ 64 ∧ 1 ≤ c ∧ c ≤ 26)
def stB (L : List CellT) (i : Nat) : Bool := match L[i]? with
 | none => true
 | some d => insB d.row d.col && (!(d.text.toList == []) && (i == 0 || match L[i - 1]? with
  | none => true
  | some p => decide (ordC p d < 0)))
def laidB (L : List CellT) : Bool := (List.range L.length).all (stB L)
theorem laid_yes {L : List CellT} (h : ∀ i, i < L.length → stB L i = true) : laidB L = true := by
 unfold laidB
 rw [List.all_eq_true]
 intro i hi
 exact h i (List.mem_range.1 hi)
theorem laid_no {L : List CellT} {i : Nat} (hi : i < L.length) (h : stB L i = false) : laidB L = false := by
 unfold laidB
 rw [List.all_eq_false]
 exact ⟨i, List.mem_range.2 hi, by simp [h]⟩
theorem laid_at {L : List CellT} (h : laidB L = true) {i : Nat} (hi : i < L.length) : stB L i = true := by
 unfold laidB at h
 rw [List.all_eq_true] at h
 exact h i (List.mem_range.2 hi)
theorem laid_iff {L : List CellT} : laidB L = true ↔ (∀ c ∈ L, insB c.row c.col = true ∧ c.text.toList ≠ []) ∧ Rise L := by
 constructor
 ·intro h
  have h1 : ∀ i (hi : i < L.length), insB L[i].row L[i].col = true ∧ L[i].text.toList ≠ [] ∧ (i = 0 ∨ ∃ h : i - 1 < L.length, Lt L[i - 1] L[i]) := by
   intro i hi
   have := laid_at h hi
   unfold stB at this
   rw [List.getElem?_eq_getElem hi] at this
   simp only [Bool.and_eq_true, Bool.or_eq_true, Bool.not_eq_true', beq_eq_false_iff_ne] at this
   refine ⟨this.1, this.2.1, ?_⟩
   rcases this.2.2 with e | e
   ·exact .inl (by simpa using e)
   ·rw [List.getElem?_eq_getElem (by omega : i - 1 < L.length)] at e
    exact .inr ⟨by omega, ord_neg.1 (by simpa using e)⟩
  refine ⟨fun c hc => ?_, ?_⟩
  ·obtain ⟨j, hj, rfl⟩ := List.mem_iff_getElem.1 hc
   exact ⟨(h1 j hj).1, (h1 j hj).2.1⟩
  ·have h2 : ∀ (d i : Nat) (hi : i + d + 1 < L.length), Lt (L[i]'(by omega)) L[i + d + 1] := by
    intro d
    induction d with
    | zero =>
     intro i hi
     rcases (h1 (i + 0 + 1) hi).2.2 with e | ⟨_, e⟩
     ·omega
     ·simpa using e
    | succ d ih =>
     intro i hi
     refine (ih i (by omega)).trans ?_
     rcases (h1 (i + (d + 1) + 1) hi).2.2 with e | ⟨_, e⟩
     ·omega
     ·have e2 : i + (d + 1) + 1 - 1 = i + d + 1 := by omega
      simp only [e2] at e
      exact e
   unfold Rise
   rw [List.pairwise_iff_getElem]
   intro i j hi hj hij
   have := h2 (j - i - 1) i (by omega)
   have e2 : i + (j - i - 1) + 1 = j := by omega
   simp only [e2] at this
   exact this
 ·rintro ⟨h1, h2⟩
  refine laid_yes fun i hi => ?_
  unfold stB
  rw [List.getElem?_eq_getElem hi]
  obtain ⟨q1, q2⟩ := h1 _ (List.getElem_mem hi)
  simp only [q1, Bool.true_and]
  have q3 : (L[i].text.toList == []) = false := by simpa using q2
  rw [q3]
  by_cases h0 : i = 0
  ·simp [h0]
  ·rw [List.getElem?_eq_getElem (by omega : i - 1 < L.length)]
   unfold Rise at h2
   rw [List.pairwise_iff_getElem] at h2
   have := ord_neg.2 (h2 (i - 1) i (by omega) hi (by omega))
   simp [this]
end Go.Proofs.YtnibldnfbikipaaGreatDoor.Sh
