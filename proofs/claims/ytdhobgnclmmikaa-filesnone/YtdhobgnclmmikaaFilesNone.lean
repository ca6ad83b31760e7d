/- For every Act the law FilesNone returns true: a files.World that no call made does nothing, answers zero values and ErrMade, and the document's examples hold; the argument reads as it read before. No condition. -/
import Derived.Test.YtdhobgnclmmikaaRows
import Derived.Test.YtdhobgnclmmikaaNoneWalk
import Derived.WalkKit
import Derived.ProofKit
import Derived.OpenShut
import Derived.ShutString
import Derived.ChangeOld
import Derived.Below
import Derived.Lib.SmallJoins
namespace Go.Proofs.Ytdhobgnclmmikaa
namespace filesNone
open Go.ChangeShapes Go.WideShapes Go.ChangeAt Go.RowKit Go.Joins
open Go.ChangeMaps (open_string shut_string)
set_option linter.unusedVariables false

theorem own : ownKnob Try.prog.godebug = none := by kernel_rfl
theorem laidOut : laidOutB Try.prog = true := by kernel_rfl
theorem cells3 : Try.prog.cellsOf 3 = 1 := by kernel_rfl
theorem cells9 : Try.prog.cellsOf 9 = 1 := by kernel_rfl
theorem cells29 : Try.prog.cellsOf 29 = 1 := by kernel_rfl
theorem cells31 : Try.prog.cellsOf 31 = 6 := by kernel_rfl

theorem array6 {cs : Array Value} (h : cs.size = 6) : ∃ c0 c1 c2 c3 c4 c5, cs = #[c0, c1, c2, c3, c4, c5] := by
  obtain ⟨l⟩ := cs
  match l, h with
  | [c0, c1, c2, c3, c4, c5], _ => exact ⟨c0, c1, c2, c3, c4, c5, rfl⟩

set_option maxRecDepth 100000 in
/-- What an Act is, as a value. -/
theorem open_act {H : Type} {enc : TypeId × Value → H} {w : World} {base : Nat} {v : Value} {d : DataW H} {p : List MemPlace} (hv : Value.okWide Try.prog w .any base 31 v) (h : DataW.Trod enc Try.prog w 0 (fun _ => true) true 31 v d p) :
    ∃ (kind n m : Int) (A B : ByteArray) (a : Option Addr) (l c : Nat), v = .agg #[.int .i64 kind, .string A, .string B, .int .i64 n, .int .i64 m, .slice a l c] := by
  obtain ⟨cs, rfl, hsz⟩ := okWide_struct Try.underlying31 hv
  rw [cells31] at hsz
  obtain ⟨c0, c1, c2, c3, c4, c5, rfl⟩ := array6 hsz
  obtain ⟨fuel, hf⟩ := h
  obtain ⟨xs, n, _, _, hl, hlen, hfld⟩ := DataW.trod_struct Try.underlying31 hf
  have get : ∀ (i : Nat) (f : Field), _ → i < 6 → ∃ y, DataW.trod enc Try.prog w 0 (fun _ => true) true n f.type (((Value.agg #[c0, c1, c2, c3, c4, c5]).cells.toList.drop f.offset).take (Try.prog.cellsOf f.type)) = some y :=
    fun i f hf hi => ⟨_, (hfld i f hf).trans (List.getElem?_eq_getElem (by rw [hlen]; exact hi))⟩
  obtain ⟨y0, h0⟩ := get 0 _ rfl (by decide)
  obtain ⟨y1, h1⟩ := get 1 _ rfl (by decide)
  obtain ⟨y2, h2⟩ := get 2 _ rfl (by decide)
  obtain ⟨y3, h3⟩ := get 3 _ rfl (by decide)
  obtain ⟨y4, h4⟩ := get 4 _ rfl (by decide)
  obtain ⟨y5, h5⟩ := get 5 _ rfl (by decide)
  obtain ⟨k, e0, _⟩ := DataW.trod_int Try.underlying3 h0
  obtain ⟨A, e1, _⟩ := DataW.trod_string Try.underlying9 h1
  obtain ⟨B, e2, _⟩ := DataW.trod_string Try.underlying9 h2
  obtain ⟨n', e3, _⟩ := DataW.trod_int Try.underlying3 h3
  obtain ⟨m, e4, _⟩ := DataW.trod_int Try.underlying3 h4
  obtain ⟨a, l, c, e5⟩ := slice_form Try.underlying29 h5
  simp [Value.cells, cells3] at e0 e3 e4
  simp [Value.cells, cells9] at e1 e2
  simp [Value.cells, cells29] at e5
  subst e0 e1 e2 e3 e4 e5
  exact ⟨k, n', m, A, B, a, l, c, rfl⟩

set_option maxRecDepth 100000 in
theorem lifted (os : Os) (started : os.Started) (H : Type) (enc : TypeId × Value → H) :
    ReturnsInHanded {} Try.checked os 7 .any (Rows.filesNoneSpec.pre6 enc Try.prog Try.f7 Rows.filesNoneRow.domain false) (Rows.filesNoneSpec.post enc Try.prog Try.f7 false true false false) := by
  refine returnsInHanded_of_change (C := Try.checked) own started (by kernel_rfl) Try.func7
    (ChangeSpec.witness6 (enc := enc) (C := Try.checked) false ⟨#[], #[.agg #[.int .i64 0, .string ByteArray.empty, .string ByteArray.empty, .int .i64 0, .int .i64 0, .slice none 0 0]], []⟩ 8 (by kernel_rfl) (by kernel_rfl) (by kernel_rfl) (by kernel_rfl)) ?_
  intro W base args ds gs before hval0 hW hcnd _
  have hval : ∀ (j : Nat) t v, Try.f7.params[j]? = some t → args[j]? = some v → Value.okWide Try.prog W .any base t v := hval0
  have hW' := hW
  obtain ⟨p, q, hA0, hV, rfl, hfz, hnd⟩ := hW
  have hA : DataW.TrodAll enc Try.prog W 0 (fun _ => true) true Try.f7.params.toList args.toList ds p := hA0
  rw [Try.params7] at hA hval
  obtain ⟨v0, vs0, d0, ds0, p0, q0, hargs, rfl, rfl, h0, r0⟩ := trodAll_cons hA
  obtain ⟨rfl, rfl, rfl⟩ := trodAll_nil r0
  obtain rfl : args = #[v0] := by cases args; simp_all
  obtain ⟨rfl, rfl⟩ := trodVars_none hV
  have k0 := h0
  have lt0 : ∀ x ∈ p0, x.block < W.heap.size := by obtain ⟨m, hm⟩ := k0; exact DataW.trod_lt m _ _ _ hm
  obtain ⟨kind, n, m, A, B, a, l, c, rfl⟩ := open_act (hval 0 31 v0 rfl rfl) h0
  clear hA0 hval0
  refine (none_walk kind n m A B a l c W).mono fun e W' ⟨he, bel⟩ => ?_
  subst he
  exact ⟨_, rfl, _, _, _, [], _, [], hW', trodAll_mk1 (shut_bool Try.underlying4 _), (trodAll_cons_mk (Below.trod laidOut (by kernel_rfl) (of_decide_eq_true (by kernel_rfl)) k0 bel lt0) trodAll_mk0), rfl, bel.frame _, fun h => by cases h⟩

theorem over : Rows.filesNoneRow.holds Try.pinned (OpenSpec.ofChange Rows.filesNoneSpec) :=
  OpenClaim.holds_of_wide 7 Try.f7 rfl rfl rfl rfl rfl rfl rfl ⟨rfl, rfl, rfl, rfl, rfl⟩ rfl rfl rfl rfl rfl (by kernel_rfl) Try.func7 (by kernel_rfl)
    (of_decide_eq_true (by kernel_rfl)) (by unfold Func.isWrapper; first | (rw [if_pos (by decide +kernel)]; kernel_rfl) | (rw [if_neg (by decide +kernel)]; exact ⟨rfl, rfl⟩))
    (fun os started H enc _ => lifted os started H enc)
end filesNone

theorem filesNone_holds : Rows.FilesNoneSaid := filesNone.over
#print axioms filesNone_holds
end Go.Proofs.Ytdhobgnclmmikaa
