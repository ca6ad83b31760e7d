/- The text of a cell, of the reference. -/
import Derived.Test.YtjimgjohfpcnpaaDoorAPrint
namespace Go.Proofs.YtjimgjohfpcnpaaDoor
open Go.RowKit
set_option maxRecDepth 100000
set_option linter.unusedVariables false
set_option linter.unusedSimpArgs false
theorem conv_one {u : World} {g : Nat} {z : Int} {m : Nat × Nat} (h : u.heap[g]? = some (.cells #[.int .u8 z] 5 m)) : (convert 52 9 (.slice (some ⟨g, 0, none⟩) 1 1)).run Tryd.prog u = .ok (.string ⟨#[UInt8.ofNat z.toNat]⟩) u := by
  have hl : (loadCells ⟨g, 0, none⟩ 1).run Tryd.prog u = .ok (([z] : List Int).map (Value.int .u8)).toArray u := by
    refine run_loadCells_list (P := Tryd.prog) _ ⟨g, 0, none⟩ [.int .u8 z] fun j v hj => ?_
    match j, hj with
    | 0, hj =>
      cases hj
      rw [show ((⟨g, 0, none⟩ : Addr).add 0) = ⟨g, 0, none⟩ from rfl, cell_of_row u _ _ _ 5 _ h]
      rfl
  rw [run_convert_bytes_string _ 52 9 5 _ 1 1 Tryd.underlying52 Tryd.underlying5 Tryd.underlying9, run_bytesToString _ _ 1 1 _ hl, foldl_push_bytes]
  rfl
theorem undrew {w x : World} (hb : Below w.drew.heap.size w.drew x) : Below w.heap.size w x := ⟨hb.os, hb.tape, hb.output, hb.size, hb.block⟩
theorem after_new {w w7 : World} {o : Obj} (hb : Below (w.alloc o).drew.heap.size (w.alloc o).drew w7) : Below w.heap.size w w7 ∧ w7.heap[w.heap.size]? = some o := by
  have h : Below (w.alloc o).heap.size (w.alloc o) w7 := ⟨hb.os, hb.tape, hb.output, hb.size, hb.block⟩
  exact ⟨bel1 h, new1 h⟩
def ctB (r c : Int) : ByteArray := if inB r c = true then cellB r.toNat c.toNat false false else ⟨#[]⟩
theorem in_yes {r c : Int} (h : inB r c = true) : ∃ R C : Nat, r = R ∧ c = C ∧ 1 ≤ R ∧ R ≤ 64 ∧ 1 ≤ C ∧ C ≤ 26 := by
  unfold inB at h
  simp only [Bool.and_eq_true, decide_eq_true_eq] at h
  exact ⟨r.toNat, c.toNat, by omega, by omega, by omega, by omega, by omega, by omega⟩
theorem ctB_eq (R C : Nat) : (⟨#[Ad.colC C]⟩ : ByteArray) ++ ⟨(Lib.decDigits R).toArray⟩ = cellB R C false false := by
  unfold cellB Ad.cellW
  apply ByteArray.ext
  simp
theorem wrap_u8 {n : Int} (h1 : 0 ≤ n) (h2 : n ≤ 255) : IntKind.u8.wrap n = n := by
  simp [IntKind.wrap, IntKind.bits, IntKind.signed]
  omega
set_option maxHeartbeats 4000000 in
theorem rct_yes (R C : Nat) (hi : inB R C = true) (hR1 : 1 ≤ R) (hR2 : R ≤ 64) (hC1 : 1 ≤ C) (hC2 : C ≤ 26) (w : World) :
    Calls Tryd.prog 23 #[.int .i64 R, .int .i64 C] w fun e w' => e = .returned (.string (cellB R C false false)) ∧ Below w.heap.size w w' := by
  have IN := fun u => rin_any R C u
  rw [hi] at IN
  clear hi
  have IT := fun u => ritoa_any R (by omega) u
  have z3 := dec_short R hR2
  rw [← ctB_eq]
  generalize (⟨(Lib.decDigits R).toArray⟩ : ByteArray) = X3 at *
  obtain ⟨m1, e1⟩ : ∃ m1 : Int, 65 + (C : Int) = m1 := ⟨_, rfl⟩
  obtain ⟨m2, e2⟩ : ∃ m2 : Int, m1 - 1 = m2 := ⟨_, rfl⟩
  have k1 : IntKind.i64.wrap m1 = m1 := wrap_i64 (by omega) (by omega)
  have k2 : IntKind.i64.wrap m2 = m2 := wrap_i64 (by omega) (by omega)
  have k3 : IntKind.u8.wrap m2 = m2 := wrap_u8 (by omega) (by omega)
  have e4 : (⟨#[UInt8.ofNat m2.toNat]⟩ : ByteArray) = ⟨#[Ad.colC C]⟩ := by
    unfold Ad.colC
    rw [show m2.toNat = 64 + C by omega]
  have z4 : (⟨#[Ad.colC C]⟩ : ByteArray).size ≤ 1 := Nat.le_refl 1
  have CV : Hid (∀ (u : World) (g : Nat) (m : Nat × Nat), u.heap[g]? = some (.cells #[.int .u8 m2] 5 m) → (convert 52 9 (.slice (some ⟨g, 0, none⟩) 1 1)).run Tryd.prog u = .ok (.string ⟨#[Ad.colC C]⟩) u) := fun u g m h => by rw [conv_one h, e4]
  clear e4
  generalize (⟨#[Ad.colC C]⟩ : ByteArray) = X4 at *
  have z5 : ¬ 9223372036854775807 < X4.size + X3.size := by omega
  have c1 : (convert 52 9 (.slice (some ⟨w.heap.size, 0, none⟩) 1 1)).run Tryd.prog (w.alloc (.cells #[.int .u8 m2] 5)).drew = .ok (.string X4) (w.alloc (.cells #[.int .u8 m2] 5)).drew := CV.out _ _ _ (heap_alloc_new w _)
  have ITa := IT (w.alloc (.cells #[.int .u8 m2] 5)).drew
  have ITb := IT w.drew
  go_enter Tryd.func23, Tryd.ntmps23
  go_wp2_with (go_at_call 36; refine (IN _).mono ?_; rintro e w' ⟨rfl, hw⟩; obtain rfl := hw.symm; clear hw)
  go_region_held_law (fun _ => True) (trivial) (first
    | (go_at_call 47; refine ITa.mono ?_; rintro e w7 ⟨rfl, hb⟩; have HB : Hid (Below w.heap.size w w7) := (after_new hb).1; have c2 := CV.out w7 w.heap.size (0, 0) (after_new hb).2; clear hb)
    | (go_at_call 47; refine ITb.mono ?_; rintro e w7 ⟨rfl, hb⟩; have HB : Hid (Below w.heap.size w w7) := undrew hb; have c2 := CV.out (w7.alloc (.cells #[.int .u8 m2] 5)) w7.heap.size (0, 0) (heap_alloc_new w7 _); clear hb))
  · go_wp2
    go_ret
    exact ⟨rfl, HB.out⟩
  · go_wp2
    go_ret
    exact ⟨rfl, HB.out⟩
  · go_wp2
    go_ret
    exact ⟨rfl, bel_alloc HB.out _⟩
end Go.Proofs.YtjimgjohfpcnpaaDoor
