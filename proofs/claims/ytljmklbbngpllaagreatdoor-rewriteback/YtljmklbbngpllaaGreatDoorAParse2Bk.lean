/- ADig, ARCell, APrint2, ARow, AParse, AParse2. -/
import Derived.Test.YtljmklbbngpllaaGreatDoorAPrintBk
set_option linter.unusedVariables false
set_option linter.unusedSimpArgs false
set_option maxHeartbeats 16000000
set_option maxRecDepth 100000
namespace Go.Proofs.YtljmklbbngpllaaGreatDoor.Dg
open Go.RowKit
theorem wB (w : World) (z : Int) : (convert 134 9 (.slice (some ⟨w.heap.size, 0, none⟩) 1 1)).run Tryz.prog (w.alloc (.cells #[.int .u8 z] 5)) = .ok (.string ⟨#[UInt8.ofNat z.toNat]⟩) (w.alloc (.cells #[.int .u8 z] 5)) := by
 have hl : (loadCells ⟨w.heap.size, 0, none⟩ 1).run Tryz.prog (w.alloc (.cells #[.int .u8 z] 5)) = .ok (([z] : List Int).map (Value.int .u8)).toArray (w.alloc (.cells #[.int .u8 z] 5)) := by
  refine run_loadCells_list (P := Tryz.prog) _ ⟨w.heap.size, 0, none⟩ [.int .u8 z] fun j u hj => ?_
  match j, hj with
  | 0, hj =>
   cases hj
   simp only [World.cell?]
   rw [show ((⟨w.heap.size, 0, none⟩ : Addr).add 0) = ⟨w.heap.size, 0, none⟩ from rfl, heap_alloc_new]
   rfl
 rw [run_convert_bytes_string _ 134 9 5 _ 1 1 Tryz.underlying134 Tryz.underlying5 Tryz.underlying9, run_bytesToString _ _ 1 1 _ hl, foldl_push_bytes]
 rfl
theorem wC (m : Nat) (h : ¬ m / 10 = 0) : Lib.decDigits m = Lib.decDigits (m / 10) ++ [UInt8.ofNat (48 + m % 10)] := by
 rw [Lib.decDigits, dif_neg (by omega)]
theorem pW (n : Nat) (hn : n < 18446744073459551616) (w : World) :
  Calls Tryz.prog 184 #[.int .u64 n] w fun e w' => e = .returned (.string ⟨(Lib.decDigits n).toArray⟩) ∧ Below w.heap.size w w' := by
 have hlen := (jM 20 n (by decide) (by omega)).2
 generalize hr : (⟨(Lib.decDigits n).toArray⟩ : ByteArray) = r
 have HR : Hid ((⟨(Lib.decDigits n).toArray⟩ : ByteArray) = r) := hr
 clear hr
 go_enter Tryz.func184, Tryz.ntmps184
 go_wp2
 go_loopw [0, 3] (fun u0 u3 wr => ∃ (m : Nat) (t : ByteArray), u0 = .int .u64 m ∧ u3 = .string t ∧ m < 18446744073459551616 ∧ t.size ≤ 20 ∧ Hid (Below w.heap.size w wr ∧ ∃ L : List UInt8, t = ⟨L.toArray⟩ ∧ Lib.decDigits n = Lib.decDigits m ++ L)) (fun u0 _ _ => (intOf u0).toNat)
 case atStart => exact ⟨n, ⟨#[]⟩, rfl, rfl, hn, by decide, Below.refl _ _, [], rfl, by simp⟩
 case round =>
  obtain ⟨m, t, rfl, rfl, hm, ht, hH⟩ := hrel
  have hcv := wB wr (48 + (m : Int) % 10)
  have hne : Hid ((⟨#[UInt8.ofNat (48 + (m : Int) % 10).toNat]⟩ : ByteArray) ++ t = ⟨([UInt8.ofNat (48 + m % 10)] ++ (t.data.toList)).toArray⟩) := by
   show _ = _
   rw [show (48 + (m : Int) % 10).toNat = 48 + m % 10 by omega]
   exact kR [UInt8.ofNat (48 + m % 10)] t.data.toList
  generalize hX : (⟨#[UInt8.ofNat (48 + (m : Int) % 10).toNat]⟩ : ByteArray) = X at *
  have hXs : X.size = 1 := by rw [← hX]; rfl
  clear hX
  have hsz : (X ++ t).size ≤ 21 := by rw [ByteArray.size_append]; omega
  by_cases hz : m / 10 = 0
  ·have hz' : (m : Int) / 10 = 0 := by omega
   have HE : Hid (r = X ++ t) := by
    obtain ⟨_, L, rfl, e⟩ := hH.out
    show _ = _
    rw [← HR.out, hne.out, e, Lib.decDigits_one (by omega)]
    rw [show m % 10 = m by omega]
   go_wp2
   go_ret
   exact ⟨by rw [HE.out]; rfl, hH.out.1.alloc (hH.out.1.size) _⟩
  ·have hz' : ((m : Int) / 10 == 0) = false := by simp; omega
   have HL : Hid (∃ L : List UInt8, X ++ t = ⟨L.toArray⟩ ∧ Lib.decDigits n = Lib.decDigits (m / 10) ++ L) := by
    obtain ⟨_, L, rfl, e⟩ := hH.out
    refine ⟨_, hne.out, ?_⟩
    rw [e, wC m hz]
    simp
   have hs2 : (X ++ t).size ≤ 20 := by
    obtain ⟨L, e1, e2⟩ := HL.out
    rw [e1, size_mk]
    have := congrArg List.length e2
    simp at this
    have := (jM 20 (m / 10) (by decide) (by omega)).1
    omega
   go_wp2
   go_roundw
   case rel => exact ⟨m / 10, X ++ t, by go_num, rfl, by omega, hs2, hH.out.1.alloc (hH.out.1.size) _, HL.out⟩
   case measure => simp [intOf]; omega
theorem aDk (n : Nat) (hn : n ≤ 100000) (w : World) : Calls Tryz.prog 216 #[.int .i64 n] w fun e w' => e = .returned (.string ⟨(Lib.decDigits n).toArray⟩) ∧ Below w.heap.size w w' := by
 have D := fun u => pW n (by omega) u
 generalize (⟨(Lib.decDigits n).toArray⟩ : ByteArray) = A at *
 go_enter Tryz.func216, Tryz.ntmps216
 go_wp2_with (go_at_call 184; refine (D _).mono ?_; rintro e w1 ⟨rfl, hb1⟩; have HB1 : Hid _ := hb1; clear hb1)
 go_ret
 exact ⟨rfl, HB1.out⟩
theorem lH (t : ByteArray) : (⟨t.data.toList.toArray⟩ : ByteArray) = t := by
 cases t
 simp
end Go.Proofs.YtljmklbbngpllaaGreatDoor.Dg
namespace Go.Proofs.YtljmklbbngpllaaGreatDoor
open Go.RowKit
theorem aFg {u : World} {g : Nat} {z : Int} {m : Nat × Nat} (h : u.heap[g]? = some (.cells #[.int .u8 z] 5 m)) : (convert 134 9 (.slice (some ⟨g, 0, none⟩) 1 1)).run Tryz.prog u = .ok (.string ⟨#[UInt8.ofNat z.toNat]⟩) u := by
 have hl : (loadCells ⟨g, 0, none⟩ 1).run Tryz.prog u = .ok (([z] : List Int).map (Value.int .u8)).toArray u := by
  refine run_loadCells_list (P := Tryz.prog) _ ⟨g, 0, none⟩ [.int .u8 z] fun j v hj => ?_
  match j, hj with
  | 0, hj =>
   cases hj
   rw [show ((⟨g, 0, none⟩ : Addr).add 0) = ⟨g, 0, none⟩ from rfl, cell_of_row u _ _ _ 5 _ h]
   rfl
 rw [run_convert_bytes_string _ 134 9 5 _ 1 1 Tryz.underlying134 Tryz.underlying5 Tryz.underlying9, run_bytesToString _ _ 1 1 _ hl, foldl_push_bytes]
 rfl
theorem aJw {w x : World} (hb : Below w.drew.heap.size w.drew x) : Below w.heap.size w x := ⟨hb.os, hb.tape, hb.output, hb.size, hb.block⟩
theorem vD {w w7 : World} {o : Obj} (hb : Below (w.alloc o).drew.heap.size (w.alloc o).drew w7) : Below w.heap.size w w7 ∧ w7.heap[w.heap.size]? = some o := by
 have h : Below (w.alloc o).heap.size (w.alloc o) w7 := ⟨hb.os, hb.tape, hb.output, hb.size, hb.block⟩
 exact ⟨aS h, new1 h⟩
theorem aBd {r c : Int} (h : inB r c = true) : ∃ R C : Nat, r = R ∧ c = C ∧ 1 ≤ R ∧ R ≤ 64 ∧ 1 ≤ C ∧ C ≤ 26 := by
 unfold inB at h
 simp only [Bool.and_eq_true, decide_eq_true_eq] at h
 exact ⟨r.toNat, c.toNat, by omega, by omega, by omega, by omega, by omega, by omega⟩
theorem aBe (R C : Nat) : (⟨#[Ad.dU C]⟩ : ByteArray) ++ ⟨(Lib.decDigits R).toArray⟩ = gI R C false false := by
 unfold gI Ad.cellW
 apply ByteArray.ext
 simp
theorem wrap_u8 {n : Int} (h1 : 0 ≤ n) (h2 : n ≤ 255) : IntKind.u8.wrap n = n := by
 simp [IntKind.wrap, IntKind.bits, IntKind.signed]
 omega
theorem aHm (R C : Nat) (hi : inB R C = true) (hR1 : 1 ≤ R) (hR2 : R ≤ 64) (hC1 : 1 ≤ C) (hC2 : C ≤ 26) (w : World) :
  Calls Tryz.prog 185 #[.int .i64 R, .int .i64 C] w fun e w' => e = .returned (.string (gI R C false false)) ∧ Below w.heap.size w w' := by
 have IN := fun u => aCl R C u
 rw [hi] at IN
 clear hi
 have IT := fun u => Dg.aDk R (by omega) u
 have z3 := lN R hR2
 rw [← aBe]
 generalize (⟨(Lib.decDigits R).toArray⟩ : ByteArray) = X3 at *
 obtain ⟨m1, e1⟩ : ∃ m1 : Int, 65 + (C : Int) = m1 := ⟨_, rfl⟩
 obtain ⟨m2, e2⟩ : ∃ m2 : Int, m1 - 1 = m2 := ⟨_, rfl⟩
 have k1 : IntKind.i64.wrap m1 = m1 := wrap_i64 (by omega) (by omega)
 have k2 : IntKind.i64.wrap m2 = m2 := wrap_i64 (by omega) (by omega)
 have k3 : IntKind.u8.wrap m2 = m2 := wrap_u8 (by omega) (by omega)
 have e4 : (⟨#[UInt8.ofNat m2.toNat]⟩ : ByteArray) = ⟨#[Ad.dU C]⟩ := by
  unfold Ad.dU
  rw [show m2.toNat = 64 + C by omega]
 have z4 : (⟨#[Ad.dU C]⟩ : ByteArray).size ≤ 1 := Nat.le_refl 1
 have CV : Hid (∀ (u : World) (g : Nat) (m : Nat × Nat), u.heap[g]? = some (.cells #[.int .u8 m2] 5 m) → (convert 134 9 (.slice (some ⟨g, 0, none⟩) 1 1)).run Tryz.prog u = .ok (.string ⟨#[Ad.dU C]⟩) u) := fun u g m h => by rw [aFg h, e4]
 clear e4
 generalize (⟨#[Ad.dU C]⟩ : ByteArray) = X4 at *
 have z5 : ¬ 9223372036854775807 < X4.size + X3.size := by omega
 have c1 : (convert 134 9 (.slice (some ⟨w.heap.size, 0, none⟩) 1 1)).run Tryz.prog (w.alloc (.cells #[.int .u8 m2] 5)).drew = .ok (.string X4) (w.alloc (.cells #[.int .u8 m2] 5)).drew := CV.out _ _ _ (heap_alloc_new w _)
 have ITa := IT (w.alloc (.cells #[.int .u8 m2] 5)).drew
 have ITb := IT w.drew
 go_enter Tryz.func185, Tryz.ntmps185
 go_wp2_with (go_at_call 144; refine (IN _).mono ?_; rintro e w' ⟨rfl, hw⟩; obtain rfl := hw.symm; clear hw)
 go_region_held_law (fun _ => True) (trivial) (first
  | (go_at_call 216; refine ITa.mono ?_; rintro e w7 ⟨rfl, hb⟩; have HB : Hid (Below w.heap.size w w7) := (vD hb).1; have c2 := CV.out w7 w.heap.size (0, 0) (vD hb).2; clear hb)
  | (go_at_call 216; refine ITb.mono ?_; rintro e w7 ⟨rfl, hb⟩; have HB : Hid (Below w.heap.size w w7) := aJw hb; have c2 := CV.out (w7.alloc (.cells #[.int .u8 m2] 5)) w7.heap.size (0, 0) (heap_alloc_new w7 _); clear hb))
 ·go_wp2
  go_ret
  exact ⟨rfl, HB.out⟩
 ·go_wp2
  go_ret
  exact ⟨rfl, HB.out⟩
 ·go_wp2
  go_ret
  exact ⟨rfl, aC HB.out _⟩
def rP (b s : ByteArray) (R C : Nat) (fr fc : Bool) : ByteArray := ⟨(Ad.qP ⟨b.data.toList, s.data.toList, ⟨R, C, fr, fc⟩⟩).toArray⟩
def prB (b s : ByteArray) (r c : Int) (fr fc : Bool) : ByteArray := if bB b s r c = true then rP b s r.toNat c.toNat fr fc else ⟨#[]⟩
theorem wM {s : ByteArray} (h : gnF s.data.toList = true) : s.size ≤ 16 := by
 unfold gnF at h
 simp only [Bool.and_eq_true] at h
 rw [← bY]
 exact (nS h.1.1).1
theorem iH {b s : ByteArray} {r c : Int} (h : bB b s r c = true) : ∃ R C : Nat, r = R ∧ c = C ∧ 1 ≤ R ∧ R ≤ 64 ∧ 1 ≤ C ∧ C ≤ 26 ∧
  ((s.toList = [] ∧ b.toList = []) ∨ ((s.toList == []) = false ∧ gnF s.data.toList = true ∧ b.toList = []) ∨ ((s.toList == []) = false ∧ gnF s.data.toList = true ∧ (b.toList == []) = false ∧ gnF b.data.toList = true)) := by
 rcases oU b s r c with ⟨_, h2⟩ | ⟨h1, h3, h4, _⟩ | ⟨_, _, _, h2⟩ | ⟨_, _, _, h2⟩ | ⟨h1, h3, h4, h5, h2⟩ | ⟨h1, h3, h4, h5, h2⟩
 ·rw [h] at h2; cases h2
 ·obtain ⟨R, C, e1, e2, q1, q2, q3, q4⟩ := aBd h1
  exact ⟨R, C, e1, e2, q1, q2, q3, q4, .inl ⟨h3, h4⟩⟩
 ·rw [h] at h2; cases h2
 ·rw [h] at h2; cases h2
 ·obtain ⟨R, C, e1, e2, q1, q2, q3, q4⟩ := aBd h1
  exact ⟨R, C, e1, e2, q1, q2, q3, q4, .inr (.inl ⟨h3, h4, h5⟩)⟩
 ·obtain ⟨R, C, e1, e2, q1, q2, q3, q4⟩ := aBd h1
  exact ⟨R, C, e1, e2, q1, q2, q3, q4, .inr (.inr ⟨h3, h4, h5, h2.symm.trans h⟩)⟩
theorem iI {s : ByteArray} (h : s.toList = []) : s.data.toList = [] := by rw [← ByteArray.toList_eq]; exact h
theorem wN {s : ByteArray} (h : (s.toList == []) = false) : ¬ s.data.toList = [] := by
 rw [← ByteArray.toList_eq]
 simpa using h
theorem oV {b s : ByteArray} {R C : Nat} {fr fc : Bool} (hw : (s.toList = [] ∧ b.toList = []) ∨ ((s.toList == []) = false ∧ gnF s.data.toList = true ∧ b.toList = []) ∨ ((s.toList == []) = false ∧ gnF s.data.toList = true ∧ (b.toList == []) = false ∧ gnF b.data.toList = true)) :
  (s.toList = [] ∧ b.toList = [] ∧ rP b s R C fr fc = gI R C fr fc) ∨ ((s.toList == []) = false ∧ s.size ≤ 16 ∧ b.toList = [] ∧ rP b s R C fr fc = s ++ ⟨#[33]⟩ ++ gI R C fr fc) ∨ ((s.toList == []) = false ∧ s.size ≤ 16 ∧ (b.toList == []) = false ∧ b.size ≤ 16 ∧ rP b s R C fr fc = (⟨#[91]⟩ : ByteArray) ++ b ++ ⟨#[93]⟩ ++ (s ++ ⟨#[33]⟩ ++ gI R C fr fc)) := by
 unfold rP Ad.qP gI
 rcases hw with ⟨h1, h2⟩ | ⟨h1, h3, h2⟩ | ⟨h1, h3, h2, h4⟩
 ·left
  refine ⟨h1, h2, ?_⟩
  simp only [iI h1, iI h2, if_true, List.nil_append]
 ·right; left
  refine ⟨h1, wM h3, h2, ?_⟩
  simp only [iI h2, if_true, List.nil_append, if_neg (wN h1)]
  apply ByteArray.ext
  simp
 ·right; right
  refine ⟨h1, wM h3, h2, wM h4, ?_⟩
  simp only [if_neg (wN h2), if_neg (wN h1)]
  apply ByteArray.ext
  simp
theorem iJ (R C : Nat) (fr fc : Bool) (h1 : 1 ≤ R) (h2 : R ≤ 64) : (gI R C fr fc).size ≤ 5 := by
 rw [← rO]
 have z1 := nV fc
 have z2 := nV fr
 have z3 := lN R h2
 have z4 : (⟨#[Ad.dU C]⟩ : ByteArray).size = 1 := rfl
 simp only [ByteArray.size_append, z4]
 omega
theorem aDl {b s : ByteArray} {r c : Int} {fr fc : Bool} {w : World} (GD : RC (w.alloc (aR b s r c fr fc)) 162 #[aY b s r c fr fc] (.bool false)) :
  Calls Tryz.prog 132 #[aY b s r c fr fc] w fun e w' => e = .returned (.string ⟨#[]⟩) ∧ Below w.heap.size w w' := by
 have HB0 : Hid (Below (w.alloc (aR b s r c fr fc)).heap.size (w.alloc (aR b s r c fr fc)) (w.alloc (aR b s r c fr fc))) := Below.refl _ _
 go_enter Tryz.func132, Tryz.ntmps132
 go_wp2_with (go_at_call 162; refine (GD _ HB0.out).mono ?_; rintro e w1 ⟨rfl, hb⟩; have HB1 : Hid (Below (w.alloc (aR b s r c fr fc)).heap.size (w.alloc (aR b s r c fr fc)) w1) := hb; clear hb)
 go_ret
 exact ⟨rfl, aS HB1.out⟩
theorem zS {b s X R : ByteArray} {r c : Int} {fr fc : Bool} {w : World} (GD : RC (w.alloc (aR b s r c fr fc)) 162 #[aY b s r c fr fc] (.bool true)) (CE : RC (w.alloc (aR b s r c fr fc)) 174 #[aY b s r c fr fc] (.string X)) (hX : X.size ≤ 5)
  (hw : (s.toList = [] ∧ b.toList = [] ∧ R = X) ∨ ((s.toList == []) = false ∧ s.size ≤ 16 ∧ b.toList = [] ∧ R = s ++ ⟨#[33]⟩ ++ X) ∨ ((s.toList == []) = false ∧ s.size ≤ 16 ∧ (b.toList == []) = false ∧ b.size ≤ 16 ∧ R = (⟨#[91]⟩ : ByteArray) ++ b ++ ⟨#[93]⟩ ++ (s ++ ⟨#[33]⟩ ++ X))) :
  Calls Tryz.prog 132 #[aY b s r c fr fc] w fun e w' => e = .returned (.string R) ∧ Below w.heap.size w w' := by
 have HB0 : Hid (Below (w.alloc (aR b s r c fr fc)).heap.size (w.alloc (aR b s r c fr fc)) (w.alloc (aR b s r c fr fc))) := Below.refl _ _
 have y1 : (⟨#[33]⟩ : ByteArray).size ≤ 1 := Nat.le_refl 1
 have y2 : (⟨#[91]⟩ : ByteArray).size ≤ 1 := Nat.le_refl 1
 have y3 : (⟨#[93]⟩ : ByteArray).size ≤ 1 := Nat.le_refl 1
 rcases hw with ⟨h1, h2, rfl⟩ | ⟨h1, h3, h2, rfl⟩ | ⟨h1, h3, h2, h4, rfl⟩
 all_goals
  go_enter Tryz.func132, Tryz.ntmps132
  go_wp2_with (first | (go_at_call 162; refine (GD _ HB0.out).mono ?_; rintro e w1 ⟨rfl, hb⟩; have HB1 : Hid (Below (w.alloc (aR b s r c fr fc)).heap.size (w.alloc (aR b s r c fr fc)) w1) := hb; clear hb; obtain ⟨c0, c1, c2, c3, c4, c5⟩ := aQ (new1 HB1.out)) | (go_at_call 174; refine (CE _ HB1.out).mono ?_; rintro e w2 ⟨rfl, hb⟩; have HB2 : Hid (Below (w.alloc (aR b s r c fr fc)).heap.size (w.alloc (aR b s r c fr fc)) w2) := hb; clear hb; obtain ⟨d0, d1, d2, d3, d4, d5⟩ := aQ (new1 HB2.out)))
  go_ret
  exact ⟨rfl, aS HB2.out⟩
theorem mR (b s : ByteArray) (r c : Int) (fr fc : Bool) (hb : b.size ≤ 9223372036854775807) (hs : s.size ≤ 9223372036854775807) (w : World) (T : eY w) :
  Calls Tryz.prog 132 #[aY b s r c fr fc] w fun e w' => e = .returned (.string (prB b s r c fr fc)) ∧ Below w.heap.size w w' := by
 have GD : RC (w.alloc (aR b s r c fr fc)) 162 #[aY b s r c fr fc] _ := RC.of fun u hu => vC b s r c fr fc hb hs u (T.below (aS hu))
 unfold prB
 cases hg : bB b s r c
 ·rw [hg] at GD
  exact aDl GD
 ·rw [hg] at GD
  obtain ⟨R, C, rfl, rfl, q1, q2, q3, q4, hw⟩ := iH hg
  have CE : RC (w.alloc (aR b s R C fr fc)) 174 #[aY b s R C fr fc] (.string (gI R C fr fc)) := RC.of fun u hu => aDj b s R C fr fc q1 q2 q3 q4 u (T.below (aS hu))
  exact zS GD CE (iJ R C fr fc q1 q2) (oV hw)
def aFh (w : World) : Prop := ∃ t1 p1 t2 p2, w.cell? ⟨6, 0, none⟩ = some (.iface t1 p1) ∧ w.cell? ⟨7, 0, none⟩ = some (.iface t2 p2)
theorem aFh.below {w w' : World} (h : aFh w) (hb : Below w.heap.size w w') : aFh w' := by
 obtain ⟨t1, p1, t2, p2, h1, h2⟩ := h
 exact ⟨t1, p1, t2, p2, (hb.cell (World.block_lt_of_cell? w _ h1)).trans h1, (hb.cell (World.block_lt_of_cell? w _ h2)).trans h2⟩
structure uI (w : World) : Prop where
 t : eY w
 e : aFh w
theorem uI.below {w w' : World} (h : uI w) (hb : Below w.heap.size w w') : uI w' := ⟨h.t.below hb, h.e.below hb⟩
theorem aDm (n : Int) (hn : In64 n) (w : World) (T : mH w) :
  Calls Tryz.prog 170 #[.int .i64 n] w fun e w' => e = .returned (.string ⟨(Lib.itoa n).toArray⟩) ∧ Below w.heap.size w w' := by
 refine (Tryz.strconv_Itoa n hn.1 hn.2 w T).mono ?_
 rintro e w' ⟨rfl, k, os, rfl⟩
 exact ⟨rfl, qZ w k os⟩
theorem aHn {s X : ByteArray} {v : Int} {w : World} (AT : Calls Tryz.prog 220 #[.string s] w fun e w' => e = .returned (.tuple #[.int .i64 v, .nilIface]) ∧ Below w.heap.size w w')
  (IT : RC w 170 #[.int .i64 v] (.string X)) {b : Bool} (hx : (X.toList == s.toList) = b) :
  Calls Tryz.prog 195 #[.string s] w fun e w' => e = .returned (.int .i64 (if b = true then v else 0)) ∧ Below w.heap.size w w' := by
 cases b
 all_goals
  go_enter Tryz.func195, Tryz.ntmps195
  go_wp2_with (first | (go_at_call 220; refine AT.mono ?_; rintro e w1 ⟨rfl, hb⟩; have HB : Hid (Below w.heap.size w w1) := hb; clear hb) | (go_at_call 170; refine (IT _ HB.out).mono ?_; rintro e w2 ⟨rfl, hb⟩; have HB2 : Hid (Below w.heap.size w w2) := hb; clear hb))
  go_ret
  exact ⟨rfl, HB2.out⟩
theorem aCs {s : ByteArray} {v : Int} {w : World} (AT : Calls Tryz.prog 220 #[.string s] w fun e w' => ∃ N, e = .returned (.tuple #[.int .i64 v, .iface 248 (.pointer (some ⟨N, 0, none⟩))]) ∧ Below w.heap.size w w') :
  Calls Tryz.prog 195 #[.string s] w fun e w' => e = .returned (.int .i64 0) ∧ Below w.heap.size w w' := by
 go_enter Tryz.func195, Tryz.ntmps195
 go_wp2_with (go_at_call 220; refine AT.mono ?_; rintro e w1 ⟨N, rfl, hb⟩; have HB : Hid (Below w.heap.size w w1) := hb; clear hb)
 go_ret
 exact ⟨rfl, HB.out⟩
theorem aJx (a b : ByteArray) : (a.toList == b.toList) = decide (a.data.toList = b.data.toList) := by
 rw [ByteArray.toList_eq, ByteArray.toList_eq, Bool.eq_iff_iff]
 simp
theorem wO (l : List UInt8) (hl : l.length ≤ 140737488355328) (w : World) (T : uI w) :
  Calls Tryz.prog 195 #[.string ⟨l.toArray⟩] w fun e w' => e = .returned (.int .i64 (Ad.qQ l)) ∧ Below w.heap.size w w' := by
 obtain ⟨t1, p1, t2, p2, h1, h2⟩ := T.e
 have hz : (⟨l.toArray⟩ : ByteArray).size ≤ 140737488355328 := by rw [size_mk]; exact hl
 unfold Ad.qQ
 cases ha : Lib.atoiAll l with
 | ok v =>
  have AT := Tryz.strconv_Atoi_ok ⟨l.toArray⟩ (by omega) v ha w
  have hv := Lib.atoiAll_bounds ha
  have := aHn (s := ⟨l.toArray⟩) (v := v) (w := w) (AT.mono fun e w' ⟨q1, q2⟩ => ⟨q1, by
   rcases q2 with rfl | ⟨t, rfl⟩
   ·exact Below.refl _ _
   ·exact Lib.bytesWorld_below _ _ _⟩) (RC.of fun u hu => aDm v hv u (T.t.p.below hu)) (aJx _ _)
  simp only [List.toList_toArray, decide_eq_true_eq] at this
  exact this
 | «syntax» =>
  exact aCs ((Tryz.strconv_Atoi_syntax ⟨l.toArray⟩ (by omega) ha _ w h1 (.inr ⟨_, _, rfl⟩)).mono fun e w' ⟨N, q1, _, _, q2⟩ => ⟨N, q1, q2⟩)
 | range =>
  exact aCs ((Tryz.strconv_Atoi_range ⟨l.toArray⟩ (by omega) ha _ w h2 (.inr ⟨_, _, rfl⟩)).mono fun e w' ⟨N, q1, _, _, q2⟩ => ⟨N, q1, q2⟩)
abbrev bZ : Obj := aR ⟨#[]⟩ ⟨#[]⟩ 0 0 false false
def zU (o : Option Ad.Cell) : Value := match o with
 | none => yE
 | some c => aY ⟨#[]⟩ ⟨#[]⟩ c.row c.col c.fr c.fc
section
variable {u : World} {g : Nat} {a b c d e f v : Value} {t : TypeId}
theorem aKv (h : u.heap[g]? = some (.cells #[a, b, c, d, e, f] t (0, 0))) : (u.setCell ⟨g, 2, none⟩ v).heap[g]? = some (.cells #[a, b, v, d, e, f] t (0, 0)) := by
 simp [World.setCell, Array.getElem?_modify, h]
theorem aJa (h : u.heap[g]? = some (.cells #[a, b, c, d, e, f] t (0, 0))) : (u.setCell ⟨g, 3, none⟩ v).heap[g]? = some (.cells #[a, b, c, v, e, f] t (0, 0)) := by
 simp [World.setCell, Array.getElem?_modify, h]
theorem aJb (h : u.heap[g]? = some (.cells #[a, b, c, d, e, f] t (0, 0))) : (u.setCell ⟨g, 4, none⟩ v).heap[g]? = some (.cells #[a, b, c, d, v, f] t (0, 0)) := by
 simp [World.setCell, Array.getElem?_modify, h]
theorem zV {j k : Nat} (hj : g ≠ j) : (u.setCell ⟨g, k, none⟩ v).heap[j]? = u.heap[j]? := by
 simp [World.setCell, Array.getElem?_modify, hj]
end
section
variable {u : World} {g : Nat} {a b c d e f a' b' c' d' e' f' : Value} {t : TypeId}
theorem aDn (h : u.heap[g]? = some (.cells #[a, b, c, d, e, f] t (0, 0))) : ((((((u.setCell ⟨g, 0, none⟩ a').setCell ⟨g, 1, none⟩ b').setCell ⟨g, 2, none⟩ c').setCell ⟨g, 3, none⟩ d').setCell ⟨g, 4, none⟩ e').setCell ⟨g, 5, none⟩ f').heap[g]? = some (.cells #[a', b', c', d', e', f'] t (0, 0)) := by
 simp [World.setCell, Array.getElem?_modify, h]
theorem jF {w : World} (h : Below w.heap.size w u) (hg : w.heap.size ≤ g) : Below w.heap.size w ((((((u.setCell ⟨g, 0, none⟩ a').setCell ⟨g, 1, none⟩ b').setCell ⟨g, 2, none⟩ c').setCell ⟨g, 3, none⟩ d').setCell ⟨g, 4, none⟩ e').setCell ⟨g, 5, none⟩ f') :=
 (((((h.setCell hg _).setCell hg _).setCell hg _).setCell hg _).setCell hg _).setCell hg _
end
theorem lQ {fn : Func} {i j : Tmp} (hr : fn.results = #[.cell i 25, .tmp j]) {tmps : Array Value} {g : Nat} {wf : World} (hp : tmps.getD i undef = .pointer (some ⟨g, 0, none⟩)) {b s : ByteArray} {r c : Int} {fr fc ok : Bool}
  (h : wf.heap[g]? = some (aR b s r c fr fc)) (hj : tmps.getD j undef = .bool ok) : (results fn tmps).run Tryz.prog wf = .ok (.tuple #[aY b s r c fr fc, .bool ok]) wf := by
 obtain ⟨c0, c1, c2, c3, c4, c5⟩ := aQ h
 simp only [Array.getD_eq_getD_getElem?] at hp hj
 simp [results, hr, hp, hj, go_sem, c0, c1, c2, c3, c4, c5]
theorem aFi {A A1 : ByteArray} {fc : Bool} {w : World} (CP : ∀ u, Calls Tryz.prog 33 #[.string A, .string ⟨#[36]⟩] u fun e w' => e = .returned (.tuple #[.string A1, .bool fc]) ∧ w' = u) (h0 : A1.toList = []) :
  Calls Tryz.prog 153 #[.string A] w fun e w' => e = .returned (.tuple #[yE, .bool false]) ∧ Below w.heap.size w w' := by
 go_enter Tryz.func153, Tryz.ntmps153
 go_wp2_with (go_at_call 33; refine (CP _).mono ?_; rintro e w' ⟨rfl, hw⟩; obtain rfl := hw.symm; clear hw)
 refine bodyPost_ret (v := .tuple #[yE, .bool false]) (by simp [results, Tryz.results153, go_sem]) rfl ?_
 refine ⟨rfl, ?_⟩
 repeat (first | exact Below.refl _ _ | refine Below.drew ?_ | refine aC ?_ _ | refine Below.setCell ?_ (by simp) _)
theorem aFj {A A1 : ByteArray} {fc : Bool} {w : World} (CP : ∀ u, Calls Tryz.prog 33 #[.string A, .string ⟨#[36]⟩] u fun e w' => e = .returned (.tuple #[.string A1, .bool fc]) ∧ w' = u) (h0 : (A1.toList == []) = false) (hz : 0 < A1.size)
  (LT : ∀ u, Calls Tryz.prog 193 #[.int .u8 (A1[0].toNat : Nat)] u fun e w' => e = .returned (.bool false) ∧ w' = u) :
  Calls Tryz.prog 153 #[.string A] w fun e w' => e = .returned (.tuple #[yE, .bool false]) ∧ Below w.heap.size w w' := by
 go_enter Tryz.func153, Tryz.ntmps153
 go_wp2_with (first | (go_at_call 33; refine (CP _).mono ?_; rintro e w' ⟨rfl, hw⟩; obtain rfl := hw.symm; clear hw) | (go_at_call 193; refine (LT _).mono ?_; rintro e w' ⟨rfl, hw⟩; obtain rfl := hw.symm; clear hw))
 refine bodyPost_ret (v := .tuple #[yE, .bool false]) (by simp [results, Tryz.results153, go_sem]) rfl ?_
 refine ⟨rfl, ?_⟩
 repeat (first | exact Below.refl _ _ | refine Below.drew ?_ | refine aC ?_ _ | refine Below.setCell ?_ (by simp) _)
theorem aDo {A A1 U V Y A2 : ByteArray} {fc fr ok : Bool} {n C : Int} {w : World} (CP : ∀ u, Calls Tryz.prog 33 #[.string A, .string ⟨#[36]⟩] u fun e w' => e = .returned (.tuple #[.string A1, .bool fc]) ∧ w' = u) (h0 : (A1.toList == []) = false) (hz : 0 < A1.size)
  (LT : ∀ u, Calls Tryz.prog 193 #[.int .u8 (A1[0].toNat : Nat)] u fun e w' => e = .returned (.bool true) ∧ w' = u) (hU : A1.extract 0 1 = U) (hV : A1.extract 1 A1.size = V)
  (UP : ∀ u, Calls Tryz.prog 194 #[.string U] u fun e w' => e = .returned (.string Y) ∧ Below u.heap.size u w') (hY : 0 < Y.size) (hy1 : 65 ≤ (Y[0].toNat : Int)) (hy2 : (Y[0].toNat : Int) ≤ 90) (hC : (Y[0].toNat : Int) - 65 + 1 = C)
  (CQ : ∀ u, Calls Tryz.prog 33 #[.string V, .string ⟨#[36]⟩] u fun e w' => e = .returned (.tuple #[.string A2, .bool fr]) ∧ w' = u)
  (PR : ∀ u, Below w.heap.size w u → Calls Tryz.prog 195 #[.string A2] u fun e w' => e = .returned (.int .i64 n) ∧ Below u.heap.size u w') (IN : ∀ u, Calls Tryz.prog 196 #[.int .i64 n, .int .i64 C] u fun e w' => e = .returned (.bool ok) ∧ w' = u) :
  Calls Tryz.prog 153 #[.string A] w fun e w' => e = .returned (.tuple #[if ok = true then aY ⟨#[]⟩ ⟨#[]⟩ n C fr fc else yE, .bool ok]) ∧ Below w.heap.size w w' := by
 have c1 : (1 : Int) ≤ A1.size := by omega
 go_enter Tryz.func153, Tryz.ntmps153
 go_wp2_with (go_at_call 33; refine (CP _).mono ?_; rintro e w' ⟨rfl, hw⟩; obtain rfl := hw.symm; clear hw)
 refine (LT _).mono ?_
 rintro e w' ⟨rfl, hw⟩
 obtain rfl := hw.symm
 clear hw
 go_wp2_with fail
 refine (UP _).mono ?_
 rintro e w1 ⟨rfl, hb⟩
 obtain ⟨z1, z2⟩ := new2 hb
 have HB1 : Hid (Below w.heap.size w w1) := yF hb
 have Z1 : Hid (w1.heap[w.heap.size]? = some bZ ∧ w1.heap[w.heap.size + 1]? = some (aR ⟨#[]⟩ ⟨#[]⟩ 0 0 false fc)) := ⟨z1, z2⟩
 obtain ⟨c0, c1, c2, c3, c4, c5⟩ := aQ z2
 obtain ⟨f0, f1, f2, f3, f4, f5⟩ := dJ z2
 clear hb z1 z2 UP LT CP
 go_wp2_with fail
 refine (CQ _).mono ?_
 rintro e w' ⟨rfl, hw⟩
 obtain rfl := hw.symm
 clear hw
 go_wp2_with fail
 clear c0 c1 c2 c3 c4 c5 f0 f1 f2 f3 f4 f5
 refine (PR _ ?hh).mono ?_
 case hh => exact (HB1.out.setCell (by simp) _).setCell (by simp) _
 rintro e w2 ⟨rfl, hb⟩
 have HB2 : Hid (Below w.heap.size w w2) := aJ ((HB1.out.setCell (by simp) _).setCell (by simp) _) hb
 have y2 := (hb.block _ (aW (aJb (aJa Z1.out.2)))).trans (aJb (aJa Z1.out.2))
 have y1 := (hb.block w.heap.size (aW ((zV (by omega)).trans ((zV (by omega)).trans Z1.out.1)))).trans ((zV (by omega)).trans ((zV (by omega)).trans Z1.out.1))
 have YY : Hid (w2.heap[w.heap.size]? = some bZ ∧ w2.heap[w.heap.size + 1]? = some (aR ⟨#[]⟩ ⟨#[]⟩ 0 C fr fc)) := ⟨y1, y2⟩
 obtain ⟨c0, c1, c2, c3, c4, c5⟩ := aQ y2
 obtain ⟨f0, f1, f2, f3, f4, f5⟩ := dJ y2
 obtain ⟨d0, d1, d2, d3, d4, d5⟩ := aQ y1
 obtain ⟨e0, e1, e2, e3, e4, e5⟩ := dJ y1
 clear hb y1 y2 Z1
 go_wp2_with fail
 refine (IN _).mono ?_
 rintro e w' ⟨rfl, hw⟩
 obtain rfl := hw.symm
 have x2 := aKv (v := .int .i64 n) YY.out.2
 have x1 := (zV (u := w2) (k := 2) (v := .int .i64 n) (g := w.heap.size + 1) (j := w.heap.size) (by omega)).trans YY.out.1
 have HB3 : Hid (Below w.heap.size w (w2.setCell ⟨w.heap.size + 1, 2, none⟩ (.int .i64 n))) := HB2.out.setCell (by simp) _
 clear hw c0 c1 c2 c3 c4 c5 f0 f1 f2 f3 f4 f5 d0 d1 d2 d3 d4 d5 e0 e1 e2 e3 e4 e5 YY HB2 HB1 IN PR CQ
 generalize w2.setCell ⟨w.heap.size + 1, 2, none⟩ (.int .i64 n) = w3 at *
 have XX : Hid (w3.heap[w.heap.size]? = some bZ) := x1
 obtain ⟨c0, c1, c2, c3, c4, c5⟩ := aQ x2
 obtain ⟨d0, d1, d2, d3, d4, d5⟩ := aQ x1
 obtain ⟨e0, e1, e2, e3, e4, e5⟩ := dJ x1
 clear x1 x2
 cases ok
 ·go_wp2
  exact bodyPost_ret (lQ rfl rfl (aDn XX.out) rfl) rfl ⟨rfl, jF HB3.out (Nat.le_refl _)⟩
 ·go_wp2
  exact bodyPost_ret (lQ rfl rfl (aDn XX.out) rfl) rfl ⟨rfl, jF HB3.out (Nat.le_refl _)⟩
theorem aJy (c : UInt8) (h : Ad.isL c = true) : 65 ≤ ((szB 97 65 c).toNat : Int) ∧ ((szB 97 65 c).toNat : Int) ≤ 90 ∧ ((szB 97 65 c).toNat : Int) - 65 + 1 = (Ad.tZ c : Nat) := by
 unfold Ad.isL at h
 simp only [Bool.or_eq_true, Bool.and_eq_true, decide_eq_true_eq] at h
 unfold szB Ad.tZ
 rcases h with h | h
 ·rw [if_pos (by omega), if_pos (by omega), Ad.toNat_ofNat (by omega)]
  omega
 ·rw [if_neg (by omega), if_neg (by omega)]
  omega
theorem aJz (c : UInt8) (u : World) : Calls Tryz.prog 194 #[.string ⟨#[c]⟩] u fun e w' => e = .returned (.string ⟨#[szB 97 65 c]⟩) ∧ Below u.heap.size u w' := wF ⟨#[c]⟩ (by show 1 ≤ _; decide) u
theorem aBf (c : UInt8) (r : List UInt8) : (⟨(c :: r).toArray⟩ : ByteArray).extract 0 1 = ⟨#[c]⟩ ∧ (⟨(c :: r).toArray⟩ : ByteArray).extract 1 (⟨(c :: r).toArray⟩ : ByteArray).size = ⟨r.toArray⟩ ∧ ((⟨(c :: r).toArray⟩ : ByteArray).toList == []) = false ∧ 0 < (⟨(c :: r).toArray⟩ : ByteArray).size := by
 refine ⟨?_, ?_, ?_, ?_⟩
 ·apply ByteArray.ext
  simp
 ·exact drop_mk (c :: r)
 ·rw [ByteArray.toList_eq]; rfl
 ·rw [size_mk]; simp
theorem aCt (n : Int) (c : Nat) (h1 : 1 ≤ c) (h2 : c ≤ 26) : inB n c = true ↔ Ad.kM n := by
 unfold inB Ad.kM
 simp only [Bool.and_eq_true, decide_eq_true_eq]
 omega
theorem iY (l : List UInt8) (hl : l.length ≤ 140737488355328) (w : World) (T : uI w) :
  Calls Tryz.prog 153 #[.string ⟨l.toArray⟩] w fun e w' => e = .returned (.tuple #[zU (Ad.cellP l), .bool (Ad.cellP l).isSome]) ∧ Below w.heap.size w w' := by
 have CP := fun u => lG 36 l u
 have hlen := Ad.jD 36 l
 unfold Ad.cellP
 cases hs : (Ad.strip 36 l).2 with
 | nil =>
  rw [hs] at CP
  exact aFi CP (by rw [ByteArray.toList_eq])
 | cons c r =>
  rw [hs] at CP hlen
  obtain ⟨k1, k2, k3, k4⟩ := aBf c r
  simp only
  unfold Ad.aEB
  cases hL : Ad.isL c
  ·have LT := fun u => jL c u
   rw [hL] at LT
   rw [if_neg (by simp)]
   exact aFj CP k3 k4 LT
  ·have LT := fun u => jL c u
   rw [hL] at LT
   obtain ⟨b1, b2, _⟩ := Ad.aCk hL
   obtain ⟨y1, y2, y3⟩ := aJy c hL
   have hlr := Ad.jD 36 r
   have W : ∀ ok, inB (Ad.qQ (Ad.strip 36 r).2) (Ad.tZ c : Nat) = ok → _ := fun ok hok => aDo (w := w) (ok := ok) CP k3 k4 LT k1 k2 (fun u => aJz c u) (show 0 < 1 by decide) y1 y2 y3 (fun u => lG 36 r u) (fun u hu => wO (Ad.strip 36 r).2 (by simp only [List.length_cons] at hlen; omega) u (T.below hu)) (fun u => by have := aEG (Ad.qQ (Ad.strip 36 r).2) (Ad.tZ c : Nat) u; rw [hok] at this; exact this)
   rcases Ad.aEF (Ad.strip 36 r).2 with ⟨h1, h2⟩ | ⟨h1, h2⟩
   ·have hx := W true ((aCt _ _ b1 b2).2 h1)
    rw [h2] at hx h1
    unfold Ad.kM at h1
    rw [if_pos ⟨rfl, by omega, by omega⟩]
    exact hx
   ·have hx := W false (by
     cases hb : inB (Ad.qQ (Ad.strip 36 r).2) (Ad.tZ c : Nat)
     ·rfl
     ·exact absurd ((aCt _ _ b1 b2).1 hb) h1)
    rw [if_neg (fun q => h2 q.2)]
    exact hx
end Go.Proofs.YtljmklbbngpllaaGreatDoor
