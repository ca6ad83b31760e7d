/- The contracts of the reference's Digits, Itoa, pad and Print. -/
import Derived.Test.YtnjkckkcepkaoaaDoorDPrint
namespace Go.Proofs.YtnjkckkcepkaoaaDoor
open Go.RowKit
set_option linter.unusedVariables false
set_option maxRecDepth 100000

theorem conv47 (w : World) (z : Int) : (convert 47 9 (.slice (some ⟨w.heap.size, 0, none⟩) 1 1)).run Tryd.prog (w.alloc (.cells #[.int .u8 z] 5)) = .ok (.string ⟨#[UInt8.ofNat z.toNat]⟩) (w.alloc (.cells #[.int .u8 z] 5)) := by
  have hl : (loadCells ⟨w.heap.size, 0, none⟩ 1).run Tryd.prog (w.alloc (.cells #[.int .u8 z] 5)) = .ok (([z] : List Int).map (Value.int .u8)).toArray (w.alloc (.cells #[.int .u8 z] 5)) := by
    refine run_loadCells_list (P := Tryd.prog) _ ⟨w.heap.size, 0, none⟩ [.int .u8 z] fun j u hj => ?_
    match j, hj with
    | 0, hj =>
      cases hj
      simp only [World.cell?]
      rw [show ((⟨w.heap.size, 0, none⟩ : Addr).add 0) = ⟨w.heap.size, 0, none⟩ from rfl, heap_alloc_new]
      rfl
  rw [run_convert_bytes_string _ 47 9 5 _ 1 1 Tryd.underlying47 Tryd.underlying5 Tryd.underlying9, run_bytesToString _ _ 1 1 _ hl, foldl_push_bytes]
  rfl
theorem dec_two (m : Nat) (h : ¬ m / 10 = 0) : Lib.decDigits m = Lib.decDigits (m / 10) ++ [UInt8.ofNat (48 + m % 10)] := by
  rw [Lib.decDigits, dif_neg (by omega)]
set_option maxHeartbeats 1000000 in
theorem rDigits_any (n : Nat) (hn : n < 18446744073459551616) (w : World) :
    Calls Tryd.prog 45 #[.int .u64 n] w fun e w' => e = .returned (.string ⟨(Lib.decDigits n).toArray⟩) ∧ Below w.heap.size w w' := by
  have hlen := (dec_len 20 n (by decide) (by omega)).2
  generalize hr : (⟨(Lib.decDigits n).toArray⟩ : ByteArray) = r
  have HR : Hid ((⟨(Lib.decDigits n).toArray⟩ : ByteArray) = r) := hr
  clear hr
  go_enter Tryd.func45, Tryd.ntmps45
  go_wp2
  go_loopw [0, 3] (fun u0 u3 wr => ∃ (m : Nat) (t : ByteArray), u0 = .int .u64 m ∧ u3 = .string t ∧ m < 18446744073459551616 ∧ t.size ≤ 20 ∧ Hid (Below w.heap.size w wr ∧ ∃ L : List UInt8, t = ⟨L.toArray⟩ ∧ Lib.decDigits n = Lib.decDigits m ++ L)) (fun u0 _ _ => (intOf u0).toNat)
  case atStart => exact ⟨n, ⟨#[]⟩, rfl, rfl, hn, by decide, Below.refl _ _, [], rfl, by simp⟩
  case round =>
    obtain ⟨m, t, rfl, rfl, hm, ht, hH⟩ := hrel
    have hcv := conv47 wr (48 + (m : Int) % 10)
    have hne : Hid ((⟨#[UInt8.ofNat (48 + (m : Int) % 10).toNat]⟩ : ByteArray) ++ t = ⟨([UInt8.ofNat (48 + m % 10)] ++ (t.data.toList)).toArray⟩) := by
      show _ = _
      rw [show (48 + (m : Int) % 10).toNat = 48 + m % 10 by omega]
      exact app_mk [UInt8.ofNat (48 + m % 10)] t.data.toList
    generalize hX : (⟨#[UInt8.ofNat (48 + (m : Int) % 10).toNat]⟩ : ByteArray) = X at *
    have hXs : X.size = 1 := by rw [← hX]; rfl
    clear hX
    have hsz : (X ++ t).size ≤ 21 := by rw [ByteArray.size_append]; omega
    by_cases hz : m / 10 = 0
    · have hz' : (m : Int) / 10 = 0 := by omega
      have HE : Hid (r = X ++ t) := by
        obtain ⟨_, L, rfl, e⟩ := hH.out
        show _ = _
        rw [← HR.out, hne.out, e, Lib.decDigits_one (by omega)]
        rw [show m % 10 = m by omega]
      go_wp2
      go_ret
      exact ⟨by rw [HE.out]; rfl, hH.out.1.alloc (hH.out.1.size) _⟩
    · have hz' : ((m : Int) / 10 == 0) = false := by simp; omega
      have HL : Hid (∃ L : List UInt8, X ++ t = ⟨L.toArray⟩ ∧ Lib.decDigits n = Lib.decDigits (m / 10) ++ L) := by
        obtain ⟨_, L, rfl, e⟩ := hH.out
        refine ⟨_, hne.out, ?_⟩
        rw [e, dec_two m hz]
        simp
      have hs2 : (X ++ t).size ≤ 20 := by
        obtain ⟨L, e1, e2⟩ := HL.out
        rw [e1, size_mk]
        have := congrArg List.length e2
        simp at this
        have := (dec_len 20 (m / 10) (by decide) (by omega)).1
        omega
      go_wp2
      go_roundw
      case rel => exact ⟨m / 10, X ++ t, by go_num, rfl, by omega, hs2, hH.out.1.alloc (hH.out.1.size) _, HL.out⟩
      case measure => simp [intOf]; omega
set_option maxHeartbeats 1000000 in
theorem ritoa_any (n : Nat) (hn : n ≤ 100000) (w : World) : Calls Tryd.prog 43 #[.int .i64 n] w fun e w' => e = .returned (.string ⟨(Lib.decDigits n).toArray⟩) ∧ Below w.heap.size w w' := by
  have D := fun u => rDigits_any n (by omega) u
  generalize (⟨(Lib.decDigits n).toArray⟩ : ByteArray) = A at *
  go_enter Tryd.func43, Tryd.ntmps43
  go_wp2_with (go_at_call 45; refine (D _).mono ?_; rintro e w1 ⟨rfl, hb1⟩; have HB1 : Hid _ := hb1; clear hb1)
  go_ret
  exact ⟨rfl, HB1.out⟩
set_option maxHeartbeats 1000000 in
theorem pad_full {n : Nat} {k : Int} {A : ByteArray} {w : World} (I : ∀ u : World, Calls Tryd.prog 43 #[.int .i64 n] u fun e w' => e = .returned (.string A) ∧ Below u.heap.size u w') (hA : (A.size : Int) = k) (hk : A.size ≤ 10) :
    Calls Tryd.prog 40 #[.int .i64 n, .int .i64 k] w fun e w' => e = .returned (.string A) ∧ Below w.heap.size w w' := by
  subst hA
  go_enter Tryd.func40, Tryd.ntmps40
  go_wp2_with (go_at_call 43; refine (I _).mono ?_; rintro e w1 ⟨rfl, hb1⟩; have HB1 : Hid _ := hb1; clear hb1)
  go_loop [5] (fun s => s = .string A) (fun _ => 0)
  case atStart => rfl
  case round =>
    subst hrel
    go_wp2
    go_ret
    exact ⟨rfl, HB1.out⟩
set_option maxHeartbeats 1000000 in
theorem pad_one {n : Nat} {A : ByteArray} {w : World} (I : ∀ u : World, Calls Tryd.prog 43 #[.int .i64 n] u fun e w' => e = .returned (.string A) ∧ Below u.heap.size u w') (hA : A.size = 1) (hB : ((⟨#[48]⟩ : ByteArray) ++ A).size = 2) :
    Calls Tryd.prog 40 #[.int .i64 n, .int .i64 2] w fun e w' => e = .returned (.string (⟨#[48]⟩ ++ A)) ∧ Below w.heap.size w w' := by
  have o1 := one_lt 48
  generalize hX : ((⟨#[48]⟩ : ByteArray) ++ A) = X at *
  go_enter Tryd.func40, Tryd.ntmps40
  go_wp2_with (go_at_call 43; refine (I _).mono ?_; rintro e w1 ⟨rfl, hb1⟩; have HB1 : Hid _ := hb1; clear hb1)
  go_loop [5] (fun s => s = .string A ∨ s = .string X) (fun s => match s with | .string t => 2 - t.size | _ => 0)
  case atStart => exact .inl rfl
  case round =>
    rcases hrel with rfl | rfl
    · go_wp2
      go_round
      case rel => exact .inr rfl
      case measure => simp [hA, hB]
    · go_wp2
      go_ret
      exact ⟨rfl, HB1.out⟩
theorem pad_two (n : Nat) (hn : n < 100) (w : World) : Calls Tryd.prog 40 #[.int .i64 n, .int .i64 2] w fun e w' => e = .returned (.string ⟨(pad2 n).toArray⟩) ∧ Below w.heap.size w w' := by
  have hl := pad2_len n hn
  by_cases h : n < 10
  · have hX : (⟨(pad2 n).toArray⟩ : ByteArray) = ⟨#[48]⟩ ++ ⟨(Lib.decDigits n).toArray⟩ := by
      rw [one_mk, app_mk]
      unfold pad2
      rw [if_pos h]
      rfl
    rw [hX]
    refine pad_one (fun u => ritoa_any n (by omega) u) ?_ ?_
    · rw [size_mk, Lib.decDigits_one h]; rfl
    · rw [← hX, size_mk]; exact hl
  · have hX : pad2 n = Lib.decDigits n := by unfold pad2; rw [if_neg h]
    rw [hX] at hl ⊢
    refine pad_full (fun u => ritoa_any n (by omega) u) ?_ ?_
    · rw [size_mk, hl]; rfl
    · rw [size_mk, hl]; omega
theorem pad_year (n : Nat) (h1 : 1000 ≤ n) (h2 : n ≤ 9999) (w : World) : Calls Tryd.prog 40 #[.int .i64 n, .int .i64 4] w fun e w' => e = .returned (.string ⟨(Lib.decDigits n).toArray⟩) ∧ Below w.heap.size w w' := by
  have hl := dec_len4 n h1 h2
  refine pad_full (fun u => ritoa_any n (by omega) u) ?_ ?_
  · rw [size_mk, hl]; rfl
  · rw [size_mk, hl]; omega
set_option maxHeartbeats 1000000 in
theorem rprint_no {day : Int} (hg : goodD day = false) (w : World) : Calls Tryd.prog 28 #[.int .i64 day] w fun e w' => e = .returned (.string ⟨#[]⟩) ∧ w' = w := by
  have P := fun u => rparts_no hg u
  unfold four at P
  go_enter Tryd.func28, Tryd.ntmps28
  go_wp2_with (go_at_call 18; refine (P _).mono ?_; rintro e w' ⟨rfl, hw⟩; obtain rfl := hw.symm; clear hw)
  go_ret
  exact ⟨rfl, rfl⟩
set_option maxHeartbeats 1000000 in
theorem rprint_core {day Y M D : Int} {A1 A2 A3 : ByteArray} {w : World}
    (P : ∀ u : World, Calls Tryd.prog 18 #[.int .i64 day] u fun e w' => e = .returned (.tuple #[.int .i64 Y, .int .i64 M, .int .i64 D, .bool true]) ∧ w' = u)
    (I : ∀ u : World, Calls Tryd.prog 40 #[.int .i64 Y, .int .i64 4] u fun e w' => e = .returned (.string A1) ∧ Below u.heap.size u w')
    (T2 : ∀ u : World, Calls Tryd.prog 40 #[.int .i64 M, .int .i64 2] u fun e w' => e = .returned (.string A2) ∧ Below u.heap.size u w')
    (T3 : ∀ u : World, Calls Tryd.prog 40 #[.int .i64 D, .int .i64 2] u fun e w' => e = .returned (.string A3) ∧ Below u.heap.size u w')
    (h1 : A1.size ≤ 4) (h2 : A2.size ≤ 2) (h3 : A3.size ≤ 2) (ho : (⟨#[45]⟩ : ByteArray).size = 1) :
    Calls Tryd.prog 28 #[.int .i64 day] w fun e w' => e = .returned (.string (A1 ++ ⟨#[45]⟩ ++ A2 ++ ⟨#[45]⟩ ++ A3)) ∧ Below w.heap.size w w' := by
  have e1 : (A1 ++ ⟨#[45]⟩).size ≤ 5 := by rw [ByteArray.size_append]; omega
  have e2 : (A1 ++ ⟨#[45]⟩ ++ A2).size ≤ 7 := by rw [ByteArray.size_append]; omega
  have e3 : (A1 ++ ⟨#[45]⟩ ++ A2 ++ ⟨#[45]⟩).size ≤ 8 := by rw [ByteArray.size_append]; omega
  go_enter Tryd.func28, Tryd.ntmps28
  go_wp2_with fail
  refine (P _).mono ?_
  rintro e w' ⟨rfl, hw⟩
  obtain rfl := hw.symm
  clear hw
  go_wp2_with fail
  refine (I _).mono ?_
  rintro e w1 ⟨rfl, hb1⟩
  have HB1 : Hid _ := hb1
  clear hb1
  go_wp2_with fail
  refine (T2 _).mono ?_
  rintro e w2 ⟨rfl, hb2⟩
  have HB2 : Hid _ := hb2
  clear hb2
  go_wp2_with fail
  refine (T3 _).mono ?_
  rintro e w3 ⟨rfl, hb3⟩
  have HB3 : Hid _ := hb3
  clear hb3
  go_wp2
  go_ret
  exact ⟨rfl, HB1.out.trans ((HB2.out.trans (HB3.out.mono HB2.out.size)).mono HB1.out.size)⟩
theorem rprint_yes {day : Int} {y m d : Nat} (h : Cal.IsDate y m d day) (w : World) : Calls Tryd.prog 28 #[.int .i64 day] w fun e w' => e = .returned (.string ⟨(printD y m d).toArray⟩) ∧ Below w.heap.size w w' := by
  have a := h.y1; have b := h.y2; have c := h.m1; have e := h.m2; have f := h.d1; have g := h.d2
  have k := last31 (y : Int) (m : Int)
  rw [← printD_mk]
  refine rprint_core (Y := y) (M := m) (D := d) (fun u => rparts_yes h u) (fun u => pad_year y (by omega) (by omega) u) (fun u => pad_two m (by omega) u) (fun u => pad_two d (by omega) u) ?_ ?_ ?_ rfl
  · rw [size_mk, dec_len4 y (by omega) (by omega)]; omega
  · rw [size_mk, pad2_len m (by omega)]; omega
  · rw [size_mk, pad2_len d (by omega)]; omega
end Go.Proofs.YtnjkckkcepkaoaaDoor
