/- The contracts of the reference's Digits, Itoa, pad and Print. -/
import Derived.Test.YtjimgjohfpcnpaaDoorNPrint
namespace Go.Proofs.YtjimgjohfpcnpaaDoor
open Go.RowKit
set_option linter.unusedSimpArgs false
set_option linter.unusedVariables false
set_option maxRecDepth 100000

theorem conv52 (w : World) (z : Int) : (convert 52 9 (.slice (some ⟨w.heap.size, 0, none⟩) 1 1)).run Tryd.prog (w.alloc (.cells #[.int .u8 z] 5)) = .ok (.string ⟨#[UInt8.ofNat z.toNat]⟩) (w.alloc (.cells #[.int .u8 z] 5)) := by
  have hl : (loadCells ⟨w.heap.size, 0, none⟩ 1).run Tryd.prog (w.alloc (.cells #[.int .u8 z] 5)) = .ok (([z] : List Int).map (Value.int .u8)).toArray (w.alloc (.cells #[.int .u8 z] 5)) := by
    refine run_loadCells_list (P := Tryd.prog) _ ⟨w.heap.size, 0, none⟩ [.int .u8 z] fun j u hj => ?_
    match j, hj with
    | 0, hj =>
      cases hj
      simp only [World.cell?]
      rw [show ((⟨w.heap.size, 0, none⟩ : Addr).add 0) = ⟨w.heap.size, 0, none⟩ from rfl, heap_alloc_new]
      rfl
  rw [run_convert_bytes_string _ 52 9 5 _ 1 1 Tryd.underlying52 Tryd.underlying5 Tryd.underlying9, run_bytesToString _ _ 1 1 _ hl, foldl_push_bytes]
  rfl
theorem dec_two (m : Nat) (h : ¬ m / 10 = 0) : Lib.decDigits m = Lib.decDigits (m / 10) ++ [UInt8.ofNat (48 + m % 10)] := by
  rw [Lib.decDigits, dif_neg (by omega)]
set_option maxHeartbeats 1000000 in
theorem rDigits_any (n : Nat) (hn : n < 18446744073459551616) (w : World) :
    Calls Tryd.prog 61 #[.int .u64 n] w fun e w' => e = .returned (.string ⟨(Lib.decDigits n).toArray⟩) ∧ Below w.heap.size w w' := by
  have hlen := (dec_len 20 n (by decide) (by omega)).2
  generalize hr : (⟨(Lib.decDigits n).toArray⟩ : ByteArray) = r
  have HR : Hid ((⟨(Lib.decDigits n).toArray⟩ : ByteArray) = r) := hr
  clear hr
  go_enter Tryd.func61, Tryd.ntmps61
  go_wp2
  go_loopw [0, 3] (fun u0 u3 wr => ∃ (m : Nat) (t : ByteArray), u0 = .int .u64 m ∧ u3 = .string t ∧ m < 18446744073459551616 ∧ t.size ≤ 20 ∧ Hid (Below w.heap.size w wr ∧ ∃ L : List UInt8, t = ⟨L.toArray⟩ ∧ Lib.decDigits n = Lib.decDigits m ++ L)) (fun u0 _ _ => (intOf u0).toNat)
  case atStart => exact ⟨n, ⟨#[]⟩, rfl, rfl, hn, by decide, Below.refl _ _, [], rfl, by simp⟩
  case round =>
    obtain ⟨m, t, rfl, rfl, hm, ht, hH⟩ := hrel
    have hcv := conv52 wr (48 + (m : Int) % 10)
    have hne : Hid ((⟨#[UInt8.ofNat (48 + (m : Int) % 10).toNat]⟩ : ByteArray) ++ t = ⟨([UInt8.ofNat (48 + m % 10)] ++ (t.data.toList)).toArray⟩) := by
      show _ = _
      rw [show (48 + (m : Int) % 10).toNat = 48 + m % 10 by omega]
      exact app_mk [UInt8.ofNat (48 + m % 10)] t.data.toList
    generalize hX : (⟨#[UInt8.ofNat (48 + (m : Int) % 10).toNat]⟩ : ByteArray) = X at *
    have hXs : X.size = 1 := by rw [← hX]; rfl
    clear hX
    have hsz : (X ++ t).size ≤ 21 := by rw [ByteArray.size_append]; omega
    by_cases hz : m / 10 = 0
    · have hz' : (m : Int) / 10 = 0 := by omega
      have HE : Hid (r = X ++ t) := by
        obtain ⟨_, L, rfl, e⟩ := hH.out
        show _ = _
        rw [← HR.out, hne.out, e, Lib.decDigits_one (by omega)]
        rw [show m % 10 = m by omega]
      go_wp2
      go_ret
      exact ⟨by rw [HE.out]; rfl, hH.out.1.alloc (hH.out.1.size) _⟩
    · have hz' : ((m : Int) / 10 == 0) = false := by simp; omega
      have HL : Hid (∃ L : List UInt8, X ++ t = ⟨L.toArray⟩ ∧ Lib.decDigits n = Lib.decDigits (m / 10) ++ L) := by
        obtain ⟨_, L, rfl, e⟩ := hH.out
        refine ⟨_, hne.out, ?_⟩
        rw [e, dec_two m hz]
        simp
      have hs2 : (X ++ t).size ≤ 20 := by
        obtain ⟨L, e1, e2⟩ := HL.out
        rw [e1, size_mk]
        have := congrArg List.length e2
        simp at this
        have := (dec_len 20 (m / 10) (by decide) (by omega)).1
        omega
      go_wp2
      go_roundw
      case rel => exact ⟨m / 10, X ++ t, by go_num, rfl, by omega, hs2, hH.out.1.alloc (hH.out.1.size) _, HL.out⟩
      case measure => simp [intOf]; omega
set_option maxHeartbeats 1000000 in
theorem ritoa_any (n : Nat) (hn : n ≤ 100000) (w : World) : Calls Tryd.prog 47 #[.int .i64 n] w fun e w' => e = .returned (.string ⟨(Lib.decDigits n).toArray⟩) ∧ Below w.heap.size w w' := by
  have D := fun u => rDigits_any n (by omega) u
  generalize (⟨(Lib.decDigits n).toArray⟩ : ByteArray) = A at *
  go_enter Tryd.func47, Tryd.ntmps47
  go_wp2_with (go_at_call 61; refine (D _).mono ?_; rintro e w1 ⟨rfl, hb1⟩; have HB1 : Hid _ := hb1; clear hb1)
  go_ret
  exact ⟨rfl, HB1.out⟩
theorem all_at (s : ByteArray) (k : Nat) (h : k < s.size) (hall : s.data.toList.all isD = true) : isD s[k] = true := by
  rw [byte_at s k h (by rw [size_list]; exact h)]
  exact List.all_eq_true.1 hall _ (List.getElem_mem _)
theorem all_step (s : ByteArray) (k : Nat) (h : k < s.size) (ha : (s.data.toList.take k).all isD = true) (hb : isD s[k] = true) : (s.data.toList.take (k + 1)).all isD = true := by
  rw [take_snoc _ _ (by rw [size_list]; exact h), List.all_append, ha, ← byte_at s k h (by rw [size_list]; exact h)]
  simp [hb]
theorem conv_bytes (s : ByteArray) (w : World) : ∃ (c : Nat) (wb : World), (convert 9 52 (.string s)).run Tryd.prog w = .ok (.slice (some ⟨w.heap.size, 0, none⟩) s.size c) wb ∧
    (∀ (k : Nat) (h : k < s.size), wb.cell? ⟨w.heap.size, k, none⟩ = some (.int .u8 (s[k].toNat : Int))) ∧ Below w.heap.size w wb := by
  refine ⟨_, _, run_bytes_of_string w 9 52 5 s Tryd.underlying9 Tryd.underlying52 Tryd.underlying5, fun k h => ?_, ?_⟩
  · have h2 : k < s.data.size := h
    rw [show w.heap.size = w.drew.heap.size from rfl, World.cell?_alloc_mark, bytesRow_at _ _ _ h2]
    rfl
  · exact ((Below.refl w.heap.size w).drew).alloc (Nat.le_refl _) _

theorem mk_list (t : ByteArray) : (⟨t.data.toList.toArray⟩ : ByteArray) = t := by
  cases t
  simp

end Go.Proofs.YtjimgjohfpcnpaaDoor
