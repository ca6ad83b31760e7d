/- RErr, ROps. -/
import Derived.Test.YtlndkjcincflpaaGreatDoorRNmBX
set_option linter.unusedVariables false
set_option linter.unusedSimpArgs false
namespace Go.Proofs.YtlndkjcincflpaaGreatDoor
open Go.RowKit
set_option maxRecDepth 100000
theorem pre_ways (l p : List UInt8) : (p.isPrefixOf l = true ∧ p.length ≤ l.length ∧ (((ba l).extract 0 p.length).toList == (ba p).toList) = true) ∨
    (p.isPrefixOf l = false ∧ p.length ≤ l.length ∧ (((ba l).extract 0 p.length).toList == (ba p).toList) = false) ∨ (p.isPrefixOf l = false ∧ ¬ p.length ≤ l.length) := by
  have h := Lib.hasPrefix_raw (ba l) (ba p)
  rw [show Lib.hasPrefix (ba l).data.toList (ba p).data.toList = p.isPrefixOf l from rfl, size_mk, size_mk] at h
  by_cases hle : p.length ≤ l.length
  · rw [decide_eq_true hle, Bool.true_and] at h
    cases hp : p.isPrefixOf l
    · exact .inr (.inl ⟨rfl, hle, by rw [h, hp]⟩)
    · exact .inl ⟨rfl, hle, by rw [h, hp]⟩
  · rw [decide_eq_false hle, Bool.false_and] at h
    exact .inr (.inr ⟨h.symm, hle⟩)
set_option maxHeartbeats 4000000 in
theorem one_err (l : List UInt8) (S : ByteArray) (hS : S = ba l) (hs : S.size = l.length) (hl : l.length ≤ 255) (h0 : 0 < S.size) (w : World)
    (DG : ∀ u, Calls Tryz.prog 90 #[.int .u8 (S[0].toNat : Nat)] u fun e w' => e = .returned (.bool false) ∧ w' = u) (h34 : ((S[0].toNat : Int) == 34) = false) (h35 : ((S[0].toNat : Int) == 35) = true) :
    Calls Tryz.prog 123 #[.string S] w (AnsR w l (Tk.badF l)) := by
  have HZ0 : Hid (RZ w (w.alloc tkR)) := RZ.begin w
  have NA := fun u => names_any u
  have HI : Hid (∀ (i : Nat) (h : i < 9) (W : World), (Instr.index 135 (.agg namesV) (.int .i64 (i : Int))).run Tryz.prog W = .ok (.string (fnm i)) W) := index_names
  have HP : Hid (∀ p : List UInt8, (p.isPrefixOf l = true ∧ p.length ≤ l.length ∧ ((S.extract 0 p.length).toList == (ba p).toList) = true) ∨
    (p.isPrefixOf l = false ∧ p.length ≤ l.length ∧ ((S.extract 0 p.length).toList == (ba p).toList) = false) ∨ (p.isPrefixOf l = false ∧ ¬ p.length ≤ l.length)) := fun p => by rw [hS]; exact pre_ways l p
  generalize ho : Tk.badF l = o
  have HO : Hid (Tk.badF l = o) := ho
  clear ho hS
  generalize namesV = V at *
  go_enter Tryz.func123, Tryz.ntmps123
  go_wp2_with (first
    | (go_at_call 90; refine (DG _).mono ?_; rintro e w' ⟨rfl, hw⟩; obtain rfl := hw.symm; clear hw)
    | (go_at_call 117; refine (NA _).mono ?_; rintro e w2 ⟨rfl, hb⟩; have HZ2 : Hid (RZ w w2) := HZ0.out.below hb; clear hb))
  clear DG NA HZ0
  go_loop [8, 9, 61] (fun _ _ i => ∃ k : Nat, k ≤ 9 ∧ i = .int .i64 k ∧ Hid (∀ j, 1 ≤ j → j < k → (Tk.errN j).isPrefixOf l = false)) (fun _ _ i => 9 - (intOf i).toNat)
  case atStart => exact ⟨0, Nat.zero_le _, rfl, fun j h1 h2 => by omega⟩
  case round =>
    obtain ⟨k, hk, rfl, HJ⟩ := hrel
    by_cases hlt : k < 9
    · have hki : (k : Int) < 9 := by omega
      have IX := HI.out k hlt
      by_cases hk0 : k = 0
      · have hz : ¬ (0 : Int) < (k : Int) := by omega
        have HN : Hid (∀ j, 1 ≤ j → j < k + 1 → (Tk.errN j).isPrefixOf l = false) := fun j h1 h2 => by omega
        clear HJ HI HP HO hk0
        generalize fnm k = F at *
        go_wp2
        go_round
        case rel => exact ⟨k + 1, by omega, by go_num, HN⟩
        case measure => simp [intOf]; omega
      · have hz : (0 : Int) < (k : Int) := by omega
        rw [fnm_err k hlt] at IX
        have hF : (ba (Tk.errN k)).size = (Tk.errN k).length := size_mk _
        have hp := HP.out (Tk.errN k)
        have HH : Hid ((Tk.errN k).isPrefixOf l = true → o = some (.bad k, l.drop (Tk.errN k).length)) := fun h => by
          rw [← HO.out, bad_hit (by omega) (by omega) HJ.out h]
        have HN : Hid ((Tk.errN k).isPrefixOf l = false → ∀ j, 1 ≤ j → j < k + 1 → (Tk.errN j).isPrefixOf l = false) := fun h j h1 h2 => by
          by_cases e : j = k
          · rw [e]; exact h
          · exact HJ.out j h1 (by omega)
        clear HJ HI HP HO
        rcases hp with ⟨h1, h2, h3⟩ | ⟨h1, h2, h3⟩ | ⟨h1, h2⟩
        · have HH2 : Hid (o = some (.bad k, l.drop (Tk.errN k).length)) := HH.out h1
          have HL : Hid (l.length - (l.drop (Tk.errN k).length).length = (Tk.errN k).length) := by show _ = _; simp; omega
          have RR := HZ2.out.put 6 (k : Nat) noB noB noB 0 0 false false
          clear HH HN h1
          generalize ba (Tk.errN k) = F at *
          generalize (Tk.errN k).length = z at *
          have h2i : (z : Int) ≤ l.length := by omega
          go_wp2_with (refine wpList_store_run rfl 138 _ _ rfl _ _ _ rfl rfl RR.out ?_)
          refine bodyPost_ret (v := .tuple #[.agg (tcs 6 (k : Nat) noB noB noB 0 0 false false), .int .i64 (z : Int)]) (HZ2.out.ans (tcs 6 (k : Nat) noB noB noB 0 0 false false) rfl rfl rfl rfl) rfl ?_
          rw [HH2.out]
          refine ⟨HZ2.out.fin _, ?_⟩
          show _ = Ending.returned _
          rw [HL.out]
          rfl
        · have HN2 : Hid (∀ j, 1 ≤ j → j < k + 1 → (Tk.errN j).isPrefixOf l = false) := HN.out h1
          clear HH HN h1
          generalize ba (Tk.errN k) = F at *
          generalize (Tk.errN k).length = z at *
          have h2i : (z : Int) ≤ l.length := by omega
          go_wp2
          go_round
          case rel => exact ⟨k + 1, by omega, by go_num, HN2⟩
          case measure => simp [intOf]; omega
        · have HN2 : Hid (∀ j, 1 ≤ j → j < k + 1 → (Tk.errN j).isPrefixOf l = false) := HN.out h1
          clear HH HN h1
          generalize ba (Tk.errN k) = F at *
          generalize (Tk.errN k).length = z at *
          have h2i : ¬ (z : Int) ≤ l.length := by omega
          go_wp2
          go_round
          case rel => exact ⟨k + 1, by omega, by go_num, HN2⟩
          case measure => simp [intOf]; omega
    · have hki : ¬ (k : Int) < 9 := by omega
      have HH2 : Hid (o = none) := by
        show _ = _
        rw [← HO.out, bad_miss (fun j h1 h2 => HJ.out j h1 (by omega))]
      have RR := HZ2.out.put 0 0 noB noB noB 0 0 false false
      clear HJ HI HP HO
      go_wp2_with (refine wpList_store_run rfl 138 _ _ rfl _ _ _ rfl rfl RR.out ?_)
      refine bodyPost_ret (v := .tuple #[.agg tk0, .int .i64 0]) (HZ2.out.ans tk0 rfl rfl rfl rfl) rfl ?_
      rw [HH2.out]
      exact ⟨HZ2.out.fin _, rfl⟩
end Go.Proofs.YtlndkjcincflpaaGreatDoor

namespace Go.Proofs.YtlndkjcincflpaaGreatDoor
open Go.RowKit
set_option maxRecDepth 100000
theorem ix30 (W : World) : (Instr.index 175 (.agg #[.string ⟨#[60, 62]⟩, .string ⟨#[60, 61]⟩, .string ⟨#[62, 61]⟩]) (.int .i64 0)).run Tryz.prog W = .ok (.string (ba [60, 62])) W := by kernel_rfl
theorem ix31 (W : World) : (Instr.index 175 (.agg #[.string ⟨#[60, 62]⟩, .string ⟨#[60, 61]⟩, .string ⟨#[62, 61]⟩]) (.int .i64 1)).run Tryz.prog W = .ok (.string (ba [60, 61])) W := by kernel_rfl
theorem ix32 (W : World) : (Instr.index 175 (.agg #[.string ⟨#[60, 62]⟩, .string ⟨#[60, 61]⟩, .string ⟨#[62, 61]⟩]) (.int .i64 2)).run Tryz.prog W = .ok (.string (ba [62, 61])) W := by kernel_rfl
theorem index_two (i : Nat) (h : i < 3) (W : World) : (Instr.index 175 (.agg #[.string ⟨#[60, 62]⟩, .string ⟨#[60, 61]⟩, .string ⟨#[62, 61]⟩]) (.int .i64 (i : Int))).run Tryz.prog W = .ok (.string (ba (opn i))) W := by
  have : i = 0 ∨ i = 1 ∨ i = 2 := by omega
  rcases this with rfl | rfl | rfl
  · exact ix30 W
  · exact ix31 W
  · exact ix32 W
theorem opn_two (i : Nat) (h : i < 3) : (opn i).length = 2 := by
  have : i = 0 ∨ i = 1 ∨ i = 2 := by omega
  rcases this with rfl | rfl | rfl <;> rfl
def onI (j : Nat) : Int := (((opn (j + 3)).head?.getD 0).toNat : Nat)
abbrev onC : Array Value := #[.int .u8 43, .int .u8 45, .int .u8 42, .int .u8 47, .int .u8 94, .int .u8 38, .int .u8 61, .int .u8 60, .int .u8 62, .int .u8 37, .int .u8 40, .int .u8 41, .int .u8 44, .int .u8 58]
theorem on_cell {u : World} {g : Nat} {z : Nat × Nat} (h : u.heap[g]? = some (.cells onC 5 z)) (j : Nat) (hj : j < 14) : u.cell? ⟨g, j, none⟩ = some (.int .u8 (onI j)) := by
  rw [cell_of_row u g j _ _ _ h]
  have : j = 0 ∨ j = 1 ∨ j = 2 ∨ j = 3 ∨ j = 4 ∨ j = 5 ∨ j = 6 ∨ j = 7 ∨ j = 8 ∨ j = 9 ∨ j = 10 ∨ j = 11 ∨ j = 12 ∨ j = 13 := by omega
  rcases this with rfl | rfl | rfl | rfl | rfl | rfl | rfl | rfl | rfl | rfl | rfl | rfl | rfl | rfl <;> rfl
theorem on_sign (c : UInt8) (t : List UInt8) (j : Nat) (hj : j < 14) : (((c.toNat : Int) == onI j) = true ∧ (opn (j + 3)).isPrefixOf (c :: t) = true ∧ opn (j + 3) = [c]) ∨ (((c.toNat : Int) == onI j) = false ∧ (opn (j + 3)).isPrefixOf (c :: t) = false) := by
  have key : ∀ d : UInt8, opn (j + 3) = [d] → onI j = (d.toNat : Int) → (((c.toNat : Int) == onI j) = true ∧ (opn (j + 3)).isPrefixOf (c :: t) = true ∧ opn (j + 3) = [c]) ∨ (((c.toNat : Int) == onI j) = false ∧ (opn (j + 3)).isPrefixOf (c :: t) = false) := by
    intro d h1 h2
    rw [h1, h2]
    rcases ch_facts c d with ⟨e, h⟩ | ⟨e, h⟩
    · subst e; exact .inl ⟨h, by simp [List.isPrefixOf], rfl⟩
    · exact .inr ⟨h, by simp [List.isPrefixOf, Ne.symm e]⟩
  have : j = 0 ∨ j = 1 ∨ j = 2 ∨ j = 3 ∨ j = 4 ∨ j = 5 ∨ j = 6 ∨ j = 7 ∨ j = 8 ∨ j = 9 ∨ j = 10 ∨ j = 11 ∨ j = 12 ∨ j = 13 := by omega
  rcases this with rfl | rfl | rfl | rfl | rfl | rfl | rfl | rfl | rfl | rfl | rfl | rfl | rfl | rfl
  · exact key 43 rfl rfl
  · exact key 45 rfl rfl
  · exact key 42 rfl rfl
  · exact key 47 rfl rfl
  · exact key 94 rfl rfl
  · exact key 38 rfl rfl
  · exact key 61 rfl rfl
  · exact key 60 rfl rfl
  · exact key 62 rfl rfl
  · exact key 37 rfl rfl
  · exact key 40 rfl rfl
  · exact key 41 rfl rfl
  · exact key 44 rfl rfl
  · exact key 58 rfl rfl
set_option maxHeartbeats 4000000 in
theorem one_op2 (c : UInt8) (t l : List UInt8) (hlc : l = c :: t) (S : ByteArray) (hS : S = ba l) (hs : S.size = l.length) (hl : l.length ≤ 255) (h0 : 0 < S.size) (w : World)
    (DG : ∀ u, Calls Tryz.prog 90 #[.int .u8 (S[0].toNat : Nat)] u fun e w' => e = .returned (.bool false) ∧ w' = u) (h34 : ((S[0].toNat : Int) == 34) = false) (h35 : ((S[0].toNat : Int) == 35) = false)
    (h91 : ((S[0].toNat : Int) == 91) = false) (h36 : ((S[0].toNat : Int) == 36) = false) (LT : ∀ u, Calls Tryz.prog 88 #[.int .u8 (S[0].toNat : Nat)] u fun e w' => e = .returned (.bool false) ∧ w' = u) :
    Calls Tryz.prog 123 #[.string S] w (AnsR w l (Tk.opF l)) := by
  have HI : Hid (∀ (i : Nat) (h : i < 3) (W : World), (Instr.index 175 (.agg #[.string ⟨#[60, 62]⟩, .string ⟨#[60, 61]⟩, .string ⟨#[62, 61]⟩]) (.int .i64 (i : Int))).run Tryz.prog W = .ok (.string (ba (opn i))) W) := index_two
  have HP : Hid (∀ p : List UInt8, (p.isPrefixOf l = true ∧ p.length ≤ l.length ∧ ((S.extract 0 p.length).toList == (ba p).toList) = true) ∨
    (p.isPrefixOf l = false ∧ p.length ≤ l.length ∧ ((S.extract 0 p.length).toList == (ba p).toList) = false) ∨ (p.isPrefixOf l = false ∧ ¬ p.length ≤ l.length)) := fun p => by rw [hS]; exact pre_ways l p
  have HX1 : Hid (S.extract 0 1 = ba [c]) := by show _ = _; rw [hS, hlc]; exact ba_one (c :: t) 0 (by simp)
  have HC0 : Hid (S[0] = c) := by
    show _ = _
    subst hS
    exact ba_get l 0 (by rw [hlc]; simp) h0 |>.trans (by simp [hlc])
  generalize ho : Tk.opF l = o
  have HO : Hid (Tk.opF l = o) := ho
  have HLC : Hid (l = c :: t) := hlc
  have CV := Lib.run_convert_bytes_const (P := Tryz.prog) (w.alloc tkR) 98 5 onC 14 14 Tryz.underlying98 Tryz.underlying5
  rw [show (w.alloc tkR).heap.size = w.heap.size + 1 by simp] at CV
  obtain ⟨w3, hw3⟩ : ∃ w3, w3 = (w.alloc tkR).alloc (.cells onC 5 (onC.size, onC.size + 1)) := ⟨_, rfl⟩
  rw [← hw3] at CV
  have HZ3 : Hid (RZ w w3) := by show RZ _ _; rw [hw3]; exact (RZ.begin w).alloc _
  have HON : Hid (∀ j, j < 14 → w3.cell? ⟨w.heap.size + 1, j, none⟩ = some (.int .u8 (onI j))) := fun j hj => on_cell (z := (onC.size, onC.size + 1)) (by
    have := heap_alloc_new (w.alloc tkR) (.cells onC 5 (onC.size, onC.size + 1))
    rw [show (w.alloc tkR).heap.size = w.heap.size + 1 by simp] at this
    rw [hw3]; exact this) j hj
  clear ho hS hlc hw3
  go_enter Tryz.func123, Tryz.ntmps123
  go_wp2_with (first
    | (go_at_call 90; refine (DG _).mono ?_; rintro e w' ⟨rfl, hw⟩; obtain rfl := hw.symm; clear hw)
    | (go_at_call 88; refine (LT _).mono ?_; rintro e w' ⟨rfl, hw⟩; obtain rfl := hw.symm; clear hw))
  clear DG LT
  go_loop [11, 104] (fun _ i => ∃ k : Nat, k ≤ 3 ∧ i = .int .i64 k ∧ Hid (∀ j, j < k → (opn j).isPrefixOf l = false)) (fun _ i => 3 - (intOf i).toNat)
  case atStart => exact ⟨0, Nat.zero_le _, rfl, fun j h2 => by omega⟩
  case round =>
    obtain ⟨k, hk, rfl, HJ⟩ := hrel
    by_cases hlt : k < 3
    · have hki : (k : Int) < 3 := by omega
      have IX := HI.out k hlt
      have hp := HP.out (opn k)
      rw [opn_two k hlt] at hp
      have hF : (ba (opn k)).size = 2 := by rw [size_mk, opn_two k hlt]
      have HH : Hid ((opn k).isPrefixOf l = true → o = some (.op (opn k), l.drop 2)) := fun h => by
        rw [← HO.out, op_hit (by omega) HJ.out h, opn_two k hlt]
      have HN : Hid ((opn k).isPrefixOf l = false → ∀ j, j < k + 1 → (opn j).isPrefixOf l = false) := fun h j h2 => by
        by_cases e : j = k
        · rw [e]; exact h
        · exact HJ.out j (by omega)
      clear HJ HI HP HO
      rcases hp with ⟨h1, h2, h3⟩ | ⟨h1, h2, h3⟩ | ⟨h1, h2⟩
      · have HH2 : Hid (o = some (.op (opn k), l.drop 2)) := HH.out h1
        have HL : Hid (l.length - (l.drop 2).length = 2) := by show _ = _; simp; omega
        clear HH HN h1
        obtain ⟨F, hF2⟩ : ∃ F, F = ba (opn k) := ⟨_, rfl⟩
        rw [← hF2] at IX h3 hF
        have HA : Hid (tcs 5 0 F noB noB 0 0 false false = (tk (.op (opn k))).cs) := by show _ = _; rw [hF2]; rfl
        clear hF2
        have h2i : (2 : Int) ≤ l.length := by omega
        go_wp2
        refine bodyPost_ret (v := .tuple #[.agg (tcs 5 0 F noB noB 0 0 false false), .int .i64 2]) (ret_new (tcs 5 0 F noB noB 0 0 false false) rfl rfl rfl rfl) rfl ?_
        rw [HH2.out]
        refine ⟨bel_alloc (Below.refl _ _) _, ?_⟩
        show _ = Ending.returned _
        rw [HL.out, ← HA.out]
        rfl
      · have HN2 : Hid (∀ j, j < k + 1 → (opn j).isPrefixOf l = false) := HN.out h1
        clear HH HN h1
        generalize ba (opn k) = F at *
        have h2i : (2 : Int) ≤ l.length := by omega
        go_wp2
        go_round
        case rel => exact ⟨k + 1, by omega, by go_num, HN2⟩
        case measure => simp [intOf]; omega
      · have HN2 : Hid (∀ j, j < k + 1 → (opn j).isPrefixOf l = false) := HN.out h1
        clear HH HN h1
        generalize ba (opn k) = F at *
        have h2i : ¬ (2 : Int) ≤ l.length := by omega
        go_wp2
        go_round
        case rel => exact ⟨k + 1, by omega, by go_num, HN2⟩
        case measure => simp [intOf]; omega
    · have hki : ¬ (k : Int) < 3 := by omega
      have h3 : ∀ j, j < 3 → (opn j).isPrefixOf l = false := fun j h => HJ.out j (by omega)
      have H3 : Hid (∀ j, j < 3 → (opn j).isPrefixOf l = false) := h3
      clear HI HP HJ h3
      go_wp2
      clear CV
      go_loop [13, 122] (fun _ i => ∃ k : Nat, k ≤ 14 ∧ i = .int .i64 k ∧ Hid (∀ j, j < k + 3 → (opn j).isPrefixOf l = false)) (fun _ i => 14 - (intOf i).toNat)
      case atStart => exact ⟨0, Nat.zero_le _, rfl, H3⟩
      case round =>
        obtain ⟨k2, hk2, rfl, HJ⟩ := hrel
        by_cases hlt2 : k2 < 14
        · have hki2 : (k2 : Int) < 14 := by omega
          have ce := HON.out k2 hlt2
          have hw := on_sign c t k2 hlt2
          rw [← HLC.out, ← HC0.out] at hw
          rcases hw with ⟨h1, h2, h3⟩ | ⟨h1, h2⟩
          · have HH2 : Hid (o = some (.op [c], l.drop 1)) := by
              show _ = _
              rw [← HC0.out, ← HO.out, op_hit (by omega) HJ.out h2, h3]; rfl
            have HL : Hid (l.length - (l.drop 1).length = 1) := by show _ = _; simp; omega
            have hX := HX1.out
            have HA : Hid (tcs 5 0 (ba [c]) noB noB 0 0 false false = (tk (.op [c])).cs) := rfl
            generalize ba [c] = F at *
            have RR := HZ3.out.put 5 0 F noB noB 0 0 false false
            have h1i : (1 : Int) ≤ l.length := by omega
            clear HJ HON HO h2 h3 HX1
            generalize onI k2 = z at *
            go_wp2_with (refine wpList_store_run rfl 138 _ _ rfl _ _ _ rfl rfl RR.out ?_)
            refine bodyPost_ret (v := .tuple #[.agg (tcs 5 0 F noB noB 0 0 false false), .int .i64 1]) (HZ3.out.ans (tcs 5 0 F noB noB 0 0 false false) rfl rfl rfl rfl) rfl ?_
            rw [HH2.out]
            refine ⟨HZ3.out.fin _, ?_⟩
            show _ = Ending.returned _
            rw [HL.out, ← HA.out]
            rfl
          · have HN2 : Hid (∀ j, j < k2 + 1 + 3 → (opn j).isPrefixOf l = false) := fun j h => by
              by_cases e : j = k2 + 3
              · rw [e]; exact h2
              · exact HJ.out j (by omega)
            clear HJ HON HO h2 HX1
            generalize onI k2 = z at *
            go_wp2
            go_round
            case rel => exact ⟨k2 + 1, by omega, by go_num, HN2⟩
            case measure => simp [intOf]; omega
        · have hki2 : ¬ (k2 : Int) < 14 := by omega
          have HH2 : Hid (o = none) := by
            show _ = _
            rw [← HO.out, op_miss (fun j h => HJ.out j (by omega))]
          have RR := HZ3.out.put 0 0 noB noB noB 0 0 false false
          clear HJ HON HO HX1
          go_wp2_with (refine wpList_store_run rfl 138 _ _ rfl _ _ _ rfl rfl RR.out ?_)
          refine bodyPost_ret (v := .tuple #[.agg tk0, .int .i64 0]) (HZ3.out.ans tk0 rfl rfl rfl rfl) rfl ?_
          rw [HH2.out]
          exact ⟨HZ3.out.fin _, rfl⟩
end Go.Proofs.YtlndkjcincflpaaGreatDoor
