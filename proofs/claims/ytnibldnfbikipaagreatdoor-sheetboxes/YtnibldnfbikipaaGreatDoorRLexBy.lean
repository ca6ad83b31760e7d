/- RErr, ROps, RLex. -/
import Derived.Test.YtnibldnfbikipaaGreatDoorRNumBy
set_option linter.unusedVariables false
set_option linter.unusedSimpArgs false
set_option maxHeartbeats 16000000
set_option maxRecDepth 100000
namespace Go.Proofs.YtnibldnfbikipaaGreatDoor
open Go.RowKit
theorem pre_ways (l p : List UInt8) : (p.isPrefixOf l = true ∧ p.length ≤ l.length ∧ (((ba l).extract 0 p.length).toList == (ba p).toList) = true) ∨
  (p.isPrefixOf l = false ∧ p.length ≤ l.length ∧ (((ba l).extract 0 p.length).toList == (ba p).toList) = false) ∨ (p.isPrefixOf l = false ∧ ¬ p.length ≤ l.length) := by
 have h := Lib.hasPrefix_raw (ba l) (ba p)
 rw [show Lib.hasPrefix (ba l).data.toList (ba p).data.toList = p.isPrefixOf l from rfl, size_mk, size_mk] at h
 by_cases hle : p.length ≤ l.length
 ·rw [decide_eq_true hle, Bool.true_and] at h
  cases hp : p.isPrefixOf l
  ·exact .inr (.inl ⟨rfl, hle, by rw [h, hp]⟩)
  ·exact .inl ⟨rfl, hle, by rw [h, hp]⟩
 ·rw [decide_eq_false hle, Bool.false_and] at h
  exact .inr (.inr ⟨h.symm, hle⟩)
theorem one_err (l : List UInt8) (S : ByteArray) (hS : S = ba l) (hs : S.size = l.length) (hl : l.length ≤ 255) (h0 : 0 < S.size) (w : World)
  (DG : ∀ u, Calls Tryz.prog 93 #[.int .u8 (S[0].toNat : Nat)] u fun e w' => e = .returned (.bool false) ∧ w' = u) (h34 : ((S[0].toNat : Int) == 34) = false) (h35 : ((S[0].toNat : Int) == 35) = true) :
  Calls Tryz.prog 154 #[.string S] w (AnsR w l (Tk.badF l)) := by
 have HZ0 : Hid (RZ w (w.alloc tkR)) := RZ.begin w
 have NA := fun u => names_any u
 have HI : Hid (∀ (i : Nat) (h : i < 9) (W : World), (Instr.index 200 (.agg namesV) (.int .i64 (i : Int))).run Tryz.prog W = .ok (.string (fnm i)) W) := index_names
 have HP : Hid (∀ p : List UInt8, (p.isPrefixOf l = true ∧ p.length ≤ l.length ∧ ((S.extract 0 p.length).toList == (ba p).toList) = true) ∨
  (p.isPrefixOf l = false ∧ p.length ≤ l.length ∧ ((S.extract 0 p.length).toList == (ba p).toList) = false) ∨ (p.isPrefixOf l = false ∧ ¬ p.length ≤ l.length)) := fun p => by rw [hS]; exact pre_ways l p
 generalize ho : Tk.badF l = o
 have HO : Hid (Tk.badF l = o) := ho
 clear ho hS
 generalize namesV = V at *
 go_enter Tryz.func154, Tryz.ntmps154
 go_wp2_with (first
  | (go_at_call 93; refine (DG _).mono ?_; rintro e w' ⟨rfl, hw⟩; obtain rfl := hw.symm; clear hw)
  | (go_at_call 183; refine (NA _).mono ?_; rintro e w2 ⟨rfl, hb⟩; have HZ2 : Hid (RZ w w2) := HZ0.out.below hb; clear hb))
 clear DG NA HZ0
 go_loop [8, 9, 61] (fun _ _ i => ∃ k : Nat, k ≤ 9 ∧ i = .int .i64 k ∧ Hid (∀ j, 1 ≤ j → j < k → (Tk.errN j).isPrefixOf l = false)) (fun _ _ i => 9 - (intOf i).toNat)
 case atStart => exact ⟨0, Nat.zero_le _, rfl, fun j h1 h2 => by omega⟩
 case round =>
  obtain ⟨k, hk, rfl, HJ⟩ := hrel
  by_cases hlt : k < 9
  ·have hki : (k : Int) < 9 := by omega
   have IX := HI.out k hlt
   by_cases hk0 : k = 0
   ·have hz : ¬ (0 : Int) < (k : Int) := by omega
    have HN : Hid (∀ j, 1 ≤ j → j < k + 1 → (Tk.errN j).isPrefixOf l = false) := fun j h1 h2 => by omega
    clear HJ HI HP HO hk0
    generalize fnm k = F at *
    go_wp2
    go_round
    case rel => exact ⟨k + 1, by omega, by go_num, HN⟩
    case measure => simp [intOf]; omega
   ·have hz : (0 : Int) < (k : Int) := by omega
    rw [fnm_err k hlt] at IX
    have hF : (ba (Tk.errN k)).size = (Tk.errN k).length := size_mk _
    have hp := HP.out (Tk.errN k)
    have HH : Hid ((Tk.errN k).isPrefixOf l = true → o = some (.bad k, l.drop (Tk.errN k).length)) := fun h => by
     rw [← HO.out, bad_hit (by omega) (by omega) HJ.out h]
    have HN : Hid ((Tk.errN k).isPrefixOf l = false → ∀ j, 1 ≤ j → j < k + 1 → (Tk.errN j).isPrefixOf l = false) := fun h j h1 h2 => by
     by_cases e : j = k
     ·rw [e]; exact h
     ·exact HJ.out j h1 (by omega)
    clear HJ HI HP HO
    rcases hp with ⟨h1, h2, h3⟩ | ⟨h1, h2, h3⟩ | ⟨h1, h2⟩
    ·have HH2 : Hid (o = some (.bad k, l.drop (Tk.errN k).length)) := HH.out h1
     have HL : Hid (l.length - (l.drop (Tk.errN k).length).length = (Tk.errN k).length) := by show _ = _; simp; omega
     have RR := HZ2.out.put 6 (k : Nat) noB noB noB 0 0 false false
     clear HH HN h1
     generalize ba (Tk.errN k) = F at *
     generalize (Tk.errN k).length = z at *
     have h2i : (z : Int) ≤ l.length := by omega
     go_wp2_with (refine wpList_store_run rfl 188 _ _ rfl _ _ _ rfl rfl RR.out ?_)
     refine bodyPost_ret (v := .tuple #[.agg (tcs 6 (k : Nat) noB noB noB 0 0 false false), .int .i64 (z : Int)]) (HZ2.out.ans (tcs 6 (k : Nat) noB noB noB 0 0 false false) rfl rfl rfl rfl) rfl ?_
     rw [HH2.out]
     refine ⟨HZ2.out.fin _, ?_⟩
     show _ = Ending.returned _
     rw [HL.out]
     rfl
    ·have HN2 : Hid (∀ j, 1 ≤ j → j < k + 1 → (Tk.errN j).isPrefixOf l = false) := HN.out h1
     clear HH HN h1
     generalize ba (Tk.errN k) = F at *
     generalize (Tk.errN k).length = z at *
     have h2i : (z : Int) ≤ l.length := by omega
     go_wp2
     go_round
     case rel => exact ⟨k + 1, by omega, by go_num, HN2⟩
     case measure => simp [intOf]; omega
    ·have HN2 : Hid (∀ j, 1 ≤ j → j < k + 1 → (Tk.errN j).isPrefixOf l = false) := HN.out h1
     clear HH HN h1
     generalize ba (Tk.errN k) = F at *
     generalize (Tk.errN k).length = z at *
     have h2i : ¬ (z : Int) ≤ l.length := by omega
     go_wp2
     go_round
     case rel => exact ⟨k + 1, by omega, by go_num, HN2⟩
     case measure => simp [intOf]; omega
  ·have hki : ¬ (k : Int) < 9 := by omega
   have HH2 : Hid (o = none) := by
    show _ = _
    rw [← HO.out, bad_miss (fun j h1 h2 => HJ.out j h1 (by omega))]
   have RR := HZ2.out.put 0 0 noB noB noB 0 0 false false
   clear HJ HI HP HO
   go_wp2_with (refine wpList_store_run rfl 188 _ _ rfl _ _ _ rfl rfl RR.out ?_)
   refine bodyPost_ret (v := .tuple #[.agg tk0, .int .i64 0]) (HZ2.out.ans tk0 rfl rfl rfl rfl) rfl ?_
   rw [HH2.out]
   exact ⟨HZ2.out.fin _, rfl⟩
theorem ix30 (W : World) : (Instr.index 211 (.agg #[.string ⟨#[60, 62]⟩, .string ⟨#[60, 61]⟩, .string ⟨#[62, 61]⟩]) (.int .i64 0)).run Tryz.prog W = .ok (.string (ba [60, 62])) W := by kernel_rfl
theorem ix31 (W : World) : (Instr.index 211 (.agg #[.string ⟨#[60, 62]⟩, .string ⟨#[60, 61]⟩, .string ⟨#[62, 61]⟩]) (.int .i64 1)).run Tryz.prog W = .ok (.string (ba [60, 61])) W := by kernel_rfl
theorem ix32 (W : World) : (Instr.index 211 (.agg #[.string ⟨#[60, 62]⟩, .string ⟨#[60, 61]⟩, .string ⟨#[62, 61]⟩]) (.int .i64 2)).run Tryz.prog W = .ok (.string (ba [62, 61])) W := by kernel_rfl
theorem index_two (i : Nat) (h : i < 3) (W : World) : (Instr.index 211 (.agg #[.string ⟨#[60, 62]⟩, .string ⟨#[60, 61]⟩, .string ⟨#[62, 61]⟩]) (.int .i64 (i : Int))).run Tryz.prog W = .ok (.string (ba (opn i))) W := by
 have : i = 0 ∨ i = 1 ∨ i = 2 := by omega
 rcases this with rfl | rfl | rfl
 ·exact ix30 W
 ·exact ix31 W
 ·exact ix32 W
theorem opn_two (i : Nat) (h : i < 3) : (opn i).length = 2 := by
 have : i = 0 ∨ i = 1 ∨ i = 2 := by omega
 rcases this with rfl | rfl | rfl <;> rfl
def onI (j : Nat) : Int := (((opn (j + 3)).head?.getD 0).toNat : Nat)
abbrev onC : Array Value := #[.int .u8 43, .int .u8 45, .int .u8 42, .int .u8 47, .int .u8 94, .int .u8 38, .int .u8 61, .int .u8 60, .int .u8 62, .int .u8 37, .int .u8 40, .int .u8 41, .int .u8 44, .int .u8 58]
theorem on_cell {u : World} {g : Nat} {z : Nat × Nat} (h : u.heap[g]? = some (.cells onC 5 z)) (j : Nat) (hj : j < 14) : u.cell? ⟨g, j, none⟩ = some (.int .u8 (onI j)) := by
 rw [cell_of_row u g j _ _ _ h]
 have : j = 0 ∨ j = 1 ∨ j = 2 ∨ j = 3 ∨ j = 4 ∨ j = 5 ∨ j = 6 ∨ j = 7 ∨ j = 8 ∨ j = 9 ∨ j = 10 ∨ j = 11 ∨ j = 12 ∨ j = 13 := by omega
 rcases this with rfl | rfl | rfl | rfl | rfl | rfl | rfl | rfl | rfl | rfl | rfl | rfl | rfl | rfl <;> rfl
theorem on_sign (c : UInt8) (t : List UInt8) (j : Nat) (hj : j < 14) : (((c.toNat : Int) == onI j) = true ∧ (opn (j + 3)).isPrefixOf (c :: t) = true ∧ opn (j + 3) = [c]) ∨ (((c.toNat : Int) == onI j) = false ∧ (opn (j + 3)).isPrefixOf (c :: t) = false) := by
 have key : ∀ d : UInt8, opn (j + 3) = [d] → onI j = (d.toNat : Int) → (((c.toNat : Int) == onI j) = true ∧ (opn (j + 3)).isPrefixOf (c :: t) = true ∧ opn (j + 3) = [c]) ∨ (((c.toNat : Int) == onI j) = false ∧ (opn (j + 3)).isPrefixOf (c :: t) = false) := by
  intro d h1 h2
  rw [h1, h2]
  rcases ch_facts c d with ⟨e, h⟩ | ⟨e, h⟩
  ·subst e; exact .inl ⟨h, by simp [List.isPrefixOf], rfl⟩
  ·exact .inr ⟨h, by simp [List.isPrefixOf, Ne.symm e]⟩
 have : j = 0 ∨ j = 1 ∨ j = 2 ∨ j = 3 ∨ j = 4 ∨ j = 5 ∨ j = 6 ∨ j = 7 ∨ j = 8 ∨ j = 9 ∨ j = 10 ∨ j = 11 ∨ j = 12 ∨ j = 13 := by omega
 rcases this with rfl | rfl | rfl | rfl | rfl | rfl | rfl | rfl | rfl | rfl | rfl | rfl | rfl | rfl
 ·exact key 43 rfl rfl
 ·exact key 45 rfl rfl
 ·exact key 42 rfl rfl
 ·exact key 47 rfl rfl
 ·exact key 94 rfl rfl
 ·exact key 38 rfl rfl
 ·exact key 61 rfl rfl
 ·exact key 60 rfl rfl
 ·exact key 62 rfl rfl
 ·exact key 37 rfl rfl
 ·exact key 40 rfl rfl
 ·exact key 41 rfl rfl
 ·exact key 44 rfl rfl
 ·exact key 58 rfl rfl
theorem one_op2 (c : UInt8) (t l : List UInt8) (hlc : l = c :: t) (S : ByteArray) (hS : S = ba l) (hs : S.size = l.length) (hl : l.length ≤ 255) (h0 : 0 < S.size) (w : World)
  (DG : ∀ u, Calls Tryz.prog 93 #[.int .u8 (S[0].toNat : Nat)] u fun e w' => e = .returned (.bool false) ∧ w' = u) (h34 : ((S[0].toNat : Int) == 34) = false) (h35 : ((S[0].toNat : Int) == 35) = false)
  (h91 : ((S[0].toNat : Int) == 91) = false) (h36 : ((S[0].toNat : Int) == 36) = false) (LT : ∀ u, Calls Tryz.prog 91 #[.int .u8 (S[0].toNat : Nat)] u fun e w' => e = .returned (.bool false) ∧ w' = u) :
  Calls Tryz.prog 154 #[.string S] w (AnsR w l (Tk.opF l)) := by
 have HI : Hid (∀ (i : Nat) (h : i < 3) (W : World), (Instr.index 211 (.agg #[.string ⟨#[60, 62]⟩, .string ⟨#[60, 61]⟩, .string ⟨#[62, 61]⟩]) (.int .i64 (i : Int))).run Tryz.prog W = .ok (.string (ba (opn i))) W) := index_two
 have HP : Hid (∀ p : List UInt8, (p.isPrefixOf l = true ∧ p.length ≤ l.length ∧ ((S.extract 0 p.length).toList == (ba p).toList) = true) ∨
  (p.isPrefixOf l = false ∧ p.length ≤ l.length ∧ ((S.extract 0 p.length).toList == (ba p).toList) = false) ∨ (p.isPrefixOf l = false ∧ ¬ p.length ≤ l.length)) := fun p => by rw [hS]; exact pre_ways l p
 have HX1 : Hid (S.extract 0 1 = ba [c]) := by show _ = _; rw [hS, hlc]; exact ba_one (c :: t) 0 (by simp)
 have HC0 : Hid (S[0] = c) := by
  show _ = _
  subst hS
  exact ba_get l 0 (by rw [hlc]; simp) h0 |>.trans (by simp [hlc])
 generalize ho : Tk.opF l = o
 have HO : Hid (Tk.opF l = o) := ho
 have HLC : Hid (l = c :: t) := hlc
 have CV := Lib.run_convert_bytes_const (P := Tryz.prog) (w.alloc tkR) 96 5 onC 14 14 Tryz.underlying96 Tryz.underlying5
 rw [show (w.alloc tkR).heap.size = w.heap.size + 1 by simp] at CV
 obtain ⟨w3, hw3⟩ : ∃ w3, w3 = (w.alloc tkR).alloc (.cells onC 5 (onC.size, onC.size + 1)) := ⟨_, rfl⟩
 rw [← hw3] at CV
 have HZ3 : Hid (RZ w w3) := by show RZ _ _; rw [hw3]; exact (RZ.begin w).alloc _
 have HON : Hid (∀ j, j < 14 → w3.cell? ⟨w.heap.size + 1, j, none⟩ = some (.int .u8 (onI j))) := fun j hj => on_cell (z := (onC.size, onC.size + 1)) (by
  have := heap_alloc_new (w.alloc tkR) (.cells onC 5 (onC.size, onC.size + 1))
  rw [show (w.alloc tkR).heap.size = w.heap.size + 1 by simp] at this
  rw [hw3]; exact this) j hj
 clear ho hS hlc hw3
 go_enter Tryz.func154, Tryz.ntmps154
 go_wp2_with (first
  | (go_at_call 93; refine (DG _).mono ?_; rintro e w' ⟨rfl, hw⟩; obtain rfl := hw.symm; clear hw)
  | (go_at_call 91; refine (LT _).mono ?_; rintro e w' ⟨rfl, hw⟩; obtain rfl := hw.symm; clear hw))
 clear DG LT
 go_loop [11, 104] (fun _ i => ∃ k : Nat, k ≤ 3 ∧ i = .int .i64 k ∧ Hid (∀ j, j < k → (opn j).isPrefixOf l = false)) (fun _ i => 3 - (intOf i).toNat)
 case atStart => exact ⟨0, Nat.zero_le _, rfl, fun j h2 => by omega⟩
 case round =>
  obtain ⟨k, hk, rfl, HJ⟩ := hrel
  by_cases hlt : k < 3
  ·have hki : (k : Int) < 3 := by omega
   have IX := HI.out k hlt
   have hp := HP.out (opn k)
   rw [opn_two k hlt] at hp
   have hF : (ba (opn k)).size = 2 := by rw [size_mk, opn_two k hlt]
   have HH : Hid ((opn k).isPrefixOf l = true → o = some (.op (opn k), l.drop 2)) := fun h => by
    rw [← HO.out, op_hit (by omega) HJ.out h, opn_two k hlt]
   have HN : Hid ((opn k).isPrefixOf l = false → ∀ j, j < k + 1 → (opn j).isPrefixOf l = false) := fun h j h2 => by
    by_cases e : j = k
    ·rw [e]; exact h
    ·exact HJ.out j (by omega)
   clear HJ HI HP HO
   rcases hp with ⟨h1, h2, h3⟩ | ⟨h1, h2, h3⟩ | ⟨h1, h2⟩
   ·have HH2 : Hid (o = some (.op (opn k), l.drop 2)) := HH.out h1
    have HL : Hid (l.length - (l.drop 2).length = 2) := by show _ = _; simp; omega
    clear HH HN h1
    obtain ⟨F, hF2⟩ : ∃ F, F = ba (opn k) := ⟨_, rfl⟩
    rw [← hF2] at IX h3 hF
    have HA : Hid (tcs 5 0 F noB noB 0 0 false false = (tk (.op (opn k))).cs) := by show _ = _; rw [hF2]; rfl
    clear hF2
    have h2i : (2 : Int) ≤ l.length := by omega
    go_wp2
    refine bodyPost_ret (v := .tuple #[.agg (tcs 5 0 F noB noB 0 0 false false), .int .i64 2]) (ret_new (tcs 5 0 F noB noB 0 0 false false) rfl rfl rfl rfl) rfl ?_
    rw [HH2.out]
    refine ⟨bel_alloc (Below.refl _ _) _, ?_⟩
    show _ = Ending.returned _
    rw [HL.out, ← HA.out]
    rfl
   ·have HN2 : Hid (∀ j, j < k + 1 → (opn j).isPrefixOf l = false) := HN.out h1
    clear HH HN h1
    generalize ba (opn k) = F at *
    have h2i : (2 : Int) ≤ l.length := by omega
    go_wp2
    go_round
    case rel => exact ⟨k + 1, by omega, by go_num, HN2⟩
    case measure => simp [intOf]; omega
   ·have HN2 : Hid (∀ j, j < k + 1 → (opn j).isPrefixOf l = false) := HN.out h1
    clear HH HN h1
    generalize ba (opn k) = F at *
    have h2i : ¬ (2 : Int) ≤ l.length := by omega
    go_wp2
    go_round
    case rel => exact ⟨k + 1, by omega, by go_num, HN2⟩
    case measure => simp [intOf]; omega
  ·have hki : ¬ (k : Int) < 3 := by omega
   have h3 : ∀ j, j < 3 → (opn j).isPrefixOf l = false := fun j h => HJ.out j (by omega)
   have H3 : Hid (∀ j, j < 3 → (opn j).isPrefixOf l = false) := h3
   clear HI HP HJ h3
   go_wp2
   clear CV
   go_loop [13, 122] (fun _ i => ∃ k : Nat, k ≤ 14 ∧ i = .int .i64 k ∧ Hid (∀ j, j < k + 3 → (opn j).isPrefixOf l = false)) (fun _ i => 14 - (intOf i).toNat)
   case atStart => exact ⟨0, Nat.zero_le _, rfl, H3⟩
   case round =>
    obtain ⟨k2, hk2, rfl, HJ⟩ := hrel
    by_cases hlt2 : k2 < 14
    ·have hki2 : (k2 : Int) < 14 := by omega
     have ce := HON.out k2 hlt2
     have hw := on_sign c t k2 hlt2
     rw [← HLC.out, ← HC0.out] at hw
     rcases hw with ⟨h1, h2, h3⟩ | ⟨h1, h2⟩
     ·have HH2 : Hid (o = some (.op [c], l.drop 1)) := by
       show _ = _
       rw [← HC0.out, ← HO.out, op_hit (by omega) HJ.out h2, h3]; rfl
      have HL : Hid (l.length - (l.drop 1).length = 1) := by show _ = _; simp; omega
      have hX := HX1.out
      have HA : Hid (tcs 5 0 (ba [c]) noB noB 0 0 false false = (tk (.op [c])).cs) := rfl
      generalize ba [c] = F at *
      have RR := HZ3.out.put 5 0 F noB noB 0 0 false false
      have h1i : (1 : Int) ≤ l.length := by omega
      clear HJ HON HO h2 h3 HX1
      generalize onI k2 = z at *
      go_wp2_with (refine wpList_store_run rfl 188 _ _ rfl _ _ _ rfl rfl RR.out ?_)
      refine bodyPost_ret (v := .tuple #[.agg (tcs 5 0 F noB noB 0 0 false false), .int .i64 1]) (HZ3.out.ans (tcs 5 0 F noB noB 0 0 false false) rfl rfl rfl rfl) rfl ?_
      rw [HH2.out]
      refine ⟨HZ3.out.fin _, ?_⟩
      show _ = Ending.returned _
      rw [HL.out, ← HA.out]
      rfl
     ·have HN2 : Hid (∀ j, j < k2 + 1 + 3 → (opn j).isPrefixOf l = false) := fun j h => by
       by_cases e : j = k2 + 3
       ·rw [e]; exact h2
       ·exact HJ.out j (by omega)
      clear HJ HON HO h2 HX1
      generalize onI k2 = z at *
      go_wp2
      go_round
      case rel => exact ⟨k2 + 1, by omega, by go_num, HN2⟩
      case measure => simp [intOf]; omega
    ·have hki2 : ¬ (k2 : Int) < 14 := by omega
     have HH2 : Hid (o = none) := by
      show _ = _
      rw [← HO.out, op_miss (fun j h => HJ.out j (by omega))]
     have RR := HZ3.out.put 0 0 noB noB noB 0 0 false false
     clear HJ HON HO HX1
     go_wp2_with (refine wpList_store_run rfl 188 _ _ rfl _ _ _ rfl rfl RR.out ?_)
     refine bodyPost_ret (v := .tuple #[.agg tk0, .int .i64 0]) (HZ3.out.ans tk0 rfl rfl rfl rfl) rfl ?_
     rw [HH2.out]
     exact ⟨HZ3.out.fin _, rfl⟩
theorem rone_any (c : UInt8) (r : List UInt8) (hl : (c :: r).length ≤ 255) (w : World) : Calls Tryz.prog 154 #[.string (ba (c :: r))] w (AnsR w (c :: r) (Tk.one gnF trB pnF (c :: r))) := by
 have hz : 0 < (ba (c :: r)).size := by rw [size_mk]; simp
 have h0 : (ba (c :: r))[0] = c := ba_el (X := []) (Z := r) rfl rfl hz
 have D : ∀ u, Calls Tryz.prog 93 #[.int .u8 ((ba (c :: r))[0].toNat : Nat)] u fun e w' => e = .returned (.bool (Ad.isD c)) ∧ w' = u := fun u => by rw [h0]; exact rdigit_any c u
 have L : ∀ u, Calls Tryz.prog 91 #[.int .u8 ((ba (c :: r))[0].toNat : Nat)] u fun e w' => e = .returned (.bool (Ad.isL c)) ∧ w' = u := fun u => by rw [h0]; exact rletter_any c u
 have no : ∀ d : UInt8, c ≠ d → (((ba (c :: r))[0].toNat : Int) == (d.toNat : Int)) = false := fun d h => by rw [h0]; exact int_ne h
 have yes : ∀ d : UInt8, c = d → (((ba (c :: r))[0].toNat : Int) == (d.toNat : Int)) = true := fun d h => by rw [h0, h]; simp
 unfold Tk.one
 simp only
 by_cases hd : Ad.isD c = true
 ·rw [if_pos hd]
  rw [hd] at D
  have hsp := tw_dw Tk.numC (c :: r)
  have hlen := congrArg List.length hsp
  rw [List.length_append] at hlen
  exact lone_num (c :: r) (ba (c :: r)) (size_mk _) (fun k h h2 => ba_get _ k h h2) hl hz w D (ba_sub (X := []) (Z := (c :: r).dropWhile Tk.numC) (by rw [hsp]; rfl) rfl (by simp)) (by omega)
   (fun u => rparse_s (ba ((c :: r).takeWhile Tk.numC)) (by rw [size_mk]; omega) u)
 have hd' : Ad.isD c = false := by simpa using hd
 rw [hd'] at D
 rw [if_neg hd]
 by_cases h34 : c = 34
 ·rw [if_pos h34]
  subst h34
  exact one_quote hz D (yes 34 rfl) ((quoted_any r hl _).mono fun e w' h => h.q)
 rw [if_neg h34]
 by_cases h35 : c = 35
 ·rw [if_pos h35]
  exact one_err (c :: r) (ba (c :: r)) rfl (size_mk _) hl hz w D (no 34 h34) (yes 35 h35)
 rw [if_neg h35]
 by_cases hn : c = 91 ∨ c = 36 ∨ Ad.isL c = true
 ·rw [if_pos hn]
  refine one_named hz D (no 34 h34) (no 35 h35) ?_ ((rnamed_any hl).mono fun e w' h => h.q)
  by_cases h91 : c = 91
  ·exact .inl (yes 91 h91)
  ·by_cases h36 : c = 36
   ·exact .inr (.inl ⟨no 91 h91, yes 36 h36⟩)
   ·rcases hn with h | h | h
    ·exact absurd h h91
    ·exact absurd h h36
    ·rw [h] at L
     exact .inr (.inr ⟨no 91 h91, no 36 h36, L⟩)
 ·rw [if_neg hn]
  have hL : Ad.isL c = false := by
   cases h : Ad.isL c
   ·rfl
   ·exact absurd (.inr (.inr h)) hn
  rw [hL] at L
  exact one_op2 c r (c :: r) rfl (ba (c :: r)) rfl (size_mk _) hl hz w D (no 34 h34) (no 35 h35) (no 91 fun h => hn (.inl h)) (no 36 fun h => hn (.inr (.inl h))) L
theorem quo_suf : ∀ (k : Nat) (l s r : List UInt8), l.length ≤ k → Tk.quoF l = some (s, r) → r <:+ l
 | 0, l, s, r, hk, h => by
  have : l = [] := List.eq_nil_of_length_eq_zero (by omega)
  subst this; cases h
 | k + 1, [], s, r, hk, h => by cases h
 | k + 1, [c], s, r, hk, h => by
  unfold Tk.quoF at h
  split at h
  ·cases h; exact List.nil_suffix
  ·cases h
 | k + 1, c :: d :: l, s, r, hk, h => by
  unfold Tk.quoF at h
  simp only [List.length_cons] at hk
  split at h
  ·split at h
   ·cases hq : Tk.quoF l with
    | none => rw [hq] at h; cases h
    | some p =>
     rw [hq] at h
     cases h
     exact ((quo_suf k l p.1 p.2 (by omega) hq).trans (List.suffix_cons _ _)).trans (List.suffix_cons _ _)
   ·cases h; exact List.suffix_cons _ _
  ·cases hq : Tk.quoF (d :: l) with
   | none => rw [hq] at h; cases h
   | some p =>
    rw [hq] at h
    cases h
    exact (quo_suf k (d :: l) p.1 p.2 (by simp only [List.length_cons]; omega) hq).trans (List.suffix_cons _ _)
theorem tail_suf {b pre l m : List UInt8} {t : Tk.Tok} (h : Tk.tailN gnF trB b pre l = some (t, m)) : m <:+ l := by
 unfold Tk.tailN at h
 have hs := List.dropWhile_suffix (p := Tk.runC) (l := l)
 split at h
 ·rename_i q hq
  rw [hq] at hs
  cases hp : Ad.refP gnF (pre ++ l.takeWhile Tk.runC ++ 33 :: q.takeWhile Tk.runC) with
  | none => rw [hp] at h; cases h
  | some x =>
   rw [hp] at h
   cases h
   exact ((List.dropWhile_suffix _).trans (List.suffix_cons _ _)).trans hs
 ·split at h
  ·split at h
   ·cases h; exact hs
   ·split at h
    ·cases h; exact hs
    ·cases h
  ·split at h
   ·cases h; exact hs
   ·cases h
theorem one_suf {l m : List UInt8} {t : Tk.Tok} (h : Tk.one gnF trB pnF l = some (t, m)) : m <:+ l := by
 cases l with
 | nil => cases h
 | cons c r =>
  unfold Tk.one at h
  simp only at h
  split at h
  ·cases hp : pnF ((c :: r).takeWhile Tk.numC) with
   | none => rw [hp] at h; cases h
   | some n =>
    rw [hp] at h
    cases h
    exact List.dropWhile_suffix _
  ·split at h
   ·cases hq : Tk.quoF r with
    | none => rw [hq] at h; cases h
    | some p =>
     rw [hq] at h
     cases h
     exact (quo_suf r.length r p.1 p.2 (Nat.le_refl _) hq).trans (List.suffix_cons _ _)
   ·split at h
    ·unfold Tk.badF at h
     cases hf : [1, 2, 3, 4, 5, 6, 7, 8].find? fun i => (Tk.errN i).isPrefixOf (c :: r) with
     | none => rw [hf] at h; cases h
     | some i => rw [hf] at h; cases h; exact List.drop_suffix _ _
    ·split at h
     ·unfold Tk.named at h
      split at h
      ·rename_i m' he
       cases he
       cases ha : Ad.at_ 93 r with
       | none => rw [ha] at h; cases h
       | some p =>
        obtain ⟨a, q⟩ := p
        rw [ha] at h
        simp only at h
        split at h
        ·have h1 := tail_suf h
         have h2 : q <:+ r := ⟨a ++ [93], by rw [at_eq ha]; simp⟩
         exact (h1.trans h2).trans (List.suffix_cons _ _)
        ·cases h
      ·exact tail_suf h
     ·rcases r with _ | ⟨d, r⟩
      ·simp only [Tk.opF] at h
       split at h
       ·cases h; exact List.nil_suffix
       ·cases h
      ·simp only [Tk.opF] at h
       split at h
       ·cases h; exact (List.suffix_cons _ _).trans (List.suffix_cons _ _)
       ·split at h
        ·cases h; exact List.suffix_cons _ _
        ·cases h
theorem suf_drop {l m : List UInt8} (h : m <:+ l) : l.drop (l.length - m.length) = m := by
 obtain ⟨X, rfl⟩ := h
 rw [List.length_append, show X.length + m.length - m.length = X.length by omega]
 exact List.drop_left
def LexT (w : World) (o : Option (List Tk.Tok)) (e : Ending) (w' : World) : Prop :=
 Below w.heap.size w w' ∧ match o with
  | none => e = .returned (.tuple #[.slice none 0 0, .int .i64 10])
  | some L => ∃ v, e = .returned (.tuple #[v, .int .i64 0]) ∧ OwnT 188 w.heap.size w' v (L.map tk) ∧ L.length ≤ 255
def LexB (w : World) (l : List UInt8) (e : Ending) (w' : World) : Prop :=
 if 255 < l.length then e = .returned (.tuple #[.slice none 0 0, .int .i64 3]) ∧ w' = w else LexT w (lexF l) e w'
theorem app_allR {W w2 : World} {v : Value} {L : List TT} (hb : Below W.heap.size W w2) (ho : OwnT 188 W.heap.size w2 v L) (t : TT) (hn : L.length + 1 ≤ 1000000) :
  ∃ v' w4, Hid ((Builtin.append_ #[140, 140] 140 #[v, .slice (some ⟨w2.heap.size + 1, 0, none⟩) 1 1]).run Tryz.prog ((w2.alloc (.cells (tcs t.k t.n t.s t.b t.h t.r t.c t.fr t.fc) 188)).alloc (.cells (tcs t.k t.n t.s t.b t.h t.r t.c t.fr t.fc) 188)) = .ok v' w4) ∧ Hid (OwnT 188 W.heap.size w4 v' (L ++ [t])) ∧ Hid (Below W.heap.size W w4) := by
 have b3 : Below W.heap.size W ((w2.alloc (.cells (tcs t.k t.n t.s t.b t.h t.r t.c t.fr t.fc) 188)).alloc (.cells (tcs t.k t.n t.s t.b t.h t.r t.c t.fr t.fc) 188)) := bel_alloc (bel_alloc hb _) _
 have o3 : OwnT 188 W.heap.size ((w2.alloc (.cells (tcs t.k t.n t.s t.b t.h t.r t.c t.fr t.fc) 188)).alloc (.cells (tcs t.k t.n t.s t.b t.h t.r t.c t.fr t.fc) 188)) v L :=
  (ho.below (bel_alloc (Below.refl _ _) _)).below (bel_alloc (Below.refl _ _) _)
 obtain ⟨v', w4, R, o4, g4, b4⟩ := ownT_app (t := t) (g := w2.heap.size + 1) (e' := 188) (z := (0, 0)) Tryz.underlying140 inf46z o3 (by
  have := heap_alloc_new (w2.alloc (.cells (tcs t.k t.n t.s t.b t.h t.r t.c t.fr t.fc) 188)) (.cells (tcs t.k t.n t.s t.b t.h t.r t.c t.fr t.fc) 188)
  rw [show (w2.alloc (.cells (tcs t.k t.n t.s t.b t.h t.r t.c t.fr t.fc) 188)).heap.size = w2.heap.size + 1 by simp] at this
  exact this) hn b3.size
 exact ⟨v', w4, R, o4, b3.trans b4⟩
def strN : Value → Nat
 | .string A => A.size
 | _ => 0
theorem rlex_long (l : List UInt8) (w : World) (hl : 255 < l.length) : Calls Tryz.prog 108 #[.string (ba l)] w fun e w' => e = .returned (.tuple #[.slice none 0 0, .int .i64 3]) ∧ w' = w := by
 have hs : (ba l).size = l.length := size_mk l
 have h1 : (255 : Int) < l.length := by omega
 generalize ba l = A at *
 generalize l.length = n at *
 go_enter Tryz.func108, Tryz.ntmps108
 go_wp2
 go_ret2
 exact ⟨rfl, rfl⟩
theorem rlex_short (l : List UInt8) (w : World) (hl : l.length ≤ 255) : Calls Tryz.prog 108 #[.string (ba l)] w (LexT w (lexF l)) := by
 have hs : (ba l).size = l.length := size_mk l
 have h1 : ¬ (255 : Int) < l.length := by omega
 generalize ho : lexF l = o
 have HO : Hid (lexF l = o) := ho
 clear ho
 go_enter Tryz.func108, Tryz.ntmps108
 go_wp2
 clear hs h1
 go_loopw [0, 4] (fun s v wr => ∃ (L : List Tk.Tok) (m : List UInt8), L.length + m.length ≤ 255 ∧ s = .string (ba m) ∧ Hid (o = (lexF m).map (L ++ ·)) ∧ Hid (Below w.heap.size w wr) ∧ Hid (OwnT 188 w.heap.size wr v (L.map tk))) (fun s _ _ => strN s)
 case atStart => exact ⟨[], l, by simpa using hl, rfl, by show _ = _; rw [← HO.out]; cases lexF l <;> simp, Below.refl _ _, OwnT.nil _ _ _⟩
 case round =>
  obtain ⟨L, m, hlen, rfl, HQ, HB, HW⟩ := hrel
  clear HO
  cases m with
  | nil =>
   have HN : Hid (o = some L) := by
    show _ = _
    rw [HQ.out]
    show some (L ++ []) = _
    rw [List.append_nil]
   have hem : (ba []).toList = [] := by rw [ByteArray.toList_eq]
   clear HQ
   go_wp2
   go_ret2
   rw [HN.out]
   exact ⟨HB.out, _, rfl, HW.out, by omega⟩
  | cons c r =>
   have hz : 0 < (ba (c :: r)).size := by rw [size_mk]; simp
   have h0 : (ba (c :: r))[0] = c := ba_el (X := []) (Z := r) rfl rfl hz
   have BL : ∀ u, Calls Tryz.prog 153 #[.int .u8 ((ba (c :: r))[0].toNat : Nat)] u fun e w' => e = .returned (.bool (Tk.blank c)) ∧ w' = u := fun u => by rw [h0]; exact rblank_any c u
   have hne : ((ba (c :: r)).toList == []) = false := nil_beq (c :: r)
   have hsz : (ba (c :: r)).size = r.length + 1 := size_mk (c :: r)
   simp only [List.length_cons] at hlen
   clear h0
   cases hb : Tk.blank c with
   | true =>
    rw [hb] at BL
    have HN : Hid (o = (lexF r).map (L ++ ·)) := by show _ = _; rw [HQ.out, lex_blank hb]
    have HD : Hid ((ba (c :: r)).extract 1 (r.length + 1) = ba r) := ba_sub (X := [c]) (Y := r) (Z := []) (by simp) rfl (by simp; omega)
    have HD2 := HD.out
    obtain ⟨R, hR⟩ : ∃ R, R = ba r := ⟨_, rfl⟩
    rw [← hR] at HD2
    have HR : Hid (R = ba r) := hR
    have HM : Hid (strN (.string R) < strN (.string (ba (c :: r)))) := by show R.size < (ba (c :: r)).size; rw [hR, size_mk, size_mk]; simp
    have hi1 : (1 : Int) ≤ (r.length : Int) + 1 := by omega
    clear HQ HD hR
    generalize ba (c :: r) = S at *
    go_wp2_with (go_at_call 153; refine (BL _).mono ?_; rintro e w' ⟨rfl, hw⟩; obtain rfl := hw.symm; clear hw)
    go_roundw
    case rel => exact ⟨L, r, by omega, by rw [HR.out], HN, HB, HW⟩
    case measure => exact HM.out
   | false =>
    rw [hb] at BL
    have NX := fun u => rone_any c r (by simp only [List.length_cons]; omega) u
    have hlx := lex_cons (r := r) hb
    cases h1 : Tk.one gnF trB pnF (c :: r) with
    | none =>
     rw [h1] at NX hlx
     have HN : Hid (o = none) := by
      show _ = _
      rw [HQ.out, hlx]; rfl
     have NX' : ∀ u, Calls Tryz.prog 154 #[.string (ba (c :: r))] u fun e w' => e = .returned (.tuple #[.agg tk0, .int .i64 0]) ∧ Below u.heap.size u w' := fun u => (NX u).mono (by
      rintro e w' ⟨h, rfl⟩
      exact ⟨rfl, h⟩)
     clear NX HQ hlx
     generalize ba (c :: r) = S at *
     go_wp2_with (first
      | (go_at_call 153; refine (BL _).mono ?_; rintro e w' ⟨rfl, hw⟩; obtain rfl := hw.symm; clear hw)
      | (go_at_call 154; refine (NX' _).mono ?_; rintro e w3 ⟨rfl, hs⟩; have H3 : Hid (Below w.heap.size w w3) := bel_step HB.out hs; clear hs))
     go_ret2
     rw [HN.out]
     exact ⟨bel_alloc H3.out _, rfl⟩
    | some p =>
     obtain ⟨t, q⟩ := p
     have hql := one_len h1
     have hqd := suf_drop (one_suf h1)
     rw [h1] at NX hlx
     have HN : Hid (o = (lexF q).map ((L ++ [t]) ++ ·)) := by
      show _ = _
      rw [HQ.out, hlx]
      simp only
      cases lexF q <;> simp
     simp only [List.length_cons] at hql
     have NX' : ∀ u, Calls Tryz.prog 154 #[.string (ba (c :: r))] u fun e w' => e = .returned (.tuple #[.agg (tcs (tk t).k (tk t).n (tk t).s (tk t).b (tk t).h (tk t).r (tk t).c (tk t).fr (tk t).fc), .int .i64 ((r.length + 1 - q.length : Nat) : Int)]) ∧ Below u.heap.size u w' := fun u => (NX u).mono (by
      rintro e w' ⟨h, rfl⟩
      exact ⟨rfl, h⟩)
     have HL : Hid ((L ++ [t]).length + q.length ≤ 255) := by show _ ≤ _; simp; omega
     have HT : Hid (∀ x, x = tk t → (L ++ [t]).map tk = L.map tk ++ [x]) := fun x e => by rw [e]; simp
     have HD : Hid ((ba (c :: r)).extract (r.length + 1 - q.length) (r.length + 1) = ba q) := by
      show _ = _
      have := ba_drop (c :: r) (r.length + 1 - q.length)
      simp only [List.length_cons] at this hqd
      rw [this, hqd]
     obtain ⟨R, hR⟩ : ∃ R, R = ba q := ⟨_, rfl⟩
     have HD2 := HD.out
     rw [← hR] at HD2
     have HR : Hid (R = ba q) := hR
     have HM : Hid (strN (.string R) < strN (.string (ba (c :: r)))) := by show R.size < (ba (c :: r)).size; rw [hR, size_mk, size_mk]; simp; omega
     clear NX HQ hlx h1 hqd HD hR
     obtain ⟨z, hz1⟩ : ∃ z, z = r.length + 1 - q.length := ⟨_, rfl⟩
     rw [← hz1] at NX' HD2
     have hz2 : 1 ≤ z := by omega
     have hz3 : (z : Int) ≤ (r.length : Int) + 1 := by omega
     have hz4 : ((z : Int) == 0) = false := by simp; omega
     clear hz1
     generalize htt : tk t = tt at *
     have HT2 : Hid ((L ++ [t]).map tk = L.map tk ++ [tt]) := HT.out tt rfl
     clear HT htt
     generalize ba (c :: r) = S at *
     go_wp2_with (first
      | (go_at_call 153; refine (BL _).mono ?_; rintro e w' ⟨rfl, hw⟩; obtain rfl := hw.symm; clear hw)
      | (go_at_call 154; refine (NX' _).mono ?_; rintro e w3 ⟨rfl, hs⟩; obtain ⟨v', w4, RR, HO4, HB4⟩ := app_allR (bel_step HB.out hs) (HW.out.below hs) tt (by have := HL.out; simp at this ⊢; omega); clear hs)
      | (at_builtin; refine wpList_append_run rfl _ _ 140 rfl _ _ _ _ rfl rfl RR.out ?_))
     go_roundw
     case rel => exact ⟨L ++ [t], q, HL.out, by rw [HR.out], HN, HB4, by show OwnT _ _ _ _ _; rw [HT2.out]; exact HO4.out⟩
     case measure => exact HM.out
theorem rlex_any (l : List UInt8) (w : World) : Calls Tryz.prog 108 #[.string (ba l)] w (LexB w l) := by
 unfold LexB
 by_cases h : 255 < l.length
 ·simp only [if_pos h]
  exact rlex_long l w h
 ·simp only [if_neg h]
  exact rlex_short l w (by omega)
end Go.Proofs.YtnibldnfbikipaaGreatDoor
