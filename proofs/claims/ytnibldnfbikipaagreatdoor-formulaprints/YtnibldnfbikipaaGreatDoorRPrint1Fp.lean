/- RUnder, SizesWalk, Back0, RPrint1. -/
import Derived.Test.YtnibldnfbikipaaGreatDoorRQuoteFp
set_option linter.unusedVariables false
set_option linter.unusedSimpArgs false
set_option maxHeartbeats 16000000
set_option maxRecDepth 100000
namespace Go.Proofs.YtnibldnfbikipaaGreatDoor
open Go.RowKit Go.Fm
def flK (L : List Tk.Tok) : List UInt8 := L.flatMap txT
theorem flK_len (L : List Tk.Tok) : (flK L).length = lnK L := by unfold flK lnK; rw [List.length_flatMap]
theorem pr_flat : ∀ (L : List Tk.Tok) (o : Option Tk.Tok), blK o L = 0 → prT o L = flK L
 | [], o, _ => rfl
 | t :: r, o, h => by
  have h' : (sepT o t).length + blK (some t) r = 0 := h
  have e : sepT o t = [] := List.eq_nil_of_length_eq_zero (by omega)
  show sepT o t ++ (txT t ++ prT (some t) r) = _
  rw [e, pr_flat r (some t) (by omega)]
  unfold flK
  rw [List.flatMap_cons]; rfl
theorem print_flat {t : T} (h : gT okL 24 t = true) : printN t = flK (tkT t) := by
 unfold printN
 rw [if_pos h]
 exact pr_flat _ _ ((tree_nob t 24 h none (.inl rfl)).1)
def wrF (x : Bool) (l : List UInt8) : List UInt8 := if x = true then 40 :: (l ++ [41]) else l
theorem fl_wrap (p : Nat × List Tk.Tok) (lv : Nat) : flK (wrapK p lv) = wrF (!decide (lv ≤ p.1)) (flK p.2) := by
 unfold wrapK wrF
 by_cases h : lv ≤ p.1
 ·rw [if_pos h, decide_eq_true h]; rfl
 ·rw [if_neg h, decide_eq_false h]
  unfold flK
  rw [List.flatMap_cons, List.flatMap_append]
  rfl
section
variable {a : Lab} {p : Option Addr} {n c : Nat} {w : World} {S A : ByteArray}
theorem un_box (P : Calls Tryz.prog 90 #[.agg (lcs a (.slice p n c))] (w.alloc (.cells (lcs a (.slice p n c)) 67)) fun e w' => e = .returned (.string A) ∧ Below (w.alloc (.cells (lcs a (.slice p n c)) 67)).heap.size (w.alloc (.cells (lcs a (.slice p n c)) 67)) w') :
  Calls Tryz.prog 90 #[.agg (lcs a (.slice p n c))] (w.alloc (.cells (lcs a (.slice p n c)) 67)) fun e w' => e = .returned (.string A) ∧ w'.cell? ⟨w.heap.size, 0, none⟩ = some (.int .i64 a.k) ∧ w'.cell? ⟨w.heap.size, 1, none⟩ = some (.string a.s) ∧ Hid (Below w.heap.size w w') := P.mono (by
 rintro e w' ⟨rfl, h⟩
 have hk := (h.block _ (by simp)).trans (heap_alloc_new w (.cells (lcs a (.slice p n c)) 67))
 obtain ⟨c0, c1, _⟩ := box_all hk
 exact ⟨rfl, c0, c1, bel_step (bel_alloc (Below.refl _ _) _) h⟩)
theorem u1 {much : Nat} {side : Bool} (hk : a.k = 6) (hm : decide (((strn a.s.toList : Nat) : Int) < ((much : Nat) : Int)) = true) (P : Calls Tryz.prog 90 #[.agg (lcs a (.slice p n c))] (w.alloc (.cells (lcs a (.slice p n c)) 67)) fun e w' => e = .returned (.string A) ∧ Below (w.alloc (.cells (lcs a (.slice p n c)) 67)).heap.size (w.alloc (.cells (lcs a (.slice p n c)) 67)) w') (hA : A.size ≤ 1000000000) : Calls Tryz.prog 140 #[.agg (lcs a (.slice p n c)), .int .i64 (much : Nat), .bool side] w fun e w' => e = .returned (.string (⟨#[40]⟩ ++ A ++ ⟨#[41]⟩)) ∧ Below w.heap.size w w' := by
 have P' := un_box P
 have RL : Hid _ := lod (z := (0, 0)) (heap_alloc_new w (.cells (lcs a (.slice p n c)) 67)) rfl Tryz.underlying67 (by rw [lcs_size]; exact inf67)
 have ST : ∀ u, Calls Tryz.prog 141 #[.string a.s] u fun e w' => e = .returned (.int .i64 (strn a.s.toList : Nat)) ∧ w' = u := fun u => by
  have := rstrength_any a.s.toList u
  rw [show ba a.s.toList = a.s by rw [ByteArray.toList_eq]] at this
  exact this
 rw [hk] at P'
 have n1 : ¬ 9223372036854775807 < 1 + A.size := by omega
 obtain ⟨B, hB⟩ : ∃ B, (⟨#[40]⟩ : ByteArray) ++ A = B := ⟨_, rfl⟩
 have hBz : B.size = 1 + A.size := by rw [← hB]; simp; rfl
 have n2 : ¬ 9223372036854775807 < B.size + 1 := by omega
 rw [hB]
 clear hBz
 clear P hA hk
 generalize lcs a (.slice p n c) = bx at *
 generalize a.s = S at *
 generalize ((strn S.toList : Nat) : Int) = K at *
 generalize ((much : Nat) : Int) = mu at *
 go_enter Tryz.func140, Tryz.ntmps140
 go_wp2_with (first
  | (refine wpList_load_run rfl 67 _ rfl _ _ rfl RL.out ?_; clear RL)
  | (go_at_call 90; refine P'.mono ?_; rintro e w1 ⟨rfl, c0, c1, HB⟩)
  | (go_at_call 141; refine (ST _).mono ?_; rintro e w' ⟨rfl, hw⟩; obtain rfl := hw.symm; clear hw))
 go_ret
 exact ⟨rfl, HB.out⟩
theorem u2 {much : Nat} (hk : a.k = 6) (hm : decide (((strn a.s.toList : Nat) : Int) < ((much : Nat) : Int)) = false) (he : (((much : Nat) : Int) == ((strn a.s.toList : Nat) : Int)) = true) (P : Calls Tryz.prog 90 #[.agg (lcs a (.slice p n c))] (w.alloc (.cells (lcs a (.slice p n c)) 67)) fun e w' => e = .returned (.string A) ∧ Below (w.alloc (.cells (lcs a (.slice p n c)) 67)).heap.size (w.alloc (.cells (lcs a (.slice p n c)) 67)) w') (hA : A.size ≤ 1000000000) : Calls Tryz.prog 140 #[.agg (lcs a (.slice p n c)), .int .i64 (much : Nat), .bool true] w fun e w' => e = .returned (.string (⟨#[40]⟩ ++ A ++ ⟨#[41]⟩)) ∧ Below w.heap.size w w' := by
 have P' := un_box P
 have RL : Hid _ := lod (z := (0, 0)) (heap_alloc_new w (.cells (lcs a (.slice p n c)) 67)) rfl Tryz.underlying67 (by rw [lcs_size]; exact inf67)
 have ST : ∀ u, Calls Tryz.prog 141 #[.string a.s] u fun e w' => e = .returned (.int .i64 (strn a.s.toList : Nat)) ∧ w' = u := fun u => by
  have := rstrength_any a.s.toList u
  rw [show ba a.s.toList = a.s by rw [ByteArray.toList_eq]] at this
  exact this
 rw [hk] at P'
 have n1 : ¬ 9223372036854775807 < 1 + A.size := by omega
 obtain ⟨B, hB⟩ : ∃ B, (⟨#[40]⟩ : ByteArray) ++ A = B := ⟨_, rfl⟩
 have hBz : B.size = 1 + A.size := by rw [← hB]; simp; rfl
 have n2 : ¬ 9223372036854775807 < B.size + 1 := by omega
 rw [hB]
 clear hBz
 clear P hA hk
 generalize lcs a (.slice p n c) = bx at *
 generalize a.s = S at *
 generalize ((strn S.toList : Nat) : Int) = K at *
 generalize ((much : Nat) : Int) = mu at *
 go_enter Tryz.func140, Tryz.ntmps140
 go_wp2_with (first
  | (refine wpList_load_run rfl 67 _ rfl _ _ rfl RL.out ?_; clear RL)
  | (go_at_call 90; refine P'.mono ?_; rintro e w1 ⟨rfl, c0, c1, HB⟩)
  | (go_at_call 141; refine (ST _).mono ?_; rintro e w' ⟨rfl, hw⟩; obtain rfl := hw.symm; clear hw))
 go_ret
 exact ⟨rfl, HB.out⟩
theorem u3 {much : Nat} (hk : a.k = 6) (hm : decide (((strn a.s.toList : Nat) : Int) < ((much : Nat) : Int)) = false) (P : Calls Tryz.prog 90 #[.agg (lcs a (.slice p n c))] (w.alloc (.cells (lcs a (.slice p n c)) 67)) fun e w' => e = .returned (.string A) ∧ Below (w.alloc (.cells (lcs a (.slice p n c)) 67)).heap.size (w.alloc (.cells (lcs a (.slice p n c)) 67)) w') (hA : A.size ≤ 1000000000) : Calls Tryz.prog 140 #[.agg (lcs a (.slice p n c)), .int .i64 (much : Nat), .bool false] w fun e w' => e = .returned (.string A) ∧ Below w.heap.size w w' := by
 have P' := un_box P
 have RL : Hid _ := lod (z := (0, 0)) (heap_alloc_new w (.cells (lcs a (.slice p n c)) 67)) rfl Tryz.underlying67 (by rw [lcs_size]; exact inf67)
 have ST : ∀ u, Calls Tryz.prog 141 #[.string a.s] u fun e w' => e = .returned (.int .i64 (strn a.s.toList : Nat)) ∧ w' = u := fun u => by
  have := rstrength_any a.s.toList u
  rw [show ba a.s.toList = a.s by rw [ByteArray.toList_eq]] at this
  exact this
 rw [hk] at P'
 clear P hA hk
 generalize lcs a (.slice p n c) = bx at *
 generalize a.s = S at *
 generalize ((strn S.toList : Nat) : Int) = K at *
 generalize ((much : Nat) : Int) = mu at *
 go_enter Tryz.func140, Tryz.ntmps140
 go_wp2_with (first
  | (refine wpList_load_run rfl 67 _ rfl _ _ rfl RL.out ?_; clear RL)
  | (go_at_call 90; refine P'.mono ?_; rintro e w1 ⟨rfl, c0, c1, HB⟩)
  | (go_at_call 141; refine (ST _).mono ?_; rintro e w' ⟨rfl, hw⟩; obtain rfl := hw.symm; clear hw))
 go_ret
 exact ⟨rfl, HB.out⟩
theorem u4 {much : Nat} (hk : a.k = 6) (hm : decide (((strn a.s.toList : Nat) : Int) < ((much : Nat) : Int)) = false) (he : (((much : Nat) : Int) == ((strn a.s.toList : Nat) : Int)) = false) (P : Calls Tryz.prog 90 #[.agg (lcs a (.slice p n c))] (w.alloc (.cells (lcs a (.slice p n c)) 67)) fun e w' => e = .returned (.string A) ∧ Below (w.alloc (.cells (lcs a (.slice p n c)) 67)).heap.size (w.alloc (.cells (lcs a (.slice p n c)) 67)) w') (hA : A.size ≤ 1000000000) : Calls Tryz.prog 140 #[.agg (lcs a (.slice p n c)), .int .i64 (much : Nat), .bool true] w fun e w' => e = .returned (.string A) ∧ Below w.heap.size w w' := by
 have P' := un_box P
 have RL : Hid _ := lod (z := (0, 0)) (heap_alloc_new w (.cells (lcs a (.slice p n c)) 67)) rfl Tryz.underlying67 (by rw [lcs_size]; exact inf67)
 have ST : ∀ u, Calls Tryz.prog 141 #[.string a.s] u fun e w' => e = .returned (.int .i64 (strn a.s.toList : Nat)) ∧ w' = u := fun u => by
  have := rstrength_any a.s.toList u
  rw [show ba a.s.toList = a.s by rw [ByteArray.toList_eq]] at this
  exact this
 rw [hk] at P'
 clear P hA hk
 generalize lcs a (.slice p n c) = bx at *
 generalize a.s = S at *
 generalize ((strn S.toList : Nat) : Int) = K at *
 generalize ((much : Nat) : Int) = mu at *
 go_enter Tryz.func140, Tryz.ntmps140
 go_wp2_with (first
  | (refine wpList_load_run rfl 67 _ rfl _ _ rfl RL.out ?_; clear RL)
  | (go_at_call 90; refine P'.mono ?_; rintro e w1 ⟨rfl, c0, c1, HB⟩)
  | (go_at_call 141; refine (ST _).mono ?_; rintro e w' ⟨rfl, hw⟩; obtain rfl := hw.symm; clear hw))
 go_ret
 exact ⟨rfl, HB.out⟩
theorem u5 {much : Nat} {side : Bool} (hk : a.k = 5) (hs : (a.s.toList == [45]) = true) (h7 : (((much : Nat) : Int) == 7) = true) (P : Calls Tryz.prog 90 #[.agg (lcs a (.slice p n c))] (w.alloc (.cells (lcs a (.slice p n c)) 67)) fun e w' => e = .returned (.string A) ∧ Below (w.alloc (.cells (lcs a (.slice p n c)) 67)).heap.size (w.alloc (.cells (lcs a (.slice p n c)) 67)) w') (hA : A.size ≤ 1000000000) : Calls Tryz.prog 140 #[.agg (lcs a (.slice p n c)), .int .i64 (much : Nat), .bool side] w fun e w' => e = .returned (.string (⟨#[40]⟩ ++ A ++ ⟨#[41]⟩)) ∧ Below w.heap.size w w' := by
 have P' := un_box P
 have RL : Hid _ := lod (z := (0, 0)) (heap_alloc_new w (.cells (lcs a (.slice p n c)) 67)) rfl Tryz.underlying67 (by rw [lcs_size]; exact inf67)
 rw [hk] at P'
 have n1 : ¬ 9223372036854775807 < 1 + A.size := by omega
 obtain ⟨B, hB⟩ : ∃ B, (⟨#[40]⟩ : ByteArray) ++ A = B := ⟨_, rfl⟩
 have hBz : B.size = 1 + A.size := by rw [← hB]; simp; rfl
 have n2 : ¬ 9223372036854775807 < B.size + 1 := by omega
 rw [hB]
 clear hBz
 clear P hA hk
 generalize lcs a (.slice p n c) = bx at *
 generalize a.s = S at *
 generalize ((much : Nat) : Int) = mu at *
 go_enter Tryz.func140, Tryz.ntmps140
 go_wp2_with (first
  | (refine wpList_load_run rfl 67 _ rfl _ _ rfl RL.out ?_; clear RL)
  | (go_at_call 90; refine P'.mono ?_; rintro e w1 ⟨rfl, c0, c1, HB⟩))
 go_ret
 exact ⟨rfl, HB.out⟩
theorem u6 {much : Nat} {side : Bool} (hk : a.k = 5) (hs : (a.s.toList == [45]) = true) (h7 : (((much : Nat) : Int) == 7) = false) (P : Calls Tryz.prog 90 #[.agg (lcs a (.slice p n c))] (w.alloc (.cells (lcs a (.slice p n c)) 67)) fun e w' => e = .returned (.string A) ∧ Below (w.alloc (.cells (lcs a (.slice p n c)) 67)).heap.size (w.alloc (.cells (lcs a (.slice p n c)) 67)) w') (hA : A.size ≤ 1000000000) : Calls Tryz.prog 140 #[.agg (lcs a (.slice p n c)), .int .i64 (much : Nat), .bool side] w fun e w' => e = .returned (.string A) ∧ Below w.heap.size w w' := by
 have P' := un_box P
 have RL : Hid _ := lod (z := (0, 0)) (heap_alloc_new w (.cells (lcs a (.slice p n c)) 67)) rfl Tryz.underlying67 (by rw [lcs_size]; exact inf67)
 rw [hk] at P'
 clear P hA hk
 generalize lcs a (.slice p n c) = bx at *
 generalize a.s = S at *
 generalize ((much : Nat) : Int) = mu at *
 go_enter Tryz.func140, Tryz.ntmps140
 go_wp2_with (first
  | (refine wpList_load_run rfl 67 _ rfl _ _ rfl RL.out ?_; clear RL)
  | (go_at_call 90; refine P'.mono ?_; rintro e w1 ⟨rfl, c0, c1, HB⟩))
 go_ret
 exact ⟨rfl, HB.out⟩
theorem u7 {much : Nat} {side : Bool} (hk : a.k = 5) (hs : (a.s.toList == [45]) = false) (P : Calls Tryz.prog 90 #[.agg (lcs a (.slice p n c))] (w.alloc (.cells (lcs a (.slice p n c)) 67)) fun e w' => e = .returned (.string A) ∧ Below (w.alloc (.cells (lcs a (.slice p n c)) 67)).heap.size (w.alloc (.cells (lcs a (.slice p n c)) 67)) w') (hA : A.size ≤ 1000000000) : Calls Tryz.prog 140 #[.agg (lcs a (.slice p n c)), .int .i64 (much : Nat), .bool side] w fun e w' => e = .returned (.string A) ∧ Below w.heap.size w w' := by
 have P' := un_box P
 have RL : Hid _ := lod (z := (0, 0)) (heap_alloc_new w (.cells (lcs a (.slice p n c)) 67)) rfl Tryz.underlying67 (by rw [lcs_size]; exact inf67)
 rw [hk] at P'
 clear P hA hk
 generalize lcs a (.slice p n c) = bx at *
 generalize a.s = S at *
 generalize ((much : Nat) : Int) = mu at *
 go_enter Tryz.func140, Tryz.ntmps140
 go_wp2_with (first
  | (refine wpList_load_run rfl 67 _ rfl _ _ rfl RL.out ?_; clear RL)
  | (go_at_call 90; refine P'.mono ?_; rintro e w1 ⟨rfl, c0, c1, HB⟩))
 go_ret
 exact ⟨rfl, HB.out⟩
theorem u8 {much : Nat} {side : Bool} (h5 : (a.k == 5) = false) (h6 : (a.k == 6) = false) (P : Calls Tryz.prog 90 #[.agg (lcs a (.slice p n c))] (w.alloc (.cells (lcs a (.slice p n c)) 67)) fun e w' => e = .returned (.string A) ∧ Below (w.alloc (.cells (lcs a (.slice p n c)) 67)).heap.size (w.alloc (.cells (lcs a (.slice p n c)) 67)) w') (hA : A.size ≤ 1000000000) : Calls Tryz.prog 140 #[.agg (lcs a (.slice p n c)), .int .i64 (much : Nat), .bool side] w fun e w' => e = .returned (.string A) ∧ Below w.heap.size w w' := by
 have P' := un_box P
 have RL : Hid _ := lod (z := (0, 0)) (heap_alloc_new w (.cells (lcs a (.slice p n c)) 67)) rfl Tryz.underlying67 (by rw [lcs_size]; exact inf67)
 clear P hA
 generalize lcs a (.slice p n c) = bx at *
 generalize a.s = S at *
 generalize a.k = k at *
 generalize ((much : Nat) : Int) = mu at *
 go_enter Tryz.func140, Tryz.ntmps140
 go_wp2_with (first
  | (refine wpList_load_run rfl 67 _ rfl _ _ rfl RL.out ?_; clear RL)
  | (go_at_call 90; refine P'.mono ?_; rintro e w1 ⟨rfl, c0, c1, HB⟩))
 go_ret
 exact ⟨rfl, HB.out⟩
end
theorem wr_paren (l : List UInt8) : (⟨#[40]⟩ : ByteArray) ++ ba l ++ ⟨#[41]⟩ = ba (wrF true l) := by
 show ba [40] ++ ba l ++ ba [41] = _
 rw [ba_app, ba_app]; rfl
theorem under_any {t : T} {d : Nat} (hg : gT okL d t = true) {w : World} {es : Array Value} (h : NT w es t) (hz : lnK (tkT t) ≤ 100000000) {much : Nat} {side : Bool} (hm : 1 ≤ much) (hs : side = true → much ≤ 5) (hm7 : much ≤ 7)
  (P : ∀ (u : World) (es : Array Value), Below w.heap.size w u → NT u es t → Calls Tryz.prog 90 #[.agg es] u fun e w' => e = .returned (.string (ba (flK (tkT t)))) ∧ Below u.heap.size u w') :
  Calls Tryz.prog 140 #[.agg es, .int .i64 (much : Nat), .bool side] w fun e w' => e = .returned (.string (ba (flK (wrapK (holdN t.1, tkT t) (if side = true then much + 1 else much))))) ∧ Below w.heap.size w w' := by
 have P1 := P (w.alloc (.cells es 67)) es (bel_alloc (Below.refl _ _) _) (h.below (bel_alloc (Below.refl _ _) _))
 have hA : (ba (flK (tkT t))).size ≤ 1000000000 := by rw [size_mk, flK_len]; omega
 obtain ⟨p, n, c, rfl, _⟩ := h
 rw [fl_wrap]
 have hk5 := Go.Fm.strn_le t.1.s.toList
 have yes : (!decide ((if side = true then much + 1 else much) ≤ holdN t.1)) = true → Calls Tryz.prog 140 #[.agg (lcs t.1 (.slice p n c)), .int .i64 (much : Nat), .bool side] w (fun e w' => e = .returned (.string (⟨#[40]⟩ ++ ba (flK (tkT t)) ++ ⟨#[41]⟩)) ∧ Below w.heap.size w w') → Calls Tryz.prog 140 #[.agg (lcs t.1 (.slice p n c)), .int .i64 (much : Nat), .bool side] w fun e w' => e = .returned (.string (ba (wrF (!decide ((if side = true then much + 1 else much) ≤ holdN t.1)) (flK (tkT t))))) ∧ Below w.heap.size w w' := fun hx hc => by
  rw [hx, ← wr_paren]; exact hc
 have no : (!decide ((if side = true then much + 1 else much) ≤ holdN t.1)) = false → Calls Tryz.prog 140 #[.agg (lcs t.1 (.slice p n c)), .int .i64 (much : Nat), .bool side] w (fun e w' => e = .returned (.string (ba (flK (tkT t)))) ∧ Below w.heap.size w w') → Calls Tryz.prog 140 #[.agg (lcs t.1 (.slice p n c)), .int .i64 (much : Nat), .bool side] w fun e w' => e = .returned (.string (ba (wrF (!decide ((if side = true then much + 1 else much) ≤ holdN t.1)) (flK (tkT t))))) ∧ Below w.heap.size w w' := fun hx hc => by
  rw [hx]; exact hc
 by_cases h6 : t.1.k = 6
 ·have hh : holdN t.1 = strn t.1.s.toList := by unfold holdN; rw [if_pos h6]
  by_cases hlt : strn t.1.s.toList < much
  ·exact yes (by rw [hh, decide_eq_false (by split <;> omega)]; rfl) (u1 h6 (decide_eq_true (by omega)) P1 hA)
  ·have hm' : decide (((strn t.1.s.toList : Nat) : Int) < ((much : Nat) : Int)) = false := decide_eq_false (by omega)
   cases side with
   | false => exact no (by rw [hh, decide_eq_true (by simp; omega)]; rfl) (u3 h6 hm' P1 hA)
   | true =>
    by_cases he : much = strn t.1.s.toList
    ·exact yes (by rw [hh, decide_eq_false (by simp; omega)]; rfl) (u2 h6 hm' (by simp; omega) P1 hA)
    ·exact no (by rw [hh, decide_eq_true (by simp; omega)]; rfl) (u4 h6 hm' (by simp; omega) P1 hA)
 ·by_cases h5 : t.1.k = 5
  ·by_cases hm45 : t.1.s.toList = [45]
   ·have hh : holdN t.1 = 6 := by unfold holdN; rw [if_neg h6, if_pos h5, if_pos hm45]
    by_cases h7 : much = 7
    ·have hsd : side = false := by cases side with | false => rfl | true => exact absurd (hs rfl) (by omega)
     exact yes (by rw [hh, decide_eq_false (by split <;> omega)]; rfl) (u5 h5 (by rw [hm45]; rfl) (by simp; omega) P1 hA)
    ·exact no (by rw [hh, decide_eq_true (by split <;> first | omega | (rename_i hx; have := hs hx; omega))]; rfl) (u6 h5 (by rw [hm45]; rfl) (by simp; omega) P1 hA)
   ·have hh : holdN t.1 = 7 := by unfold holdN; rw [if_neg h6, if_pos h5, if_neg hm45]
    exact no (by rw [hh, decide_eq_true (by split <;> first | omega | (rename_i hx; have := hs hx; omega))]; rfl) (u7 h5 (by simpa using hm45) P1 hA)
  ·have hh : holdN t.1 = 8 := by unfold holdN; rw [if_neg h6, if_neg h5]
   exact no (by rw [hh, decide_eq_true (by split <;> omega)]; rfl) (u8 (by simpa using h5) (by simpa using h6) P1 hA)
structure QX (w : World) (es : Array Value) (u : World) : Prop where
 b : u.heap[w.heap.size]? = some (.cells es 67)
 l : Below w.heap.size w u
abbrev t_s (a : Lab) : Nat := a.s.size
theorem nb_size : nb.size = 0 := rfl
theorem sz_list (s : ByteArray) : s.size = s.toList.length := by rw [ByteArray.toList_eq]; simp
theorem ok_labz {a : Lab} {n : Nat} (h : okL a n = true) : LabZ a := by
 have gs : ∀ {s : ByteArray}, gnF s.data.toList = true → s.size ≤ 9223372036854775807 := fun {s} hg => by
  have := (gn_parts hg).1
  rw [sz_list, ByteArray.toList_eq]; omega
 have es : ∀ {s : ByteArray}, s.toList = [] → s.size ≤ 9223372036854775807 := fun {s} he => by rw [sz_list, he]; simp
 have hn : (nb).size ≤ 9223372036854775807 := by rw [nb_size]; omega
 have gB : ∀ {b s : ByteArray} {r c : Int}, goodB b s r c = true → b.size ≤ 9223372036854775807 ∧ s.size ≤ 9223372036854775807 := fun {b s r c} hg => by
  unfold goodB at hg
  rw [Bool.and_eq_true] at hg
  have h2 := hg.2
  split at h2
  ·rename_i he
   exact ⟨es (of_decide_eq_true h2), es he⟩
  ·rw [Bool.and_eq_true, Bool.or_eq_true] at h2
   exact ⟨h2.2.elim (fun hh => es (of_decide_eq_true hh)) gs, gs h2.1⟩
 have hb := (ok_bare h).1
 rcases ok_cases h with ⟨hk, h1⟩ | ⟨hk, h1⟩ | ⟨hk, h1, h2, h3⟩ | ⟨hk, h1, h2⟩ | ⟨hk, h1, h2⟩ | ⟨hk, h1, h2⟩ | ⟨hk, h1, h2⟩
 ·unfold namL at hb
  rw [if_pos hk] at hb
  rw [hb]; exact ⟨hn, hn, hn, hn, hn⟩
 ·unfold namL at hb
  rw [if_neg (by omega), if_pos hk] at hb
  have := gB h1
  rw [hb]; exact ⟨hn, this.1, this.2, hn, hn⟩
 ·unfold namL at hb
  rw [if_neg (by omega), if_neg (by omega), if_pos hk] at hb
  have a1 := gB h1
  have a2 := gB h2
  rw [hb]; exact ⟨hn, a1.1, a1.2, a2.1, a2.2⟩
 ·unfold namL at hb
  rw [if_neg (by omega), if_neg (by omega), if_neg (by omega), if_pos hk] at hb
  rw [hb]; exact ⟨gs h1, h2.elim es gs, hn, hn, hn⟩
 ·unfold namL at hb
  rw [if_neg (by omega), if_neg (by omega), if_neg (by omega), if_neg (by omega)] at hb
  rw [hb]
  refine ⟨?_, hn, hn, hn, hn⟩
  show t_s a ≤ _
  unfold t_s
  rw [sz_list]
  rcases h2 with e | e <;> rw [e] <;> decide
 ·unfold namL at hb
  rw [if_neg (by omega), if_neg (by omega), if_neg (by omega), if_neg (by omega)] at hb
  rw [hb]
  refine ⟨?_, hn, hn, hn, hn⟩
  show t_s a ≤ _
  unfold t_s
  rw [sz_list]
  rcases strn_cases a.s.toList with e | e
  ·rcases e with e | e | e | e | e | e | e | e | e | e | e | e <;> rw [e] <;> decide
  ·exact absurd e.1 h2
 ·unfold namL at hb
  rw [if_neg (by omega), if_neg (by omega), if_neg (by omega), if_neg (by omega)] at hb
  rw [hb]
  refine ⟨?_, hn, hn, hn, hn⟩
  show t_s a ≤ _
  unfold t_s
  unfold gfB at h2
  rw [Bool.and_eq_true, Bool.or_eq_true] at h2
  rcases h2.2 with hg | hg
  ·exact gs hg
  ·have ht : (truF a.s).2 = true := by
    unfold typedF at hg
    split at hg
    ·cases hg
    split at hg
    ·cases hg
    split at hg
    ·cases hg
    split at hg
    ·rename_i ht; exact ht
    split at hg
    ·cases hg
    ·cases hg
   have hl : (szF 97 65 a.s.data.toList).length = a.s.size := by unfold szF; rw [List.length_map]; simp
   unfold truF at ht
   rcases tru_cases (szF 97 65 a.s.data.toList) with ⟨e, _⟩ | ⟨e, _⟩ | ⟨_, _, e, _⟩
   ·rw [e] at hl; simp at hl; omega
   ·rw [e] at hl; simp at hl; omega
   ·rw [e] at ht; cases ht
structure YX (w : World) (es : Array Value) (g : Nat) (fs : Array Value) (p : T) (u : World) : Prop where
 q : QX w es u
 b : u.heap[g]? = some (.cells fs 67)
 n : NT u fs p
structure VX (w : World) (es : Array Value) (g : Nat) (fs : Array Value) (p : T) (g' : Nat) (fs' : Array Value) (p' : T) (u : World) : Prop where
 y : YX w es g fs p u
 b : u.heap[g']? = some (.cells fs' 67)
 n : NT u fs' p'
theorem lnK_le : ∀ {L : List Tk.Tok}, (∀ x ∈ L, Tk.okT gnF trB okN x ∧ smT x) → lnK L ≤ 600 * L.length
 | [], _ => by simp [lnK]
 | t :: L, h => by
  have h1 := tx_len (h t (by simp)).1 (h t (by simp)).2
  have h2 := lnK_le (L := L) (fun x hx => h x (by simp [hx]))
  rw [lnK_cons, List.length_cons]; omega
theorem flK_one (t : Tk.Tok) : flK [t] = txT t := by unfold flK; simp
section
variable {a : Lab} {p : Option Addr} {n c : Nat} {w : World}
theorem rp_str (hk : a.k = 1) (hv : a.vk = 2) {R : ByteArray} (Q : ∀ u, Calls Tryz.prog 136 #[.string a.vs] u fun e w' => e = .returned (.string R) ∧ w' = u) : Calls Tryz.prog 90 #[.agg (lcs a (.slice p n c))] w fun e w' => e = .returned (.string R) ∧ Below w.heap.size w w' := by
 have H0 := heap_alloc_new w (.cells (lcs a (.slice p n c)) 67)
 have hc : ∀ j v, (lcs a (.slice p n c))[j]? = some v → (w.alloc (.cells (lcs a (.slice p n c)) 67)).cell? ⟨w.heap.size, j, none⟩ = some v := fun j v hj => by rw [cell_of_row _ _ j _ 67 (0, 0) H0]; exact hj
 have c0 : (w.alloc (.cells (lcs a (.slice p n c)) 67)).cell? ⟨w.heap.size, 0, none⟩ = some (.int .i64 a.k) := hc 0 _ rfl
 have c2 : (w.alloc (.cells (lcs a (.slice p n c)) 67)).cell? ⟨w.heap.size, 2, none⟩ = some (.int .i64 a.vk) := hc 2 _ rfl
 have c4 : (w.alloc (.cells (lcs a (.slice p n c)) 67)).cell? ⟨w.heap.size, 4, none⟩ = some (.string a.vs) := hc 4 _ rfl
 have HB : Hid (Below w.heap.size w (w.alloc (.cells (lcs a (.slice p n c)) 67))) := bel_alloc (Below.refl _ _) _
 rw [hk] at c0
 rw [hv] at c2
 clear H0 hc hk hv
 generalize lcs a (.slice p n c) = bx at *
 generalize a.vs = S at *
 go_enter Tryz.func90, Tryz.ntmps90
 go_wp2_with (go_at_call 136; refine (Q _).mono ?_; rintro e w' ⟨rfl, hw⟩; obtain rfl := hw.symm; clear hw)
 go_ret
 exact ⟨rfl, HB.out⟩
theorem rp_val (hk : a.k = 1) (hv : (a.vk == 2) = false) {R : ByteArray} (Q : ∀ u, Below w.heap.size w u → Calls Tryz.prog 137 #[.agg #[.int .i64 a.vk, .int .i64 a.vn, .string a.vs]] u fun e w' => e = .returned (.string R) ∧ Below u.heap.size u w') : Calls Tryz.prog 90 #[.agg (lcs a (.slice p n c))] w fun e w' => e = .returned (.string R) ∧ Below w.heap.size w w' := by
 have H0 := heap_alloc_new w (.cells (lcs a (.slice p n c)) 67)
 have hc : ∀ j v, (lcs a (.slice p n c))[j]? = some v → (w.alloc (.cells (lcs a (.slice p n c)) 67)).cell? ⟨w.heap.size, j, none⟩ = some v := fun j v hj => by rw [cell_of_row _ _ j _ 67 (0, 0) H0]; exact hj
 obtain ⟨c0, _, l2, _, _⟩ := box_all H0
 have c2 : (w.alloc (.cells (lcs a (.slice p n c)) 67)).cell? ⟨w.heap.size, 2, none⟩ = some (.int .i64 a.vk) := hc 2 _ rfl
 have RL : Hid _ := l2
 have HB : Hid (Below w.heap.size w (w.alloc (.cells (lcs a (.slice p n c)) 67))) := bel_alloc (Below.refl _ _) _
 have Q' := Q _ HB.out
 rw [hk] at c0
 clear H0 hc hk Q l2
 generalize lcs a (.slice p n c) = bx at *
 obtain ⟨k, s, vk, vn, vs, b1, x1, r1, c1_, f1, g1, b2, x2, r2, c2_, f2, g2⟩ := a
 dsimp only at *
 go_enter Tryz.func90, Tryz.ntmps90
 go_wp2_with (first
  | (refine wpList_load_run rfl 62 _ rfl _ _ rfl RL.out ?_; clear RL)
  | (go_at_call 137; refine Q'.mono ?_; rintro e w1 ⟨rfl, hb⟩; have HB1 : Hid (Below w.heap.size w w1) := bel_step HB.out hb; clear hb))
 go_ret
 exact ⟨rfl, HB1.out⟩
theorem rp_ref (hk : a.k = 2) {R : ByteArray} (Q : ∀ u, Calls Tryz.prog 138 #[refV a.b1 a.h1 a.r1 a.c1 a.fr1 a.fc1] u fun e w' => e = .returned (.string R) ∧ Below u.heap.size u w') : Calls Tryz.prog 90 #[.agg (lcs a (.slice p n c))] w fun e w' => e = .returned (.string R) ∧ Below w.heap.size w w' := by
 have H0 := heap_alloc_new w (.cells (lcs a (.slice p n c)) 67)
 obtain ⟨c0, _, _, l3, _⟩ := box_all H0
 have RL : Hid _ := l3
 have HB : Hid (Below w.heap.size w (w.alloc (.cells (lcs a (.slice p n c)) 67))) := bel_alloc (Below.refl _ _) _
 rw [hk] at c0
 clear H0 hk l3
 generalize lcs a (.slice p n c) = bx at *
 obtain ⟨k, s, vk, vn, vs, b1, x1, r1, c1_, f1, g1, b2, x2, r2, c2_, f2, g2⟩ := a
 dsimp only at *
 go_enter Tryz.func90, Tryz.ntmps90
 go_wp2_with (first
  | (refine wpList_load_run rfl 64 _ rfl _ _ rfl RL.out ?_; clear RL)
  | (go_at_call 138; refine (Q _).mono ?_; rintro e w1 ⟨rfl, hb⟩; have HB1 : Hid (Below w.heap.size w w1) := bel_step HB.out hb; clear hb))
 go_ret
 exact ⟨rfl, HB1.out⟩
theorem rp_area (hk : a.k = 3) {R : ByteArray} (Q : ∀ u, Calls Tryz.prog 139 #[refV a.b1 a.h1 a.r1 a.c1 a.fr1 a.fc1, refV a.b2 a.h2 a.r2 a.c2 a.fr2 a.fc2] u fun e w' => e = .returned (.string R) ∧ Below u.heap.size u w') : Calls Tryz.prog 90 #[.agg (lcs a (.slice p n c))] w fun e w' => e = .returned (.string R) ∧ Below w.heap.size w w' := by
 have H0 := heap_alloc_new w (.cells (lcs a (.slice p n c)) 67)
 obtain ⟨c0, _, _, l3, l4⟩ := box_all H0
 have RL : Hid _ := l3
 have RM : Hid _ := l4
 have HB : Hid (Below w.heap.size w (w.alloc (.cells (lcs a (.slice p n c)) 67))) := bel_alloc (Below.refl _ _) _
 rw [hk] at c0
 clear H0 hk l3 l4
 generalize lcs a (.slice p n c) = bx at *
 obtain ⟨k, s, vk, vn, vs, b1, x1, r1, c1_, f1, g1, b2, x2, r2, c2_, f2, g2⟩ := a
 dsimp only at *
 go_enter Tryz.func90, Tryz.ntmps90
 go_wp2_with (first
  | (refine wpList_load_run rfl 64 _ rfl _ _ rfl RL.out ?_; clear RL)
  | (refine wpList_load_run rfl 64 _ rfl _ _ rfl RM.out ?_; clear RM)
  | (go_at_call 139; refine (Q _).mono ?_; rintro e w1 ⟨rfl, hb⟩; have HB1 : Hid (Below w.heap.size w w1) := bel_step HB.out hb; clear hb))
 go_ret
 exact ⟨rfl, HB1.out⟩
theorem rp_name0 (hk : a.k = 4) (he : a.b1.toList.isEmpty = true) : Calls Tryz.prog 90 #[.agg (lcs a (.slice p n c))] w fun e w' => e = .returned (.string a.s) ∧ Below w.heap.size w w' := by
 have H0 := heap_alloc_new w (.cells (lcs a (.slice p n c)) 67)
 obtain ⟨c0, c1, _⟩ := box_all H0
 have c5 := cell5 H0
 have HB : Hid (Below w.heap.size w (w.alloc (.cells (lcs a (.slice p n c)) 67))) := bel_alloc (Below.refl _ _) _
 rw [hk] at c0
 clear H0 hk
 generalize lcs a (.slice p n c) = bx at *
 generalize a.s = S at *
 generalize a.b1 = B at *
 go_enter Tryz.func90, Tryz.ntmps90
 go_wp2
 go_ret
 exact ⟨rfl, HB.out⟩
theorem rp_name1 (hk : a.k = 4) (he : a.b1.toList.isEmpty = false) (hb : a.b1.size ≤ 1000) (hs : a.s.size ≤ 1000) : Calls Tryz.prog 90 #[.agg (lcs a (.slice p n c))] w fun e w' => e = .returned (.string (⟨#[91]⟩ ++ a.b1 ++ ⟨#[93]⟩ ++ a.s)) ∧ Below w.heap.size w w' := by
 have H0 := heap_alloc_new w (.cells (lcs a (.slice p n c)) 67)
 obtain ⟨c0, c1, _⟩ := box_all H0
 have c5 := cell5 H0
 have HB : Hid (Below w.heap.size w (w.alloc (.cells (lcs a (.slice p n c)) 67))) := bel_alloc (Below.refl _ _) _
 rw [hk] at c0
 clear H0 hk
 generalize lcs a (.slice p n c) = bx at *
 generalize a.s = S at *
 generalize a.b1 = B at *
 obtain ⟨X, hX⟩ : ∃ X, (⟨#[91]⟩ : ByteArray) ++ B = X := ⟨_, rfl⟩
 have hXz : X.size = 1 + B.size := by rw [← hX]; simp; rfl
 obtain ⟨Y, hY⟩ : ∃ Y, X ++ (⟨#[93]⟩ : ByteArray) = Y := ⟨_, rfl⟩
 have hYz : Y.size = X.size + 1 := by rw [← hY]; simp; rfl
 rw [hX, hY]
 have n1 : ¬ 9223372036854775807 < 1 + B.size := by omega
 have n2 : ¬ 9223372036854775807 < X.size + 1 := by omega
 have n3 : ¬ 9223372036854775807 < Y.size + S.size := by omega
 clear hXz hYz hb hs
 go_enter Tryz.func90, Tryz.ntmps90
 go_wp2
 go_ret
 exact ⟨rfl, HB.out⟩
end
end Go.Proofs.YtnibldnfbikipaaGreatDoor
