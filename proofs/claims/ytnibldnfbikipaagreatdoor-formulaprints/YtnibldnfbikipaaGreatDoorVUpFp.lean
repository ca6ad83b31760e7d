/- VFuns, VName, VBad, VUp. -/
import Derived.Laws.IdiomStrings
import Derived.Test.YtnibldnfbikipaaGreatDoorVKindFp
set_option linter.unusedVariables false
set_option linter.unusedSimpArgs false
set_option maxHeartbeats 16000000
set_option maxRecDepth 100000
namespace Go.Proofs.YtnibldnfbikipaaGreatDoor
open Go.RowKit
theorem bcell {W w1 : World} (hb : Below W.heap.size W w1) : (∀ b o, b < W.heap.size → w1.cell? ⟨b, o, none⟩ = W.cell? ⟨b, o, none⟩) ∧ (∀ b o, b < W.heap.size → w1.frozen? ⟨b, o, none⟩ = W.frozen? ⟨b, o, none⟩) :=
 ⟨fun b o h => hb.cell (p := ⟨b, o, none⟩) h, fun b o h => hb.frozen (p := ⟨b, o, none⟩) h⟩
theorem vtext_blank (n : Int) (s : ByteArray) (w : World) : Calls Tryz.prog 174 #[.agg #[.int .i64 0, .int .i64 n, .string s]] w fun e w' => e = .returned (.string ⟨#[]⟩) ∧ Below w.heap.size w w' := by
 have ta47 := ta_46_47
 have ta48 := ta_46_48
 have ta51 := ta_46_51
 have ta53 := ta_46_53
 go_enter Tryz.func174, Tryz.ntmps174
 go_wp2_with (first | (go_at_call 216; refine (kind_blank _ _ _).mono ?_; rintro e w1 ⟨rfl, hb⟩; have HB : Hid (Below w.heap.size w w1) := bel1 hb; obtain ⟨hc, hf⟩ := bcell hb; have hz := hb.size; simp at hz; clear hb))
 all_goals (go_ret; exact ⟨rfl, HB.out⟩)
theorem vtext_num (n : Int) (s : ByteArray) (w : World) (X : ByteArray) (P : ∀ u : World, Below w.heap.size w u → Calls Tryz.prog 178 #[.int .i64 n] u fun e w' => e = .returned (.string X) ∧ Below u.heap.size u w') : Calls Tryz.prog 174 #[.agg #[.int .i64 1, .int .i64 n, .string s]] w fun e w' => e = .returned (.string X) ∧ Below w.heap.size w w' := by
 have ta47 := ta_47_47
 have ta48 := ta_47_48
 have ta51 := ta_47_51
 have ta53 := ta_47_53
 go_enter Tryz.func174, Tryz.ntmps174
 go_wp2_with (first | (go_at_call 216; refine (kind_num _ _ _).mono ?_; rintro e w1 ⟨rfl, hb⟩; have HB : Hid (Below w.heap.size w w1) := bel1 hb; obtain ⟨hc, hf⟩ := bcell hb; have hz := hb.size; simp at hz; clear hb) | (go_at_call 178; refine (P _ HB.out).mono ?_; rintro e w2 ⟨rfl, hb⟩; have HB2 : Hid (Below w.heap.size w w2) := bel_step HB.out hb; clear hb))
 go_ret
 exact ⟨rfl, HB2.out⟩
theorem vtext_str (n : Int) (s : ByteArray) (w : World) : Calls Tryz.prog 174 #[.agg #[.int .i64 2, .int .i64 n, .string s]] w fun e w' => e = .returned (.string s) ∧ Below w.heap.size w w' := by
 have ta47 := ta_48_47
 have ta48 := ta_48_48
 have ta51 := ta_48_51
 have ta53 := ta_48_53
 go_enter Tryz.func174, Tryz.ntmps174
 go_wp2_with (first | (go_at_call 216; refine (kind_str _ _ _).mono ?_; rintro e w1 ⟨rfl, hb⟩; have HB : Hid (Below w.heap.size w w1) := bel1 hb; obtain ⟨hc, hf⟩ := bcell hb; have hz := hb.size; simp at hz; clear hb))
 all_goals (go_ret; exact ⟨rfl, HB.out⟩)
theorem tname_any (b : Bool) (w : World) : Calls Tryz.prog 217 #[.bool b] w fun e w' => e = .returned (.string (if b = true then ⟨#[84, 82, 85, 69]⟩ else ⟨#[70, 65, 76, 83, 69]⟩)) ∧ w' = w := by
 cases b
 all_goals
  go_enter Tryz.func217, Tryz.ntmps217
  go_wp2
  go_ret
  exact ⟨rfl, rfl⟩
theorem vtext_bool (n : Int) (s : ByteArray) (w : World) (b : Bool) (KB : ∀ u : World, Calls Tryz.prog 216 #[.agg #[.int .i64 3, .int .i64 n, .string s]] u fun e w' => e = .returned (.iface 213 (.bool b)) ∧ Below u.heap.size u w') : Calls Tryz.prog 174 #[.agg #[.int .i64 3, .int .i64 n, .string s]] w fun e w' => e = .returned (.string (if b = true then ⟨#[84, 82, 85, 69]⟩ else ⟨#[70, 65, 76, 83, 69]⟩)) ∧ Below w.heap.size w w' := by
 cases b
 all_goals
  have ta47 := ta_51_47
  have ta48 := ta_51_48
  have ta51 := ta_51_51
  have ta53 := ta_51_53
  go_enter Tryz.func174, Tryz.ntmps174
  go_wp2_with (first | (go_at_call 216; refine (KB _).mono ?_; rintro e w1 ⟨rfl, hb⟩; have HB : Hid (Below w.heap.size w w1) := bel1 hb; obtain ⟨hc, hf⟩ := bcell hb; have hz := hb.size; simp at hz; clear hb) | (go_at_call 217; refine (tname_any _ _).mono ?_; rintro e w' ⟨rfl, hw⟩; obtain rfl := hw.symm; clear hw))
  all_goals (go_ret; exact ⟨rfl, HB.out⟩)
theorem vtext_bad (n : Int) (s : ByteArray) (w : World) (X : ByteArray) (P : ∀ u : World, Below w.heap.size w u → Calls Tryz.prog 218 #[.int .i64 n] u fun e w' => e = .returned (.string X) ∧ w' = u) : Calls Tryz.prog 174 #[.agg #[.int .i64 4, .int .i64 n, .string s]] w fun e w' => e = .returned (.string X) ∧ Below w.heap.size w w' := by
 have ta47 := ta_53_47
 have ta48 := ta_53_48
 have ta51 := ta_53_51
 have ta53 := ta_53_53
 go_enter Tryz.func174, Tryz.ntmps174
 go_wp2_with (first | (go_at_call 216; refine (kind_bad _ _ _).mono ?_; rintro e w1 ⟨rfl, hb⟩; have HB : Hid (Below w.heap.size w w1) := bel1 hb; obtain ⟨hc, hf⟩ := bcell hb; have hz := hb.size; simp at hz; clear hb) | (go_at_call 218; refine (P _ HB.out).mono ?_; rintro e w' ⟨rfl, hw⟩; obtain rfl := hw.symm; clear hw))
 all_goals (go_ret; exact ⟨rfl, HB.out⟩)
theorem vtext_none (k n : Int) (s : ByteArray) (w : World) (h0 : (k == 0) = false) (h1 : (k == 1) = false) (h2 : (k == 2) = false) (h3 : (k == 3) = false) (h4 : (k == 4) = false) : Calls Tryz.prog 174 #[.agg #[.int .i64 k, .int .i64 n, .string s]] w fun e w' => e = .returned (.string ⟨#[]⟩) ∧ Below w.heap.size w w' := by
 have ta47 := ta_76_47
 have ta48 := ta_76_48
 have ta51 := ta_76_51
 have ta53 := ta_76_53
 go_enter Tryz.func174, Tryz.ntmps174
 go_wp2_with (first | (go_at_call 216; refine (kind_none _ _ _ _ h0 h1 h2 h3 h4).mono ?_; rintro e w1 ⟨rfl, hb⟩; have HB : Hid (Below w.heap.size w w1) := bel1 hb; obtain ⟨hc, hf⟩ := bcell hb; have hz := hb.size; simp at hz; clear hb))
 all_goals (go_ret; exact ⟨rfl, HB.out⟩)
def fnm : Nat → ByteArray
 | 1 => ⟨#[35, 68, 73, 86, 47, 48, 33]⟩
 | 2 => ⟨#[35, 86, 65, 76, 85, 69, 33]⟩
 | 3 => ⟨#[35, 82, 69, 70, 33]⟩
 | 4 => ⟨#[35, 78, 65, 77, 69, 63]⟩
 | 5 => ⟨#[35, 78, 85, 77, 33]⟩
 | 6 => ⟨#[35, 78, 47, 65]⟩
 | 7 => ⟨#[35, 67, 89, 67, 76, 69, 33]⟩
 | 8 => ⟨#[35, 76, 73, 78, 75, 33]⟩
 | _ => ⟨#[]⟩
def fnB (n : Int) : ByteArray := if knB n = true then fnm n.toNat else ⟨#[]⟩
def FTab (w : World) : Prop := ∀ i, i < 9 → w.cell? ⟨1, i, none⟩ = some (.string (fnm i))
theorem FTab.kept {w w' : World} (h : FTab w) (hk : ∀ i, i < w.heap.size → w'.heap[i]? = w.heap[i]?) : FTab w' := fun i hi => by
 rw [← h i hi]
 exact World.cell?_of_block (hk _ (World.block_lt_of_cell? w _ (h i hi)))
theorem FTab.below {w w' : World} (h : FTab w) (hb : Below w.heap.size w w') : FTab w' := h.kept hb.block
theorem kn_iff (n : Int) : knB n = true ↔ n = 1 ∨ n = 2 ∨ n = 3 ∨ n = 4 ∨ n = 5 ∨ n = 6 ∨ n = 7 ∨ n = 8 := by
 simp [knB]; omega
theorem fname_any (n : Int) (w : World) (T : FTab w) : Calls Tryz.prog 218 #[.int .i64 n] w fun e w' => e = .returned (.string (fnB n)) ∧ w' = w := by
 cases hk : knB n
 ·have e : fnB n = ⟨#[]⟩ := by simp [fnB, hk]
  rw [e]
  have K := fun u => known_any n u
  rw [hk] at K
  go_enter Tryz.func218, Tryz.ntmps218
  go_wp2_with (go_at_call 254; refine (K _).mono ?_; rintro e w' ⟨rfl, hw⟩; obtain rfl := hw.symm; clear hw)
  go_ret
  exact ⟨rfl, rfl⟩
 ·have K := fun u => known_any n u
  rw [hk] at K
  have e : fnB n = fnm n.toNat := by simp [fnB, hk]
  rw [e]
  have h1 := T 1 (by decide); have h2 := T 2 (by decide); have h3 := T 3 (by decide); have h4 := T 4 (by decide)
  have h5 := T 5 (by decide); have h6 := T 6 (by decide); have h7 := T 7 (by decide); have h8 := T 8 (by decide)
  clear T e
  rw [kn_iff] at hk
  rcases hk with rfl | rfl | rfl | rfl | rfl | rfl | rfl | rfl
  all_goals
   go_enter Tryz.func218, Tryz.ntmps218
   go_wp2_with (go_at_call 254; refine (K _).mono ?_; rintro e w' ⟨rfl, hw⟩; obtain rfl := hw.symm; clear hw)
   go_ret
   exact ⟨rfl, rfl⟩
def namesV : Array Value := #[.string (fnm 0), .string (fnm 1), .string (fnm 2), .string (fnm 3), .string (fnm 4), .string (fnm 5), .string (fnm 6), .string (fnm 7), .string (fnm 8)]
theorem names_any (w : World) : Calls Tryz.prog 183 #[] w fun e w' => e = .returned (.agg namesV) ∧ Below w.heap.size w w' := by
 go_enter Tryz.func183, Tryz.ntmps183
 go_wp2
 exact bodyPost_ret (v := .agg namesV) (by simp [results, Tryz.results183, go_sem]; rfl) rfl ⟨rfl, (Below.refl _ _).alloc (Nat.le_refl _) _⟩
def emB (s : ByteArray) : Bool := decide (s.toList = [])
theorem em_cases (s : ByteArray) : (s.toList = [] ∧ emB s = true) ∨ (¬ s.toList = [] ∧ emB s = false) := by
 by_cases h : s.toList = [] <;> simp [emB, h]
theorem boxcell {w w1 : World} {a b c : Value} (hb : Below (w.alloc (.cells #[a, b, c] 62)).heap.size (w.alloc (.cells #[a, b, c] 62)) w1) :
  (∀ o, (w1.alloc o).cell? ⟨w.heap.size, 0, none⟩ = some a ∧ (w1.alloc o).cell? ⟨w.heap.size, 1, none⟩ = some b ∧ (w1.alloc o).cell? ⟨w.heap.size, 2, none⟩ = some c)
   ∧ (w1.cell? ⟨w.heap.size, 0, none⟩ = some a ∧ w1.cell? ⟨w.heap.size, 1, none⟩ = some b ∧ w1.cell? ⟨w.heap.size, 2, none⟩ = some c) := by
 have h0 : w1.heap[w.heap.size]? = some (.cells #[a, b, c] 62 (0, 0)) := by
  rw [hb.block _ (by simp)]
  exact heap_alloc_new w _
 refine ⟨fun o => ?_, by simp [World.cell?, h0]⟩
 have h1 : (w1.alloc o).heap[w.heap.size]? = some (.cells #[a, b, c] 62 (0, 0)) := by
  have hz := hb.size
  simp at hz
  rw [Below.heap_alloc w1 o _ (by omega)]
  exact h0
 simp [World.cell?, h1]
theorem n0_cases (n : Int) : (n = 0 ∧ (n == 0) = true) ∨ (¬ n = 0 ∧ (n == 0) = false) := by
 by_cases h : n = 0 <;> simp [h]
theorem n01_cases (n : Int) : (n = 0 ∧ ((n == 0) || (n == 1)) = true) ∨ (n = 1 ∧ ((n == 0) || (n == 1)) = true) ∨ ((n == 0) = false ∧ (n == 1) = false) := by
 by_cases h : n = 0
 ·simp [h]
 ·by_cases g : n = 1 <;> simp [h, g]
def lenB (s : ByteArray) : Bool := decide (s.size ≤ 255)
theorem len_cases (s : ByteArray) : ((s.size : Int) ≤ 255 ∧ lenB s = true) ∨ (¬ (s.size : Int) ≤ 255 ∧ lenB s = false) := by
 by_cases h : s.size ≤ 255
 ·left; simp [lenB, h]; omega
 ·right; simp [lenB, h]; omega
theorem kn_cases (n : Int) : (1 ≤ n ∧ n ≤ 8 ∧ knB n = true) ∨ (¬ 1 ≤ n ∧ knB n = false) ∨ (1 ≤ n ∧ ¬ n ≤ 8 ∧ knB n = false) := by
 by_cases h : 1 ≤ n <;> by_cases g : n ≤ 8 <;> simp [knB, h, g]
theorem rtext_num (n : Int) (s : ByteArray) (w : World) (X : ByteArray) (P : ∀ u : World, Below w.heap.size w u → Calls Tryz.prog 182 #[.int .i64 n] u fun e w' => e = .returned (.string X) ∧ Below u.heap.size u w') : Calls Tryz.prog 137 #[.agg #[.int .i64 1, .int .i64 n, .string s]] w fun e w' => e = .returned (.string X) ∧ Below w.heap.size w w' := by
 have HB : Hid (Below w.heap.size w (w.alloc (.cells #[.int .i64 1, .int .i64 n, .string s] 62))) := (Below.refl _ _).alloc (Nat.le_refl _) _
 skip
 all_goals
  go_enter Tryz.func137, Tryz.ntmps137
  go_wp2_with (first | (go_at_call 182; refine (P _ HB.out).mono ?_; rintro e w2 ⟨rfl, hb⟩; have HB2 : Hid (Below w.heap.size w w2) := bel_step HB.out hb; clear hb))
  all_goals (go_ret; exact ⟨rfl, HB2.out⟩)
theorem rtext_bool (n : Int) (s : ByteArray) (w : World) : Calls Tryz.prog 137 #[.agg #[.int .i64 3, .int .i64 n, .string s]] w fun e w' => e = .returned (.string (if (n != 0) = true then ⟨#[84, 82, 85, 69]⟩ else ⟨#[70, 65, 76, 83, 69]⟩)) ∧ Below w.heap.size w w' := by
 have HB : Hid (Below w.heap.size w (w.alloc (.cells #[.int .i64 3, .int .i64 n, .string s] 62))) := (Below.refl _ _).alloc (Nat.le_refl _) _
 rcases n0_cases n with ⟨rfl, h⟩ | ⟨hn, h⟩
 all_goals try (have h2 : (n != 0) = true := by simp [hn])
 all_goals try rw [h2]
 all_goals
  go_enter Tryz.func137, Tryz.ntmps137
  go_wp2
  all_goals (go_ret; exact ⟨by first | rfl | (simp; done) | (simp; assumption), HB.out⟩)
theorem box_below (w : World) (o : Obj) : Below w.heap.size w (w.alloc o) := (Below.refl _ _).alloc (Nat.le_refl _) _
theorem ixn0 (W : World) : (Instr.index 200 (.agg namesV) (.int .i64 0)).run Tryz.prog W = .ok (.string (fnm 0)) W := by kernel_rfl
theorem ixn1 (W : World) : (Instr.index 200 (.agg namesV) (.int .i64 1)).run Tryz.prog W = .ok (.string (fnm 1)) W := by kernel_rfl
theorem ixn2 (W : World) : (Instr.index 200 (.agg namesV) (.int .i64 2)).run Tryz.prog W = .ok (.string (fnm 2)) W := by kernel_rfl
theorem ixn3 (W : World) : (Instr.index 200 (.agg namesV) (.int .i64 3)).run Tryz.prog W = .ok (.string (fnm 3)) W := by kernel_rfl
theorem ixn4 (W : World) : (Instr.index 200 (.agg namesV) (.int .i64 4)).run Tryz.prog W = .ok (.string (fnm 4)) W := by kernel_rfl
theorem ixn5 (W : World) : (Instr.index 200 (.agg namesV) (.int .i64 5)).run Tryz.prog W = .ok (.string (fnm 5)) W := by kernel_rfl
theorem ixn6 (W : World) : (Instr.index 200 (.agg namesV) (.int .i64 6)).run Tryz.prog W = .ok (.string (fnm 6)) W := by kernel_rfl
theorem ixn7 (W : World) : (Instr.index 200 (.agg namesV) (.int .i64 7)).run Tryz.prog W = .ok (.string (fnm 7)) W := by kernel_rfl
theorem ixn8 (W : World) : (Instr.index 200 (.agg namesV) (.int .i64 8)).run Tryz.prog W = .ok (.string (fnm 8)) W := by kernel_rfl
theorem index_names (i : Nat) (h : i < 9) (W : World) : (Instr.index 200 (.agg namesV) (.int .i64 (i : Int))).run Tryz.prog W = .ok (.string (fnm i)) W := by
 have h' : i = 0 ∨ i = 1 ∨ i = 2 ∨ i = 3 ∨ i = 4 ∨ i = 5 ∨ i = 6 ∨ i = 7 ∨ i = 8 := by omega
 rcases h' with rfl | rfl | rfl | rfl | rfl | rfl | rfl | rfl | rfl
 ·exact ixn0 W
 ·exact ixn1 W
 ·exact ixn2 W
 ·exact ixn3 W
 ·exact ixn4 W
 ·exact ixn5 W
 ·exact ixn6 W
 ·exact ixn7 W
 ·exact ixn8 W
theorem rtext_bad (n : Int) (s : ByteArray) (w : World) : Calls Tryz.prog 137 #[.agg #[.int .i64 4, .int .i64 n, .string s]] w fun e w' => e = .returned (.string (fnB n)) ∧ Below w.heap.size w w' := by
 have HB : Hid (Below w.heap.size w (w.alloc (.cells #[.int .i64 4, .int .i64 n, .string s] 62))) := box_below w _
 rcases kn_cases n with ⟨g0, g1, h⟩ | ⟨g0, h⟩ | ⟨g0, g1, h⟩
 ·have HC : Hid (∀ u : World, Below (w.alloc (.cells #[.int .i64 4, .int .i64 n, .string s] 62)).heap.size (w.alloc (.cells #[.int .i64 4, .int .i64 n, .string s] 62)) u → u.cell? ⟨w.heap.size, 1, none⟩ = some (.int .i64 n)) := fun u hu => (boxcell hu).2.2.1
  have HW : Hid (Below (w.alloc (.cells #[.int .i64 4, .int .i64 n, .string s] 62)).heap.size (w.alloc (.cells #[.int .i64 4, .int .i64 n, .string s] 62)) (w.alloc (.cells #[.int .i64 4, .int .i64 n, .string s] 62)).drew) := (Below.refl _ _).drew
  have NM := fun u => names_any u
  have e : fnB n = fnm n.toNat := by simp [fnB, h]
  rw [e]
  have IX : ∀ W : World, (Instr.index 200 (.agg namesV) (.int .i64 n)).run Tryz.prog W = .ok (.string (fnm n.toNat)) W := fun W => by
   have := index_names n.toNat (by omega) W
   rw [show ((n.toNat : Nat) : Int) = n by omega] at this
   exact this
  clear e
  go_enter Tryz.func137, Tryz.ntmps137
  go_wp2
  go_region_held_law (fun u => u.cell? ⟨w.heap.size, 1, none⟩ = some (.int .i64 n)) (exact HC.out _ HW.out) (
   (go_at_call 183; refine (NM _).mono ?_; rintro e w1 ⟨rfl, hb⟩; have HW : Hid _ := bel_step HW.out hb; clear hb))
  go_wp2
  go_ret
  exact ⟨rfl, bel1 HW.out⟩
 ·have e : fnB n = ⟨#[]⟩ := by simp [fnB, h]
  rw [e]
  go_enter Tryz.func137, Tryz.ntmps137
  go_wp2
  go_ret
  exact ⟨rfl, HB.out⟩
 ·have e : fnB n = ⟨#[]⟩ := by simp [fnB, h]
  rw [e]
  go_enter Tryz.func137, Tryz.ntmps137
  go_wp2
  go_ret
  exact ⟨rfl, HB.out⟩
def szB (a b : Nat) (c : UInt8) : UInt8 := if a ≤ c.toNat ∧ c.toNat ≤ a + 25 then UInt8.ofNat (c.toNat - a + b) else c
def szF (a b : Nat) (l : List UInt8) : List UInt8 := l.map (szB a b)
def szP (a b : Nat) (l : List UInt8) (p : Nat) : List UInt8 := szF a b (l.take p) ++ l.drop p
theorem szP_zero (a b : Nat) (l : List UInt8) : szP a b l 0 = l := by simp [szP, szF]
theorem szP_len (a b : Nat) (l : List UInt8) (p : Nat) : (szP a b l p).length = l.length := by simp [szP, szF]; omega
theorem szP_end (a b : Nat) (l : List UInt8) (p : Nat) (h : l.length ≤ p) : szP a b l p = szF a b l := by simp [szP, List.take_of_length_le h, List.drop_eq_nil_of_le h]
theorem szP_get (a b : Nat) (l : List UInt8) (p i : Nat) : (szP a b l p)[i]? = if i < p then l[i]?.map (szB a b) else l[i]? := by
 unfold szP szF
 rw [List.getElem?_append]
 by_cases hl : i < l.length
 ·by_cases hi : i < p
  ·rw [if_pos (by simp; omega), if_pos hi, List.getElem?_map, List.getElem?_take_of_lt hi]
  ·rw [if_neg (by simp; omega), if_neg hi, List.getElem?_drop]
   congr 1
   simp; omega
 ·have e : l[i]? = none := List.getElem?_eq_none (by omega)
  rw [e, if_neg (by simp; omega), List.getElem?_eq_none (by simp; omega)]
  split <;> rfl
theorem szP_at (a b : Nat) (l : List UInt8) (p : Nat) (h : p < l.length) : (szP a b l p)[p]? = some l[p] := by
 rw [szP_get, if_neg (Nat.lt_irrefl _), List.getElem?_eq_getElem h]
theorem szP_succ (a b : Nat) (l : List UInt8) (p : Nat) (h : p < l.length) : szP a b l (p + 1) = (szP a b l p).set p (szB a b l[p]) := by
 apply List.ext_getElem?
 intro i
 rw [List.getElem?_set, szP_get, szP_get, szP_len]
 by_cases e : p = i
 ·subst e
  rw [if_pos (by omega), if_pos rfl, if_pos h, List.getElem?_eq_getElem h]
  rfl
 ·rw [if_neg e]
  by_cases hi : i < p
  ·rw [if_pos hi, if_pos (by omega)]
  ·rw [if_neg hi, if_neg (by omega)]
theorem szP_keep (a b : Nat) (l : List UInt8) (p d : Nat) (h : ∀ j, p ≤ j → j < p + d → ∀ hj : j < l.length, szB a b l[j] = l[j]) : szP a b l (p + d) = szP a b l p := by
 apply List.ext_getElem?
 intro i
 rw [szP_get, szP_get]
 by_cases hi : i < p
 ·rw [if_pos hi, if_pos (by omega)]
 ·rw [if_neg hi]
  by_cases hd : i < p + d
  ·rw [if_pos hd]
   by_cases hl : i < l.length
   ·rw [List.getElem?_eq_getElem hl, Option.map_some, h i (by omega) hd hl]
   ·rw [List.getElem?_eq_none (by omega)]; rfl
  ·rw [if_neg hd]
theorem szB_high (a b : Nat) (c : UInt8) (ha : a + 25 < 128) (hc : 128 ≤ c.toNat) : szB a b c = c := by
 unfold szB; rw [if_neg (by omega)]
theorem decode_bytes (s : ByteArray) (pos : Nat) (h : pos < s.size) (ha : 128 ≤ (s[pos]'h).toNat) :
  pos + (Utf8.decode s pos).2 ≤ s.size ∧ ∀ k, k < (Utf8.decode s pos).2 → 128 ≤ (s.get! (pos + k)).toNat := by
 have hn : ¬ (s[pos]'h).toNat < 128 := by omega
 have g0 : 128 ≤ (s.get! (pos + 0)).toNat := by rw [get_at s pos h]; exact ha
 have one : ∀ k, k < 1 → 128 ≤ (s.get! (pos + k)).toNat := fun k hk => by
  obtain rfl : k = 0 := by omega
  exact g0
 have c1 : ∀ k, ((s.get! (pos + k)).toNat / 64 == 2) = true → 128 ≤ (s.get! (pos + k)).toNat := fun k hk => by simp at hk; omega
 simp only [Utf8.decode, get_at s pos h, hn, if_false]
 split
 ·rename_i h2
  simp only [Bool.and_eq_true, decide_eq_true_eq] at h2
  split
  ·refine ⟨by simp; omega, fun k hk => ?_⟩
   have hk' : k = 0 ∨ k = 1 := by simp at hk; omega
   rcases hk' with rfl | rfl
   ·exact g0
   ·exact c1 1 h2.2.2
  ·exact ⟨by simp; omega, one⟩
 ·split
  ·rename_i h3
   simp only [Bool.and_eq_true, decide_eq_true_eq] at h3
   split
   ·refine ⟨by simp; omega, fun k hk => ?_⟩
    have hk' : k = 0 ∨ k = 1 ∨ k = 2 := by simp at hk; omega
    rcases hk' with rfl | rfl | rfl
    ·exact g0
    ·exact c1 1 h3.1.2.2
    ·exact c1 2 h3.2.2
   ·exact ⟨by simp; omega, one⟩
  ·split
   ·rename_i h4
    simp only [Bool.and_eq_true, decide_eq_true_eq] at h4
    split
    ·refine ⟨by simp; omega, fun k hk => ?_⟩
     have hk' : k = 0 ∨ k = 1 ∨ k = 2 ∨ k = 3 := by simp at hk; omega
     rcases hk' with rfl | rfl | rfl | rfl
     ·exact g0
     ·exact c1 1 h4.1.1.2.2
     ·exact c1 2 h4.1.2.2
     ·exact c1 3 h4.2.2
    ·exact ⟨by simp; omega, one⟩
   ·exact ⟨by simp; omega, one⟩
theorem get_list (s : ByteArray) (j : Nat) (h : j < s.data.toList.length) : s.get! j = s.data.toList[j] := by
 have h' : j < s.size := by simpa using h
 simp [ByteArray.get!, getElem!_pos, h']
structure RW (w : World) (s : ByteArray) (L : List UInt8) (p : Nat) (u : World) : Prop where
 row : ∃ C : Array Value, u.heap[w.heap.size]? = some (.cells C 5 (C.size, C.size + 1)) ∧ ∀ j (h : j < L.length), C[j]? = some (.int .u8 (L[j].toNat : Nat))
 it : u.heap[w.heap.size + 1]? = some (.stringIter s p)
 bel : Below w.heap.size w u
theorem run_next_at {P : Program} {u : World} {b : Nat} {s : ByteArray} {pos : Nat} (hi : u.heap[b]? = some (.stringIter s pos)) (ty : TypeId) (h : pos < s.size) :
  (Instr.next (.pointer (some ⟨b, 0, none⟩)) true ty).run P u =
   .ok (.tuple #[.bool true, .int .i64 pos, .int .i32 (Utf8.decode s pos).1]) { u with heap := u.heap.setIfInBounds b (.stringIter s (pos + (Utf8.decode s pos).2)) } := by
 simp only [Instr.next, getObj, setObj, Sem.run_bind, Sem.run, hi, Result.andThen, h, if_true]
 simp [goInt]
theorem run_next_done {P : Program} {u : World} {b : Nat} {s : ByteArray} {pos : Nat} (hi : u.heap[b]? = some (.stringIter s pos)) (ty : TypeId) (h : ¬ pos < s.size) :
  (Instr.next (.pointer (some ⟨b, 0, none⟩)) true ty).run P u = .ok (.tuple #[.bool false]) u := by
 simp [Instr.next, getObj, Sem.run, hi, h]
theorem RW.next {w u : World} {s : ByteArray} {L : List UInt8} {p : Nat} (h : RW w s L p u) (hp : p < s.size) :
  ∃ u1, (∀ ty, (Instr.next (.pointer (some ⟨w.heap.size + 1, 0, none⟩)) true ty).run Tryz.prog u = .ok (.tuple #[.bool true, .int .i64 p, .int .i32 (Utf8.decode s p).1]) u1) ∧ RW w s L (p + (Utf8.decode s p).2) u1 := by
 refine ⟨_, fun ty => run_next_at h.it ty hp, ?_, ?_, ?_⟩
 ·obtain ⟨C, h1, h2⟩ := h.row
  refine ⟨C, ?_, h2⟩
  show (u.heap.setIfInBounds (w.heap.size + 1) _)[w.heap.size]? = _
  rw [Array.getElem?_setIfInBounds_ne (by omega)]
  exact h1
 ·show (u.heap.setIfInBounds (w.heap.size + 1) _)[w.heap.size + 1]? = _
  have : w.heap.size + 1 < u.heap.size := (Array.getElem?_eq_some_iff.1 h.it).1
  rw [Array.getElem?_setIfInBounds_self_of_lt this]
 ·obtain ⟨a, b, c, d, e⟩ := h.bel
  refine ⟨a, b, c, ?_, fun i hi => ?_⟩
  ·show w.heap.size ≤ (u.heap.setIfInBounds _ _).size
   simp; omega
  ·show (u.heap.setIfInBounds _ _)[i]? = _
   rw [Array.getElem?_setIfInBounds_ne (by omega)]
   exact e i hi
theorem RW.cell {w u : World} {s : ByteArray} {L : List UInt8} {p : Nat} (h : RW w s L p u) {j : Nat} (hj : j < L.length) :
  u.cell? ⟨w.heap.size, j, none⟩ = some (.int .u8 (L[j].toNat : Nat)) ∧ u.frozen? ⟨w.heap.size, j, none⟩ = false := by
 obtain ⟨C, h1, h2⟩ := h.row
 have hc : j < C.size := (Array.getElem?_eq_some_iff.1 (h2 j hj)).1
 constructor
 ·rw [cell_of_row u _ _ C 5 _ h1]; exact h2 j hj
 ·simp [World.frozen?, h1]; omega
theorem RW.store {w u : World} {s : ByteArray} {L : List UInt8} {p : Nat} (h : RW w s L p u) {j : Nat} (hj : j < L.length) (x : UInt8) :
  RW w s (L.set j x) p (u.setCell ⟨w.heap.size, j, none⟩ (.int .u8 (x.toNat : Nat))) := by
 obtain ⟨C, h1, h2⟩ := h.row
 have hc : j < C.size := (Array.getElem?_eq_some_iff.1 (h2 j hj)).1
 refine ⟨⟨C.setIfInBounds j (.int .u8 (x.toNat : Nat)), ?_, fun i hi => ?_⟩, ?_, h.bel.setCell (Nat.le_refl _) _⟩
 ·simp [World.setCell, Array.getElem?_modify, h1]
 ·rw [List.length_set] at hi
  rw [Array.getElem?_setIfInBounds, List.getElem_set]
  by_cases e : j = i
  ·subst e; simp [hc]
  ·simp [e, h2 i hi]
 ·have : w.heap.size ≠ w.heap.size + 1 := by omega
  simp [World.setCell, Array.getElem?_modify, h.it]
theorem RW.begin {w : World} {s : ByteArray} {cap : Nat} : RW w s s.data.toList 0 ((w.drew.alloc (.cells (bytesRow s cap) 5 ((bytesRow s cap).size, (bytesRow s cap).size + 1))).iter s 0) := by
 refine ⟨⟨bytesRow s cap, ?_, fun j hj => ?_⟩, ?_, ?_⟩
 ·show ((w.drew.alloc (.cells (bytesRow s cap) 5 _)).alloc (.stringIter s 0)).heap[w.heap.size]? = _
  rw [Below.heap_alloc _ _ _ (by simp)]
  exact heap_alloc_new w.drew _
 ·have := bytesRow_at s cap j (by simpa using hj)
  rw [this]
  simp
 ·have := World.iter_heap (w.drew.alloc (.cells (bytesRow s cap) 5 ((bytesRow s cap).size, (bytesRow s cap).size + 1))) s 0
  simpa using this
 ·exact ((((Below.refl _ _).drew).alloc (Nat.le_refl _) _).alloc (by simp) _)
theorem RW.conv {w u : World} {s : ByteArray} {L : List UInt8} {p cap : Nat} (h : RW w s L p u) :
  (convert 96 9 (.slice (some ⟨w.heap.size, 0, none⟩) L.length cap)).run Tryz.prog u = .ok (.string ⟨L.toArray⟩) u :=
 run_convert_bytes_back u 96 9 5 _ cap L Tryz.underlying96 Tryz.underlying5 Tryz.underlying9 fun j hj => by
  have hp : (⟨w.heap.size, 0, none⟩ : Addr).add j = ⟨w.heap.size, j, none⟩ := by unfold Addr.add; split <;> simp_all
  rw [hp]
  exact (h.cell hj).1
theorem RW.pos {w u : World} {s : ByteArray} {L : List UInt8} {p : Nat} (h : RW w s L p u) : u.iterPos (w.heap.size + 1) = p := by
 simp [World.iterPos, h.it]
theorem szB_in (a b : Nat) (c : UInt8) (h : a ≤ c.toNat ∧ c.toNat ≤ a + 25) (hb : b ≤ 200) : (((szB a b c).toNat : Nat) : Int) = (c.toNat : Int) - a + b := by
 unfold szB
 rw [if_pos h]
 have : (UInt8.ofNat (c.toNat - a + b)).toNat = c.toNat - a + b := by simp; omega
 rw [this]
 omega
theorem szB_out (a b : Nat) (c : UInt8) (h : ¬ (a ≤ c.toNat ∧ c.toNat ≤ a + 25)) : szB a b c = c := by unfold szB; rw [if_neg h]
theorem resized_up (s : ByteArray) (hs : s.size ≤ 9223372036854775807) (w : World) : Calls Tryz.prog 255 #[.string s, .int .i32 97, .int .i32 65] w fun e w' => e = .returned (.string ⟨(szF 97 65 s.data.toList).toArray⟩) ∧ Below w.heap.size w w' := by
 have hlen : s.data.toList.length = s.size := by simp
 have HL : Hid (∀ p, (szP 97 65 s.data.toList p).length = s.size) := fun p => by rw [szP_len, hlen]
 have CV : ∀ W : World, (convert 9 96 (.string s)).run Tryz.prog W = _ := fun W => run_bytes_of_string W 9 96 5 s Tryz.underlying9 Tryz.underlying96 Tryz.underlying5
 go_enter Tryz.func255, Tryz.ntmps255
 go_wp2
 generalize hcap : grownCap w s.size 0 5 = cap
 go_loopw [8] (fun i w' => ∃ (p : Nat), p ≤ s.size ∧ RW w s (szP 97 65 s.data.toList p) p w') (fun _ w' => s.size - w'.iterPos (w.heap.size + 1))
 case atStart => exact ⟨0, Nat.zero_le _, by rw [szP_zero]; exact RW.begin⟩
 case round =>
  clear CV
  obtain ⟨p, hp, hR⟩ := hrel
  have hpos := hR.pos
  by_cases hlt : p < s.size
  ·obtain ⟨u1, hnx, hR1⟩ := hR.next hlt
   have hpl : p < s.data.toList.length := by rw [hlen]; exact hlt
   have hgl : s.data.toList[p] = s[p] := by simp; rfl
   by_cases ha : (s[p]'hlt).toNat < 128
   ·rw [decode_ascii s p hlt ha] at hnx hR1
    have hsuc := szP_succ 97 65 s.data.toList p hpl
    rw [hgl] at hsuc
    generalize hcc : s[p]'hlt = c at *
    by_cases hin : 97 ≤ c.toNat ∧ c.toNat ≤ 97 + 25
    ·have hi1 : 97 ≤ (c.toNat : Int) := by omega
     have hi2 : (c.toNat : Int) < 97 + 26 := by omega
     have hj : p < (szP 97 65 s.data.toList p).length := by rw [HL.out]; exact hlt
     obtain ⟨k1, k2⟩ := hR1.cell hj
     have HR2 : Hid (RW w s ((szP 97 65 s.data.toList p).set p (szB 97 65 c)) (p + 1) (u1.setCell ⟨w.heap.size, p, none⟩ (.int .u8 ((c.toNat : Int) - 97 + 65)))) := by
      have := hR1.store hj (szB 97 65 c)
      rw [szB_in 97 65 c hin (by decide)] at this
      exact this
     have HS : Hid _ := hsuc
     clear hsuc hR1 hR
     go_wp2
     go_roundw
     case rel => exact ⟨p + 1, by omega, by rw [HS.out]; exact HR2.out⟩
     case measure =>
      have := HR2.out.pos
      rw [hpos, this]
      omega
    ·have HR2 : Hid (RW w s (szP 97 65 s.data.toList (p + 1)) (p + 1) u1) := by
      show RW _ _ _ _ _
      rw [hsuc, szB_out _ _ _ hin]
      have e : (szP 97 65 s.data.toList p).set p c = szP 97 65 s.data.toList p := by
       apply List.ext_getElem?
       intro i
       rw [List.getElem?_set]
       split
       ·rename_i e; subst e; rw [szP_at _ _ _ _ hpl, hgl, if_pos (by rw [HL.out]; exact hlt)]
       ·rfl
      rw [e]
      exact hR1
     clear hsuc hR1 hR
     have hi : ¬ 97 ≤ (c.toNat : Int) ∨ (97 ≤ (c.toNat : Int) ∧ ¬ (c.toNat : Int) < 97 + 26) := by omega
     rcases hi with hi | ⟨hi1, hi2⟩
     all_goals
      go_wp2
      go_roundw
      case rel => exact ⟨p + 1, by omega, HR2.out⟩
      case measure =>
       have := HR2.out.pos
       rw [hpos, this]
       omega
   ·have dh := decode_high s p hlt (by omega)
    have db := decode_bytes s p hlt (by omega)
    have HR2 : Hid (RW w s (szP 97 65 s.data.toList (p + (Utf8.decode s p).2)) (p + (Utf8.decode s p).2) u1) := by
     show RW _ _ _ _ _
     rw [szP_keep]
     ·exact hR1
     ·intro j h1 h2 hj
      refine szB_high _ _ _ (by decide) ?_
      have := db.2 (j - p) (by omega)
      rw [show p + (j - p) = j by omega, get_list s j hj] at this
      exact this
    clear hR1 hR
    generalize (Utf8.decode s p).2 = d at *
    have hr1 : ∃ r : Nat, (Utf8.decode s p).1 = r ∧ 128 ≤ r := ⟨_, rfl, dh.1⟩
    obtain ⟨r, hr, hr2⟩ := hr1
    rw [hr] at hnx
    clear hr
    have hi1 : 97 ≤ (r : Int) := by omega
    have hi2 : ¬ (r : Int) < 97 + 26 := by omega
    have hd1 := dh.2
    have hd2 := db.1
    clear dh db
    go_wp2
    go_roundw
    case rel => exact ⟨p + d, hd2, HR2.out⟩
    case measure =>
     have := HR2.out.pos
     rw [hpos, this]
     omega
  ·have hnx : ∀ ty, (Instr.next (.pointer (some ⟨w.heap.size + 1, 0, none⟩)) true ty).run Tryz.prog wr = .ok (.tuple #[.bool false]) wr := fun ty => run_next_done hR.it ty hlt
   have CB := hR.conv (cap := cap)
   rw [HL.out, szP_end _ _ _ _ (by rw [hlen]; omega)] at CB
   have HB : Hid _ := hR.bel
   clear hR
   go_wp2
   go_ret
   exact ⟨rfl, HB.out⟩
theorem up_any (s : ByteArray) (hs : s.size ≤ 9223372036854775807) (w : World) : Calls Tryz.prog 214 #[.string s] w fun e w' => e = .returned (.string ⟨(szF 97 65 s.data.toList).toArray⟩) ∧ Below w.heap.size w w' := by
 have R := fun u => resized_up s hs u
 generalize szF 97 65 s.data.toList = X at *
 go_enter Tryz.func214, Tryz.ntmps214
 go_wp2_with (go_at_call 255; refine (R _).mono ?_; rintro e w1 ⟨rfl, hb⟩; have HB : Hid _ := hb; clear hb)
 go_ret
 exact ⟨rfl, HB.out⟩
end Go.Proofs.YtnibldnfbikipaaGreatDoor
