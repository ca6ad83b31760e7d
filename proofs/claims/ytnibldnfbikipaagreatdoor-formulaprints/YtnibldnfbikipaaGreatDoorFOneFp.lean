/- VGood, FOne. -/
import Derived.Test.YtnibldnfbikipaaGreatDoorFWord2Fp
set_option linter.unusedVariables false
set_option linter.unusedSimpArgs false
set_option maxHeartbeats 16000000
set_option maxRecDepth 100000
namespace Go.Proofs.YtnibldnfbikipaaGreatDoor
open Go.RowKit
theorem vgood_none (k n : Int) (s : ByteArray) (w : World) (h0 : (k == 0) = false) (h1 : (k == 1) = false) (h2 : (k == 2) = false) (h3 : (k == 3) = false) (h4 : (k == 4) = false) : Calls Tryz.prog 211 #[.agg #[.int .i64 k, .int .i64 n, .string s]] w fun e w' => e = .returned (.bool false) ∧ Below w.heap.size w w' := by
 have ta46 := ta_76_46
 have ta47 := ta_76_47
 have ta48 := ta_76_48
 have ta51 := ta_76_51
 have ta53 := ta_76_53
 go_enter Tryz.func211, Tryz.ntmps211
 go_wp2_with (first | (go_at_call 216; refine (kind_none _ _ _ _ h0 h1 h2 h3 h4).mono ?_; rintro e w1 ⟨rfl, hb⟩; have HB : Hid (Below w.heap.size w w1) := bel1 hb; obtain ⟨hc, hf⟩ := bcell hb; have hz := hb.size; simp at hz; clear hb))
 all_goals (go_ret; exact ⟨rfl, HB.out⟩)
theorem vgood_blank (n : Int) (s : ByteArray) (w : World) : Calls Tryz.prog 211 #[.agg #[.int .i64 0, .int .i64 n, .string s]] w fun e w' => e = .returned (.bool ((n == 0) && emB s)) ∧ Below w.heap.size w w' := by
 rcases em_cases s with ⟨he, h⟩ | ⟨he, h⟩ <;> rw [h]
 all_goals rcases n0_cases n with ⟨rfl, h⟩ | ⟨hn, h⟩ <;> rw [h]
 all_goals
  have ta46 := ta_46_46
  go_enter Tryz.func211, Tryz.ntmps211
  go_wp2_with (first | (go_at_call 216; refine (kind_blank _ _ _).mono ?_; rintro e w1 ⟨rfl, hb⟩; have HB : Hid (Below w.heap.size w w1) := bel1 hb; obtain ⟨hbc, hb0, hb1, hb2⟩ := boxcell hb; clear hb))
  all_goals (go_ret; exact ⟨by first | rfl | (simp; done) | (simp; assumption), bel_alloc HB.out _⟩)
theorem vgood_num (n : Int) (s : ByteArray) (w : World) : Calls Tryz.prog 211 #[.agg #[.int .i64 1, .int .i64 n, .string s]] w fun e w' => e = .returned (.bool (emB s && gd n)) ∧ Below w.heap.size w w' := by
 rcases em_cases s with ⟨he, h⟩ | ⟨he, h⟩ <;> rw [h]
 all_goals
  have ta46 := ta_47_46
  have ta47 := ta_47_47
  go_enter Tryz.func211, Tryz.ntmps211
  go_wp2_with (first | (go_at_call 216; refine (kind_num _ _ _).mono ?_; rintro e w1 ⟨rfl, hb⟩; have HB : Hid (Below w.heap.size w w1) := bel1 hb; obtain ⟨hbc, hb0, hb1, hb2⟩ := boxcell hb; clear hb) | (go_at_call 252; refine (good_any _ _).mono ?_; rintro e w' ⟨rfl, hw⟩; obtain rfl := hw.symm; clear hw))
  all_goals (go_ret; exact ⟨by first | rfl | (simp; done) | (simp; assumption), HB.out⟩)
theorem vgood_str (n : Int) (s : ByteArray) (w : World) : Calls Tryz.prog 211 #[.agg #[.int .i64 2, .int .i64 n, .string s]] w fun e w' => e = .returned (.bool ((n == 0) && lenB s)) ∧ Below w.heap.size w w' := by
 rcases len_cases s with ⟨he, h⟩ | ⟨he, h⟩ <;> rw [h]
 all_goals rcases n0_cases n with ⟨rfl, h⟩ | ⟨hn, h⟩ <;> rw [h]
 all_goals
  have ta46 := ta_48_46
  have ta47 := ta_48_47
  have ta48 := ta_48_48
  go_enter Tryz.func211, Tryz.ntmps211
  go_wp2_with (first | (go_at_call 216; refine (kind_str _ _ _).mono ?_; rintro e w1 ⟨rfl, hb⟩; have HB : Hid (Below w.heap.size w w1) := bel1 hb; obtain ⟨hbc, hb0, hb1, hb2⟩ := boxcell hb; clear hb))
  all_goals (go_ret; exact ⟨by first | rfl | (simp; done) | (simp; assumption), HB.out⟩)
theorem vgood_bool (n : Int) (s : ByteArray) (w : World) (b : Bool) (KB : ∀ u : World, Calls Tryz.prog 216 #[.agg #[.int .i64 3, .int .i64 n, .string s]] u fun e w' => e = .returned (.iface 213 (.bool b)) ∧ Below u.heap.size u w') : Calls Tryz.prog 211 #[.agg #[.int .i64 3, .int .i64 n, .string s]] w fun e w' => e = .returned (.bool (emB s && ((n == 0) || (n == 1)))) ∧ Below w.heap.size w w' := by
 rcases em_cases s with ⟨he, h⟩ | ⟨he, h⟩ <;> rw [h]
 all_goals rcases n01_cases n with ⟨rfl, h⟩ | ⟨rfl, h⟩ | ⟨g0, g1⟩ <;> (first | rw [h] | rw [g0, g1])
 all_goals
  have ta46 := ta_51_46
  have ta47 := ta_51_47
  have ta48 := ta_51_48
  have ta51 := ta_51_51
  go_enter Tryz.func211, Tryz.ntmps211
  go_wp2_with (first | (go_at_call 216; refine (KB _).mono ?_; rintro e w1 ⟨rfl, hb⟩; have HB : Hid (Below w.heap.size w w1) := bel1 hb; obtain ⟨hbc, hb0, hb1, hb2⟩ := boxcell hb; clear hb))
  all_goals (go_ret; exact ⟨by first | rfl | (simp; done) | (simp; assumption), HB.out⟩)
theorem vgood_bad (n : Int) (s : ByteArray) (w : World) : Calls Tryz.prog 211 #[.agg #[.int .i64 4, .int .i64 n, .string s]] w fun e w' => e = .returned (.bool (emB s && knB n)) ∧ Below w.heap.size w w' := by
 rcases em_cases s with ⟨he, h⟩ | ⟨he, h⟩ <;> rw [h]
 all_goals
  have ta46 := ta_53_46
  have ta47 := ta_53_47
  have ta48 := ta_53_48
  have ta51 := ta_53_51
  have ta53 := ta_53_53
  go_enter Tryz.func211, Tryz.ntmps211
  go_wp2_with (first | (go_at_call 216; refine (kind_bad _ _ _).mono ?_; rintro e w1 ⟨rfl, hb⟩; have HB : Hid (Below w.heap.size w w1) := bel1 hb; obtain ⟨hbc, hb0, hb1, hb2⟩ := boxcell hb; clear hb) | (go_at_call 254; refine (known_any _ _).mono ?_; rintro e w' ⟨rfl, hw⟩; obtain rfl := hw.symm; clear hw))
  all_goals (go_ret; exact ⟨by first | rfl | (simp; done) | (simp; assumption), HB.out⟩)
theorem rgood_blank (n : Int) (s : ByteArray) (w : World) : Calls Tryz.prog 172 #[.agg #[.int .i64 0, .int .i64 n, .string s]] w fun e w' => e = .returned (.bool ((n == 0) && emB s)) ∧ Below w.heap.size w w' := by
 have HB : Hid (Below w.heap.size w (w.alloc (.cells #[.int .i64 0, .int .i64 n, .string s] 62))) := (Below.refl _ _).alloc (Nat.le_refl _) _
 rcases em_cases s with ⟨he, h⟩ | ⟨he, h⟩ <;> rw [h]
 all_goals rcases n0_cases n with ⟨rfl, h⟩ | ⟨hn, h⟩ <;> rw [h]
 all_goals
  go_enter Tryz.func172, Tryz.ntmps172
  go_wp2
  all_goals (go_ret; exact ⟨by first | rfl | (simp; done) | (simp; assumption), HB.out⟩)
theorem rgood_num (n : Int) (s : ByteArray) (w : World) : Calls Tryz.prog 172 #[.agg #[.int .i64 1, .int .i64 n, .string s]] w fun e w' => e = .returned (.bool (emB s && gd n)) ∧ Below w.heap.size w w' := by
 have HB : Hid (Below w.heap.size w (w.alloc (.cells #[.int .i64 1, .int .i64 n, .string s] 62))) := (Below.refl _ _).alloc (Nat.le_refl _) _
 rcases em_cases s with ⟨he, h⟩ | ⟨he, h⟩ <;> rw [h]
 all_goals cases hg : gd n
 all_goals
  go_enter Tryz.func172, Tryz.ntmps172
  go_wp2_with (first | (go_at_call 215; refine (rgood_any _ _).mono ?_; rintro e w' ⟨rfl, hw⟩; obtain rfl := hw.symm; clear hw; rw [hg]))
  all_goals (go_ret; exact ⟨by first | rfl | (simp; done) | (simp; assumption), HB.out⟩)
theorem rgood_str (n : Int) (s : ByteArray) (w : World) : Calls Tryz.prog 172 #[.agg #[.int .i64 2, .int .i64 n, .string s]] w fun e w' => e = .returned (.bool ((n == 0) && lenB s)) ∧ Below w.heap.size w w' := by
 have HB : Hid (Below w.heap.size w (w.alloc (.cells #[.int .i64 2, .int .i64 n, .string s] 62))) := (Below.refl _ _).alloc (Nat.le_refl _) _
 rcases len_cases s with ⟨he, h⟩ | ⟨he, h⟩ <;> rw [h]
 all_goals rcases n0_cases n with ⟨rfl, h⟩ | ⟨hn, h⟩ <;> rw [h]
 all_goals
  go_enter Tryz.func172, Tryz.ntmps172
  go_wp2
  all_goals (go_ret; exact ⟨by first | rfl | (simp; done) | (simp; assumption), HB.out⟩)
theorem rgood_bool (n : Int) (s : ByteArray) (w : World) : Calls Tryz.prog 172 #[.agg #[.int .i64 3, .int .i64 n, .string s]] w fun e w' => e = .returned (.bool (emB s && ((n == 0) || (n == 1)))) ∧ Below w.heap.size w w' := by
 have HB : Hid (Below w.heap.size w (w.alloc (.cells #[.int .i64 3, .int .i64 n, .string s] 62))) := (Below.refl _ _).alloc (Nat.le_refl _) _
 rcases em_cases s with ⟨he, h⟩ | ⟨he, h⟩ <;> rw [h]
 all_goals rcases n01_cases n with ⟨rfl, h⟩ | ⟨rfl, h⟩ | ⟨g0, g1⟩ <;> (first | rw [h] | rw [g0, g1])
 all_goals
  go_enter Tryz.func172, Tryz.ntmps172
  go_wp2
  all_goals (go_ret; exact ⟨by first | rfl | (simp; done) | (simp; assumption), HB.out⟩)
theorem rgood_bad (n : Int) (s : ByteArray) (w : World) : Calls Tryz.prog 172 #[.agg #[.int .i64 4, .int .i64 n, .string s]] w fun e w' => e = .returned (.bool (emB s && knB n)) ∧ Below w.heap.size w w' := by
 have HB : Hid (Below w.heap.size w (w.alloc (.cells #[.int .i64 4, .int .i64 n, .string s] 62))) := (Below.refl _ _).alloc (Nat.le_refl _) _
 rcases em_cases s with ⟨he, h⟩ | ⟨he, h⟩ <;> rw [h]
 all_goals rcases kn_cases n with ⟨g0, g1, h⟩ | ⟨g0, h⟩ | ⟨g0, g1, h⟩ <;> rw [h]
 all_goals
  go_enter Tryz.func172, Tryz.ntmps172
  go_wp2
  all_goals (go_ret; exact ⟨by first | rfl | (simp; done) | (simp; assumption), HB.out⟩)
theorem rgood_none (k n : Int) (s : ByteArray) (w : World) (h0 : (k == 0) = false) (h1 : (k == 1) = false) (h2 : (k == 2) = false) (h3 : (k == 3) = false) (h4 : (k == 4) = false) : Calls Tryz.prog 172 #[.agg #[.int .i64 k, .int .i64 n, .string s]] w fun e w' => e = .returned (.bool false) ∧ Below w.heap.size w w' := by
 have HB : Hid (Below w.heap.size w (w.alloc (.cells #[.int .i64 k, .int .i64 n, .string s] 62))) := (Below.refl _ _).alloc (Nat.le_refl _) _
 skip
 all_goals
  go_enter Tryz.func172, Tryz.ntmps172
  go_wp2
  all_goals (go_ret; exact ⟨by first | rfl | (simp; done) | (simp; assumption), HB.out⟩)
theorem str_any (s : ByteArray) (w : World) : Calls Tryz.prog 324 #[.string s] w fun e w' => e = .returned (if lenB s = true then .agg #[.int .i64 2, .int .i64 0, .string s] else .agg #[.int .i64 4, .int .i64 2, .string ⟨#[]⟩]) ∧ Below w.heap.size w w' := by
 rcases len_cases s with ⟨he, h⟩ | ⟨he, h⟩
 all_goals rw [h]
 ·have he' : ¬ 255 < (s.size : Int) := by omega
  go_enter Tryz.func324, Tryz.ntmps324
  go_wp2_with (go_at_call 202; refine (words_any _ _).mono ?_; rintro e w1 ⟨rfl, hb⟩; have HB : Hid (Below w.heap.size w w1) := bel1 hb; obtain ⟨⟨c0, c1, c2⟩, f0, f1, f2⟩ := rescell hb; clear hb)
  exact bodyPost_ret (v := .agg #[.int .i64 2, .int .i64 0, .string s]) (by simp [results, Tryz.results324, go_sem, c0, c1, c2]) rfl ⟨rfl, set3 HB.out⟩
 ·have he' : 255 < (s.size : Int) := by omega
  go_enter Tryz.func324, Tryz.ntmps324
  go_wp2_with (go_at_call 208; refine (bad_any _ _).mono ?_; rintro e w1 ⟨rfl, hb⟩; have HB : Hid (Below w.heap.size w w1) := bel1 hb; obtain ⟨⟨c0, c1, c2⟩, f0, f1, f2⟩ := rescell hb; clear hb)
  exact bodyPost_ret (v := .agg #[.int .i64 4, .int .i64 2, .string ⟨#[]⟩]) (by simp [results, Tryz.results324, go_sem, c0, c1, c2]; rfl) rfl ⟨rfl, set3 HB.out⟩
theorem vgood_any (k n : Int) (s : ByteArray) (w : World) :
  Calls Tryz.prog 211 #[val k n s] w fun e w' => e = .returned (.bool (goodF k n s)) ∧ Below w.heap.size w w' := by
 rcases k_cases k with rfl | rfl | rfl | rfl | rfl | ⟨h0, h1, h2, h3, h4⟩
 ·exact vgood_blank n s w
 ·exact vgood_num n s w
 ·exact vgood_str n s w
 ·exact vgood_bool n s w _ (fun u => kind_bool n s u)
 ·exact vgood_bad n s w
 ·have e : goodF k n s = false := by simp [goodF, h0, h1, h2, h3, h4]
  rw [e]
  exact vgood_none k n s w (beq_no h0) (beq_no h1) (beq_no h2) (beq_no h3) (beq_no h4)
theorem rvgood_any (k n : Int) (s : ByteArray) (w : World) :
  Calls Tryz.prog 172 #[val k n s] w fun e w' => e = .returned (.bool (goodF k n s)) ∧ Below w.heap.size w w' := by
 rcases k_cases k with rfl | rfl | rfl | rfl | rfl | ⟨h0, h1, h2, h3, h4⟩
 ·exact rgood_blank n s w
 ·exact rgood_num n s w
 ·exact rgood_str n s w
 ·exact rgood_bool n s w
 ·exact rgood_bad n s w
 ·have e : goodF k n s = false := by simp [goodF, h0, h1, h2, h3, h4]
  rw [e]
  exact rgood_none k n s w (beq_no h0) (beq_no h1) (beq_no h2) (beq_no h3) (beq_no h4)
end Go.Proofs.YtnibldnfbikipaaGreatDoor
namespace Go.Proofs.YtnibldnfbikipaaGreatDoor
open Go.RowKit Go.Fm
section
variable {W w : World} {b : Nat}
abbrev w0 (w : World) : World := w.alloc (.cells nd0 67)
theorem one_open {ts r : List Tk.Tok} {n : T} (hn : ts.length ≤ 256) (h : opOf ts = [40]) (hr : r.length ≤ 256) (X : PR W b ts w) (C : ∀ u, PR W b ts.tail u → Calls Tryz.prog 152 #[.pointer (some ⟨b, 0, none⟩)] u (PO W b u (some (n, r)))) (h41 : opOf r = [41]) :
  Calls Tryz.prog 319 #[.pointer (some ⟨b, 0, none⟩)] w (PO W b w (some (n, r.tail))) := by
 have hb := X.lt
 have X2 := X.alloc (.cells nd0 67)
 have SK : Calls Tryz.prog 311 #[.pointer (some ⟨b, 0, none⟩), .string ⟨#[40]⟩] (w0 w) fun e w' => e = .returned (.bool true) ∧ Hid (Sp W b ts.tail (w0 w) w') := skip_yes X2 (by omega) [40] (by decide) h
 have C2 : ∀ u, Sp W b ts.tail (w0 w) u → Calls Tryz.prog 152 #[.pointer (some ⟨b, 0, none⟩)] u fun e w1 => ∃ es, e = .returned (.agg es) ∧ Hid ((Instr.storeAt 67 (.pointer (some ⟨w1.heap.size, 0, none⟩)) (.agg es)).run Tryz.prog (w1.alloc (.cells nd0 67)) = .ok () (w1.alloc (.cells es 67))) ∧ Hid (Sp W b r (w0 w) (w1.alloc (.cells es 67))) ∧
   Hid (∀ u, Sp W b r.tail (w1.alloc (.cells es 67)) u → (Instr.loadAt 67 (.pointer (some ⟨w1.heap.size, 0, none⟩))).run Tryz.prog u = .ok (.agg es) u ∧ Sp W b r.tail (w0 w) u ∧ NK (fun i => w.heap.size < i) u es n) := fun u hu => (C u hu.1).mono (by
  rintro e w1 ⟨es, rfl, h1, h2⟩
  have hS : Sp W b r (w0 w) (w1.alloc (.cells es 67)) := (hu.step h2).alloc _
  refine ⟨es, rfl, (nbox w1 h1.nt).1, hS, fun v hv => ?_⟩
  have hz := hu.2.size
  have hzz := h2.2.size
  simp at hz
  refine ⟨h1.lod (hv.kept (heap_alloc_new w1 _) (by omega)), hS.step hv, ?_⟩
  exact ((h1.mono (K' := fun i => w.heap.size < i) (fun i hi _ => by omega)).below (bel_alloc (Below.refl _ _) (.cells es 67))).grown hv.2 (fun g e hk => by cases e; omega))
 have MU : ∀ u, PR W b r u → Calls Tryz.prog 322 #[.pointer (some ⟨b, 0, none⟩), .string ⟨#[41]⟩] u fun e w' => e = .returned (.tuple #[]) ∧ Sp W b r.tail u w' := fun u hu => must_yes hu hr [41] (by decide) h41
 clear C X X2 h h41
 generalize ts.tail = L' at *
 generalize r.tail = r' at *
 obtain ⟨w2, hw2⟩ : ∃ w2, w0 w = w2 := ⟨_, rfl⟩
 have FIN : ∀ (u : World) (es : Array Value), Sp W b r' w2 u → NK (fun i => w.heap.size < i) u es n → _ := fun u es hu hN => by
  rw [← hw2] at hu
  exact fin_all hb hN hu
 rw [hw2] at SK
 simp only [hw2] at C2
 go_enter Tryz.func319, Tryz.ntmps319
 go_wp2_with (first
  | (go_at_call 311; refine SK.mono ?_; rintro e w3 ⟨rfl, HS⟩)
  | (go_at_call 152; refine (C2 _ HS.out).mono ?_; rintro e w4 ⟨es, rfl, RS0, HS4, HL4⟩)
  | (refine wpList_store_run rfl 67 _ _ rfl _ _ _ rfl rfl RS0.out ?_; clear RS0)
  | (go_at_call 322; refine (MU _ HS4.out.1).mono ?_; rintro e w5 ⟨rfl, hs⟩; obtain ⟨rl5, hs5, hn5⟩ := HL4.out _ hs; have RL5 : Hid _ := rl5; obtain ⟨RS, HG, HZ, HF⟩ := FIN _ _ hs5 hn5; clear hs rl5 hs5 hn5)
  | (refine wpList_load_run rfl 67 _ rfl _ _ rfl RL5.out ?_)
  | (refine wpList_store_run rfl 67 _ _ rfl _ _ _ rfl rfl RS.out ?_))
 exact bodyPost_ret (nd_res HG.out HZ.out rfl rfl) rfl ⟨_, rfl, HF.out.1, HF.out.2⟩
theorem one_unclosed {ts r : List Tk.Tok} {n : T} (hn : ts.length ≤ 256) (h : opOf ts = [40]) (hr : r.length ≤ 256) (X : PR W b ts w) (C : ∀ u, PR W b ts.tail u → Calls Tryz.prog 152 #[.pointer (some ⟨b, 0, none⟩)] u (PO W b u (some (n, r)))) (h41 : opOf r ≠ [41]) :
  Calls Tryz.prog 319 #[.pointer (some ⟨b, 0, none⟩)] w fun e w' => e = .panicked formP ∧ w.grownBy w' (some b) := by
 have X2 := X.alloc (.cells nd0 67)
 have SK : Calls Tryz.prog 311 #[.pointer (some ⟨b, 0, none⟩), .string ⟨#[40]⟩] (w0 w) fun e w' => e = .returned (.bool true) ∧ Hid (Sp W b ts.tail (w0 w) w') := skip_yes X2 (by omega) [40] (by decide) h
 have C2 : ∀ u, Sp W b ts.tail (w0 w) u → Calls Tryz.prog 152 #[.pointer (some ⟨b, 0, none⟩)] u fun e w1 => ∃ es, e = .returned (.agg es) ∧ Hid ((Instr.storeAt 67 (.pointer (some ⟨w1.heap.size, 0, none⟩)) (.agg es)).run Tryz.prog (w1.alloc (.cells nd0 67)) = .ok () (w1.alloc (.cells es 67))) ∧ Hid (Sp W b r (w0 w) (w1.alloc (.cells es 67))) := fun u hu => (C u hu.1).mono (by
  rintro e w1 ⟨es, rfl, h1, h2⟩
  exact ⟨es, rfl, (nbox w1 h1.nt).1, (hu.step h2).alloc _⟩)
 have MU : ∀ u, PR W b r u → Calls Tryz.prog 322 #[.pointer (some ⟨b, 0, none⟩), .string ⟨#[41]⟩] u fun e w' => e = .panicked formP ∧ w' = u := fun u hu => must_no hu hr [41] h41
 have HG0 : Hid (w.grownBy (w0 w) (some b)) := World.grownBy_alloc _ _ _
 clear C X X2 h h41
 generalize ts.tail = L' at *
 obtain ⟨w2, hw2⟩ : ∃ w2, w0 w = w2 := ⟨_, rfl⟩
 rw [hw2] at SK HG0
 simp only [hw2] at C2
 go_enter Tryz.func319, Tryz.ntmps319
 go_wp2_with (first
  | (go_at_call 311; refine SK.mono ?_; rintro e w3 ⟨rfl, HS⟩)
  | (go_at_call 152; refine (C2 _ HS.out).mono ?_; rintro e w4 ⟨es, rfl, RS0, HS4⟩)
  | (refine wpList_store_run rfl 67 _ _ rfl _ _ _ rfl rfl RS0.out ?_; clear RS0)
  | (go_at_call 322; refine (MU _ HS4.out.1).mono ?_; rintro e w5 ⟨rfl, hs⟩; obtain rfl := hs.symm; clear hs))
 exact ⟨rfl, rfl, grown_trans HG0.out HS4.out.2⟩
theorem one_inner {ts : List Tk.Tok} (hn : ts.length ≤ 256) (h : opOf ts = [40]) (X : PR W b ts w) (C : ∀ u, PR W b ts.tail u → Calls Tryz.prog 152 #[.pointer (some ⟨b, 0, none⟩)] u fun e w' => e = .panicked formP ∧ u.grownBy w' (some b)) :
  Calls Tryz.prog 319 #[.pointer (some ⟨b, 0, none⟩)] w fun e w' => e = .panicked formP ∧ w.grownBy w' (some b) := by
 have X2 := X.alloc (.cells nd0 67)
 have SK : Calls Tryz.prog 311 #[.pointer (some ⟨b, 0, none⟩), .string ⟨#[40]⟩] (w0 w) fun e w' => e = .returned (.bool true) ∧ Hid (Sp W b ts.tail (w0 w) w') := skip_yes X2 (by omega) [40] (by decide) h
 have HG0 : Hid (w.grownBy (w0 w) (some b)) := World.grownBy_alloc _ _ _
 clear X X2 h
 generalize ts.tail = L' at *
 obtain ⟨w2, hw2⟩ : ∃ w2, w0 w = w2 := ⟨_, rfl⟩
 rw [hw2] at SK HG0
 go_enter Tryz.func319, Tryz.ntmps319
 go_wp2_with (first
  | (go_at_call 311; refine SK.mono ?_; rintro e w3 ⟨rfl, HS⟩)
  | (go_at_call 152; refine (C _ HS.out.1).mono ?_; rintro e w4 ⟨rfl, hg⟩))
 exact ⟨rfl, rfl, grown_trans HG0.out (grown_trans HS.out.2 hg)⟩
theorem one_nil (X : PR W b [] w) : Calls Tryz.prog 319 #[.pointer (some ⟨b, 0, none⟩)] w fun e w' => e = .panicked formP ∧ w.grownBy w' (some b) := by
 have X2 := X.alloc (.cells nd0 67)
 have SK : Calls Tryz.prog 311 #[.pointer (some ⟨b, 0, none⟩), .string ⟨#[40]⟩] (w0 w) fun e w' => e = .returned (.bool false) ∧ w' = w0 w := skip_no X2 (by simp) [40] (by decide)
 have TK := take_nil X2
 have HG0 : Hid (w.grownBy (w0 w) (some b)) := World.grownBy_alloc _ _ _
 clear X X2
 go_enter Tryz.func319, Tryz.ntmps319
 go_wp2_with (first
  | (go_at_call 311; refine SK.mono ?_; rintro e w3 ⟨rfl, hs⟩; obtain rfl := hs.symm; clear hs)
  | (go_at_call 236; refine TK.mono ?_; rintro e w4 ⟨rfl, hg⟩))
 exact ⟨rfl, rfl, grown_trans HG0.out hg⟩
theorem tk_all {t : Tk.Tok} {q : List Tk.Tok} (hn : (t :: q).length ≤ 256) (h : opOf (t :: q) ≠ [40]) (X : PR W b (t :: q) w) :
  Calls Tryz.prog 311 #[.pointer (some ⟨b, 0, none⟩), .string ⟨#[40]⟩] (w0 w) (fun e w' => e = .returned (.bool false) ∧ w' = w0 w) ∧ Calls Tryz.prog 236 #[.pointer (some ⟨b, 0, none⟩)] (w0 w) (fun e w' => e = .returned (.agg (tcs (tk t).k (tk t).n (tk t).s (tk t).b (tk t).h (tk t).r (tk t).c (tk t).fr (tk t).fc)) ∧ Hid (Sp W b q (w0 w) w')) :=
 ⟨skip_no (X.alloc (.cells nd0 67)) hn [40] h, take_cons (X.alloc (.cells nd0 67)) (by simp at hn; omega)⟩
theorem one_num {n : Int} {q : List Tk.Tok} (hb : b < w.heap.size) (SK : Calls Tryz.prog 311 #[.pointer (some ⟨b, 0, none⟩), .string ⟨#[40]⟩] (w0 w) fun e w' => e = .returned (.bool false) ∧ w' = w0 w)
  (TK : Calls Tryz.prog 236 #[.pointer (some ⟨b, 0, none⟩)] (w0 w) fun e w' => e = .returned (.agg (tcs 1 n noB noB noB 0 0 false false)) ∧ Hid (Sp W b q (w0 w) w')) (V : ∀ u, Calls Tryz.prog 204 #[.int .i64 n, .bool true] u fun e w' => e = .returned (.agg #[.int .i64 1, .int .i64 n, .string noB]) ∧ Below u.heap.size u w') :
  Calls Tryz.prog 319 #[.pointer (some ⟨b, 0, none⟩)] w fun e w' => e = .returned (.agg (lcs (labV 1 n noB) (.slice none 0 0))) ∧ Sp W b q w w' := by
 have FIN := fun u (hu : Sp W b q (w0 w) u) => fin_all hb (NK.leaf (a := labV 1 n noB)) hu
 go_enter Tryz.func319, Tryz.ntmps319
 go_wp2_with (first
  | (go_at_call 311; refine SK.mono ?_; rintro e w3 ⟨rfl, hs⟩; obtain rfl := hs.symm; clear hs)
  | (go_at_call 236; refine TK.mono ?_; rintro e w4 ⟨rfl, HS4⟩)
  | (go_at_call 204; refine (V _).mono ?_; rintro e w5 ⟨rfl, hs⟩; have HS5 : Hid (Sp W b q (w0 w) w5) := (HS4.out.alloc _).bel hs; clear hs)
  | (go_at_call 323; refine (const_any 1 n noB _).mono ?_; rintro e w6 ⟨rfl, hs⟩; obtain ⟨RS, HG, HZ, HF⟩ := FIN _ (HS5.out.bel hs); clear hs)
  | (refine wpList_store_run rfl 67 _ _ rfl _ _ _ rfl rfl RS.out ?_))
 exact bodyPost_ret (nd_res HG.out HZ.out rfl rfl) rfl ⟨rfl, HF.out.2⟩
theorem one_str {S : ByteArray} {q : List Tk.Tok} (hb : b < w.heap.size) (SK : Calls Tryz.prog 311 #[.pointer (some ⟨b, 0, none⟩), .string ⟨#[40]⟩] (w0 w) fun e w' => e = .returned (.bool false) ∧ w' = w0 w)
  (TK : Calls Tryz.prog 236 #[.pointer (some ⟨b, 0, none⟩)] (w0 w) fun e w' => e = .returned (.agg (tcs 2 0 S noB noB 0 0 false false)) ∧ Hid (Sp W b q (w0 w) w')) (V : ∀ u, Calls Tryz.prog 324 #[.string S] u fun e w' => e = .returned (.agg #[.int .i64 2, .int .i64 0, .string S]) ∧ Below u.heap.size u w') :
  Calls Tryz.prog 319 #[.pointer (some ⟨b, 0, none⟩)] w fun e w' => e = .returned (.agg (lcs (labV 2 0 S) (.slice none 0 0))) ∧ Sp W b q w w' := by
 have FIN := fun u (hu : Sp W b q (w0 w) u) => fin_all hb (NK.leaf (a := labV 2 0 S)) hu
 go_enter Tryz.func319, Tryz.ntmps319
 go_wp2_with (first
  | (go_at_call 311; refine SK.mono ?_; rintro e w3 ⟨rfl, hs⟩; obtain rfl := hs.symm; clear hs)
  | (go_at_call 236; refine TK.mono ?_; rintro e w4 ⟨rfl, HS4⟩)
  | (go_at_call 324; refine (V _).mono ?_; rintro e w5 ⟨rfl, hs⟩; have HS5 : Hid (Sp W b q (w0 w) w5) := (HS4.out.alloc _).bel hs; clear hs)
  | (go_at_call 323; refine (const_any 2 0 S _).mono ?_; rintro e w6 ⟨rfl, hs⟩; obtain ⟨RS, HG, HZ, HF⟩ := FIN _ (HS5.out.bel hs); clear hs)
  | (refine wpList_store_run rfl 67 _ _ rfl _ _ _ rfl rfl RS.out ?_))
 exact bodyPost_ret (nd_res HG.out HZ.out rfl rfl) rfl ⟨rfl, HF.out.2⟩
theorem one_bad {n : Int} {q : List Tk.Tok} (hb : b < w.heap.size) (SK : Calls Tryz.prog 311 #[.pointer (some ⟨b, 0, none⟩), .string ⟨#[40]⟩] (w0 w) fun e w' => e = .returned (.bool false) ∧ w' = w0 w)
  (TK : Calls Tryz.prog 236 #[.pointer (some ⟨b, 0, none⟩)] (w0 w) fun e w' => e = .returned (.agg (tcs 6 n noB noB noB 0 0 false false)) ∧ Hid (Sp W b q (w0 w) w')) (V : ∀ u, Calls Tryz.prog 208 #[.int .i64 n] u fun e w' => e = .returned (.agg #[.int .i64 4, .int .i64 n, .string noB]) ∧ Below u.heap.size u w') :
  Calls Tryz.prog 319 #[.pointer (some ⟨b, 0, none⟩)] w fun e w' => e = .returned (.agg (lcs (labV 4 n noB) (.slice none 0 0))) ∧ Sp W b q w w' := by
 have FIN := fun u (hu : Sp W b q (w0 w) u) => fin_all hb (NK.leaf (a := labV 4 n noB)) hu
 go_enter Tryz.func319, Tryz.ntmps319
 go_wp2_with (first
  | (go_at_call 311; refine SK.mono ?_; rintro e w3 ⟨rfl, hs⟩; obtain rfl := hs.symm; clear hs)
  | (go_at_call 236; refine TK.mono ?_; rintro e w4 ⟨rfl, HS4⟩)
  | (go_at_call 208; refine (V _).mono ?_; rintro e w5 ⟨rfl, hs⟩; have HS5 : Hid (Sp W b q (w0 w) w5) := (HS4.out.alloc _).bel hs; clear hs)
  | (go_at_call 323; refine (const_any 4 n noB _).mono ?_; rintro e w6 ⟨rfl, hs⟩; obtain ⟨RS, HG, HZ, HF⟩ := FIN _ (HS5.out.bel hs); clear hs)
  | (refine wpList_store_run rfl 67 _ _ rfl _ _ _ rfl rfl RS.out ?_))
 exact bodyPost_ret (nd_res HG.out HZ.out rfl rfl) rfl ⟨rfl, HF.out.2⟩
theorem one_op5 {S : ByteArray} {q : List Tk.Tok} (SK : Calls Tryz.prog 311 #[.pointer (some ⟨b, 0, none⟩), .string ⟨#[40]⟩] (w0 w) fun e w' => e = .returned (.bool false) ∧ w' = w0 w)
  (TK : Calls Tryz.prog 236 #[.pointer (some ⟨b, 0, none⟩)] (w0 w) fun e w' => e = .returned (.agg (tcs 5 0 S noB noB 0 0 false false)) ∧ Hid (Sp W b q (w0 w) w')) :
  Calls Tryz.prog 319 #[.pointer (some ⟨b, 0, none⟩)] w fun e w' => e = .panicked formP ∧ w.grownBy w' (some b) := by
 have HG0 : Hid (w.grownBy (w0 w) (some b)) := World.grownBy_alloc _ _ _
 go_enter Tryz.func319, Tryz.ntmps319
 go_wp2_with (first
  | (go_at_call 311; refine SK.mono ?_; rintro e w3 ⟨rfl, hs⟩; obtain rfl := hs.symm; clear hs)
  | (go_at_call 236; refine TK.mono ?_; rintro e w4 ⟨rfl, HS4⟩))
 exact ⟨rfl, rfl, grown_trans HG0.out (HS4.out.alloc _).2⟩
theorem one_ref {B H : ByteArray} {r c : Int} {fr fc : Bool} {q : List Tk.Tok} {o : Option (T × List Tk.Tok)} (hb : b < w.heap.size) (SK : Calls Tryz.prog 311 #[.pointer (some ⟨b, 0, none⟩), .string ⟨#[40]⟩] (w0 w) fun e w' => e = .returned (.bool false) ∧ w' = w0 w)
  (TK : Calls Tryz.prog 236 #[.pointer (some ⟨b, 0, none⟩)] (w0 w) fun e w' => e = .returned (.agg (tcs 3 0 noB B H r c fr fc)) ∧ Hid (Sp W b q (w0 w) w')) (C : ∀ u, PR W b q u → Calls Tryz.prog 325 #[.pointer (some ⟨b, 0, none⟩), .agg #[.string B, .string H, .int .i64 r, .int .i64 c, .bool fr, .bool fc]] u (PO W b u o)) :
  Calls Tryz.prog 319 #[.pointer (some ⟨b, 0, none⟩)] w (PO W b w o) := by
 have HG0 : Hid (w.grownBy (w0 w) (some b)) := World.grownBy_alloc _ _ _
 cases o with
 | none =>
  have C' : ∀ u, PR W b q u → Calls Tryz.prog 325 #[.pointer (some ⟨b, 0, none⟩), .agg #[.string B, .string H, .int .i64 r, .int .i64 c, .bool fr, .bool fc]] u fun e w' => e = .panicked formP ∧ u.grownBy w' (some b) := C
  clear C
  go_enter Tryz.func319, Tryz.ntmps319
  go_wp2_with (first
   | (go_at_call 311; refine SK.mono ?_; rintro e w3 ⟨rfl, hs⟩; obtain rfl := hs.symm; clear hs)
   | (go_at_call 236; refine TK.mono ?_; rintro e w4 ⟨rfl, HS4⟩)
   | (go_at_call 325; refine (C' _ (HS4.out.alloc _).1).mono ?_; rintro e w5 ⟨rfl, hg⟩))
  exact ⟨rfl, rfl, grown_trans HG0.out (grown_trans (HS4.out.alloc _).2 hg)⟩
 | some p =>
  have C' : ∀ u, Sp W b q (w0 w) u → Calls Tryz.prog 325 #[.pointer (some ⟨b, 0, none⟩), .agg #[.string B, .string H, .int .i64 r, .int .i64 c, .bool fr, .bool fc]] u fun e w1 => ∃ es, e = .returned (.agg es) ∧ Hid ((Instr.storeAt 67 (.pointer (some ⟨w.heap.size, 0, none⟩)) (.agg es)).run Tryz.prog w1 = .ok () (w1.setRow w.heap.size es)) ∧ Hid (w1.heap[w.heap.size]? = some (.cells nd0 67)) ∧ Hid (es.size = 18) ∧
    Hid (NK (fun i => w.heap.size ≤ i) (w1.setRow w.heap.size es) es p.1 ∧ Sp W b p.2 w (w1.setRow w.heap.size es)) := fun u hu => (C u hu.1).mono (by
   rintro e w1 ⟨es, rfl, h1, h2⟩
   exact ⟨es, rfl, fin_all hb (h1.mono (fun i hi _ => by have := hu.2.size; simp at this; omega)) (hu.step h2)⟩)
  clear C
  go_enter Tryz.func319, Tryz.ntmps319
  go_wp2_with (first
   | (go_at_call 311; refine SK.mono ?_; rintro e w3 ⟨rfl, hs⟩; obtain rfl := hs.symm; clear hs)
   | (go_at_call 236; refine TK.mono ?_; rintro e w4 ⟨rfl, HS4⟩)
   | (go_at_call 325; refine (C' _ (HS4.out.alloc _)).mono ?_; rintro e w5 ⟨es, rfl, RS, HG, HZ, HF⟩)
   | (refine wpList_store_run rfl 67 _ _ rfl _ _ _ rfl rfl RS.out ?_))
  exact bodyPost_ret (nd_res HG.out HZ.out rfl rfl) rfl ⟨_, rfl, HF.out.1, HF.out.2⟩
theorem one_word {S B : ByteArray} {q : List Tk.Tok} {o : Option (T × List Tk.Tok)} (hb : b < w.heap.size) (SK : Calls Tryz.prog 311 #[.pointer (some ⟨b, 0, none⟩), .string ⟨#[40]⟩] (w0 w) fun e w' => e = .returned (.bool false) ∧ w' = w0 w)
  (TK : Calls Tryz.prog 236 #[.pointer (some ⟨b, 0, none⟩)] (w0 w) fun e w' => e = .returned (.agg (tcs 4 0 S B noB 0 0 false false)) ∧ Hid (Sp W b q (w0 w) w')) (C : ∀ u, PR W b q u → Calls Tryz.prog 326 #[.pointer (some ⟨b, 0, none⟩), .agg (tcs 4 0 S B noB 0 0 false false)] u (PO W b u o)) :
  Calls Tryz.prog 319 #[.pointer (some ⟨b, 0, none⟩)] w (PO W b w o) := by
 have HG0 : Hid (w.grownBy (w0 w) (some b)) := World.grownBy_alloc _ _ _
 cases o with
 | none =>
  have C' : ∀ u, PR W b q u → Calls Tryz.prog 326 #[.pointer (some ⟨b, 0, none⟩), .agg (tcs 4 0 S B noB 0 0 false false)] u fun e w' => e = .panicked formP ∧ u.grownBy w' (some b) := C
  clear C
  go_enter Tryz.func319, Tryz.ntmps319
  go_wp2_with (first
   | (go_at_call 311; refine SK.mono ?_; rintro e w3 ⟨rfl, hs⟩; obtain rfl := hs.symm; clear hs)
   | (go_at_call 236; refine TK.mono ?_; rintro e w4 ⟨rfl, HS4⟩)
   | (go_at_call 326; refine (C' _ (HS4.out.alloc _).1).mono ?_; rintro e w5 ⟨rfl, hg⟩))
  exact ⟨rfl, rfl, grown_trans HG0.out (grown_trans (HS4.out.alloc _).2 hg)⟩
 | some p =>
  have C' : ∀ u, Sp W b q (w0 w) u → Calls Tryz.prog 326 #[.pointer (some ⟨b, 0, none⟩), .agg (tcs 4 0 S B noB 0 0 false false)] u fun e w1 => ∃ es, e = .returned (.agg es) ∧ Hid ((Instr.storeAt 67 (.pointer (some ⟨w.heap.size, 0, none⟩)) (.agg es)).run Tryz.prog w1 = .ok () (w1.setRow w.heap.size es)) ∧ Hid (w1.heap[w.heap.size]? = some (.cells nd0 67)) ∧ Hid (es.size = 18) ∧
    Hid (NK (fun i => w.heap.size ≤ i) (w1.setRow w.heap.size es) es p.1 ∧ Sp W b p.2 w (w1.setRow w.heap.size es)) := fun u hu => (C u hu.1).mono (by
   rintro e w1 ⟨es, rfl, h1, h2⟩
   exact ⟨es, rfl, fin_all hb (h1.mono (fun i hi _ => by have := hu.2.size; simp at this; omega)) (hu.step h2)⟩)
  clear C
  go_enter Tryz.func319, Tryz.ntmps319
  go_wp2_with (first
   | (go_at_call 311; refine SK.mono ?_; rintro e w3 ⟨rfl, hs⟩; obtain rfl := hs.symm; clear hs)
   | (go_at_call 236; refine TK.mono ?_; rintro e w4 ⟨rfl, HS4⟩)
   | (go_at_call 326; refine (C' _ (HS4.out.alloc _)).mono ?_; rintro e w5 ⟨es, rfl, RS, HG, HZ, HF⟩)
   | (refine wpList_store_run rfl 67 _ _ rfl _ _ _ rfl rfl RS.out ?_))
  exact bodyPost_ret (nd_res HG.out HZ.out rfl rfl) rfl ⟨_, rfl, HF.out.1, HF.out.2⟩
end
end Go.Proofs.YtnibldnfbikipaaGreatDoor
