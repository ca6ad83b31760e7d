/- FWord2, VGood, FOne, FAll. -/
import Derived.Test.YtnibldnfbikipaaGreatDoorFWordBy
set_option linter.unusedVariables false
set_option linter.unusedSimpArgs false
set_option maxHeartbeats 16000000
set_option maxRecDepth 100000
namespace Go.Proofs.YtnibldnfbikipaaGreatDoor
open Go.RowKit Go.Fm
section
variable {W w : World} {b : Nat} {B S : ByteArray}
theorem word_book_true {n : Int} {L : List Tk.Tok} (hn : L.length ≤ 256) (X : PR W b L w) (hB : B.toList.isEmpty = false) (TY : ∀ u, Sp W b L (ww w B S) u → Calls Tryz.prog 160 #[.string S] u fun e w' => e = .returned (.agg #[.int .i64 3, .int .i64 n, .string noB]) ∧ Below u.heap.size u w') :
  Calls Tryz.prog 326 #[.pointer (some ⟨b, 0, none⟩), .agg (tcs 4 0 S B noB 0 0 false false)] w fun e w' => e = .returned (.agg (lcs (labV 3 n nb) (.slice none 0 0))) ∧ Sp W b L w w' := by
 have hb := X.lt
 have X2 := (X.alloc (.cells (tcs 4 0 S B noB 0 0 false false) 156)).alloc (.cells nd0 67)
 obtain ⟨c2, c3⟩ := ww_cells hb (Sp.refl X2)
 have HS0 : Hid (Sp W b L (ww w B S) (ww w B S)) := Sp.refl X2
 have CC := fun u (hu : Sp W b L (ww w B S) u) => (ww_cells hb hu).1
 have FIN := fun u (hu : Sp W b L (ww w B S) u) => ww_fin (K := fun _ => True) hb hu (NK.leaf (a := (labV 3 n nb)))
 obtain ⟨w2, hw2⟩ : ∃ w2, ww w B S = w2 := ⟨_, rfl⟩
 rw [hw2] at c2 c3 HS0
 simp only [hw2] at TY FIN CC
 clear X X2
 go_enter Tryz.func326, Tryz.ntmps326
 go_wp2_with (first
  | (go_at_call 160; refine (TY _ HS0.out).mono ?_; rintro e w3 ⟨rfl, hs⟩; have HS3 : Hid (Sp W b L w2 (w3.alloc (.cells #[.int .i64 3, .int .i64 n, .string noB] 62))) := (HS0.out.bel hs).alloc _; clear hs)
  | (go_at_call 323; refine (const_any 3 n noB _).mono ?_; rintro e w4 ⟨rfl, hs⟩; obtain ⟨RS, HG, HZ, HF⟩ := FIN _ (HS3.out.bel hs); clear hs)
  | (refine wpList_store_run rfl 67 _ _ rfl _ _ _ rfl rfl RS.out ?_))
 exact bodyPost_ret (nd_res HG.out HZ.out rfl rfl) rfl ⟨rfl, HF.out.2⟩
theorem word_book_name {k n : Int} {x : ByteArray} {L : List Tk.Tok} (hn : L.length ≤ 256) (X : PR W b L w) (hB : B.toList.isEmpty = false) (TY : ∀ u, Sp W b L (ww w B S) u → Calls Tryz.prog 160 #[.string S] u fun e w' => e = .returned (.agg #[.int .i64 k, .int .i64 n, .string x]) ∧ Below u.heap.size u w') (hk : (k == 3) = false) :
  Calls Tryz.prog 326 #[.pointer (some ⟨b, 0, none⟩), .agg (tcs 4 0 S B noB 0 0 false false)] w fun e w' => e = .returned (.agg (lcs ⟨4, S, 0, 0, nb, B, nb, 0, 0, false, false, nb, nb, 0, 0, false, false⟩ (.slice none 0 0))) ∧ Sp W b L w w' := by
 have hb := X.lt
 have X2 := (X.alloc (.cells (tcs 4 0 S B noB 0 0 false false) 156)).alloc (.cells nd0 67)
 obtain ⟨c2, c3⟩ := ww_cells hb (Sp.refl X2)
 have HS0 : Hid (Sp W b L (ww w B S) (ww w B S)) := Sp.refl X2
 have CC := fun u (hu : Sp W b L (ww w B S) u) => (ww_cells hb hu).1
 have FIN := fun u (hu : Sp W b L (ww w B S) u) => ww_fin (K := fun _ => True) hb hu (NK.leaf (a := ⟨4, S, 0, 0, nb, B, nb, 0, 0, false, false, nb, nb, 0, 0, false, false⟩))
 obtain ⟨w2, hw2⟩ : ∃ w2, ww w B S = w2 := ⟨_, rfl⟩
 rw [hw2] at c2 c3 HS0
 simp only [hw2] at TY FIN CC
 clear X X2
 go_enter Tryz.func326, Tryz.ntmps326
 go_wp2_with (first
  | (go_at_call 160; refine (TY _ HS0.out).mono ?_; rintro e w3 ⟨rfl, hs⟩; have HS3 : Hid (Sp W b L w2 (w3.alloc (.cells #[.int .i64 k, .int .i64 n, .string x] 62))) := (HS0.out.bel hs).alloc _; have c22 := CC _ HS3.out; obtain ⟨RS, HG, HZ, HF⟩ := FIN _ HS3.out; clear hs)
  | (refine wpList_store_run rfl 67 _ _ rfl _ _ _ rfl rfl RS.out ?_))
 exact bodyPost_ret (nd_res HG.out HZ.out rfl rfl) rfl ⟨rfl, HF.out.2⟩
theorem word_none_true {n : Int} {L : List Tk.Tok} (hn : L.length ≤ 256) (X : PR W b L w) (hB : B = noB) (h : opOf L ≠ [40]) (TY : ∀ u, Sp W b L (ww w B S) u → Calls Tryz.prog 160 #[.string S] u fun e w' => e = .returned (.agg #[.int .i64 3, .int .i64 n, .string noB]) ∧ Below u.heap.size u w') :
  Calls Tryz.prog 326 #[.pointer (some ⟨b, 0, none⟩), .agg (tcs 4 0 S B noB 0 0 false false)] w fun e w' => e = .returned (.agg (lcs (labV 3 n nb) (.slice none 0 0))) ∧ Sp W b L w w' := by
 have hb := X.lt
 have X2 := (X.alloc (.cells (tcs 4 0 S B noB 0 0 false false) 156)).alloc (.cells nd0 67)
 obtain ⟨c2, c3⟩ := ww_cells hb (Sp.refl X2)
 have HS0 : Hid (Sp W b L (ww w B S) (ww w B S)) := Sp.refl X2
 have CC := fun u (hu : Sp W b L (ww w B S) u) => (ww_cells hb hu).1
 have FIN := fun u (hu : Sp W b L (ww w B S) u) => ww_fin (K := fun _ => True) hb hu (NK.leaf (a := (labV 3 n nb)))
 have SK : Calls Tryz.prog 311 #[.pointer (some ⟨b, 0, none⟩), .string ⟨#[40]⟩] (ww w B S) fun e w' => e = .returned (.bool false) ∧ w' = ww w B S := skip_no X2 (by omega) [40] h
 subst hB
 clear h
 obtain ⟨w2, hw2⟩ : ∃ w2, ww w noB S = w2 := ⟨_, rfl⟩
 rw [hw2] at SK c2 c3 HS0
 simp only [hw2] at TY FIN CC
 clear X X2
 go_enter Tryz.func326, Tryz.ntmps326
 go_wp2_with (first
  | (go_at_call 311; refine SK.mono ?_; rintro e w1 ⟨rfl, hs⟩; obtain rfl := hs.symm; clear hs)
  | (go_at_call 160; refine (TY _ HS0.out).mono ?_; rintro e w3 ⟨rfl, hs⟩; have HS3 : Hid (Sp W b L w2 (w3.alloc (.cells #[.int .i64 3, .int .i64 n, .string noB] 62))) := (HS0.out.bel hs).alloc _; clear hs)
  | (go_at_call 323; refine (const_any 3 n noB _).mono ?_; rintro e w4 ⟨rfl, hs⟩; obtain ⟨RS, HG, HZ, HF⟩ := FIN _ (HS3.out.bel hs); clear hs)
  | (refine wpList_store_run rfl 67 _ _ rfl _ _ _ rfl rfl RS.out ?_))
 exact bodyPost_ret (nd_res HG.out HZ.out rfl rfl) rfl ⟨rfl, HF.out.2⟩
theorem word_none_name {k n : Int} {x : ByteArray} {L : List Tk.Tok} (hn : L.length ≤ 256) (X : PR W b L w) (hB : B = noB) (h : opOf L ≠ [40]) (TY : ∀ u, Sp W b L (ww w B S) u → Calls Tryz.prog 160 #[.string S] u fun e w' => e = .returned (.agg #[.int .i64 k, .int .i64 n, .string x]) ∧ Below u.heap.size u w') (hk : (k == 3) = false) :
  Calls Tryz.prog 326 #[.pointer (some ⟨b, 0, none⟩), .agg (tcs 4 0 S B noB 0 0 false false)] w fun e w' => e = .returned (.agg (lcs ⟨4, S, 0, 0, nb, B, nb, 0, 0, false, false, nb, nb, 0, 0, false, false⟩ (.slice none 0 0))) ∧ Sp W b L w w' := by
 have hb := X.lt
 have X2 := (X.alloc (.cells (tcs 4 0 S B noB 0 0 false false) 156)).alloc (.cells nd0 67)
 obtain ⟨c2, c3⟩ := ww_cells hb (Sp.refl X2)
 have HS0 : Hid (Sp W b L (ww w B S) (ww w B S)) := Sp.refl X2
 have CC := fun u (hu : Sp W b L (ww w B S) u) => (ww_cells hb hu).1
 have FIN := fun u (hu : Sp W b L (ww w B S) u) => ww_fin (K := fun _ => True) hb hu (NK.leaf (a := ⟨4, S, 0, 0, nb, B, nb, 0, 0, false, false, nb, nb, 0, 0, false, false⟩))
 have SK : Calls Tryz.prog 311 #[.pointer (some ⟨b, 0, none⟩), .string ⟨#[40]⟩] (ww w B S) fun e w' => e = .returned (.bool false) ∧ w' = ww w B S := skip_no X2 (by omega) [40] h
 subst hB
 clear h
 obtain ⟨w2, hw2⟩ : ∃ w2, ww w noB S = w2 := ⟨_, rfl⟩
 rw [hw2] at SK c2 c3 HS0
 simp only [hw2] at TY FIN CC
 clear X X2
 go_enter Tryz.func326, Tryz.ntmps326
 go_wp2_with (first
  | (go_at_call 311; refine SK.mono ?_; rintro e w1 ⟨rfl, hs⟩; obtain rfl := hs.symm; clear hs)
  | (go_at_call 160; refine (TY _ HS0.out).mono ?_; rintro e w3 ⟨rfl, hs⟩; have HS3 : Hid (Sp W b L w2 (w3.alloc (.cells #[.int .i64 k, .int .i64 n, .string x] 62))) := (HS0.out.bel hs).alloc _; have c22 := CC _ HS3.out; obtain ⟨RS, HG, HZ, HF⟩ := FIN _ HS3.out; clear hs)
  | (refine wpList_store_run rfl 67 _ _ rfl _ _ _ rfl rfl RS.out ?_))
 exact bodyPost_ret (nd_res HG.out HZ.out rfl rfl) rfl ⟨rfl, HF.out.2⟩
end
theorem word_any {W w : World} {b : Nat} (bk s : List UInt8) {L : List Tk.Tok} (hn : L.length ≤ 256) (hh : headL s = true) (hs : s.length ≤ 1000) (X : PR W b L w)
  (CA : ∀ u, opOf L = [40] → PR W b L.tail u → Calls Tryz.prog 327 #[.pointer (some ⟨b, 0, none⟩)] u (AO W b u (AA L.tail))) :
  Calls Tryz.prog 326 #[.pointer (some ⟨b, 0, none⟩), .agg (tcs 4 0 (ba s) (ba bk) noB 0 0 false false)] w (PO W b w (wordF bk s L)) := by
 unfold wordF
 by_cases h : bk = [] ∧ opOf L = [40]
 ·rw [if_pos h]
  obtain ⟨rfl, h⟩ := h
  exact word_call hn h hs X (fun u hu => CA u h hu)
 ·rw [if_neg h]
  have TY : ∀ u, Sp W b L (ww w (ba bk) (ba s)) u → Calls Tryz.prog 160 #[.string (ba s)] u fun e w' => e = .returned (.agg #[.int .i64 (typedF (ba s)).1, .int .i64 (typedF (ba s)).2.1, .string (typedF (ba s)).2.2]) ∧ Below u.heap.size u w' := fun u hu => typed_any (ba s) (by rw [size_mk]; omega) u hu.1.t.t.t
  have hg : ((ba bk).toList.isEmpty = false) ∨ ((ba bk) = noB ∧ opOf L ≠ [40]) := by
   cases bk with
   | nil => exact .inr ⟨rfl, fun e => h ⟨rfl, e⟩⟩
   | cons c r => exact .inl (by rw [ByteArray.toList_eq]; rfl)
  rcases typed_word hh with ⟨n, h1, h2⟩ | ⟨h1, h2⟩
  ·rw [h1]
   rw [h2] at TY
   rcases hg with hg | ⟨hg, hg2⟩
   ·exact (word_book_true hn X hg TY).mono (by rintro e w' ⟨rfl, h⟩; exact ⟨_, rfl, NK.leaf, h⟩)
   ·exact (word_none_true hn X hg hg2 TY).mono (by rintro e w' ⟨rfl, h⟩; exact ⟨_, rfl, NK.leaf, h⟩)
  ·rw [h1]
   rcases hg with hg | ⟨hg, hg2⟩
   ·exact (word_book_name hn X hg TY h2).mono (by rintro e w' ⟨rfl, h⟩; exact ⟨_, rfl, NK.leaf (a := labN bk s), h⟩)
   ·exact (word_none_name hn X hg hg2 TY h2).mono (by rintro e w' ⟨rfl, h⟩; exact ⟨_, rfl, NK.leaf (a := labN bk s), h⟩)
end Go.Proofs.YtnibldnfbikipaaGreatDoor
namespace Go.Proofs.YtnibldnfbikipaaGreatDoor
open Go.RowKit
theorem str_any (s : ByteArray) (w : World) : Calls Tryz.prog 324 #[.string s] w fun e w' => e = .returned (if lenB s = true then .agg #[.int .i64 2, .int .i64 0, .string s] else .agg #[.int .i64 4, .int .i64 2, .string ⟨#[]⟩]) ∧ Below w.heap.size w w' := by
 rcases len_cases s with ⟨he, h⟩ | ⟨he, h⟩
 all_goals rw [h]
 ·have he' : ¬ 255 < (s.size : Int) := by omega
  go_enter Tryz.func324, Tryz.ntmps324
  go_wp2_with (go_at_call 202; refine (words_any _ _).mono ?_; rintro e w1 ⟨rfl, hb⟩; have HB : Hid (Below w.heap.size w w1) := bel1 hb; obtain ⟨⟨c0, c1, c2⟩, f0, f1, f2⟩ := rescell hb; clear hb)
  exact bodyPost_ret (v := .agg #[.int .i64 2, .int .i64 0, .string s]) (by simp [results, Tryz.results324, go_sem, c0, c1, c2]) rfl ⟨rfl, set3 HB.out⟩
 ·have he' : 255 < (s.size : Int) := by omega
  go_enter Tryz.func324, Tryz.ntmps324
  go_wp2_with (go_at_call 208; refine (bad_any _ _).mono ?_; rintro e w1 ⟨rfl, hb⟩; have HB : Hid (Below w.heap.size w w1) := bel1 hb; obtain ⟨⟨c0, c1, c2⟩, f0, f1, f2⟩ := rescell hb; clear hb)
  exact bodyPost_ret (v := .agg #[.int .i64 4, .int .i64 2, .string ⟨#[]⟩]) (by simp [results, Tryz.results324, go_sem, c0, c1, c2]; rfl) rfl ⟨rfl, set3 HB.out⟩
end Go.Proofs.YtnibldnfbikipaaGreatDoor
namespace Go.Proofs.YtnibldnfbikipaaGreatDoor
open Go.RowKit Go.Fm
section
variable {W w : World} {b : Nat}
abbrev w0 (w : World) : World := w.alloc (.cells nd0 67)
theorem one_open {ts r : List Tk.Tok} {n : T} (hn : ts.length ≤ 256) (h : opOf ts = [40]) (hr : r.length ≤ 256) (X : PR W b ts w) (C : ∀ u, PR W b ts.tail u → Calls Tryz.prog 152 #[.pointer (some ⟨b, 0, none⟩)] u (PO W b u (some (n, r)))) (h41 : opOf r = [41]) :
  Calls Tryz.prog 319 #[.pointer (some ⟨b, 0, none⟩)] w (PO W b w (some (n, r.tail))) := by
 have hb := X.lt
 have X2 := X.alloc (.cells nd0 67)
 have SK : Calls Tryz.prog 311 #[.pointer (some ⟨b, 0, none⟩), .string ⟨#[40]⟩] (w0 w) fun e w' => e = .returned (.bool true) ∧ Hid (Sp W b ts.tail (w0 w) w') := skip_yes X2 (by omega) [40] (by decide) h
 have C2 : ∀ u, Sp W b ts.tail (w0 w) u → Calls Tryz.prog 152 #[.pointer (some ⟨b, 0, none⟩)] u fun e w1 => ∃ es, e = .returned (.agg es) ∧ Hid ((Instr.storeAt 67 (.pointer (some ⟨w1.heap.size, 0, none⟩)) (.agg es)).run Tryz.prog (w1.alloc (.cells nd0 67)) = .ok () (w1.alloc (.cells es 67))) ∧ Hid (Sp W b r (w0 w) (w1.alloc (.cells es 67))) ∧
   Hid (∀ u, Sp W b r.tail (w1.alloc (.cells es 67)) u → (Instr.loadAt 67 (.pointer (some ⟨w1.heap.size, 0, none⟩))).run Tryz.prog u = .ok (.agg es) u ∧ Sp W b r.tail (w0 w) u ∧ NK (fun i => w.heap.size < i) u es n) := fun u hu => (C u hu.1).mono (by
  rintro e w1 ⟨es, rfl, h1, h2⟩
  have hS : Sp W b r (w0 w) (w1.alloc (.cells es 67)) := (hu.step h2).alloc _
  refine ⟨es, rfl, (nbox w1 h1.nt).1, hS, fun v hv => ?_⟩
  have hz := hu.2.size
  have hzz := h2.2.size
  simp at hz
  refine ⟨h1.lod (hv.kept (heap_alloc_new w1 _) (by omega)), hS.step hv, ?_⟩
  exact ((h1.mono (K' := fun i => w.heap.size < i) (fun i hi _ => by omega)).below (bel_alloc (Below.refl _ _) (.cells es 67))).grown hv.2 (fun g e hk => by cases e; omega))
 have MU : ∀ u, PR W b r u → Calls Tryz.prog 322 #[.pointer (some ⟨b, 0, none⟩), .string ⟨#[41]⟩] u fun e w' => e = .returned (.tuple #[]) ∧ Sp W b r.tail u w' := fun u hu => must_yes hu hr [41] (by decide) h41
 clear C X X2 h h41
 generalize ts.tail = L' at *
 generalize r.tail = r' at *
 obtain ⟨w2, hw2⟩ : ∃ w2, w0 w = w2 := ⟨_, rfl⟩
 have FIN : ∀ (u : World) (es : Array Value), Sp W b r' w2 u → NK (fun i => w.heap.size < i) u es n → _ := fun u es hu hN => by
  rw [← hw2] at hu
  exact fin_all hb hN hu
 rw [hw2] at SK
 simp only [hw2] at C2
 go_enter Tryz.func319, Tryz.ntmps319
 go_wp2_with (first
  | (go_at_call 311; refine SK.mono ?_; rintro e w3 ⟨rfl, HS⟩)
  | (go_at_call 152; refine (C2 _ HS.out).mono ?_; rintro e w4 ⟨es, rfl, RS0, HS4, HL4⟩)
  | (refine wpList_store_run rfl 67 _ _ rfl _ _ _ rfl rfl RS0.out ?_; clear RS0)
  | (go_at_call 322; refine (MU _ HS4.out.1).mono ?_; rintro e w5 ⟨rfl, hs⟩; obtain ⟨rl5, hs5, hn5⟩ := HL4.out _ hs; have RL5 : Hid _ := rl5; obtain ⟨RS, HG, HZ, HF⟩ := FIN _ _ hs5 hn5; clear hs rl5 hs5 hn5)
  | (refine wpList_load_run rfl 67 _ rfl _ _ rfl RL5.out ?_)
  | (refine wpList_store_run rfl 67 _ _ rfl _ _ _ rfl rfl RS.out ?_))
 exact bodyPost_ret (nd_res HG.out HZ.out rfl rfl) rfl ⟨_, rfl, HF.out.1, HF.out.2⟩
theorem one_unclosed {ts r : List Tk.Tok} {n : T} (hn : ts.length ≤ 256) (h : opOf ts = [40]) (hr : r.length ≤ 256) (X : PR W b ts w) (C : ∀ u, PR W b ts.tail u → Calls Tryz.prog 152 #[.pointer (some ⟨b, 0, none⟩)] u (PO W b u (some (n, r)))) (h41 : opOf r ≠ [41]) :
  Calls Tryz.prog 319 #[.pointer (some ⟨b, 0, none⟩)] w fun e w' => e = .panicked formP ∧ w.grownBy w' (some b) := by
 have X2 := X.alloc (.cells nd0 67)
 have SK : Calls Tryz.prog 311 #[.pointer (some ⟨b, 0, none⟩), .string ⟨#[40]⟩] (w0 w) fun e w' => e = .returned (.bool true) ∧ Hid (Sp W b ts.tail (w0 w) w') := skip_yes X2 (by omega) [40] (by decide) h
 have C2 : ∀ u, Sp W b ts.tail (w0 w) u → Calls Tryz.prog 152 #[.pointer (some ⟨b, 0, none⟩)] u fun e w1 => ∃ es, e = .returned (.agg es) ∧ Hid ((Instr.storeAt 67 (.pointer (some ⟨w1.heap.size, 0, none⟩)) (.agg es)).run Tryz.prog (w1.alloc (.cells nd0 67)) = .ok () (w1.alloc (.cells es 67))) ∧ Hid (Sp W b r (w0 w) (w1.alloc (.cells es 67))) := fun u hu => (C u hu.1).mono (by
  rintro e w1 ⟨es, rfl, h1, h2⟩
  exact ⟨es, rfl, (nbox w1 h1.nt).1, (hu.step h2).alloc _⟩)
 have MU : ∀ u, PR W b r u → Calls Tryz.prog 322 #[.pointer (some ⟨b, 0, none⟩), .string ⟨#[41]⟩] u fun e w' => e = .panicked formP ∧ w' = u := fun u hu => must_no hu hr [41] h41
 have HG0 : Hid (w.grownBy (w0 w) (some b)) := World.grownBy_alloc _ _ _
 clear C X X2 h h41
 generalize ts.tail = L' at *
 obtain ⟨w2, hw2⟩ : ∃ w2, w0 w = w2 := ⟨_, rfl⟩
 rw [hw2] at SK HG0
 simp only [hw2] at C2
 go_enter Tryz.func319, Tryz.ntmps319
 go_wp2_with (first
  | (go_at_call 311; refine SK.mono ?_; rintro e w3 ⟨rfl, HS⟩)
  | (go_at_call 152; refine (C2 _ HS.out).mono ?_; rintro e w4 ⟨es, rfl, RS0, HS4⟩)
  | (refine wpList_store_run rfl 67 _ _ rfl _ _ _ rfl rfl RS0.out ?_; clear RS0)
  | (go_at_call 322; refine (MU _ HS4.out.1).mono ?_; rintro e w5 ⟨rfl, hs⟩; obtain rfl := hs.symm; clear hs))
 exact ⟨rfl, rfl, grown_trans HG0.out HS4.out.2⟩
theorem one_inner {ts : List Tk.Tok} (hn : ts.length ≤ 256) (h : opOf ts = [40]) (X : PR W b ts w) (C : ∀ u, PR W b ts.tail u → Calls Tryz.prog 152 #[.pointer (some ⟨b, 0, none⟩)] u fun e w' => e = .panicked formP ∧ u.grownBy w' (some b)) :
  Calls Tryz.prog 319 #[.pointer (some ⟨b, 0, none⟩)] w fun e w' => e = .panicked formP ∧ w.grownBy w' (some b) := by
 have X2 := X.alloc (.cells nd0 67)
 have SK : Calls Tryz.prog 311 #[.pointer (some ⟨b, 0, none⟩), .string ⟨#[40]⟩] (w0 w) fun e w' => e = .returned (.bool true) ∧ Hid (Sp W b ts.tail (w0 w) w') := skip_yes X2 (by omega) [40] (by decide) h
 have HG0 : Hid (w.grownBy (w0 w) (some b)) := World.grownBy_alloc _ _ _
 clear X X2 h
 generalize ts.tail = L' at *
 obtain ⟨w2, hw2⟩ : ∃ w2, w0 w = w2 := ⟨_, rfl⟩
 rw [hw2] at SK HG0
 go_enter Tryz.func319, Tryz.ntmps319
 go_wp2_with (first
  | (go_at_call 311; refine SK.mono ?_; rintro e w3 ⟨rfl, HS⟩)
  | (go_at_call 152; refine (C _ HS.out.1).mono ?_; rintro e w4 ⟨rfl, hg⟩))
 exact ⟨rfl, rfl, grown_trans HG0.out (grown_trans HS.out.2 hg)⟩
theorem one_nil (X : PR W b [] w) : Calls Tryz.prog 319 #[.pointer (some ⟨b, 0, none⟩)] w fun e w' => e = .panicked formP ∧ w.grownBy w' (some b) := by
 have X2 := X.alloc (.cells nd0 67)
 have SK : Calls Tryz.prog 311 #[.pointer (some ⟨b, 0, none⟩), .string ⟨#[40]⟩] (w0 w) fun e w' => e = .returned (.bool false) ∧ w' = w0 w := skip_no X2 (by simp) [40] (by decide)
 have TK := take_nil X2
 have HG0 : Hid (w.grownBy (w0 w) (some b)) := World.grownBy_alloc _ _ _
 clear X X2
 go_enter Tryz.func319, Tryz.ntmps319
 go_wp2_with (first
  | (go_at_call 311; refine SK.mono ?_; rintro e w3 ⟨rfl, hs⟩; obtain rfl := hs.symm; clear hs)
  | (go_at_call 236; refine TK.mono ?_; rintro e w4 ⟨rfl, hg⟩))
 exact ⟨rfl, rfl, grown_trans HG0.out hg⟩
theorem tk_all {t : Tk.Tok} {q : List Tk.Tok} (hn : (t :: q).length ≤ 256) (h : opOf (t :: q) ≠ [40]) (X : PR W b (t :: q) w) :
  Calls Tryz.prog 311 #[.pointer (some ⟨b, 0, none⟩), .string ⟨#[40]⟩] (w0 w) (fun e w' => e = .returned (.bool false) ∧ w' = w0 w) ∧ Calls Tryz.prog 236 #[.pointer (some ⟨b, 0, none⟩)] (w0 w) (fun e w' => e = .returned (.agg (tcs (tk t).k (tk t).n (tk t).s (tk t).b (tk t).h (tk t).r (tk t).c (tk t).fr (tk t).fc)) ∧ Hid (Sp W b q (w0 w) w')) :=
 ⟨skip_no (X.alloc (.cells nd0 67)) hn [40] h, take_cons (X.alloc (.cells nd0 67)) (by simp at hn; omega)⟩
theorem one_num {n : Int} {q : List Tk.Tok} (hb : b < w.heap.size) (SK : Calls Tryz.prog 311 #[.pointer (some ⟨b, 0, none⟩), .string ⟨#[40]⟩] (w0 w) fun e w' => e = .returned (.bool false) ∧ w' = w0 w)
  (TK : Calls Tryz.prog 236 #[.pointer (some ⟨b, 0, none⟩)] (w0 w) fun e w' => e = .returned (.agg (tcs 1 n noB noB noB 0 0 false false)) ∧ Hid (Sp W b q (w0 w) w')) (V : ∀ u, Calls Tryz.prog 204 #[.int .i64 n, .bool true] u fun e w' => e = .returned (.agg #[.int .i64 1, .int .i64 n, .string noB]) ∧ Below u.heap.size u w') :
  Calls Tryz.prog 319 #[.pointer (some ⟨b, 0, none⟩)] w fun e w' => e = .returned (.agg (lcs (labV 1 n noB) (.slice none 0 0))) ∧ Sp W b q w w' := by
 have FIN := fun u (hu : Sp W b q (w0 w) u) => fin_all hb (NK.leaf (a := labV 1 n noB)) hu
 go_enter Tryz.func319, Tryz.ntmps319
 go_wp2_with (first
  | (go_at_call 311; refine SK.mono ?_; rintro e w3 ⟨rfl, hs⟩; obtain rfl := hs.symm; clear hs)
  | (go_at_call 236; refine TK.mono ?_; rintro e w4 ⟨rfl, HS4⟩)
  | (go_at_call 204; refine (V _).mono ?_; rintro e w5 ⟨rfl, hs⟩; have HS5 : Hid (Sp W b q (w0 w) w5) := (HS4.out.alloc _).bel hs; clear hs)
  | (go_at_call 323; refine (const_any 1 n noB _).mono ?_; rintro e w6 ⟨rfl, hs⟩; obtain ⟨RS, HG, HZ, HF⟩ := FIN _ (HS5.out.bel hs); clear hs)
  | (refine wpList_store_run rfl 67 _ _ rfl _ _ _ rfl rfl RS.out ?_))
 exact bodyPost_ret (nd_res HG.out HZ.out rfl rfl) rfl ⟨rfl, HF.out.2⟩
theorem one_str {S : ByteArray} {q : List Tk.Tok} (hb : b < w.heap.size) (SK : Calls Tryz.prog 311 #[.pointer (some ⟨b, 0, none⟩), .string ⟨#[40]⟩] (w0 w) fun e w' => e = .returned (.bool false) ∧ w' = w0 w)
  (TK : Calls Tryz.prog 236 #[.pointer (some ⟨b, 0, none⟩)] (w0 w) fun e w' => e = .returned (.agg (tcs 2 0 S noB noB 0 0 false false)) ∧ Hid (Sp W b q (w0 w) w')) (V : ∀ u, Calls Tryz.prog 324 #[.string S] u fun e w' => e = .returned (.agg #[.int .i64 2, .int .i64 0, .string S]) ∧ Below u.heap.size u w') :
  Calls Tryz.prog 319 #[.pointer (some ⟨b, 0, none⟩)] w fun e w' => e = .returned (.agg (lcs (labV 2 0 S) (.slice none 0 0))) ∧ Sp W b q w w' := by
 have FIN := fun u (hu : Sp W b q (w0 w) u) => fin_all hb (NK.leaf (a := labV 2 0 S)) hu
 go_enter Tryz.func319, Tryz.ntmps319
 go_wp2_with (first
  | (go_at_call 311; refine SK.mono ?_; rintro e w3 ⟨rfl, hs⟩; obtain rfl := hs.symm; clear hs)
  | (go_at_call 236; refine TK.mono ?_; rintro e w4 ⟨rfl, HS4⟩)
  | (go_at_call 324; refine (V _).mono ?_; rintro e w5 ⟨rfl, hs⟩; have HS5 : Hid (Sp W b q (w0 w) w5) := (HS4.out.alloc _).bel hs; clear hs)
  | (go_at_call 323; refine (const_any 2 0 S _).mono ?_; rintro e w6 ⟨rfl, hs⟩; obtain ⟨RS, HG, HZ, HF⟩ := FIN _ (HS5.out.bel hs); clear hs)
  | (refine wpList_store_run rfl 67 _ _ rfl _ _ _ rfl rfl RS.out ?_))
 exact bodyPost_ret (nd_res HG.out HZ.out rfl rfl) rfl ⟨rfl, HF.out.2⟩
theorem one_bad {n : Int} {q : List Tk.Tok} (hb : b < w.heap.size) (SK : Calls Tryz.prog 311 #[.pointer (some ⟨b, 0, none⟩), .string ⟨#[40]⟩] (w0 w) fun e w' => e = .returned (.bool false) ∧ w' = w0 w)
  (TK : Calls Tryz.prog 236 #[.pointer (some ⟨b, 0, none⟩)] (w0 w) fun e w' => e = .returned (.agg (tcs 6 n noB noB noB 0 0 false false)) ∧ Hid (Sp W b q (w0 w) w')) (V : ∀ u, Calls Tryz.prog 208 #[.int .i64 n] u fun e w' => e = .returned (.agg #[.int .i64 4, .int .i64 n, .string noB]) ∧ Below u.heap.size u w') :
  Calls Tryz.prog 319 #[.pointer (some ⟨b, 0, none⟩)] w fun e w' => e = .returned (.agg (lcs (labV 4 n noB) (.slice none 0 0))) ∧ Sp W b q w w' := by
 have FIN := fun u (hu : Sp W b q (w0 w) u) => fin_all hb (NK.leaf (a := labV 4 n noB)) hu
 go_enter Tryz.func319, Tryz.ntmps319
 go_wp2_with (first
  | (go_at_call 311; refine SK.mono ?_; rintro e w3 ⟨rfl, hs⟩; obtain rfl := hs.symm; clear hs)
  | (go_at_call 236; refine TK.mono ?_; rintro e w4 ⟨rfl, HS4⟩)
  | (go_at_call 208; refine (V _).mono ?_; rintro e w5 ⟨rfl, hs⟩; have HS5 : Hid (Sp W b q (w0 w) w5) := (HS4.out.alloc _).bel hs; clear hs)
  | (go_at_call 323; refine (const_any 4 n noB _).mono ?_; rintro e w6 ⟨rfl, hs⟩; obtain ⟨RS, HG, HZ, HF⟩ := FIN _ (HS5.out.bel hs); clear hs)
  | (refine wpList_store_run rfl 67 _ _ rfl _ _ _ rfl rfl RS.out ?_))
 exact bodyPost_ret (nd_res HG.out HZ.out rfl rfl) rfl ⟨rfl, HF.out.2⟩
theorem one_op5 {S : ByteArray} {q : List Tk.Tok} (SK : Calls Tryz.prog 311 #[.pointer (some ⟨b, 0, none⟩), .string ⟨#[40]⟩] (w0 w) fun e w' => e = .returned (.bool false) ∧ w' = w0 w)
  (TK : Calls Tryz.prog 236 #[.pointer (some ⟨b, 0, none⟩)] (w0 w) fun e w' => e = .returned (.agg (tcs 5 0 S noB noB 0 0 false false)) ∧ Hid (Sp W b q (w0 w) w')) :
  Calls Tryz.prog 319 #[.pointer (some ⟨b, 0, none⟩)] w fun e w' => e = .panicked formP ∧ w.grownBy w' (some b) := by
 have HG0 : Hid (w.grownBy (w0 w) (some b)) := World.grownBy_alloc _ _ _
 go_enter Tryz.func319, Tryz.ntmps319
 go_wp2_with (first
  | (go_at_call 311; refine SK.mono ?_; rintro e w3 ⟨rfl, hs⟩; obtain rfl := hs.symm; clear hs)
  | (go_at_call 236; refine TK.mono ?_; rintro e w4 ⟨rfl, HS4⟩))
 exact ⟨rfl, rfl, grown_trans HG0.out (HS4.out.alloc _).2⟩
theorem one_ref {B H : ByteArray} {r c : Int} {fr fc : Bool} {q : List Tk.Tok} {o : Option (T × List Tk.Tok)} (hb : b < w.heap.size) (SK : Calls Tryz.prog 311 #[.pointer (some ⟨b, 0, none⟩), .string ⟨#[40]⟩] (w0 w) fun e w' => e = .returned (.bool false) ∧ w' = w0 w)
  (TK : Calls Tryz.prog 236 #[.pointer (some ⟨b, 0, none⟩)] (w0 w) fun e w' => e = .returned (.agg (tcs 3 0 noB B H r c fr fc)) ∧ Hid (Sp W b q (w0 w) w')) (C : ∀ u, PR W b q u → Calls Tryz.prog 325 #[.pointer (some ⟨b, 0, none⟩), .agg #[.string B, .string H, .int .i64 r, .int .i64 c, .bool fr, .bool fc]] u (PO W b u o)) :
  Calls Tryz.prog 319 #[.pointer (some ⟨b, 0, none⟩)] w (PO W b w o) := by
 have HG0 : Hid (w.grownBy (w0 w) (some b)) := World.grownBy_alloc _ _ _
 cases o with
 | none =>
  have C' : ∀ u, PR W b q u → Calls Tryz.prog 325 #[.pointer (some ⟨b, 0, none⟩), .agg #[.string B, .string H, .int .i64 r, .int .i64 c, .bool fr, .bool fc]] u fun e w' => e = .panicked formP ∧ u.grownBy w' (some b) := C
  clear C
  go_enter Tryz.func319, Tryz.ntmps319
  go_wp2_with (first
   | (go_at_call 311; refine SK.mono ?_; rintro e w3 ⟨rfl, hs⟩; obtain rfl := hs.symm; clear hs)
   | (go_at_call 236; refine TK.mono ?_; rintro e w4 ⟨rfl, HS4⟩)
   | (go_at_call 325; refine (C' _ (HS4.out.alloc _).1).mono ?_; rintro e w5 ⟨rfl, hg⟩))
  exact ⟨rfl, rfl, grown_trans HG0.out (grown_trans (HS4.out.alloc _).2 hg)⟩
 | some p =>
  have C' : ∀ u, Sp W b q (w0 w) u → Calls Tryz.prog 325 #[.pointer (some ⟨b, 0, none⟩), .agg #[.string B, .string H, .int .i64 r, .int .i64 c, .bool fr, .bool fc]] u fun e w1 => ∃ es, e = .returned (.agg es) ∧ Hid ((Instr.storeAt 67 (.pointer (some ⟨w.heap.size, 0, none⟩)) (.agg es)).run Tryz.prog w1 = .ok () (w1.setRow w.heap.size es)) ∧ Hid (w1.heap[w.heap.size]? = some (.cells nd0 67)) ∧ Hid (es.size = 18) ∧
    Hid (NK (fun i => w.heap.size ≤ i) (w1.setRow w.heap.size es) es p.1 ∧ Sp W b p.2 w (w1.setRow w.heap.size es)) := fun u hu => (C u hu.1).mono (by
   rintro e w1 ⟨es, rfl, h1, h2⟩
   exact ⟨es, rfl, fin_all hb (h1.mono (fun i hi _ => by have := hu.2.size; simp at this; omega)) (hu.step h2)⟩)
  clear C
  go_enter Tryz.func319, Tryz.ntmps319
  go_wp2_with (first
   | (go_at_call 311; refine SK.mono ?_; rintro e w3 ⟨rfl, hs⟩; obtain rfl := hs.symm; clear hs)
   | (go_at_call 236; refine TK.mono ?_; rintro e w4 ⟨rfl, HS4⟩)
   | (go_at_call 325; refine (C' _ (HS4.out.alloc _)).mono ?_; rintro e w5 ⟨es, rfl, RS, HG, HZ, HF⟩)
   | (refine wpList_store_run rfl 67 _ _ rfl _ _ _ rfl rfl RS.out ?_))
  exact bodyPost_ret (nd_res HG.out HZ.out rfl rfl) rfl ⟨_, rfl, HF.out.1, HF.out.2⟩
theorem one_word {S B : ByteArray} {q : List Tk.Tok} {o : Option (T × List Tk.Tok)} (hb : b < w.heap.size) (SK : Calls Tryz.prog 311 #[.pointer (some ⟨b, 0, none⟩), .string ⟨#[40]⟩] (w0 w) fun e w' => e = .returned (.bool false) ∧ w' = w0 w)
  (TK : Calls Tryz.prog 236 #[.pointer (some ⟨b, 0, none⟩)] (w0 w) fun e w' => e = .returned (.agg (tcs 4 0 S B noB 0 0 false false)) ∧ Hid (Sp W b q (w0 w) w')) (C : ∀ u, PR W b q u → Calls Tryz.prog 326 #[.pointer (some ⟨b, 0, none⟩), .agg (tcs 4 0 S B noB 0 0 false false)] u (PO W b u o)) :
  Calls Tryz.prog 319 #[.pointer (some ⟨b, 0, none⟩)] w (PO W b w o) := by
 have HG0 : Hid (w.grownBy (w0 w) (some b)) := World.grownBy_alloc _ _ _
 cases o with
 | none =>
  have C' : ∀ u, PR W b q u → Calls Tryz.prog 326 #[.pointer (some ⟨b, 0, none⟩), .agg (tcs 4 0 S B noB 0 0 false false)] u fun e w' => e = .panicked formP ∧ u.grownBy w' (some b) := C
  clear C
  go_enter Tryz.func319, Tryz.ntmps319
  go_wp2_with (first
   | (go_at_call 311; refine SK.mono ?_; rintro e w3 ⟨rfl, hs⟩; obtain rfl := hs.symm; clear hs)
   | (go_at_call 236; refine TK.mono ?_; rintro e w4 ⟨rfl, HS4⟩)
   | (go_at_call 326; refine (C' _ (HS4.out.alloc _).1).mono ?_; rintro e w5 ⟨rfl, hg⟩))
  exact ⟨rfl, rfl, grown_trans HG0.out (grown_trans (HS4.out.alloc _).2 hg)⟩
 | some p =>
  have C' : ∀ u, Sp W b q (w0 w) u → Calls Tryz.prog 326 #[.pointer (some ⟨b, 0, none⟩), .agg (tcs 4 0 S B noB 0 0 false false)] u fun e w1 => ∃ es, e = .returned (.agg es) ∧ Hid ((Instr.storeAt 67 (.pointer (some ⟨w.heap.size, 0, none⟩)) (.agg es)).run Tryz.prog w1 = .ok () (w1.setRow w.heap.size es)) ∧ Hid (w1.heap[w.heap.size]? = some (.cells nd0 67)) ∧ Hid (es.size = 18) ∧
    Hid (NK (fun i => w.heap.size ≤ i) (w1.setRow w.heap.size es) es p.1 ∧ Sp W b p.2 w (w1.setRow w.heap.size es)) := fun u hu => (C u hu.1).mono (by
   rintro e w1 ⟨es, rfl, h1, h2⟩
   exact ⟨es, rfl, fin_all hb (h1.mono (fun i hi _ => by have := hu.2.size; simp at this; omega)) (hu.step h2)⟩)
  clear C
  go_enter Tryz.func319, Tryz.ntmps319
  go_wp2_with (first
   | (go_at_call 311; refine SK.mono ?_; rintro e w3 ⟨rfl, hs⟩; obtain rfl := hs.symm; clear hs)
   | (go_at_call 236; refine TK.mono ?_; rintro e w4 ⟨rfl, HS4⟩)
   | (go_at_call 326; refine (C' _ (HS4.out.alloc _)).mono ?_; rintro e w5 ⟨es, rfl, RS, HG, HZ, HF⟩)
   | (refine wpList_store_run rfl 67 _ _ rfl _ _ _ rfl rfl RS.out ?_))
  exact bodyPost_ret (nd_res HG.out HZ.out rfl rfl) rfl ⟨_, rfl, HF.out.1, HF.out.2⟩
end
theorem args_any {W w : World} {b : Nat} {ts : List Tk.Tok} (hn : ts.length ≤ 256) (X : PR W b ts w) (C : ∀ ts' u, ts'.length ≤ ts.length → PR W b ts' u → Calls Tryz.prog 152 #[.pointer (some ⟨b, 0, none⟩)] u (PO W b u (PP 1 ts'))) :
  Calls Tryz.prog 327 #[.pointer (some ⟨b, 0, none⟩)] w (AO W b w (AA ts)) := by
 unfold AA
 by_cases h : opOf ts = [41]
 ·rw [if_pos h]
  exact (args_nil hn h X).mono (by rintro e w' ⟨rfl, hs⟩; exact ⟨none, 0, 0, rfl, rfl, .inl rfl, hs⟩)
 ·rw [if_neg h]
  have C0 := C ts w (Nat.le_refl _) X
  cases hP : PP 1 ts with
  | none =>
   rw [hP] at C0
   exact args_none hn h X C0
  | some p =>
   rw [hP] at C0
   have hl := ps_lt upF trF (by omega) _ p.1 p.2 hP
   exact args_some hn h X hl C0 (fun ts' u h1 h2 => C ts' u (by omega) h2)
theorem word_head {b s : List UInt8} (h : Tk.okT gnF trB okN (Tk.Tok.word b s)) : headL s = true ∧ s.length ≤ 1000 := by
 have hg : ∀ s, gnF s = true → headL s = true ∧ s.length ≤ 1000 := fun s h => ⟨(gn_parts h).2.1, by have := (gn_parts h).1; omega⟩
 rcases h with ⟨_, h | h⟩ | ⟨_, h⟩
 ·exact hg s h
 ·obtain ⟨h1, h2⟩ := tru_letters h
  refine ⟨?_, ?_⟩
  ·cases s with
   | nil => exact absurd rfl h1
   | cons c r => exact h2 c (by simp)
  ·rcases tru_word h with e | e
   ·have := congrArg List.length e; simp [szF] at this; omega
   ·have := congrArg List.length e; simp [szF] at this; omega
 ·exact hg s h
theorem one_any {W w : World} {b : Nat} {ts : List Tk.Tok} (hn : ts.length ≤ 256) (X : PR W b ts w) (C : ∀ ts' u, ts'.length < ts.length → PR W b ts' u → Calls Tryz.prog 152 #[.pointer (some ⟨b, 0, none⟩)] u (PO W b u (PP 1 ts'))) :
  Calls Tryz.prog 319 #[.pointer (some ⟨b, 0, none⟩)] w (PO W b w (PP 8 ts)) := by
 have e : PP 8 ts = oneF upF trF (PP 1) ts := ps_one upF trF ts
 rw [e]
 have hb := X.lt
 cases ts with
 | nil => exact one_nil X
 | cons t q =>
  have hok := X.ok t (by simp)
  have hq : q.length ≤ 256 := by simp at hn; omega
  by_cases h40 : opOf (t :: q) = [40]
  ·cases t using Tk.Tok.cs with
   | op s =>
    have hs : s = [40] := h40
    have e2 : oneF upF trF (PP 1) (Tk.Tok.op s :: q) = (PP 1 q).bind fun p => if opOf p.2 = [41] then some (p.1, p.2.tail) else none := by
     simp only [oneF]; rw [if_pos hs]
    rw [e2]
    have C1 := fun u hu => C q u (by simp) hu
    cases hP : PP 1 q with
    | none =>
     rw [hP] at C1
     exact one_inner hn h40 X C1
    | some p =>
     obtain ⟨n, r⟩ := p
     rw [hP] at C1
     have hl := ps_lt upF trF (by omega) _ n r hP
     simp only [Option.bind_some]
     by_cases h41 : opOf r = [41]
     ·rw [if_pos h41]; exact one_open hn h40 (by omega) X C1 h41
     ·rw [if_neg h41]; exact one_unclosed hn h40 (by omega) X C1 h41
   | num n => cases h40
   | str n => cases h40
   | ref n => cases h40
   | word n m => cases h40
   | bad n => cases h40
  ·obtain ⟨SK, TK⟩ := tk_all hn h40 X
   have lf : ∀ {a : Lab} {f : Nat} {r : List Tk.Tok}, Calls Tryz.prog 319 #[.pointer (some ⟨b, 0, none⟩)] w (fun e w' => e = .returned (.agg (lcs a (.slice none 0 0))) ∧ Sp W b r w w') → Calls Tryz.prog 319 #[.pointer (some ⟨b, 0, none⟩)] w (PO W b w (some (tree a [], r))) := fun h => h.mono (by rintro e w' ⟨rfl, h⟩; exact ⟨_, rfl, NK.leaf, h⟩)
   cases t using Tk.Tok.cs with
   | op s =>
    have hs : s ≠ [40] := h40
    have e2 : oneF upF trF (PP 1) (Tk.Tok.op s :: q) = none := by simp only [oneF]; rw [if_neg hs]
    rw [e2]
    exact one_op5 SK TK
   | num n =>
    have hg : ofV n true = .agg #[.int .i64 1, .int .i64 n, .string noB] := by
     unfold ofV
     have hgd : gd n = true := by
      have h1 : okN n := hok.1
      unfold gd
      simp only [Bool.and_eq_true, decide_eq_true_eq]
      exact ⟨by have := h1.1; omega, h1.2⟩
     rw [hgd]; rfl
    have V := fun u => of_any n true u
    rw [hg] at V
    exact lf (f := 0) (one_num hb SK TK V)
   | str s =>
    have hl : lenB (ba s) = true := by
     have h1 : s.length ≤ 255 := hok.2
     rcases len_cases (ba s) with ⟨_, h⟩ | ⟨h2, h⟩
     ·exact h
     ·rw [size_mk] at h2; omega
    have V := fun u => str_any (ba s) u
    rw [hl] at V
    exact lf (f := 0) (one_str hb SK TK V)
   | bad n =>
    have hg : badN (n : Int) = n := by
     have h1 : 1 ≤ n ∧ n ≤ 8 := hok.1
     unfold badN
     rw [if_pos (kn_nat n h1.1 h1.2)]
    have V := fun u => bad_any (n : Int) u
    rw [hg] at V
    exact lf (f := 0) (one_bad hb SK TK V)
   | ref x => exact one_ref hb SK TK (fun u hu => cells_any x hq hu)
   | word bk s =>
    obtain ⟨h1, h2⟩ := word_head hok.1
    have e2 : oneF upF trF (PP 1) (Tk.Tok.word bk s :: q) = wordF bk s q := by
     simp only [oneF, wordF]
     rw [call_eq]
     split
     ·rfl
     ·cases trF s <;> rfl
    rw [e2]
    refine one_word hb SK TK (fun u hu => word_any bk s hq h1 h2 hu (fun v h40 hv => ?_))
    have hl := (op_tail (ts := q) h40 (by decide)).1
    exact args_any (by omega) hv (fun ts' u' h3 h4 => C ts' u' (by simp; omega) h4)
def fnN : Nat → Nat
 | 1 => 152
 | 2 => 197
 | 3 => 237
 | 4 => 268
 | 5 => 282
 | 6 => 296
 | 7 => 313
 | _ => 319
theorem lv_all : ∀ (n lv : Nat) (ts : List Tk.Tok), 1 ≤ lv → lv ≤ 8 → need lv ts ≤ n → ts.length ≤ 256 → ∀ (W : World) (b : Nat) (w : World), PR W b ts w → Calls Tryz.prog (fnN lv) #[.pointer (some ⟨b, 0, none⟩)] w (PO W b w (PP lv ts))
 | 0, lv, ts, h1, h8, hn, _ => by unfold need at hn; omega
 | n + 1, lv, ts, h1, h8, hn, hl => by
  intro W b w X
  have IH := lv_all n
  unfold need at hn
  have R : ∀ lv', 1 ≤ lv' → lv' ≤ 8 → lv < lv' → ∀ ts' u, ts'.length ≤ ts.length → PR W b ts' u → Calls Tryz.prog (fnN lv') #[.pointer (some ⟨b, 0, none⟩)] u (PO W b u (PP lv' ts')) := fun lv' a1 a2 a3 ts' u h2 h3 => IH lv' ts' a1 a2 (by unfold need; omega) (by omega) W b u h3
  have hc : lv = 1 ∨ lv = 2 ∨ lv = 3 ∨ lv = 4 ∨ lv = 5 ∨ lv = 6 ∨ lv = 7 ∨ lv = 8 := by omega
  rcases hc with rfl | rfl | rfl | rfl | rfl | rfl | rfl | rfl
  ·exact lv1_any hl (R 2 (by omega) (by omega) (by omega)) X
  ·exact lv2_any hl (R 3 (by omega) (by omega) (by omega)) X
  ·exact lv3_any hl (R 4 (by omega) (by omega) (by omega)) X
  ·exact lv4_any hl (R 5 (by omega) (by omega) (by omega)) X
  ·exact lv5_any hl (R 6 (by omega) (by omega) (by omega)) X
  ·refine neg_any hl (fun u h hu => ?_) (fun u hu => R 7 (by omega) (by omega) (by omega) ts u (Nat.le_refl _) hu) X
   have := (op_tail (ts := ts) h (by decide)).1
   exact IH 6 ts.tail (by omega) (by omega) (by unfold need; omega) (by omega) W b u hu
  ·exact pct_any hl (fun u hu => R 8 (by omega) (by omega) (by omega) ts u (Nat.le_refl _) hu) X
  ·exact one_any hl X (fun ts' u h2 hu => IH 1 ts' (by omega) (by omega) (by unfold need; omega) (by omega) W b u hu)
theorem compared_any {W w : World} {b : Nat} {ts : List Tk.Tok} (hn : ts.length ≤ 256) (X : PR W b ts w) : Calls Tryz.prog 152 #[.pointer (some ⟨b, 0, none⟩)] w (PO W b w (PP 1 ts)) :=
 lv_all _ 1 ts (by omega) (by omega) (Nat.le_refl _) hn W b w X
end Go.Proofs.YtnibldnfbikipaaGreatDoor
