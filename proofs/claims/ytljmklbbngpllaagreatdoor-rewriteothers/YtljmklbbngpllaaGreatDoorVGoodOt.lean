/- FWord, FWord2, VGood. -/
import Derived.Test.YtljmklbbngpllaaGreatDoorFCellOt
set_option linter.unusedVariables false
set_option linter.unusedSimpArgs false
set_option maxHeartbeats 16000000
set_option maxRecDepth 100000
namespace Go.Proofs.YtljmklbbngpllaaGreatDoor
open Go.RowKit Go.Fm
def wordF (b s : List UInt8) (r : List Tk.Tok) : Option (T × List Tk.Tok) :=
 if b = [] ∧ opOf r = [40] then (AA r.tail).map fun q => (tree (lab0 7 (bs (upF s))) q.1, q.2) else (match trF s with
   | some n => some (tree (labV 3 n nb) [], r)
   | none => some (tree (labN b s) [], r))
theorem typed_word {s : List UInt8} (h : headL s = true) : (∃ n, trF s = some n ∧ typedF (ba s) = (3, n, noB)) ∨ (trF s = none ∧ ((typedF (ba s)).1 == 3) = false) := by
 have hp := letter_parse (l := s) h
 have h0 : ¬ (ba s).toList = [] := by
  rw [ByteArray.toList_eq]
  intro e
  have e' : s = [] := e
  rw [e'] at h
  cases h
 have h1 : ¬ (ba s).data.toList.head? = some 39 := by
  show ¬ s.head? = some 39
  intro e
  cases hl : s with
  | nil => rw [hl] at h; cases h
  | cons c r =>
   rw [hl] at h e
   simp only [List.head?_cons, Option.some.injEq] at e
   exact (isL_facts h).1 e
 have hpp : ¬ (parseF (ba s).data.toList).2 = true := by show ¬ (parseF s).2 = true; rw [hp]; decide
 unfold trF typedF
 simp only [if_neg h0, if_neg h1, if_neg hpp]
 cases ht : (truF (ba s)).2
 ·right
  simp only [Bool.false_eq_true, if_false, true_and]
  split <;> rfl
 ·left
  simp only [if_true]
  exact ⟨_, rfl, rfl⟩
section
variable {W w : World} {b : Nat} {B S : ByteArray}
abbrev ww (w : World) (B S : ByteArray) : World := (w.alloc (.cells (tcs 4 0 S B noB 0 0 false false) 123)).alloc (.cells nd0 28)
theorem ww_fin {K : Nat → Prop} {L : List Tk.Tok} {u : World} {es : Array Value} {t : T} (hb : b < w.heap.size) (h : Sp W b L (ww w B S) u) (hN : NK (fun i => w.heap.size + 1 < i) u es t) :
  Hid ((Instr.storeAt 28 (.pointer (some ⟨w.heap.size + 1, 0, none⟩)) (.agg es)).run Tryz.prog u = .ok () (u.setRow (w.heap.size + 1) es)) ∧ Hid (u.heap[w.heap.size + 1]? = some (.cells nd0 28)) ∧ Hid (es.size = 18) ∧
  Hid (NK (fun i => w.heap.size ≤ i) (u.setRow (w.heap.size + 1) es) es t ∧ Sp W b L w (u.setRow (w.heap.size + 1) es)) := by
 have e1 : (ww w B S).heap[w.heap.size + 1]? = some (.cells nd0 28) := by
  have := heap_alloc_new (w.alloc (.cells (tcs 4 0 S B noB 0 0 false false) 123)) (.cells nd0 28)
  simpa using this
 have k1 := h.kept e1 (by omega)
 exact ⟨hN.sto k1 rfl, k1, hN.size, (hN.grown (setRow_grown _ _ _) (fun g e hk => by cases e; exact Nat.lt_irrefl _ hk)).mono (fun i hi _ => by omega), (h.unalloc.unalloc).grown (setRow_grown _ _ _) (by omega) hb⟩
theorem ww_cells {L : List Tk.Tok} {u : World} (hb : b < w.heap.size) (h : Sp W b L (ww w B S) u) : u.cell? ⟨w.heap.size, 2, none⟩ = some (.string S) ∧ u.cell? ⟨w.heap.size, 3, none⟩ = some (.string B) := by
 have e0 : (ww w B S).heap[w.heap.size]? = some (.cells (tcs 4 0 S B noB 0 0 false false) 123) := (Below.heap_alloc _ _ _ (by simp)).trans (heap_alloc_new w _)
 have k0 := h.kept e0 (by omega)
 exact ⟨by rw [cell_of_row u _ 2 _ 123 (0, 0) k0]; rfl, by rw [cell_of_row u _ 3 _ 123 (0, 0) k0]; rfl⟩
theorem word_call {s : List UInt8} {L : List Tk.Tok} (hn : L.length ≤ 256) (h : opOf L = [40]) (hs : s.length ≤ 1000) (X : PR W b L w)
  (CA : ∀ u, PR W b L.tail u → Calls Tryz.prog 282 #[.pointer (some ⟨b, 0, none⟩)] u (AO W b u (AA L.tail))) :
  Calls Tryz.prog 281 #[.pointer (some ⟨b, 0, none⟩), .agg (tcs 4 0 (ba s) noB noB 0 0 false false)] w (PO W b w ((AA L.tail).map fun q => (tree (lab0 7 (bs (upF s))) q.1, q.2))) := by
 have hb := X.lt
 have X2 := (X.alloc (.cells (tcs 4 0 (ba s) noB noB 0 0 false false) 123)).alloc (.cells nd0 28)
 have SK : Calls Tryz.prog 257 #[.pointer (some ⟨b, 0, none⟩), .string ⟨#[40]⟩] (ww w noB (ba s)) fun e w' => e = .returned (.bool true) ∧ Sp W b L.tail (ww w noB (ba s)) w' := skip_yes X2 (by omega) [40] (by decide) h
 have SK2 : Calls Tryz.prog 257 #[.pointer (some ⟨b, 0, none⟩), .string ⟨#[40]⟩] (ww w noB (ba s)) fun e w' => e = .returned (.bool true) ∧ w'.cell? ⟨w.heap.size, 2, none⟩ = some (.string (ba s)) ∧ Hid (Sp W b L.tail (ww w noB (ba s)) w') := SK.mono (by
  rintro e w' ⟨rfl, h⟩
  exact ⟨rfl, (ww_cells hb h).1, h⟩)
 obtain ⟨_, c3⟩ := ww_cells hb (Sp.refl X2)
 have UP := fun u => up_any (ba s) (by rw [size_mk]; omega) u
 have eU : (⟨(szF 97 65 (ba s).data.toList).toArray⟩ : ByteArray) = ba (upF s) := rfl
 rw [eU] at UP
 clear SK eU h X X2
 cases hA : AA L.tail with
 | none =>
  rw [hA] at CA
  have CA' : ∀ u, PR W b L.tail u → Calls Tryz.prog 282 #[.pointer (some ⟨b, 0, none⟩)] u fun e w' => e = .panicked formP ∧ u.grownBy w' (some b) := CA
  have HG : Hid (w.grownBy (ww w noB (ba s)) (some b)) := grown_trans (World.grownBy_alloc _ _ _) (World.grownBy_alloc _ _ _)
  clear CA hA
  generalize L.tail = L' at *
  obtain ⟨w2, hw2⟩ : ∃ w2, ww w noB (ba s) = w2 := ⟨_, rfl⟩
  rw [hw2] at SK2 HG c3
  generalize ba (upF s) = U at *
  generalize ba s = SS at *
  go_enter Tryz.func281, Tryz.ntmps281
  go_wp2_with (first
   | (go_at_call 257; refine SK2.mono ?_; rintro e w3 ⟨rfl, c2, HS⟩)
   | (go_at_call 194; refine (UP _).mono ?_; rintro e w4 ⟨rfl, hs⟩; have HS4 : Hid (Sp W b L' w2 w4) := HS.out.bel hs; clear hs)
   | (go_at_call 282; refine (CA' _ HS4.out.1).mono ?_; rintro e w5 ⟨rfl, hg⟩))
  exact ⟨rfl, rfl, grown_trans HG.out (grown_trans HS4.out.2 hg)⟩
 | some p =>
  obtain ⟨l, r⟩ := p
  rw [hA] at CA
  have CA' : ∀ u, Sp W b L.tail (ww w noB (ba s)) u → Calls Tryz.prog 282 #[.pointer (some ⟨b, 0, none⟩)] u fun e w' => ∃ q n c, e = .returned (.slice q n c) ∧
    Hid ((Instr.storeAt 28 (.pointer (some ⟨w.heap.size + 1, 0, none⟩)) (.agg (lcs (lab0 7 (ba (upF s))) (.slice q n c)))).run Tryz.prog w' = .ok () (w'.setRow (w.heap.size + 1) (lcs (lab0 7 (ba (upF s))) (.slice q n c)))) ∧ Hid (w'.heap[w.heap.size + 1]? = some (.cells nd0 28)) ∧
    Hid (NK (fun i => w.heap.size ≤ i) (w'.setRow (w.heap.size + 1) (lcs (lab0 7 (ba (upF s))) (.slice q n c))) (lcs (lab0 7 (ba (upF s))) (.slice q n c)) (tree (lab0 7 (ba (upF s))) l) ∧ Sp W b r w (w'.setRow (w.heap.size + 1) (lcs (lab0 7 (ba (upF s))) (.slice q n c)))) := fun u hu => (CA u hu.1).mono (by
   rintro e w' ⟨q, n, c, rfl, h1, h2, h3⟩
   dsimp only at h1 h2 h3
   have hN : NK (fun i => w.heap.size + 1 < i) w' (lcs (lab0 7 (ba (upF s))) (.slice q n c)) (tree (lab0 7 (ba (upF s))) l) := by
    refine ⟨q, n, c, rfl, by show n = (kids (mk l)).length; rw [kids_mk]; exact h1, ?_⟩
    rcases h2 with rfl | ⟨a, rfl, hi⟩
    ·exact .inl rfl
    ·exact .inr ⟨a, rfl, hi.mono (fun i hi _ => by have := hu.2.size; simp at this; omega)⟩
   obtain ⟨k1, k2, k3, k4⟩ := ww_fin (K := fun _ => True) hb (hu.step h3) hN
   exact ⟨q, n, c, rfl, k1, k2, k4⟩)
  clear CA hA
  generalize L.tail = L' at *
  obtain ⟨w2, hw2⟩ : ∃ w2, ww w noB (ba s) = w2 := ⟨_, rfl⟩
  rw [hw2] at SK2 c3
  simp only [hw2] at CA'
  have eB : bs (upF s) = ba (upF s) := rfl
  rw [Option.map_some, eB]
  clear eB
  generalize ba (upF s) = U at *
  generalize ba s = SS at *
  go_enter Tryz.func281, Tryz.ntmps281
  go_wp2_with (first
   | (go_at_call 257; refine SK2.mono ?_; rintro e w3 ⟨rfl, c2, HS⟩)
   | (go_at_call 194; refine (UP _).mono ?_; rintro e w4 ⟨rfl, hs⟩; have HS4 : Hid (Sp W b L' w2 w4) := HS.out.bel hs; clear hs)
   | (go_at_call 282; refine (CA' _ HS4.out).mono ?_; rintro e w5 ⟨q, n, c, rfl, RS, HG, HF⟩)
   | (refine wpList_store_run rfl 28 _ _ rfl _ _ _ rfl rfl RS.out ?_))
  exact bodyPost_ret (nd_res HG.out (lcs_size _ _) rfl rfl) rfl ⟨_, rfl, HF.out.1, HF.out.2⟩
end
section
variable {W w : World} {b : Nat} {B S : ByteArray}
theorem word_book_true {n : Int} {L : List Tk.Tok} (hn : L.length ≤ 256) (X : PR W b L w) (hB : B.toList.isEmpty = false) (TY : ∀ u, Sp W b L (ww w B S) u → Calls Tryz.prog 200 #[.string S] u fun e w' => e = .returned (.agg #[.int .i64 3, .int .i64 n, .string noB]) ∧ Below u.heap.size u w') :
  Calls Tryz.prog 281 #[.pointer (some ⟨b, 0, none⟩), .agg (tcs 4 0 S B noB 0 0 false false)] w fun e w' => e = .returned (.agg (lcs (labV 3 n nb) (.slice none 0 0))) ∧ Sp W b L w w' := by
 have hb := X.lt
 have X2 := (X.alloc (.cells (tcs 4 0 S B noB 0 0 false false) 123)).alloc (.cells nd0 28)
 obtain ⟨c2, c3⟩ := ww_cells hb (Sp.refl X2)
 have HS0 : Hid (Sp W b L (ww w B S) (ww w B S)) := Sp.refl X2
 have CC := fun u (hu : Sp W b L (ww w B S) u) => (ww_cells hb hu).1
 have FIN := fun u (hu : Sp W b L (ww w B S) u) => ww_fin (K := fun _ => True) hb hu (NK.leaf (a := (labV 3 n nb)))
 obtain ⟨w2, hw2⟩ : ∃ w2, ww w B S = w2 := ⟨_, rfl⟩
 rw [hw2] at c2 c3 HS0
 simp only [hw2] at TY FIN CC
 clear X X2
 go_enter Tryz.func281, Tryz.ntmps281
 go_wp2_with (first
  | (go_at_call 200; refine (TY _ HS0.out).mono ?_; rintro e w3 ⟨rfl, hs⟩; have HS3 : Hid (Sp W b L w2 (w3.alloc (.cells #[.int .i64 3, .int .i64 n, .string noB] 23))) := (HS0.out.bel hs).alloc _; clear hs)
  | (go_at_call 278; refine (const_any 3 n noB _).mono ?_; rintro e w4 ⟨rfl, hs⟩; obtain ⟨RS, HG, HZ, HF⟩ := FIN _ (HS3.out.bel hs); clear hs)
  | (refine wpList_store_run rfl 28 _ _ rfl _ _ _ rfl rfl RS.out ?_))
 exact bodyPost_ret (nd_res HG.out HZ.out rfl rfl) rfl ⟨rfl, HF.out.2⟩
theorem word_book_name {k n : Int} {x : ByteArray} {L : List Tk.Tok} (hn : L.length ≤ 256) (X : PR W b L w) (hB : B.toList.isEmpty = false) (TY : ∀ u, Sp W b L (ww w B S) u → Calls Tryz.prog 200 #[.string S] u fun e w' => e = .returned (.agg #[.int .i64 k, .int .i64 n, .string x]) ∧ Below u.heap.size u w') (hk : (k == 3) = false) :
  Calls Tryz.prog 281 #[.pointer (some ⟨b, 0, none⟩), .agg (tcs 4 0 S B noB 0 0 false false)] w fun e w' => e = .returned (.agg (lcs ⟨4, S, 0, 0, nb, B, nb, 0, 0, false, false, nb, nb, 0, 0, false, false⟩ (.slice none 0 0))) ∧ Sp W b L w w' := by
 have hb := X.lt
 have X2 := (X.alloc (.cells (tcs 4 0 S B noB 0 0 false false) 123)).alloc (.cells nd0 28)
 obtain ⟨c2, c3⟩ := ww_cells hb (Sp.refl X2)
 have HS0 : Hid (Sp W b L (ww w B S) (ww w B S)) := Sp.refl X2
 have CC := fun u (hu : Sp W b L (ww w B S) u) => (ww_cells hb hu).1
 have FIN := fun u (hu : Sp W b L (ww w B S) u) => ww_fin (K := fun _ => True) hb hu (NK.leaf (a := ⟨4, S, 0, 0, nb, B, nb, 0, 0, false, false, nb, nb, 0, 0, false, false⟩))
 obtain ⟨w2, hw2⟩ : ∃ w2, ww w B S = w2 := ⟨_, rfl⟩
 rw [hw2] at c2 c3 HS0
 simp only [hw2] at TY FIN CC
 clear X X2
 go_enter Tryz.func281, Tryz.ntmps281
 go_wp2_with (first
  | (go_at_call 200; refine (TY _ HS0.out).mono ?_; rintro e w3 ⟨rfl, hs⟩; have HS3 : Hid (Sp W b L w2 (w3.alloc (.cells #[.int .i64 k, .int .i64 n, .string x] 23))) := (HS0.out.bel hs).alloc _; have c22 := CC _ HS3.out; obtain ⟨RS, HG, HZ, HF⟩ := FIN _ HS3.out; clear hs)
  | (refine wpList_store_run rfl 28 _ _ rfl _ _ _ rfl rfl RS.out ?_))
 exact bodyPost_ret (nd_res HG.out HZ.out rfl rfl) rfl ⟨rfl, HF.out.2⟩
theorem word_none_true {n : Int} {L : List Tk.Tok} (hn : L.length ≤ 256) (X : PR W b L w) (hB : B = noB) (h : opOf L ≠ [40]) (TY : ∀ u, Sp W b L (ww w B S) u → Calls Tryz.prog 200 #[.string S] u fun e w' => e = .returned (.agg #[.int .i64 3, .int .i64 n, .string noB]) ∧ Below u.heap.size u w') :
  Calls Tryz.prog 281 #[.pointer (some ⟨b, 0, none⟩), .agg (tcs 4 0 S B noB 0 0 false false)] w fun e w' => e = .returned (.agg (lcs (labV 3 n nb) (.slice none 0 0))) ∧ Sp W b L w w' := by
 have hb := X.lt
 have X2 := (X.alloc (.cells (tcs 4 0 S B noB 0 0 false false) 123)).alloc (.cells nd0 28)
 obtain ⟨c2, c3⟩ := ww_cells hb (Sp.refl X2)
 have HS0 : Hid (Sp W b L (ww w B S) (ww w B S)) := Sp.refl X2
 have CC := fun u (hu : Sp W b L (ww w B S) u) => (ww_cells hb hu).1
 have FIN := fun u (hu : Sp W b L (ww w B S) u) => ww_fin (K := fun _ => True) hb hu (NK.leaf (a := (labV 3 n nb)))
 have SK : Calls Tryz.prog 257 #[.pointer (some ⟨b, 0, none⟩), .string ⟨#[40]⟩] (ww w B S) fun e w' => e = .returned (.bool false) ∧ w' = ww w B S := skip_no X2 (by omega) [40] h
 subst hB
 clear h
 obtain ⟨w2, hw2⟩ : ∃ w2, ww w noB S = w2 := ⟨_, rfl⟩
 rw [hw2] at SK c2 c3 HS0
 simp only [hw2] at TY FIN CC
 clear X X2
 go_enter Tryz.func281, Tryz.ntmps281
 go_wp2_with (first
  | (go_at_call 257; refine SK.mono ?_; rintro e w1 ⟨rfl, hs⟩; obtain rfl := hs.symm; clear hs)
  | (go_at_call 200; refine (TY _ HS0.out).mono ?_; rintro e w3 ⟨rfl, hs⟩; have HS3 : Hid (Sp W b L w2 (w3.alloc (.cells #[.int .i64 3, .int .i64 n, .string noB] 23))) := (HS0.out.bel hs).alloc _; clear hs)
  | (go_at_call 278; refine (const_any 3 n noB _).mono ?_; rintro e w4 ⟨rfl, hs⟩; obtain ⟨RS, HG, HZ, HF⟩ := FIN _ (HS3.out.bel hs); clear hs)
  | (refine wpList_store_run rfl 28 _ _ rfl _ _ _ rfl rfl RS.out ?_))
 exact bodyPost_ret (nd_res HG.out HZ.out rfl rfl) rfl ⟨rfl, HF.out.2⟩
theorem word_none_name {k n : Int} {x : ByteArray} {L : List Tk.Tok} (hn : L.length ≤ 256) (X : PR W b L w) (hB : B = noB) (h : opOf L ≠ [40]) (TY : ∀ u, Sp W b L (ww w B S) u → Calls Tryz.prog 200 #[.string S] u fun e w' => e = .returned (.agg #[.int .i64 k, .int .i64 n, .string x]) ∧ Below u.heap.size u w') (hk : (k == 3) = false) :
  Calls Tryz.prog 281 #[.pointer (some ⟨b, 0, none⟩), .agg (tcs 4 0 S B noB 0 0 false false)] w fun e w' => e = .returned (.agg (lcs ⟨4, S, 0, 0, nb, B, nb, 0, 0, false, false, nb, nb, 0, 0, false, false⟩ (.slice none 0 0))) ∧ Sp W b L w w' := by
 have hb := X.lt
 have X2 := (X.alloc (.cells (tcs 4 0 S B noB 0 0 false false) 123)).alloc (.cells nd0 28)
 obtain ⟨c2, c3⟩ := ww_cells hb (Sp.refl X2)
 have HS0 : Hid (Sp W b L (ww w B S) (ww w B S)) := Sp.refl X2
 have CC := fun u (hu : Sp W b L (ww w B S) u) => (ww_cells hb hu).1
 have FIN := fun u (hu : Sp W b L (ww w B S) u) => ww_fin (K := fun _ => True) hb hu (NK.leaf (a := ⟨4, S, 0, 0, nb, B, nb, 0, 0, false, false, nb, nb, 0, 0, false, false⟩))
 have SK : Calls Tryz.prog 257 #[.pointer (some ⟨b, 0, none⟩), .string ⟨#[40]⟩] (ww w B S) fun e w' => e = .returned (.bool false) ∧ w' = ww w B S := skip_no X2 (by omega) [40] h
 subst hB
 clear h
 obtain ⟨w2, hw2⟩ : ∃ w2, ww w noB S = w2 := ⟨_, rfl⟩
 rw [hw2] at SK c2 c3 HS0
 simp only [hw2] at TY FIN CC
 clear X X2
 go_enter Tryz.func281, Tryz.ntmps281
 go_wp2_with (first
  | (go_at_call 257; refine SK.mono ?_; rintro e w1 ⟨rfl, hs⟩; obtain rfl := hs.symm; clear hs)
  | (go_at_call 200; refine (TY _ HS0.out).mono ?_; rintro e w3 ⟨rfl, hs⟩; have HS3 : Hid (Sp W b L w2 (w3.alloc (.cells #[.int .i64 k, .int .i64 n, .string x] 23))) := (HS0.out.bel hs).alloc _; have c22 := CC _ HS3.out; obtain ⟨RS, HG, HZ, HF⟩ := FIN _ HS3.out; clear hs)
  | (refine wpList_store_run rfl 28 _ _ rfl _ _ _ rfl rfl RS.out ?_))
 exact bodyPost_ret (nd_res HG.out HZ.out rfl rfl) rfl ⟨rfl, HF.out.2⟩
end
theorem word_any {W w : World} {b : Nat} (bk s : List UInt8) {L : List Tk.Tok} (hn : L.length ≤ 256) (hh : headL s = true) (hs : s.length ≤ 1000) (X : PR W b L w)
  (CA : ∀ u, opOf L = [40] → PR W b L.tail u → Calls Tryz.prog 282 #[.pointer (some ⟨b, 0, none⟩)] u (AO W b u (AA L.tail))) :
  Calls Tryz.prog 281 #[.pointer (some ⟨b, 0, none⟩), .agg (tcs 4 0 (ba s) (ba bk) noB 0 0 false false)] w (PO W b w (wordF bk s L)) := by
 unfold wordF
 by_cases h : bk = [] ∧ opOf L = [40]
 ·rw [if_pos h]
  obtain ⟨rfl, h⟩ := h
  exact word_call hn h hs X (fun u hu => CA u h hu)
 ·rw [if_neg h]
  have TY : ∀ u, Sp W b L (ww w (ba bk) (ba s)) u → Calls Tryz.prog 200 #[.string (ba s)] u fun e w' => e = .returned (.agg #[.int .i64 (typedF (ba s)).1, .int .i64 (typedF (ba s)).2.1, .string (typedF (ba s)).2.2]) ∧ Below u.heap.size u w' := fun u hu => typed_any (ba s) (by rw [size_mk]; omega) u hu.1.t.t.t
  have hg : ((ba bk).toList.isEmpty = false) ∨ ((ba bk) = noB ∧ opOf L ≠ [40]) := by
   cases bk with
   | nil => exact .inr ⟨rfl, fun e => h ⟨rfl, e⟩⟩
   | cons c r => exact .inl (by rw [ByteArray.toList_eq]; rfl)
  rcases typed_word hh with ⟨n, h1, h2⟩ | ⟨h1, h2⟩
  ·rw [h1]
   rw [h2] at TY
   rcases hg with hg | ⟨hg, hg2⟩
   ·exact (word_book_true hn X hg TY).mono (by rintro e w' ⟨rfl, h⟩; exact ⟨_, rfl, NK.leaf, h⟩)
   ·exact (word_none_true hn X hg hg2 TY).mono (by rintro e w' ⟨rfl, h⟩; exact ⟨_, rfl, NK.leaf, h⟩)
  ·rw [h1]
   rcases hg with hg | ⟨hg, hg2⟩
   ·exact (word_book_name hn X hg TY h2).mono (by rintro e w' ⟨rfl, h⟩; exact ⟨_, rfl, NK.leaf (a := labN bk s), h⟩)
   ·exact (word_none_name hn X hg hg2 TY h2).mono (by rintro e w' ⟨rfl, h⟩; exact ⟨_, rfl, NK.leaf (a := labN bk s), h⟩)
end Go.Proofs.YtljmklbbngpllaaGreatDoor
namespace Go.Proofs.YtljmklbbngpllaaGreatDoor
open Go.RowKit
theorem vgood_none (k n : Int) (s : ByteArray) (w : World) (h0 : (k == 0) = false) (h1 : (k == 1) = false) (h2 : (k == 2) = false) (h3 : (k == 3) = false) (h4 : (k == 4) = false) : Calls Tryz.prog 202 #[.agg #[.int .i64 k, .int .i64 n, .string s]] w fun e w' => e = .returned (.bool false) ∧ Below w.heap.size w w' := by
 have ta46 := ta_76_46
 have ta47 := ta_76_47
 have ta48 := ta_76_48
 have ta51 := ta_76_51
 have ta53 := ta_76_53
 go_enter Tryz.func202, Tryz.ntmps202
 go_wp2_with (first | (go_at_call 165; refine (kind_none _ _ _ _ h0 h1 h2 h3 h4).mono ?_; rintro e w1 ⟨rfl, hb⟩; have HB : Hid (Below w.heap.size w w1) := bel1 hb; obtain ⟨hc, hf⟩ := bcell hb; have hz := hb.size; simp at hz; clear hb))
 all_goals (go_ret; exact ⟨rfl, HB.out⟩)
theorem vgood_blank (n : Int) (s : ByteArray) (w : World) : Calls Tryz.prog 202 #[.agg #[.int .i64 0, .int .i64 n, .string s]] w fun e w' => e = .returned (.bool ((n == 0) && emB s)) ∧ Below w.heap.size w w' := by
 rcases em_cases s with ⟨he, h⟩ | ⟨he, h⟩ <;> rw [h]
 all_goals rcases n0_cases n with ⟨rfl, h⟩ | ⟨hn, h⟩ <;> rw [h]
 all_goals
  have ta46 := ta_46_46
  go_enter Tryz.func202, Tryz.ntmps202
  go_wp2_with (first | (go_at_call 165; refine (kind_blank _ _ _).mono ?_; rintro e w1 ⟨rfl, hb⟩; have HB : Hid (Below w.heap.size w w1) := bel1 hb; obtain ⟨hbc, hb0, hb1, hb2⟩ := boxcell hb; clear hb))
  all_goals (go_ret; exact ⟨by first | rfl | (simp; done) | (simp; assumption), bel_alloc HB.out _⟩)
theorem vgood_num (n : Int) (s : ByteArray) (w : World) : Calls Tryz.prog 202 #[.agg #[.int .i64 1, .int .i64 n, .string s]] w fun e w' => e = .returned (.bool (emB s && gd n)) ∧ Below w.heap.size w w' := by
 rcases em_cases s with ⟨he, h⟩ | ⟨he, h⟩ <;> rw [h]
 all_goals
  have ta46 := ta_47_46
  have ta47 := ta_47_47
  go_enter Tryz.func202, Tryz.ntmps202
  go_wp2_with (first | (go_at_call 165; refine (kind_num _ _ _).mono ?_; rintro e w1 ⟨rfl, hb⟩; have HB : Hid (Below w.heap.size w w1) := bel1 hb; obtain ⟨hbc, hb0, hb1, hb2⟩ := boxcell hb; clear hb) | (go_at_call 218; refine (good_any _ _).mono ?_; rintro e w' ⟨rfl, hw⟩; obtain rfl := hw.symm; clear hw))
  all_goals (go_ret; exact ⟨by first | rfl | (simp; done) | (simp; assumption), HB.out⟩)
theorem vgood_str (n : Int) (s : ByteArray) (w : World) : Calls Tryz.prog 202 #[.agg #[.int .i64 2, .int .i64 n, .string s]] w fun e w' => e = .returned (.bool ((n == 0) && lenB s)) ∧ Below w.heap.size w w' := by
 rcases len_cases s with ⟨he, h⟩ | ⟨he, h⟩ <;> rw [h]
 all_goals rcases n0_cases n with ⟨rfl, h⟩ | ⟨hn, h⟩ <;> rw [h]
 all_goals
  have ta46 := ta_48_46
  have ta47 := ta_48_47
  have ta48 := ta_48_48
  go_enter Tryz.func202, Tryz.ntmps202
  go_wp2_with (first | (go_at_call 165; refine (kind_str _ _ _).mono ?_; rintro e w1 ⟨rfl, hb⟩; have HB : Hid (Below w.heap.size w w1) := bel1 hb; obtain ⟨hbc, hb0, hb1, hb2⟩ := boxcell hb; clear hb))
  all_goals (go_ret; exact ⟨by first | rfl | (simp; done) | (simp; assumption), HB.out⟩)
theorem vgood_bool (n : Int) (s : ByteArray) (w : World) (b : Bool) (KB : ∀ u : World, Calls Tryz.prog 165 #[.agg #[.int .i64 3, .int .i64 n, .string s]] u fun e w' => e = .returned (.iface 185 (.bool b)) ∧ Below u.heap.size u w') : Calls Tryz.prog 202 #[.agg #[.int .i64 3, .int .i64 n, .string s]] w fun e w' => e = .returned (.bool (emB s && ((n == 0) || (n == 1)))) ∧ Below w.heap.size w w' := by
 rcases em_cases s with ⟨he, h⟩ | ⟨he, h⟩ <;> rw [h]
 all_goals rcases n01_cases n with ⟨rfl, h⟩ | ⟨rfl, h⟩ | ⟨g0, g1⟩ <;> (first | rw [h] | rw [g0, g1])
 all_goals
  have ta46 := ta_51_46
  have ta47 := ta_51_47
  have ta48 := ta_51_48
  have ta51 := ta_51_51
  go_enter Tryz.func202, Tryz.ntmps202
  go_wp2_with (first | (go_at_call 165; refine (KB _).mono ?_; rintro e w1 ⟨rfl, hb⟩; have HB : Hid (Below w.heap.size w w1) := bel1 hb; obtain ⟨hbc, hb0, hb1, hb2⟩ := boxcell hb; clear hb))
  all_goals (go_ret; exact ⟨by first | rfl | (simp; done) | (simp; assumption), HB.out⟩)
theorem vgood_bad (n : Int) (s : ByteArray) (w : World) : Calls Tryz.prog 202 #[.agg #[.int .i64 4, .int .i64 n, .string s]] w fun e w' => e = .returned (.bool (emB s && knB n)) ∧ Below w.heap.size w w' := by
 rcases em_cases s with ⟨he, h⟩ | ⟨he, h⟩ <;> rw [h]
 all_goals
  have ta46 := ta_53_46
  have ta47 := ta_53_47
  have ta48 := ta_53_48
  have ta51 := ta_53_51
  have ta53 := ta_53_53
  go_enter Tryz.func202, Tryz.ntmps202
  go_wp2_with (first | (go_at_call 165; refine (kind_bad _ _ _).mono ?_; rintro e w1 ⟨rfl, hb⟩; have HB : Hid (Below w.heap.size w w1) := bel1 hb; obtain ⟨hbc, hb0, hb1, hb2⟩ := boxcell hb; clear hb) | (go_at_call 191; refine (known_any _ _).mono ?_; rintro e w' ⟨rfl, hw⟩; obtain rfl := hw.symm; clear hw))
  all_goals (go_ret; exact ⟨by first | rfl | (simp; done) | (simp; assumption), HB.out⟩)
theorem rgood_blank (n : Int) (s : ByteArray) (w : World) : Calls Tryz.prog 106 #[.agg #[.int .i64 0, .int .i64 n, .string s]] w fun e w' => e = .returned (.bool ((n == 0) && emB s)) ∧ Below w.heap.size w w' := by
 have HB : Hid (Below w.heap.size w (w.alloc (.cells #[.int .i64 0, .int .i64 n, .string s] 23))) := (Below.refl _ _).alloc (Nat.le_refl _) _
 rcases em_cases s with ⟨he, h⟩ | ⟨he, h⟩ <;> rw [h]
 all_goals rcases n0_cases n with ⟨rfl, h⟩ | ⟨hn, h⟩ <;> rw [h]
 all_goals
  go_enter Tryz.func106, Tryz.ntmps106
  go_wp2
  all_goals (go_ret; exact ⟨by first | rfl | (simp; done) | (simp; assumption), HB.out⟩)
theorem rgood_num (n : Int) (s : ByteArray) (w : World) : Calls Tryz.prog 106 #[.agg #[.int .i64 1, .int .i64 n, .string s]] w fun e w' => e = .returned (.bool (emB s && gd n)) ∧ Below w.heap.size w w' := by
 have HB : Hid (Below w.heap.size w (w.alloc (.cells #[.int .i64 1, .int .i64 n, .string s] 23))) := (Below.refl _ _).alloc (Nat.le_refl _) _
 rcases em_cases s with ⟨he, h⟩ | ⟨he, h⟩ <;> rw [h]
 all_goals cases hg : gd n
 all_goals
  go_enter Tryz.func106, Tryz.ntmps106
  go_wp2_with (first | (go_at_call 143; refine (rgood_any _ _).mono ?_; rintro e w' ⟨rfl, hw⟩; obtain rfl := hw.symm; clear hw; rw [hg]))
  all_goals (go_ret; exact ⟨by first | rfl | (simp; done) | (simp; assumption), HB.out⟩)
theorem rgood_str (n : Int) (s : ByteArray) (w : World) : Calls Tryz.prog 106 #[.agg #[.int .i64 2, .int .i64 n, .string s]] w fun e w' => e = .returned (.bool ((n == 0) && lenB s)) ∧ Below w.heap.size w w' := by
 have HB : Hid (Below w.heap.size w (w.alloc (.cells #[.int .i64 2, .int .i64 n, .string s] 23))) := (Below.refl _ _).alloc (Nat.le_refl _) _
 rcases len_cases s with ⟨he, h⟩ | ⟨he, h⟩ <;> rw [h]
 all_goals rcases n0_cases n with ⟨rfl, h⟩ | ⟨hn, h⟩ <;> rw [h]
 all_goals
  go_enter Tryz.func106, Tryz.ntmps106
  go_wp2
  all_goals (go_ret; exact ⟨by first | rfl | (simp; done) | (simp; assumption), HB.out⟩)
theorem rgood_bool (n : Int) (s : ByteArray) (w : World) : Calls Tryz.prog 106 #[.agg #[.int .i64 3, .int .i64 n, .string s]] w fun e w' => e = .returned (.bool (emB s && ((n == 0) || (n == 1)))) ∧ Below w.heap.size w w' := by
 have HB : Hid (Below w.heap.size w (w.alloc (.cells #[.int .i64 3, .int .i64 n, .string s] 23))) := (Below.refl _ _).alloc (Nat.le_refl _) _
 rcases em_cases s with ⟨he, h⟩ | ⟨he, h⟩ <;> rw [h]
 all_goals rcases n01_cases n with ⟨rfl, h⟩ | ⟨rfl, h⟩ | ⟨g0, g1⟩ <;> (first | rw [h] | rw [g0, g1])
 all_goals
  go_enter Tryz.func106, Tryz.ntmps106
  go_wp2
  all_goals (go_ret; exact ⟨by first | rfl | (simp; done) | (simp; assumption), HB.out⟩)
theorem rgood_bad (n : Int) (s : ByteArray) (w : World) : Calls Tryz.prog 106 #[.agg #[.int .i64 4, .int .i64 n, .string s]] w fun e w' => e = .returned (.bool (emB s && knB n)) ∧ Below w.heap.size w w' := by
 have HB : Hid (Below w.heap.size w (w.alloc (.cells #[.int .i64 4, .int .i64 n, .string s] 23))) := (Below.refl _ _).alloc (Nat.le_refl _) _
 rcases em_cases s with ⟨he, h⟩ | ⟨he, h⟩ <;> rw [h]
 all_goals rcases kn_cases n with ⟨g0, g1, h⟩ | ⟨g0, h⟩ | ⟨g0, g1, h⟩ <;> rw [h]
 all_goals
  go_enter Tryz.func106, Tryz.ntmps106
  go_wp2
  all_goals (go_ret; exact ⟨by first | rfl | (simp; done) | (simp; assumption), HB.out⟩)
theorem rgood_none (k n : Int) (s : ByteArray) (w : World) (h0 : (k == 0) = false) (h1 : (k == 1) = false) (h2 : (k == 2) = false) (h3 : (k == 3) = false) (h4 : (k == 4) = false) : Calls Tryz.prog 106 #[.agg #[.int .i64 k, .int .i64 n, .string s]] w fun e w' => e = .returned (.bool false) ∧ Below w.heap.size w w' := by
 have HB : Hid (Below w.heap.size w (w.alloc (.cells #[.int .i64 k, .int .i64 n, .string s] 23))) := (Below.refl _ _).alloc (Nat.le_refl _) _
 skip
 all_goals
  go_enter Tryz.func106, Tryz.ntmps106
  go_wp2
  all_goals (go_ret; exact ⟨by first | rfl | (simp; done) | (simp; assumption), HB.out⟩)
theorem str_any (s : ByteArray) (w : World) : Calls Tryz.prog 279 #[.string s] w fun e w' => e = .returned (if lenB s = true then .agg #[.int .i64 2, .int .i64 0, .string s] else .agg #[.int .i64 4, .int .i64 2, .string ⟨#[]⟩]) ∧ Below w.heap.size w w' := by
 rcases len_cases s with ⟨he, h⟩ | ⟨he, h⟩
 all_goals rw [h]
 ·have he' : ¬ 255 < (s.size : Int) := by omega
  go_enter Tryz.func279, Tryz.ntmps279
  go_wp2_with (go_at_call 222; refine (words_any _ _).mono ?_; rintro e w1 ⟨rfl, hb⟩; have HB : Hid (Below w.heap.size w w1) := bel1 hb; obtain ⟨⟨c0, c1, c2⟩, f0, f1, f2⟩ := rescell hb; clear hb)
  exact bodyPost_ret (v := .agg #[.int .i64 2, .int .i64 0, .string s]) (by simp [results, Tryz.results279, go_sem, c0, c1, c2]) rfl ⟨rfl, set3 HB.out⟩
 ·have he' : 255 < (s.size : Int) := by omega
  go_enter Tryz.func279, Tryz.ntmps279
  go_wp2_with (go_at_call 149; refine (bad_any _ _).mono ?_; rintro e w1 ⟨rfl, hb⟩; have HB : Hid (Below w.heap.size w w1) := bel1 hb; obtain ⟨⟨c0, c1, c2⟩, f0, f1, f2⟩ := rescell hb; clear hb)
  exact bodyPost_ret (v := .agg #[.int .i64 4, .int .i64 2, .string ⟨#[]⟩]) (by simp [results, Tryz.results279, go_sem, c0, c1, c2]; rfl) rfl ⟨rfl, set3 HB.out⟩
theorem vgood_any (k n : Int) (s : ByteArray) (w : World) :
  Calls Tryz.prog 202 #[val k n s] w fun e w' => e = .returned (.bool (goodF k n s)) ∧ Below w.heap.size w w' := by
 rcases k_cases k with rfl | rfl | rfl | rfl | rfl | ⟨h0, h1, h2, h3, h4⟩
 ·exact vgood_blank n s w
 ·exact vgood_num n s w
 ·exact vgood_str n s w
 ·exact vgood_bool n s w _ (fun u => kind_bool n s u)
 ·exact vgood_bad n s w
 ·have e : goodF k n s = false := by simp [goodF, h0, h1, h2, h3, h4]
  rw [e]
  exact vgood_none k n s w (beq_no h0) (beq_no h1) (beq_no h2) (beq_no h3) (beq_no h4)
theorem rvgood_any (k n : Int) (s : ByteArray) (w : World) :
  Calls Tryz.prog 106 #[val k n s] w fun e w' => e = .returned (.bool (goodF k n s)) ∧ Below w.heap.size w w' := by
 rcases k_cases k with rfl | rfl | rfl | rfl | rfl | ⟨h0, h1, h2, h3, h4⟩
 ·exact rgood_blank n s w
 ·exact rgood_num n s w
 ·exact rgood_str n s w
 ·exact rgood_bool n s w
 ·exact rgood_bad n s w
 ·have e : goodF k n s = false := by simp [goodF, h0, h1, h2, h3, h4]
  rw [e]
  exact rgood_none k n s w (beq_no h0) (beq_no h1) (beq_no h2) (beq_no h3) (beq_no h4)
end Go.Proofs.YtljmklbbngpllaaGreatDoor
