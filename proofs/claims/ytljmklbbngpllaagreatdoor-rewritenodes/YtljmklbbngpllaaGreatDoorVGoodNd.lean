/- FWord, FWord2, VGood. -/
import Derived.Test.YtljmklbbngpllaaGreatDoorFCellNd
set_option linter.unusedVariables false
set_option linter.unusedSimpArgs false
set_option maxHeartbeats 16000000
set_option maxRecDepth 100000
namespace Go.Proofs.YtljmklbbngpllaaGreatDoor
open Go.RowKit Go.Fm
def aCb (b s : List UInt8) (r : List Tk.Tok) : Option (T × List Tk.Tok) :=
 if b = [] ∧ bE r = [40] then (AA r.tail).map fun q => (tree (eF 7 (bs (upF s))) q.1, q.2) else (match trF s with
   | some n => some (tree (iH 3 n nb) [], r)
   | none => some (tree (aG0 b s) [], r))
theorem aA7 {s : List UInt8} (h : jM s = true) : (∃ n, trF s = some n ∧ bO (ba s) = (3, n, noB)) ∨ (trF s = none ∧ ((bO (ba s)).1 == 3) = false) := by
 have hp := mY (l := s) h
 have h0 : ¬ (ba s).toList = [] := by
  rw [ByteArray.toList_eq]
  intro e
  have e' : s = [] := e
  rw [e'] at h
  cases h
 have h1 : ¬ (ba s).data.toList.head? = some 39 := by
  show ¬ s.head? = some 39
  intro e
  cases hl : s with
  | nil => rw [hl] at h; cases h
  | cons c r =>
   rw [hl] at h e
   simp only [List.head?_cons, Option.some.injEq] at e
   exact (oD h).1 e
 have hpp : ¬ (bZ (ba s).data.toList).2 = true := by show ¬ (bZ s).2 = true; rw [hp]; decide
 unfold trF bO
 simp only [if_neg h0, if_neg h1, if_neg hpp]
 cases ht : (lS (ba s)).2
 ·right
  simp only [Bool.false_eq_true, if_false, true_and]
  split <;> rfl
 ·left
  simp only [if_true]
  exact ⟨_, rfl, rfl⟩
section
variable {W w : World} {b : Nat} {B S : ByteArray}
abbrev ww (w : World) (B S : ByteArray) : World := (w.alloc (.cells (tcs 4 0 S B noB 0 0 false false) 123)).alloc (.cells nd0 28)
theorem rT {K : Nat → Prop} {L : List Tk.Tok} {u : World} {es : Array Value} {t : T} (hb : b < w.heap.size) (h : Sp W b L (ww w B S) u) (hN : NK (fun i => w.heap.size + 1 < i) u es t) :
  Hid ((Instr.storeAt 28 (.pointer (some ⟨w.heap.size + 1, 0, none⟩)) (.agg es)).run Tryz.prog u = .ok () (u.setRow (w.heap.size + 1) es)) ∧ Hid (u.heap[w.heap.size + 1]? = some (.cells nd0 28)) ∧ Hid (es.size = 18) ∧
  Hid (NK (fun i => w.heap.size ≤ i) (u.setRow (w.heap.size + 1) es) es t ∧ Sp W b L w (u.setRow (w.heap.size + 1) es)) := by
 have e1 : (ww w B S).heap[w.heap.size + 1]? = some (.cells nd0 28) := by
  have := heap_alloc_new (w.alloc (.cells (tcs 4 0 S B noB 0 0 false false) 123)) (.cells nd0 28)
  simpa using this
 have k1 := h.kept e1 (by omega)
 exact ⟨hN.sto k1 rfl, k1, hN.size, (hN.grown (aC _ _ _) (fun g e hk => by cases e; exact Nat.lt_irrefl _ hk)).mono (fun i hi _ => by omega), (h.jB.jB).grown (aC _ _ _) (by omega) hb⟩
theorem eZ {L : List Tk.Tok} {u : World} (hb : b < w.heap.size) (h : Sp W b L (ww w B S) u) : u.cell? ⟨w.heap.size, 2, none⟩ = some (.string S) ∧ u.cell? ⟨w.heap.size, 3, none⟩ = some (.string B) := by
 have e0 : (ww w B S).heap[w.heap.size]? = some (.cells (tcs 4 0 S B noB 0 0 false false) 123) := (Below.heap_alloc _ _ _ (by simp)).trans (heap_alloc_new w _)
 have k0 := h.kept e0 (by omega)
 exact ⟨by rw [cell_of_row u _ 2 _ 123 (0, 0) k0]; rfl, by rw [cell_of_row u _ 3 _ 123 (0, 0) k0]; rfl⟩
theorem aDe {s : List UInt8} {L : List Tk.Tok} (hn : L.length ≤ 256) (h : bE L = [40]) (hs : s.length ≤ 1000) (X : PR W b L w)
  (CA : ∀ u, PR W b L.tail u → Calls Tryz.prog 282 #[.pointer (some ⟨b, 0, none⟩)] u (AO W b u (AA L.tail))) :
  Calls Tryz.prog 281 #[.pointer (some ⟨b, 0, none⟩), .agg (tcs 4 0 (ba s) noB noB 0 0 false false)] w (PO W b w ((AA L.tail).map fun q => (tree (eF 7 (bs (upF s))) q.1, q.2))) := by
 have hb := X.lt
 have X2 := (X.alloc (.cells (tcs 4 0 (ba s) noB noB 0 0 false false) 123)).alloc (.cells nd0 28)
 have SK : Calls Tryz.prog 257 #[.pointer (some ⟨b, 0, none⟩), .string ⟨#[40]⟩] (ww w noB (ba s)) fun e w' => e = .returned (.bool true) ∧ Sp W b L.tail (ww w noB (ba s)) w' := dR X2 (by omega) [40] (by decide) h
 have SK2 : Calls Tryz.prog 257 #[.pointer (some ⟨b, 0, none⟩), .string ⟨#[40]⟩] (ww w noB (ba s)) fun e w' => e = .returned (.bool true) ∧ w'.cell? ⟨w.heap.size, 2, none⟩ = some (.string (ba s)) ∧ Hid (Sp W b L.tail (ww w noB (ba s)) w') := SK.mono (by
  rintro e w' ⟨rfl, h⟩
  exact ⟨rfl, (eZ hb h).1, h⟩)
 obtain ⟨_, c3⟩ := eZ hb (Sp.refl X2)
 have UP := fun u => vJ (ba s) (by rw [size_mk]; omega) u
 have eU : (⟨(szF 97 65 (ba s).data.toList).toArray⟩ : ByteArray) = ba (upF s) := rfl
 rw [eU] at UP
 clear SK eU h X X2
 cases hA : AA L.tail with
 | none =>
  rw [hA] at CA
  have CA' : ∀ u, PR W b L.tail u → Calls Tryz.prog 282 #[.pointer (some ⟨b, 0, none⟩)] u fun e w' => e = .panicked bQ ∧ u.grownBy w' (some b) := CA
  have HG : Hid (w.grownBy (ww w noB (ba s)) (some b)) := aM (World.grownBy_alloc _ _ _) (World.grownBy_alloc _ _ _)
  clear CA hA
  generalize L.tail = L' at *
  obtain ⟨w2, hw2⟩ : ∃ w2, ww w noB (ba s) = w2 := ⟨_, rfl⟩
  rw [hw2] at SK2 HG c3
  generalize ba (upF s) = U at *
  generalize ba s = SS at *
  go_enter Tryz.func281, Tryz.ntmps281
  go_wp2_with (first
   | (go_at_call 257; refine SK2.mono ?_; rintro e w3 ⟨rfl, c2, HS⟩)
   | (go_at_call 194; refine (UP _).mono ?_; rintro e w4 ⟨rfl, hs⟩; have HS4 : Hid (Sp W b L' w2 w4) := HS.out.bel hs; clear hs)
   | (go_at_call 282; refine (CA' _ HS4.out.1).mono ?_; rintro e w5 ⟨rfl, hg⟩))
  exact ⟨rfl, rfl, aM HG.out (aM HS4.out.2 hg)⟩
 | some p =>
  obtain ⟨l, r⟩ := p
  rw [hA] at CA
  have CA' : ∀ u, Sp W b L.tail (ww w noB (ba s)) u → Calls Tryz.prog 282 #[.pointer (some ⟨b, 0, none⟩)] u fun e w' => ∃ q n c, e = .returned (.slice q n c) ∧
    Hid ((Instr.storeAt 28 (.pointer (some ⟨w.heap.size + 1, 0, none⟩)) (.agg (lcs (eF 7 (ba (upF s))) (.slice q n c)))).run Tryz.prog w' = .ok () (w'.setRow (w.heap.size + 1) (lcs (eF 7 (ba (upF s))) (.slice q n c)))) ∧ Hid (w'.heap[w.heap.size + 1]? = some (.cells nd0 28)) ∧
    Hid (NK (fun i => w.heap.size ≤ i) (w'.setRow (w.heap.size + 1) (lcs (eF 7 (ba (upF s))) (.slice q n c))) (lcs (eF 7 (ba (upF s))) (.slice q n c)) (tree (eF 7 (ba (upF s))) l) ∧ Sp W b r w (w'.setRow (w.heap.size + 1) (lcs (eF 7 (ba (upF s))) (.slice q n c)))) := fun u hu => (CA u hu.1).mono (by
   rintro e w' ⟨q, n, c, rfl, h1, h2, h3⟩
   dsimp only at h1 h2 h3
   have hN : NK (fun i => w.heap.size + 1 < i) w' (lcs (eF 7 (ba (upF s))) (.slice q n c)) (tree (eF 7 (ba (upF s))) l) := by
    refine ⟨q, n, c, rfl, by show n = (kids (mk l)).length; rw [kR]; exact h1, ?_⟩
    rcases h2 with rfl | ⟨a, rfl, hi⟩
    ·exact .inl rfl
    ·exact .inr ⟨a, rfl, hi.mono (fun i hi _ => by have := hu.2.size; simp at this; omega)⟩
   obtain ⟨k1, k2, k3, k4⟩ := rT (K := fun _ => True) hb (hu.step h3) hN
   exact ⟨q, n, c, rfl, k1, k2, k4⟩)
  clear CA hA
  generalize L.tail = L' at *
  obtain ⟨w2, hw2⟩ : ∃ w2, ww w noB (ba s) = w2 := ⟨_, rfl⟩
  rw [hw2] at SK2 c3
  simp only [hw2] at CA'
  have eB : bs (upF s) = ba (upF s) := rfl
  rw [Option.map_some, eB]
  clear eB
  generalize ba (upF s) = U at *
  generalize ba s = SS at *
  go_enter Tryz.func281, Tryz.ntmps281
  go_wp2_with (first
   | (go_at_call 257; refine SK2.mono ?_; rintro e w3 ⟨rfl, c2, HS⟩)
   | (go_at_call 194; refine (UP _).mono ?_; rintro e w4 ⟨rfl, hs⟩; have HS4 : Hid (Sp W b L' w2 w4) := HS.out.bel hs; clear hs)
   | (go_at_call 282; refine (CA' _ HS4.out).mono ?_; rintro e w5 ⟨q, n, c, rfl, RS, HG, HF⟩)
   | (refine aD rfl 28 _ _ rfl _ _ _ rfl rfl RS.out ?_))
  exact bodyPost_ret (bP HG.out (aV _ _) rfl rfl) rfl ⟨_, rfl, HF.out.1, HF.out.2⟩
end
section
variable {W w : World} {b : Nat} {B S : ByteArray}
theorem rU {n : Int} {L : List Tk.Tok} (hn : L.length ≤ 256) (X : PR W b L w) (hB : B.toList.isEmpty = false) (TY : ∀ u, Sp W b L (ww w B S) u → Calls Tryz.prog 200 #[.string S] u fun e w' => e = .returned (.agg #[.int .i64 3, .int .i64 n, .string noB]) ∧ Below u.heap.size u w') :
  Calls Tryz.prog 281 #[.pointer (some ⟨b, 0, none⟩), .agg (tcs 4 0 S B noB 0 0 false false)] w fun e w' => e = .returned (.agg (lcs (iH 3 n nb) (.slice none 0 0))) ∧ Sp W b L w w' := by
 have hb := X.lt
 have X2 := (X.alloc (.cells (tcs 4 0 S B noB 0 0 false false) 123)).alloc (.cells nd0 28)
 obtain ⟨c2, c3⟩ := eZ hb (Sp.refl X2)
 have HS0 : Hid (Sp W b L (ww w B S) (ww w B S)) := Sp.refl X2
 have CC := fun u (hu : Sp W b L (ww w B S) u) => (eZ hb hu).1
 have FIN := fun u (hu : Sp W b L (ww w B S) u) => rT (K := fun _ => True) hb hu (NK.leaf (a := (iH 3 n nb)))
 obtain ⟨w2, hw2⟩ : ∃ w2, ww w B S = w2 := ⟨_, rfl⟩
 rw [hw2] at c2 c3 HS0
 simp only [hw2] at TY FIN CC
 clear X X2
 go_enter Tryz.func281, Tryz.ntmps281
 go_wp2_with (first
  | (go_at_call 200; refine (TY _ HS0.out).mono ?_; rintro e w3 ⟨rfl, hs⟩; have HS3 : Hid (Sp W b L w2 (w3.alloc (.cells #[.int .i64 3, .int .i64 n, .string noB] 23))) := (HS0.out.bel hs).alloc _; clear hs)
  | (go_at_call 278; refine (iP 3 n noB _).mono ?_; rintro e w4 ⟨rfl, hs⟩; obtain ⟨RS, HG, HZ, HF⟩ := FIN _ (HS3.out.bel hs); clear hs)
  | (refine aD rfl 28 _ _ rfl _ _ _ rfl rfl RS.out ?_))
 exact bodyPost_ret (bP HG.out HZ.out rfl rfl) rfl ⟨rfl, HF.out.2⟩
theorem rV {k n : Int} {x : ByteArray} {L : List Tk.Tok} (hn : L.length ≤ 256) (X : PR W b L w) (hB : B.toList.isEmpty = false) (TY : ∀ u, Sp W b L (ww w B S) u → Calls Tryz.prog 200 #[.string S] u fun e w' => e = .returned (.agg #[.int .i64 k, .int .i64 n, .string x]) ∧ Below u.heap.size u w') (hk : (k == 3) = false) :
  Calls Tryz.prog 281 #[.pointer (some ⟨b, 0, none⟩), .agg (tcs 4 0 S B noB 0 0 false false)] w fun e w' => e = .returned (.agg (lcs ⟨4, S, 0, 0, nb, B, nb, 0, 0, false, false, nb, nb, 0, 0, false, false⟩ (.slice none 0 0))) ∧ Sp W b L w w' := by
 have hb := X.lt
 have X2 := (X.alloc (.cells (tcs 4 0 S B noB 0 0 false false) 123)).alloc (.cells nd0 28)
 obtain ⟨c2, c3⟩ := eZ hb (Sp.refl X2)
 have HS0 : Hid (Sp W b L (ww w B S) (ww w B S)) := Sp.refl X2
 have CC := fun u (hu : Sp W b L (ww w B S) u) => (eZ hb hu).1
 have FIN := fun u (hu : Sp W b L (ww w B S) u) => rT (K := fun _ => True) hb hu (NK.leaf (a := ⟨4, S, 0, 0, nb, B, nb, 0, 0, false, false, nb, nb, 0, 0, false, false⟩))
 obtain ⟨w2, hw2⟩ : ∃ w2, ww w B S = w2 := ⟨_, rfl⟩
 rw [hw2] at c2 c3 HS0
 simp only [hw2] at TY FIN CC
 clear X X2
 go_enter Tryz.func281, Tryz.ntmps281
 go_wp2_with (first
  | (go_at_call 200; refine (TY _ HS0.out).mono ?_; rintro e w3 ⟨rfl, hs⟩; have HS3 : Hid (Sp W b L w2 (w3.alloc (.cells #[.int .i64 k, .int .i64 n, .string x] 23))) := (HS0.out.bel hs).alloc _; have c22 := CC _ HS3.out; obtain ⟨RS, HG, HZ, HF⟩ := FIN _ HS3.out; clear hs)
  | (refine aD rfl 28 _ _ rfl _ _ _ rfl rfl RS.out ?_))
 exact bodyPost_ret (bP HG.out HZ.out rfl rfl) rfl ⟨rfl, HF.out.2⟩
theorem rW {n : Int} {L : List Tk.Tok} (hn : L.length ≤ 256) (X : PR W b L w) (hB : B = noB) (h : bE L ≠ [40]) (TY : ∀ u, Sp W b L (ww w B S) u → Calls Tryz.prog 200 #[.string S] u fun e w' => e = .returned (.agg #[.int .i64 3, .int .i64 n, .string noB]) ∧ Below u.heap.size u w') :
  Calls Tryz.prog 281 #[.pointer (some ⟨b, 0, none⟩), .agg (tcs 4 0 S B noB 0 0 false false)] w fun e w' => e = .returned (.agg (lcs (iH 3 n nb) (.slice none 0 0))) ∧ Sp W b L w w' := by
 have hb := X.lt
 have X2 := (X.alloc (.cells (tcs 4 0 S B noB 0 0 false false) 123)).alloc (.cells nd0 28)
 obtain ⟨c2, c3⟩ := eZ hb (Sp.refl X2)
 have HS0 : Hid (Sp W b L (ww w B S) (ww w B S)) := Sp.refl X2
 have CC := fun u (hu : Sp W b L (ww w B S) u) => (eZ hb hu).1
 have FIN := fun u (hu : Sp W b L (ww w B S) u) => rT (K := fun _ => True) hb hu (NK.leaf (a := (iH 3 n nb)))
 have SK : Calls Tryz.prog 257 #[.pointer (some ⟨b, 0, none⟩), .string ⟨#[40]⟩] (ww w B S) fun e w' => e = .returned (.bool false) ∧ w' = ww w B S := fH X2 (by omega) [40] h
 subst hB
 clear h
 obtain ⟨w2, hw2⟩ : ∃ w2, ww w noB S = w2 := ⟨_, rfl⟩
 rw [hw2] at SK c2 c3 HS0
 simp only [hw2] at TY FIN CC
 clear X X2
 go_enter Tryz.func281, Tryz.ntmps281
 go_wp2_with (first
  | (go_at_call 257; refine SK.mono ?_; rintro e w1 ⟨rfl, hs⟩; obtain rfl := hs.symm; clear hs)
  | (go_at_call 200; refine (TY _ HS0.out).mono ?_; rintro e w3 ⟨rfl, hs⟩; have HS3 : Hid (Sp W b L w2 (w3.alloc (.cells #[.int .i64 3, .int .i64 n, .string noB] 23))) := (HS0.out.bel hs).alloc _; clear hs)
  | (go_at_call 278; refine (iP 3 n noB _).mono ?_; rintro e w4 ⟨rfl, hs⟩; obtain ⟨RS, HG, HZ, HF⟩ := FIN _ (HS3.out.bel hs); clear hs)
  | (refine aD rfl 28 _ _ rfl _ _ _ rfl rfl RS.out ?_))
 exact bodyPost_ret (bP HG.out HZ.out rfl rfl) rfl ⟨rfl, HF.out.2⟩
theorem rX {k n : Int} {x : ByteArray} {L : List Tk.Tok} (hn : L.length ≤ 256) (X : PR W b L w) (hB : B = noB) (h : bE L ≠ [40]) (TY : ∀ u, Sp W b L (ww w B S) u → Calls Tryz.prog 200 #[.string S] u fun e w' => e = .returned (.agg #[.int .i64 k, .int .i64 n, .string x]) ∧ Below u.heap.size u w') (hk : (k == 3) = false) :
  Calls Tryz.prog 281 #[.pointer (some ⟨b, 0, none⟩), .agg (tcs 4 0 S B noB 0 0 false false)] w fun e w' => e = .returned (.agg (lcs ⟨4, S, 0, 0, nb, B, nb, 0, 0, false, false, nb, nb, 0, 0, false, false⟩ (.slice none 0 0))) ∧ Sp W b L w w' := by
 have hb := X.lt
 have X2 := (X.alloc (.cells (tcs 4 0 S B noB 0 0 false false) 123)).alloc (.cells nd0 28)
 obtain ⟨c2, c3⟩ := eZ hb (Sp.refl X2)
 have HS0 : Hid (Sp W b L (ww w B S) (ww w B S)) := Sp.refl X2
 have CC := fun u (hu : Sp W b L (ww w B S) u) => (eZ hb hu).1
 have FIN := fun u (hu : Sp W b L (ww w B S) u) => rT (K := fun _ => True) hb hu (NK.leaf (a := ⟨4, S, 0, 0, nb, B, nb, 0, 0, false, false, nb, nb, 0, 0, false, false⟩))
 have SK : Calls Tryz.prog 257 #[.pointer (some ⟨b, 0, none⟩), .string ⟨#[40]⟩] (ww w B S) fun e w' => e = .returned (.bool false) ∧ w' = ww w B S := fH X2 (by omega) [40] h
 subst hB
 clear h
 obtain ⟨w2, hw2⟩ : ∃ w2, ww w noB S = w2 := ⟨_, rfl⟩
 rw [hw2] at SK c2 c3 HS0
 simp only [hw2] at TY FIN CC
 clear X X2
 go_enter Tryz.func281, Tryz.ntmps281
 go_wp2_with (first
  | (go_at_call 257; refine SK.mono ?_; rintro e w1 ⟨rfl, hs⟩; obtain rfl := hs.symm; clear hs)
  | (go_at_call 200; refine (TY _ HS0.out).mono ?_; rintro e w3 ⟨rfl, hs⟩; have HS3 : Hid (Sp W b L w2 (w3.alloc (.cells #[.int .i64 k, .int .i64 n, .string x] 23))) := (HS0.out.bel hs).alloc _; have c22 := CC _ HS3.out; obtain ⟨RS, HG, HZ, HF⟩ := FIN _ HS3.out; clear hs)
  | (refine aD rfl 28 _ _ rfl _ _ _ rfl rfl RS.out ?_))
 exact bodyPost_ret (bP HG.out HZ.out rfl rfl) rfl ⟨rfl, HF.out.2⟩
end
theorem aFv {W w : World} {b : Nat} (bk s : List UInt8) {L : List Tk.Tok} (hn : L.length ≤ 256) (hh : jM s = true) (hs : s.length ≤ 1000) (X : PR W b L w)
  (CA : ∀ u, bE L = [40] → PR W b L.tail u → Calls Tryz.prog 282 #[.pointer (some ⟨b, 0, none⟩)] u (AO W b u (AA L.tail))) :
  Calls Tryz.prog 281 #[.pointer (some ⟨b, 0, none⟩), .agg (tcs 4 0 (ba s) (ba bk) noB 0 0 false false)] w (PO W b w (aCb bk s L)) := by
 unfold aCb
 by_cases h : bk = [] ∧ bE L = [40]
 ·rw [if_pos h]
  obtain ⟨rfl, h⟩ := h
  exact aDe hn h hs X (fun u hu => CA u h hu)
 ·rw [if_neg h]
  have TY : ∀ u, Sp W b L (ww w (ba bk) (ba s)) u → Calls Tryz.prog 200 #[.string (ba s)] u fun e w' => e = .returned (.agg #[.int .i64 (bO (ba s)).1, .int .i64 (bO (ba s)).2.1, .string (bO (ba s)).2.2]) ∧ Below u.heap.size u w' := fun u hu => kP (ba s) (by rw [size_mk]; omega) u hu.1.t.t.t
  have hg : ((ba bk).toList.isEmpty = false) ∨ ((ba bk) = noB ∧ bE L ≠ [40]) := by
   cases bk with
   | nil => exact .inr ⟨rfl, fun e => h ⟨rfl, e⟩⟩
   | cons c r => exact .inl (by rw [ByteArray.toList_eq]; rfl)
  rcases aA7 hh with ⟨n, h1, h2⟩ | ⟨h1, h2⟩
  ·rw [h1]
   rw [h2] at TY
   rcases hg with hg | ⟨hg, hg2⟩
   ·exact (rU hn X hg TY).mono (by rintro e w' ⟨rfl, h⟩; exact ⟨_, rfl, NK.leaf, h⟩)
   ·exact (rW hn X hg hg2 TY).mono (by rintro e w' ⟨rfl, h⟩; exact ⟨_, rfl, NK.leaf, h⟩)
  ·rw [h1]
   rcases hg with hg | ⟨hg, hg2⟩
   ·exact (rV hn X hg TY h2).mono (by rintro e w' ⟨rfl, h⟩; exact ⟨_, rfl, NK.leaf (a := aG0 bk s), h⟩)
   ·exact (rX hn X hg hg2 TY h2).mono (by rintro e w' ⟨rfl, h⟩; exact ⟨_, rfl, NK.leaf (a := aG0 bk s), h⟩)
end Go.Proofs.YtljmklbbngpllaaGreatDoor
namespace Go.Proofs.YtljmklbbngpllaaGreatDoor
open Go.RowKit
theorem aA8 (k n : Int) (s : ByteArray) (w : World) (h0 : (k == 0) = false) (h1 : (k == 1) = false) (h2 : (k == 2) = false) (h3 : (k == 3) = false) (h4 : (k == 4) = false) : Calls Tryz.prog 202 #[.agg #[.int .i64 k, .int .i64 n, .string s]] w fun e w' => e = .returned (.bool false) ∧ Below w.heap.size w w' := by
 have aFw := aEw
 have sW := yA
 have vH := yB
 have yF := yC
 have aAC := yD
 go_enter Tryz.func202, Tryz.ntmps202
 go_wp2_with (first | (go_at_call 165; refine (tX _ _ _ _ h0 h1 h2 h3 h4).mono ?_; rintro e w1 ⟨rfl, hb⟩; have HB : Hid (Below w.heap.size w w1) := aR hb; obtain ⟨hc, hf⟩ := qQ hb; have hz := hb.size; simp at hz; clear hb))
 all_goals (go_ret; exact ⟨rfl, HB.out⟩)
theorem zU (n : Int) (s : ByteArray) (w : World) : Calls Tryz.prog 202 #[.agg #[.int .i64 0, .int .i64 n, .string s]] w fun e w' => e = .returned (.bool ((n == 0) && emB s)) ∧ Below w.heap.size w w' := by
 rcases mP s with ⟨he, h⟩ | ⟨he, h⟩ <;> rw [h]
 all_goals rcases yG n with ⟨rfl, h⟩ | ⟨hn, h⟩ <;> rw [h]
 all_goals
  have aFw := aEh
  go_enter Tryz.func202, Tryz.ntmps202
  go_wp2_with (first | (go_at_call 165; refine (qP _ _ _).mono ?_; rintro e w1 ⟨rfl, hb⟩; have HB : Hid (Below w.heap.size w w1) := aR hb; obtain ⟨hbc, hb0, hb1, hb2⟩ := kN hb; clear hb))
  all_goals (go_ret; exact ⟨by first | rfl | (simp; done) | (simp; assumption), aA HB.out _⟩)
theorem aDf (n : Int) (s : ByteArray) (w : World) : Calls Tryz.prog 202 #[.agg #[.int .i64 1, .int .i64 n, .string s]] w fun e w' => e = .returned (.bool (emB s && gd n)) ∧ Below w.heap.size w w' := by
 rcases mP s with ⟨he, h⟩ | ⟨he, h⟩ <;> rw [h]
 all_goals
  have aFw := aEm
  have sW := xP
  go_enter Tryz.func202, Tryz.ntmps202
  go_wp2_with (first | (go_at_call 165; refine (xL _ _ _).mono ?_; rintro e w1 ⟨rfl, hb⟩; have HB : Hid (Below w.heap.size w w1) := aR hb; obtain ⟨hbc, hb0, hb1, hb2⟩ := kN hb; clear hb) | (go_at_call 218; refine (iM _ _).mono ?_; rintro e w' ⟨rfl, hw⟩; obtain rfl := hw.symm; clear hw))
  all_goals (go_ret; exact ⟨by first | rfl | (simp; done) | (simp; assumption), HB.out⟩)
theorem aDg (n : Int) (s : ByteArray) (w : World) : Calls Tryz.prog 202 #[.agg #[.int .i64 2, .int .i64 n, .string s]] w fun e w' => e = .returned (.bool ((n == 0) && vI s)) ∧ Below w.heap.size w w' := by
 rcases nZ s with ⟨he, h⟩ | ⟨he, h⟩ <;> rw [h]
 all_goals rcases yG n with ⟨rfl, h⟩ | ⟨hn, h⟩ <;> rw [h]
 all_goals
  have aFw := aEq
  have sW := xQ
  have vH := xR
  go_enter Tryz.func202, Tryz.ntmps202
  go_wp2_with (first | (go_at_call 165; refine (xM _ _ _).mono ?_; rintro e w1 ⟨rfl, hb⟩; have HB : Hid (Below w.heap.size w w1) := aR hb; obtain ⟨hbc, hb0, hb1, hb2⟩ := kN hb; clear hb))
  all_goals (go_ret; exact ⟨by first | rfl | (simp; done) | (simp; assumption), HB.out⟩)
theorem aA9 (n : Int) (s : ByteArray) (w : World) (b : Bool) (KB : ∀ u : World, Calls Tryz.prog 165 #[.agg #[.int .i64 3, .int .i64 n, .string s]] u fun e w' => e = .returned (.iface 185 (.bool b)) ∧ Below u.heap.size u w') : Calls Tryz.prog 202 #[.agg #[.int .i64 3, .int .i64 n, .string s]] w fun e w' => e = .returned (.bool (emB s && ((n == 0) || (n == 1)))) ∧ Below w.heap.size w w' := by
 rcases mP s with ⟨he, h⟩ | ⟨he, h⟩ <;> rw [h]
 all_goals rcases aCJ n with ⟨rfl, h⟩ | ⟨rfl, h⟩ | ⟨g0, g1⟩ <;> (first | rw [h] | rw [g0, g1])
 all_goals
  have aFw := aEt
  have sW := xS
  have vH := xU
  have yF := xV
  go_enter Tryz.func202, Tryz.ntmps202
  go_wp2_with (first | (go_at_call 165; refine (KB _).mono ?_; rintro e w1 ⟨rfl, hb⟩; have HB : Hid (Below w.heap.size w w1) := aR hb; obtain ⟨hbc, hb0, hb1, hb2⟩ := kN hb; clear hb))
  all_goals (go_ret; exact ⟨by first | rfl | (simp; done) | (simp; assumption), HB.out⟩)
theorem aDh (n : Int) (s : ByteArray) (w : World) : Calls Tryz.prog 202 #[.agg #[.int .i64 4, .int .i64 n, .string s]] w fun e w' => e = .returned (.bool (emB s && knB n)) ∧ Below w.heap.size w w' := by
 rcases mP s with ⟨he, h⟩ | ⟨he, h⟩ <;> rw [h]
 all_goals
  have aFw := aEv
  have sW := xW
  have vH := xX
  have yF := xY
  have aAC := xZ
  go_enter Tryz.func202, Tryz.ntmps202
  go_wp2_with (first | (go_at_call 165; refine (xO _ _ _).mono ?_; rintro e w1 ⟨rfl, hb⟩; have HB : Hid (Below w.heap.size w w1) := aR hb; obtain ⟨hbc, hb0, hb1, hb2⟩ := kN hb; clear hb) | (go_at_call 191; refine (fQ _ _).mono ?_; rintro e w' ⟨rfl, hw⟩; obtain rfl := hw.symm; clear hw))
  all_goals (go_ret; exact ⟨by first | rfl | (simp; done) | (simp; assumption), HB.out⟩)
theorem aHn (s : ByteArray) (w : World) : Calls Tryz.prog 279 #[.string s] w fun e w' => e = .returned (if vI s = true then .agg #[.int .i64 2, .int .i64 0, .string s] else .agg #[.int .i64 4, .int .i64 2, .string ⟨#[]⟩]) ∧ Below w.heap.size w w' := by
 rcases nZ s with ⟨he, h⟩ | ⟨he, h⟩
 all_goals rw [h]
 ·have he' : ¬ 255 < (s.size : Int) := by omega
  go_enter Tryz.func279, Tryz.ntmps279
  go_wp2_with (go_at_call 222; refine (oC _ _).mono ?_; rintro e w1 ⟨rfl, hb⟩; have HB : Hid (Below w.heap.size w w1) := aR hb; obtain ⟨⟨c0, c1, c2⟩, f0, f1, f2⟩ := dM hb; clear hb)
  exact bodyPost_ret (v := .agg #[.int .i64 2, .int .i64 0, .string s]) (by simp [results, Tryz.results279, go_sem, c0, c1, c2]) rfl ⟨rfl, vK HB.out⟩
 ·have he' : 255 < (s.size : Int) := by omega
  go_enter Tryz.func279, Tryz.ntmps279
  go_wp2_with (go_at_call 149; refine (mU _ _).mono ?_; rintro e w1 ⟨rfl, hb⟩; have HB : Hid (Below w.heap.size w w1) := aR hb; obtain ⟨⟨c0, c1, c2⟩, f0, f1, f2⟩ := dM hb; clear hb)
  exact bodyPost_ret (v := .agg #[.int .i64 4, .int .i64 2, .string ⟨#[]⟩]) (by simp [results, Tryz.results279, go_sem, c0, c1, c2]; rfl) rfl ⟨rfl, vK HB.out⟩
theorem aDi (k n : Int) (s : ByteArray) (w : World) :
  Calls Tryz.prog 202 #[val k n s] w fun e w' => e = .returned (.bool (mV k n s)) ∧ Below w.heap.size w w' := by
 rcases aBQ k with rfl | rfl | rfl | rfl | rfl | ⟨h0, h1, h2, h3, h4⟩
 ·exact zU n s w
 ·exact aDf n s w
 ·exact aDg n s w
 ·exact aA9 n s w _ (fun u => tV n s u)
 ·exact aDh n s w
 ·have e : mV k n s = false := by simp [mV, h0, h1, h2, h3, h4]
  rw [e]
  exact aA8 k n s w (iF h0) (iF h1) (iF h2) (iF h3) (iF h4)
end Go.Proofs.YtljmklbbngpllaaGreatDoor
