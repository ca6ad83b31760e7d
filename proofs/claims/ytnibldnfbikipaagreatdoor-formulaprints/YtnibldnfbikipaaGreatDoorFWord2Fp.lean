/- FCell, FWord, FWord2. -/
import Derived.Test.YtnibldnfbikipaaGreatDoorFArgsFp
set_option linter.unusedVariables false
set_option linter.unusedSimpArgs false
set_option maxHeartbeats 16000000
set_option maxRecDepth 100000
namespace Go.Proofs.YtnibldnfbikipaaGreatDoor
open Go.RowKit Go.Fm
def cellsF (x : Ad.Ref) (r : List Tk.Tok) : Option (T × List Tk.Tok) :=
 if opOf r = [58] then (match r.tail with
   | .inr (.inr (.inl y)) :: q => if y.sheet = [] then some (tree (labA x y) [], q) else none
   | _ => none) else some (tree (labR x) [], r)
theorem inf64 : (Tryz.prog.info? 64).map (·.size) = some 6 := by kernel_rfl
section
variable {W w : World} {b : Nat} {b1 h1 : ByteArray} {r1 c1 : Int} {fr1 fc1 : Bool}
abbrev cw (w : World) (b1 h1 : ByteArray) (r1 c1 : Int) (fr1 fc1 : Bool) : World := (w.alloc (.cells #[.string b1, .string h1, .int .i64 r1, .int .i64 c1, .bool fr1, .bool fc1] 64)).alloc (.cells nd0 67)
theorem cw_fin {L : List Tk.Tok} {u : World} (hb : b < w.heap.size) (h : Sp W b L (cw w b1 h1 r1 c1 fr1 fc1) u) (a : Lab) :
  Hid ((Instr.storeAt 67 (.pointer (some ⟨w.heap.size + 1, 0, none⟩)) (.agg (lcs a (.slice none 0 0)))).run Tryz.prog u = .ok () (u.setRow (w.heap.size + 1) (lcs a (.slice none 0 0)))) ∧ Hid (u.heap[w.heap.size + 1]? = some (.cells nd0 67)) ∧
  Hid (Sp W b L w (u.setRow (w.heap.size + 1) (lcs a (.slice none 0 0)))) ∧ Hid ((Instr.loadAt 64 (.pointer (some ⟨w.heap.size, 0, none⟩))).run Tryz.prog u = .ok (.agg #[.string b1, .string h1, .int .i64 r1, .int .i64 c1, .bool fr1, .bool fc1]) u) := by
 have e1 : (cw w b1 h1 r1 c1 fr1 fc1).heap[w.heap.size + 1]? = some (.cells nd0 67) := by
  have := heap_alloc_new (w.alloc (.cells #[.string b1, .string h1, .int .i64 r1, .int .i64 c1, .bool fr1, .bool fc1] 64)) (.cells nd0 67)
  simpa using this
 have e0 : (cw w b1 h1 r1 c1 fr1 fc1).heap[w.heap.size]? = some (.cells #[.string b1, .string h1, .int .i64 r1, .int .i64 c1, .bool fr1, .bool fc1] 64) := (Below.heap_alloc _ _ _ (by simp)).trans (heap_alloc_new w _)
 have k1 := h.kept e1 (by omega)
 have k0 := h.kept e0 (by omega)
 exact ⟨nd_sto k1 rfl a none 0 0, k1, (h.unalloc.unalloc).grown (setRow_grown _ _ _) (by omega) hb, lod k0 rfl Tryz.underlying64 inf64⟩
theorem cells_one {L : List Tk.Tok} (hn : L.length ≤ 256) (h : opOf L ≠ [58]) (X : PR W b L w) : Calls Tryz.prog 325 #[.pointer (some ⟨b, 0, none⟩), .agg #[.string b1, .string h1, .int .i64 r1, .int .i64 c1, .bool fr1, .bool fc1]] w fun e w' => e = .returned (.agg (lcs ⟨2, nb, 0, 0, nb, b1, h1, r1, c1, fr1, fc1, nb, nb, 0, 0, false, false⟩ (.slice none 0 0))) ∧ Sp W b L w w' := by
 have hb := X.lt
 have X2 := (X.alloc (.cells #[.string b1, .string h1, .int .i64 r1, .int .i64 c1, .bool fr1, .bool fc1] 64)).alloc (.cells nd0 67)
 have SK : Calls Tryz.prog 311 #[.pointer (some ⟨b, 0, none⟩), .string ⟨#[58]⟩] (cw w b1 h1 r1 c1 fr1 fc1) fun e w' => e = .returned (.bool false) ∧ w' = cw w b1 h1 r1 c1 fr1 fc1 := skip_no X2 (by omega) [58] h
 obtain ⟨RS, HG, HF, RL⟩ := cw_fin hb (Sp.refl X2) ⟨2, nb, 0, 0, nb, b1, h1, r1, c1, fr1, fc1, nb, nb, 0, 0, false, false⟩
 clear X X2 h
 obtain ⟨w2, hw2⟩ : ∃ w2, cw w b1 h1 r1 c1 fr1 fc1 = w2 := ⟨_, rfl⟩
 rw [hw2] at SK RS HG HF RL
 go_enter Tryz.func325, Tryz.ntmps325
 go_wp2_with (first
  | (go_at_call 311; refine SK.mono ?_; rintro e w1 ⟨rfl, hs⟩; obtain rfl := hs.symm; clear hs)
  | (refine wpList_load_run rfl 64 _ rfl _ _ rfl RL.out ?_)
  | (refine wpList_store_run rfl 67 _ _ rfl _ _ _ rfl rfl RS.out ?_))
 exact bodyPost_ret (nd_res HG.out (lcs_size _ _) rfl rfl) rfl ⟨rfl, HF.out⟩
theorem cells_nil {L : List Tk.Tok} (hn : L.length ≤ 256) (h : opOf L = [58]) (hL : L.tail = []) (X : PR W b L w) : Calls Tryz.prog 325 #[.pointer (some ⟨b, 0, none⟩), .agg #[.string b1, .string h1, .int .i64 r1, .int .i64 c1, .bool fr1, .bool fc1]] w fun e w' => e = .panicked formP ∧ w.grownBy w' (some b) := by
 have X2 := (X.alloc (.cells #[.string b1, .string h1, .int .i64 r1, .int .i64 c1, .bool fr1, .bool fc1] 64)).alloc (.cells nd0 67)
 have SK : Calls Tryz.prog 311 #[.pointer (some ⟨b, 0, none⟩), .string ⟨#[58]⟩] (cw w b1 h1 r1 c1 fr1 fc1) fun e w' => e = .returned (.bool true) ∧ Sp W b L.tail (cw w b1 h1 r1 c1 fr1 fc1) w' := skip_yes X2 (by omega) [58] (by decide) h
 have HG : Hid (w.grownBy (cw w b1 h1 r1 c1 fr1 fc1) (some b)) := grown_trans (World.grownBy_alloc _ _ _) (World.grownBy_alloc _ _ _)
 rw [hL] at SK
 clear X X2 h
 obtain ⟨w2, hw2⟩ : ∃ w2, cw w b1 h1 r1 c1 fr1 fc1 = w2 := ⟨_, rfl⟩
 rw [hw2] at SK HG
 go_enter Tryz.func325, Tryz.ntmps325
 go_wp2_with (first
  | (go_at_call 311; refine SK.mono ?_; rintro e w1 ⟨rfl, hs⟩; have HS : Hid (Sp W b [] w2 w1) := hs; clear hs)
  | (go_at_call 236; refine (take_nil HS.out.1).mono ?_; rintro e w3 ⟨rfl, hg⟩))
 exact ⟨rfl, rfl, grown_trans HG.out (grown_trans HS.out.2 hg)⟩
theorem cells_yes {L q : List Tk.Tok} {t : Tk.Tok} (hn : L.length ≤ 256) (h : opOf L = [58]) (hL : L.tail = t :: q) (hk : (tk t).k = 3) (hs : (tk t).h.toList = []) (X : PR W b L w) : Calls Tryz.prog 325 #[.pointer (some ⟨b, 0, none⟩), .agg #[.string b1, .string h1, .int .i64 r1, .int .i64 c1, .bool fr1, .bool fc1]] w fun e w' =>
  e = .returned (.agg (lcs ⟨3, nb, 0, 0, nb, b1, h1, r1, c1, fr1, fc1, (tk t).b, (tk t).h, (tk t).r, (tk t).c, (tk t).fr, (tk t).fc⟩ (.slice none 0 0))) ∧ Sp W b q w w' := by
 have hb := X.lt
 have hlt := (op_tail (ts := L) h (by decide)).1
 have hq : q.length ≤ 255 := by rw [hL] at hlt; simp at hlt; omega
 have X2 := (X.alloc (.cells #[.string b1, .string h1, .int .i64 r1, .int .i64 c1, .bool fr1, .bool fc1] 64)).alloc (.cells nd0 67)
 have SK : Calls Tryz.prog 311 #[.pointer (some ⟨b, 0, none⟩), .string ⟨#[58]⟩] (cw w b1 h1 r1 c1 fr1 fc1) fun e w' => e = .returned (.bool true) ∧ Sp W b L.tail (cw w b1 h1 r1 c1 fr1 fc1) w' := skip_yes X2 (by omega) [58] (by decide) h
 rw [hL] at SK
 have HG0 : Hid (w.grownBy (cw w b1 h1 r1 c1 fr1 fc1) (some b)) := grown_trans (World.grownBy_alloc _ _ _) (World.grownBy_alloc _ _ _)
 have TK : ∀ u, Sp W b (t :: q) (cw w b1 h1 r1 c1 fr1 fc1) u → Calls Tryz.prog 236 #[.pointer (some ⟨b, 0, none⟩)] u fun e w' => e = .returned (.agg (tcs (tk t).k (tk t).n (tk t).s (tk t).b (tk t).h (tk t).r (tk t).c (tk t).fr (tk t).fc)) ∧ Hid (Sp W b q (cw w b1 h1 r1 c1 fr1 fc1) w') := fun u hu => (take_cons hu.1 hq).mono (by
  rintro e w' ⟨rfl, h2⟩
  exact ⟨rfl, hu.step h2⟩)
 have FIN := fun u (hu : Sp W b q (cw w b1 h1 r1 c1 fr1 fc1) u) => cw_fin hb hu ⟨3, nb, 0, 0, nb, b1, h1, r1, c1, fr1, fc1, (tk t).b, (tk t).h, (tk t).r, (tk t).c, (tk t).fr, (tk t).fc⟩
 clear X X2 h hL
 generalize tk t = tt at *
 obtain ⟨k, n, s, bk, hh, r, c, fr, fc⟩ := tt
 dsimp only at TK FIN hk hs ⊢
 subst hk
 have hsb : hh.toList.isEmpty = true := by rw [hs]; rfl
 obtain ⟨w2, hw2⟩ : ∃ w2, cw w b1 h1 r1 c1 fr1 fc1 = w2 := ⟨_, rfl⟩
 rw [hw2] at SK HG0
 simp only [hw2] at TK FIN
 clear hs
 go_enter Tryz.func325, Tryz.ntmps325
 go_wp2_with (first
  | (go_at_call 311; refine SK.mono ?_; rintro e w1 ⟨rfl, hs⟩; have HS : Hid (Sp W b (t :: q) w2 w1) := hs; clear hs)
  | (go_at_call 236; refine (TK _ HS.out).mono ?_; rintro e w3 ⟨rfl, HS3⟩; obtain ⟨RS, HG, HF, RL⟩ := FIN _ (HS3.out.alloc (.cells (tcs 3 n s bk hh r c fr fc) 156)))
  | (refine wpList_load_run rfl 64 _ rfl _ _ rfl RL.out ?_)
  | (refine wpList_store_run rfl 67 _ _ rfl _ _ _ rfl rfl RS.out ?_))
 exact bodyPost_ret (nd_res HG.out (lcs_size _ _) rfl rfl) rfl ⟨rfl, HF.out⟩
theorem cells_bad {L q : List Tk.Tok} {t : Tk.Tok} (hn : L.length ≤ 256) (h : opOf L = [58]) (hL : L.tail = t :: q) (hk : (tk t).k ≠ 3 ∨ ((tk t).k = 3 ∧ ¬ (tk t).h.toList = [])) (X : PR W b L w) : Calls Tryz.prog 325 #[.pointer (some ⟨b, 0, none⟩), .agg #[.string b1, .string h1, .int .i64 r1, .int .i64 c1, .bool fr1, .bool fc1]] w fun e w' => e = .panicked formP ∧ w.grownBy w' (some b) := by
 have hlt := (op_tail (ts := L) h (by decide)).1
 have hq : q.length ≤ 255 := by rw [hL] at hlt; simp at hlt; omega
 have X2 := (X.alloc (.cells #[.string b1, .string h1, .int .i64 r1, .int .i64 c1, .bool fr1, .bool fc1] 64)).alloc (.cells nd0 67)
 have SK : Calls Tryz.prog 311 #[.pointer (some ⟨b, 0, none⟩), .string ⟨#[58]⟩] (cw w b1 h1 r1 c1 fr1 fc1) fun e w' => e = .returned (.bool true) ∧ Sp W b L.tail (cw w b1 h1 r1 c1 fr1 fc1) w' := skip_yes X2 (by omega) [58] (by decide) h
 rw [hL] at SK
 have HG0 : Hid (w.grownBy (cw w b1 h1 r1 c1 fr1 fc1) (some b)) := grown_trans (World.grownBy_alloc _ _ _) (World.grownBy_alloc _ _ _)
 have TK : ∀ u, Sp W b (t :: q) (cw w b1 h1 r1 c1 fr1 fc1) u → Calls Tryz.prog 236 #[.pointer (some ⟨b, 0, none⟩)] u fun e w' => e = .returned (.agg (tcs (tk t).k (tk t).n (tk t).s (tk t).b (tk t).h (tk t).r (tk t).c (tk t).fr (tk t).fc)) ∧ Hid (Sp W b q (cw w b1 h1 r1 c1 fr1 fc1) w') := fun u hu => (take_cons hu.1 hq).mono (by
  rintro e w' ⟨rfl, h2⟩
  exact ⟨rfl, hu.step h2⟩)
 clear X X2 h hL
 generalize tk t = tt at *
 obtain ⟨k, n, s, bk, hh, r, c, fr, fc⟩ := tt
 dsimp only at TK hk ⊢
 obtain ⟨w2, hw2⟩ : ∃ w2, cw w b1 h1 r1 c1 fr1 fc1 = w2 := ⟨_, rfl⟩
 rw [hw2] at SK HG0
 simp only [hw2] at TK
 rcases hk with hk | ⟨rfl, hs⟩
 ·have hkb : (k != 3) = true := by simpa using hk
  clear hk
  go_enter Tryz.func325, Tryz.ntmps325
  go_wp2_with (first
   | (go_at_call 311; refine SK.mono ?_; rintro e w1 ⟨rfl, hs⟩; have HS : Hid (Sp W b (t :: q) w2 w1) := hs; clear hs)
   | (go_at_call 236; refine (TK _ HS.out).mono ?_; rintro e w3 ⟨rfl, HS3⟩))
  exact ⟨rfl, rfl, grown_trans HG0.out (HS3.out.alloc _).2⟩
 ·have hsb : hh.toList.isEmpty = false := by
   cases hx : hh.toList with
   | nil => exact absurd hx hs
   | cons _ _ => rfl
  clear hs
  go_enter Tryz.func325, Tryz.ntmps325
  go_wp2_with (first
   | (go_at_call 311; refine SK.mono ?_; rintro e w1 ⟨rfl, hs⟩; have HS : Hid (Sp W b (t :: q) w2 w1) := hs; clear hs)
   | (go_at_call 236; refine (TK _ HS.out).mono ?_; rintro e w3 ⟨rfl, HS3⟩))
  exact ⟨rfl, rfl, grown_trans HG0.out (HS3.out.alloc _).2⟩
end
theorem cells_any {W w : World} {b : Nat} (x : Ad.Ref) {L : List Tk.Tok} (hn : L.length ≤ 256) (X : PR W b L w) : Calls Tryz.prog 325 #[.pointer (some ⟨b, 0, none⟩), refV (ba x.book) (ba x.sheet) x.cell.row x.cell.col x.cell.fr x.cell.fc] w (PO W b w (cellsF x L)) := by
 unfold cellsF
 by_cases h : opOf L = [58]
 ·rw [if_pos h]
  cases hL : L.tail with
  | nil => exact cells_nil hn h hL X
  | cons t q =>
   have no : ((tk t).k ≠ 3 ∨ ((tk t).k = 3 ∧ ¬ (tk t).h.toList = [])) → Calls Tryz.prog 325 #[.pointer (some ⟨b, 0, none⟩), refV (ba x.book) (ba x.sheet) x.cell.row x.cell.col x.cell.fr x.cell.fc] w (PO W b w none) := fun hne => cells_bad hn h hL hne X
   cases t using Tk.Tok.cs with
   | ref y =>
    simp only
    by_cases hy : y.sheet = []
    ·rw [if_pos hy]
     refine (cells_yes hn h hL rfl (by rw [ByteArray.toList_eq]; exact hy) X).mono ?_
     rintro e w' ⟨rfl, h⟩
     exact ⟨_, rfl, NK.leaf, h⟩
    ·rw [if_neg hy]
     exact no (.inr ⟨rfl, fun e => hy (by rw [ByteArray.toList_eq] at e; exact e)⟩)
   | num n => exact no (.inl (by simp [tk]))
   | str n => exact no (.inl (by simp [tk]))
   | word n m => exact no (.inl (by simp [tk]))
   | op n => exact no (.inl (by simp [tk]))
   | bad n => exact no (.inl (by simp [tk]))
 ·rw [if_neg h]
  refine (cells_one hn h X).mono ?_
  rintro e w' ⟨rfl, h⟩
  exact ⟨_, rfl, NK.leaf, h⟩
def wordF (b s : List UInt8) (r : List Tk.Tok) : Option (T × List Tk.Tok) :=
 if b = [] ∧ opOf r = [40] then (AA r.tail).map fun q => (tree (lab0 7 (bs (upF s))) q.1, q.2) else (match trF s with
   | some n => some (tree (labV 3 n nb) [], r)
   | none => some (tree (labN b s) [], r))
theorem typed_word {s : List UInt8} (h : headL s = true) : (∃ n, trF s = some n ∧ typedF (ba s) = (3, n, noB)) ∨ (trF s = none ∧ ((typedF (ba s)).1 == 3) = false) := by
 have hp := letter_parse (l := s) h
 have h0 : ¬ (ba s).toList = [] := by
  rw [ByteArray.toList_eq]
  intro e
  have e' : s = [] := e
  rw [e'] at h
  cases h
 have h1 : ¬ (ba s).data.toList.head? = some 39 := by
  show ¬ s.head? = some 39
  intro e
  cases hl : s with
  | nil => rw [hl] at h; cases h
  | cons c r =>
   rw [hl] at h e
   simp only [List.head?_cons, Option.some.injEq] at e
   exact (isL_facts h).1 e
 have hpp : ¬ (parseF (ba s).data.toList).2 = true := by show ¬ (parseF s).2 = true; rw [hp]; decide
 unfold trF typedF
 simp only [if_neg h0, if_neg h1, if_neg hpp]
 cases ht : (truF (ba s)).2
 ·right
  simp only [Bool.false_eq_true, if_false, true_and]
  split <;> rfl
 ·left
  simp only [if_true]
  exact ⟨_, rfl, rfl⟩
section
variable {W w : World} {b : Nat} {B S : ByteArray}
abbrev ww (w : World) (B S : ByteArray) : World := (w.alloc (.cells (tcs 4 0 S B noB 0 0 false false) 156)).alloc (.cells nd0 67)
theorem ww_fin {K : Nat → Prop} {L : List Tk.Tok} {u : World} {es : Array Value} {t : T} (hb : b < w.heap.size) (h : Sp W b L (ww w B S) u) (hN : NK (fun i => w.heap.size + 1 < i) u es t) :
  Hid ((Instr.storeAt 67 (.pointer (some ⟨w.heap.size + 1, 0, none⟩)) (.agg es)).run Tryz.prog u = .ok () (u.setRow (w.heap.size + 1) es)) ∧ Hid (u.heap[w.heap.size + 1]? = some (.cells nd0 67)) ∧ Hid (es.size = 18) ∧
  Hid (NK (fun i => w.heap.size ≤ i) (u.setRow (w.heap.size + 1) es) es t ∧ Sp W b L w (u.setRow (w.heap.size + 1) es)) := by
 have e1 : (ww w B S).heap[w.heap.size + 1]? = some (.cells nd0 67) := by
  have := heap_alloc_new (w.alloc (.cells (tcs 4 0 S B noB 0 0 false false) 156)) (.cells nd0 67)
  simpa using this
 have k1 := h.kept e1 (by omega)
 exact ⟨hN.sto k1 rfl, k1, hN.size, (hN.grown (setRow_grown _ _ _) (fun g e hk => by cases e; exact Nat.lt_irrefl _ hk)).mono (fun i hi _ => by omega), (h.unalloc.unalloc).grown (setRow_grown _ _ _) (by omega) hb⟩
theorem ww_cells {L : List Tk.Tok} {u : World} (hb : b < w.heap.size) (h : Sp W b L (ww w B S) u) : u.cell? ⟨w.heap.size, 2, none⟩ = some (.string S) ∧ u.cell? ⟨w.heap.size, 3, none⟩ = some (.string B) := by
 have e0 : (ww w B S).heap[w.heap.size]? = some (.cells (tcs 4 0 S B noB 0 0 false false) 156) := (Below.heap_alloc _ _ _ (by simp)).trans (heap_alloc_new w _)
 have k0 := h.kept e0 (by omega)
 exact ⟨by rw [cell_of_row u _ 2 _ 156 (0, 0) k0]; rfl, by rw [cell_of_row u _ 3 _ 156 (0, 0) k0]; rfl⟩
theorem word_call {s : List UInt8} {L : List Tk.Tok} (hn : L.length ≤ 256) (h : opOf L = [40]) (hs : s.length ≤ 1000) (X : PR W b L w)
  (CA : ∀ u, PR W b L.tail u → Calls Tryz.prog 327 #[.pointer (some ⟨b, 0, none⟩)] u (AO W b u (AA L.tail))) :
  Calls Tryz.prog 326 #[.pointer (some ⟨b, 0, none⟩), .agg (tcs 4 0 (ba s) noB noB 0 0 false false)] w (PO W b w ((AA L.tail).map fun q => (tree (lab0 7 (bs (upF s))) q.1, q.2))) := by
 have hb := X.lt
 have X2 := (X.alloc (.cells (tcs 4 0 (ba s) noB noB 0 0 false false) 156)).alloc (.cells nd0 67)
 have SK : Calls Tryz.prog 311 #[.pointer (some ⟨b, 0, none⟩), .string ⟨#[40]⟩] (ww w noB (ba s)) fun e w' => e = .returned (.bool true) ∧ Sp W b L.tail (ww w noB (ba s)) w' := skip_yes X2 (by omega) [40] (by decide) h
 have SK2 : Calls Tryz.prog 311 #[.pointer (some ⟨b, 0, none⟩), .string ⟨#[40]⟩] (ww w noB (ba s)) fun e w' => e = .returned (.bool true) ∧ w'.cell? ⟨w.heap.size, 2, none⟩ = some (.string (ba s)) ∧ Hid (Sp W b L.tail (ww w noB (ba s)) w') := SK.mono (by
  rintro e w' ⟨rfl, h⟩
  exact ⟨rfl, (ww_cells hb h).1, h⟩)
 obtain ⟨_, c3⟩ := ww_cells hb (Sp.refl X2)
 have UP := fun u => up_any (ba s) (by rw [size_mk]; omega) u
 have eU : (⟨(szF 97 65 (ba s).data.toList).toArray⟩ : ByteArray) = ba (upF s) := rfl
 rw [eU] at UP
 clear SK eU h X X2
 cases hA : AA L.tail with
 | none =>
  rw [hA] at CA
  have CA' : ∀ u, PR W b L.tail u → Calls Tryz.prog 327 #[.pointer (some ⟨b, 0, none⟩)] u fun e w' => e = .panicked formP ∧ u.grownBy w' (some b) := CA
  have HG : Hid (w.grownBy (ww w noB (ba s)) (some b)) := grown_trans (World.grownBy_alloc _ _ _) (World.grownBy_alloc _ _ _)
  clear CA hA
  generalize L.tail = L' at *
  obtain ⟨w2, hw2⟩ : ∃ w2, ww w noB (ba s) = w2 := ⟨_, rfl⟩
  rw [hw2] at SK2 HG c3
  generalize ba (upF s) = U at *
  generalize ba s = SS at *
  go_enter Tryz.func326, Tryz.ntmps326
  go_wp2_with (first
   | (go_at_call 311; refine SK2.mono ?_; rintro e w3 ⟨rfl, c2, HS⟩)
   | (go_at_call 214; refine (UP _).mono ?_; rintro e w4 ⟨rfl, hs⟩; have HS4 : Hid (Sp W b L' w2 w4) := HS.out.bel hs; clear hs)
   | (go_at_call 327; refine (CA' _ HS4.out.1).mono ?_; rintro e w5 ⟨rfl, hg⟩))
  exact ⟨rfl, rfl, grown_trans HG.out (grown_trans HS4.out.2 hg)⟩
 | some p =>
  obtain ⟨l, r⟩ := p
  rw [hA] at CA
  have CA' : ∀ u, Sp W b L.tail (ww w noB (ba s)) u → Calls Tryz.prog 327 #[.pointer (some ⟨b, 0, none⟩)] u fun e w' => ∃ q n c, e = .returned (.slice q n c) ∧
    Hid ((Instr.storeAt 67 (.pointer (some ⟨w.heap.size + 1, 0, none⟩)) (.agg (lcs (lab0 7 (ba (upF s))) (.slice q n c)))).run Tryz.prog w' = .ok () (w'.setRow (w.heap.size + 1) (lcs (lab0 7 (ba (upF s))) (.slice q n c)))) ∧ Hid (w'.heap[w.heap.size + 1]? = some (.cells nd0 67)) ∧
    Hid (NK (fun i => w.heap.size ≤ i) (w'.setRow (w.heap.size + 1) (lcs (lab0 7 (ba (upF s))) (.slice q n c))) (lcs (lab0 7 (ba (upF s))) (.slice q n c)) (tree (lab0 7 (ba (upF s))) l) ∧ Sp W b r w (w'.setRow (w.heap.size + 1) (lcs (lab0 7 (ba (upF s))) (.slice q n c)))) := fun u hu => (CA u hu.1).mono (by
   rintro e w' ⟨q, n, c, rfl, h1, h2, h3⟩
   dsimp only at h1 h2 h3
   have hN : NK (fun i => w.heap.size + 1 < i) w' (lcs (lab0 7 (ba (upF s))) (.slice q n c)) (tree (lab0 7 (ba (upF s))) l) := by
    refine ⟨q, n, c, rfl, by show n = (kids (mk l)).length; rw [kids_mk]; exact h1, ?_⟩
    rcases h2 with rfl | ⟨a, rfl, hi⟩
    ·exact .inl rfl
    ·exact .inr ⟨a, rfl, hi.mono (fun i hi _ => by have := hu.2.size; simp at this; omega)⟩
   obtain ⟨k1, k2, k3, k4⟩ := ww_fin (K := fun _ => True) hb (hu.step h3) hN
   exact ⟨q, n, c, rfl, k1, k2, k4⟩)
  clear CA hA
  generalize L.tail = L' at *
  obtain ⟨w2, hw2⟩ : ∃ w2, ww w noB (ba s) = w2 := ⟨_, rfl⟩
  rw [hw2] at SK2 c3
  simp only [hw2] at CA'
  have eB : bs (upF s) = ba (upF s) := rfl
  rw [Option.map_some, eB]
  clear eB
  generalize ba (upF s) = U at *
  generalize ba s = SS at *
  go_enter Tryz.func326, Tryz.ntmps326
  go_wp2_with (first
   | (go_at_call 311; refine SK2.mono ?_; rintro e w3 ⟨rfl, c2, HS⟩)
   | (go_at_call 214; refine (UP _).mono ?_; rintro e w4 ⟨rfl, hs⟩; have HS4 : Hid (Sp W b L' w2 w4) := HS.out.bel hs; clear hs)
   | (go_at_call 327; refine (CA' _ HS4.out).mono ?_; rintro e w5 ⟨q, n, c, rfl, RS, HG, HF⟩)
   | (refine wpList_store_run rfl 67 _ _ rfl _ _ _ rfl rfl RS.out ?_))
  exact bodyPost_ret (nd_res HG.out (lcs_size _ _) rfl rfl) rfl ⟨_, rfl, HF.out.1, HF.out.2⟩
end
section
variable {W w : World} {b : Nat} {B S : ByteArray}
theorem word_book_true {n : Int} {L : List Tk.Tok} (hn : L.length ≤ 256) (X : PR W b L w) (hB : B.toList.isEmpty = false) (TY : ∀ u, Sp W b L (ww w B S) u → Calls Tryz.prog 160 #[.string S] u fun e w' => e = .returned (.agg #[.int .i64 3, .int .i64 n, .string noB]) ∧ Below u.heap.size u w') :
  Calls Tryz.prog 326 #[.pointer (some ⟨b, 0, none⟩), .agg (tcs 4 0 S B noB 0 0 false false)] w fun e w' => e = .returned (.agg (lcs (labV 3 n nb) (.slice none 0 0))) ∧ Sp W b L w w' := by
 have hb := X.lt
 have X2 := (X.alloc (.cells (tcs 4 0 S B noB 0 0 false false) 156)).alloc (.cells nd0 67)
 obtain ⟨c2, c3⟩ := ww_cells hb (Sp.refl X2)
 have HS0 : Hid (Sp W b L (ww w B S) (ww w B S)) := Sp.refl X2
 have CC := fun u (hu : Sp W b L (ww w B S) u) => (ww_cells hb hu).1
 have FIN := fun u (hu : Sp W b L (ww w B S) u) => ww_fin (K := fun _ => True) hb hu (NK.leaf (a := (labV 3 n nb)))
 obtain ⟨w2, hw2⟩ : ∃ w2, ww w B S = w2 := ⟨_, rfl⟩
 rw [hw2] at c2 c3 HS0
 simp only [hw2] at TY FIN CC
 clear X X2
 go_enter Tryz.func326, Tryz.ntmps326
 go_wp2_with (first
  | (go_at_call 160; refine (TY _ HS0.out).mono ?_; rintro e w3 ⟨rfl, hs⟩; have HS3 : Hid (Sp W b L w2 (w3.alloc (.cells #[.int .i64 3, .int .i64 n, .string noB] 62))) := (HS0.out.bel hs).alloc _; clear hs)
  | (go_at_call 323; refine (const_any 3 n noB _).mono ?_; rintro e w4 ⟨rfl, hs⟩; obtain ⟨RS, HG, HZ, HF⟩ := FIN _ (HS3.out.bel hs); clear hs)
  | (refine wpList_store_run rfl 67 _ _ rfl _ _ _ rfl rfl RS.out ?_))
 exact bodyPost_ret (nd_res HG.out HZ.out rfl rfl) rfl ⟨rfl, HF.out.2⟩
theorem word_book_name {k n : Int} {x : ByteArray} {L : List Tk.Tok} (hn : L.length ≤ 256) (X : PR W b L w) (hB : B.toList.isEmpty = false) (TY : ∀ u, Sp W b L (ww w B S) u → Calls Tryz.prog 160 #[.string S] u fun e w' => e = .returned (.agg #[.int .i64 k, .int .i64 n, .string x]) ∧ Below u.heap.size u w') (hk : (k == 3) = false) :
  Calls Tryz.prog 326 #[.pointer (some ⟨b, 0, none⟩), .agg (tcs 4 0 S B noB 0 0 false false)] w fun e w' => e = .returned (.agg (lcs ⟨4, S, 0, 0, nb, B, nb, 0, 0, false, false, nb, nb, 0, 0, false, false⟩ (.slice none 0 0))) ∧ Sp W b L w w' := by
 have hb := X.lt
 have X2 := (X.alloc (.cells (tcs 4 0 S B noB 0 0 false false) 156)).alloc (.cells nd0 67)
 obtain ⟨c2, c3⟩ := ww_cells hb (Sp.refl X2)
 have HS0 : Hid (Sp W b L (ww w B S) (ww w B S)) := Sp.refl X2
 have CC := fun u (hu : Sp W b L (ww w B S) u) => (ww_cells hb hu).1
 have FIN := fun u (hu : Sp W b L (ww w B S) u) => ww_fin (K := fun _ => True) hb hu (NK.leaf (a := ⟨4, S, 0, 0, nb, B, nb, 0, 0, false, false, nb, nb, 0, 0, false, false⟩))
 obtain ⟨w2, hw2⟩ : ∃ w2, ww w B S = w2 := ⟨_, rfl⟩
 rw [hw2] at c2 c3 HS0
 simp only [hw2] at TY FIN CC
 clear X X2
 go_enter Tryz.func326, Tryz.ntmps326
 go_wp2_with (first
  | (go_at_call 160; refine (TY _ HS0.out).mono ?_; rintro e w3 ⟨rfl, hs⟩; have HS3 : Hid (Sp W b L w2 (w3.alloc (.cells #[.int .i64 k, .int .i64 n, .string x] 62))) := (HS0.out.bel hs).alloc _; have c22 := CC _ HS3.out; obtain ⟨RS, HG, HZ, HF⟩ := FIN _ HS3.out; clear hs)
  | (refine wpList_store_run rfl 67 _ _ rfl _ _ _ rfl rfl RS.out ?_))
 exact bodyPost_ret (nd_res HG.out HZ.out rfl rfl) rfl ⟨rfl, HF.out.2⟩
theorem word_none_true {n : Int} {L : List Tk.Tok} (hn : L.length ≤ 256) (X : PR W b L w) (hB : B = noB) (h : opOf L ≠ [40]) (TY : ∀ u, Sp W b L (ww w B S) u → Calls Tryz.prog 160 #[.string S] u fun e w' => e = .returned (.agg #[.int .i64 3, .int .i64 n, .string noB]) ∧ Below u.heap.size u w') :
  Calls Tryz.prog 326 #[.pointer (some ⟨b, 0, none⟩), .agg (tcs 4 0 S B noB 0 0 false false)] w fun e w' => e = .returned (.agg (lcs (labV 3 n nb) (.slice none 0 0))) ∧ Sp W b L w w' := by
 have hb := X.lt
 have X2 := (X.alloc (.cells (tcs 4 0 S B noB 0 0 false false) 156)).alloc (.cells nd0 67)
 obtain ⟨c2, c3⟩ := ww_cells hb (Sp.refl X2)
 have HS0 : Hid (Sp W b L (ww w B S) (ww w B S)) := Sp.refl X2
 have CC := fun u (hu : Sp W b L (ww w B S) u) => (ww_cells hb hu).1
 have FIN := fun u (hu : Sp W b L (ww w B S) u) => ww_fin (K := fun _ => True) hb hu (NK.leaf (a := (labV 3 n nb)))
 have SK : Calls Tryz.prog 311 #[.pointer (some ⟨b, 0, none⟩), .string ⟨#[40]⟩] (ww w B S) fun e w' => e = .returned (.bool false) ∧ w' = ww w B S := skip_no X2 (by omega) [40] h
 subst hB
 clear h
 obtain ⟨w2, hw2⟩ : ∃ w2, ww w noB S = w2 := ⟨_, rfl⟩
 rw [hw2] at SK c2 c3 HS0
 simp only [hw2] at TY FIN CC
 clear X X2
 go_enter Tryz.func326, Tryz.ntmps326
 go_wp2_with (first
  | (go_at_call 311; refine SK.mono ?_; rintro e w1 ⟨rfl, hs⟩; obtain rfl := hs.symm; clear hs)
  | (go_at_call 160; refine (TY _ HS0.out).mono ?_; rintro e w3 ⟨rfl, hs⟩; have HS3 : Hid (Sp W b L w2 (w3.alloc (.cells #[.int .i64 3, .int .i64 n, .string noB] 62))) := (HS0.out.bel hs).alloc _; clear hs)
  | (go_at_call 323; refine (const_any 3 n noB _).mono ?_; rintro e w4 ⟨rfl, hs⟩; obtain ⟨RS, HG, HZ, HF⟩ := FIN _ (HS3.out.bel hs); clear hs)
  | (refine wpList_store_run rfl 67 _ _ rfl _ _ _ rfl rfl RS.out ?_))
 exact bodyPost_ret (nd_res HG.out HZ.out rfl rfl) rfl ⟨rfl, HF.out.2⟩
theorem word_none_name {k n : Int} {x : ByteArray} {L : List Tk.Tok} (hn : L.length ≤ 256) (X : PR W b L w) (hB : B = noB) (h : opOf L ≠ [40]) (TY : ∀ u, Sp W b L (ww w B S) u → Calls Tryz.prog 160 #[.string S] u fun e w' => e = .returned (.agg #[.int .i64 k, .int .i64 n, .string x]) ∧ Below u.heap.size u w') (hk : (k == 3) = false) :
  Calls Tryz.prog 326 #[.pointer (some ⟨b, 0, none⟩), .agg (tcs 4 0 S B noB 0 0 false false)] w fun e w' => e = .returned (.agg (lcs ⟨4, S, 0, 0, nb, B, nb, 0, 0, false, false, nb, nb, 0, 0, false, false⟩ (.slice none 0 0))) ∧ Sp W b L w w' := by
 have hb := X.lt
 have X2 := (X.alloc (.cells (tcs 4 0 S B noB 0 0 false false) 156)).alloc (.cells nd0 67)
 obtain ⟨c2, c3⟩ := ww_cells hb (Sp.refl X2)
 have HS0 : Hid (Sp W b L (ww w B S) (ww w B S)) := Sp.refl X2
 have CC := fun u (hu : Sp W b L (ww w B S) u) => (ww_cells hb hu).1
 have FIN := fun u (hu : Sp W b L (ww w B S) u) => ww_fin (K := fun _ => True) hb hu (NK.leaf (a := ⟨4, S, 0, 0, nb, B, nb, 0, 0, false, false, nb, nb, 0, 0, false, false⟩))
 have SK : Calls Tryz.prog 311 #[.pointer (some ⟨b, 0, none⟩), .string ⟨#[40]⟩] (ww w B S) fun e w' => e = .returned (.bool false) ∧ w' = ww w B S := skip_no X2 (by omega) [40] h
 subst hB
 clear h
 obtain ⟨w2, hw2⟩ : ∃ w2, ww w noB S = w2 := ⟨_, rfl⟩
 rw [hw2] at SK c2 c3 HS0
 simp only [hw2] at TY FIN CC
 clear X X2
 go_enter Tryz.func326, Tryz.ntmps326
 go_wp2_with (first
  | (go_at_call 311; refine SK.mono ?_; rintro e w1 ⟨rfl, hs⟩; obtain rfl := hs.symm; clear hs)
  | (go_at_call 160; refine (TY _ HS0.out).mono ?_; rintro e w3 ⟨rfl, hs⟩; have HS3 : Hid (Sp W b L w2 (w3.alloc (.cells #[.int .i64 k, .int .i64 n, .string x] 62))) := (HS0.out.bel hs).alloc _; have c22 := CC _ HS3.out; obtain ⟨RS, HG, HZ, HF⟩ := FIN _ HS3.out; clear hs)
  | (refine wpList_store_run rfl 67 _ _ rfl _ _ _ rfl rfl RS.out ?_))
 exact bodyPost_ret (nd_res HG.out HZ.out rfl rfl) rfl ⟨rfl, HF.out.2⟩
end
theorem word_any {W w : World} {b : Nat} (bk s : List UInt8) {L : List Tk.Tok} (hn : L.length ≤ 256) (hh : headL s = true) (hs : s.length ≤ 1000) (X : PR W b L w)
  (CA : ∀ u, opOf L = [40] → PR W b L.tail u → Calls Tryz.prog 327 #[.pointer (some ⟨b, 0, none⟩)] u (AO W b u (AA L.tail))) :
  Calls Tryz.prog 326 #[.pointer (some ⟨b, 0, none⟩), .agg (tcs 4 0 (ba s) (ba bk) noB 0 0 false false)] w (PO W b w (wordF bk s L)) := by
 unfold wordF
 by_cases h : bk = [] ∧ opOf L = [40]
 ·rw [if_pos h]
  obtain ⟨rfl, h⟩ := h
  exact word_call hn h hs X (fun u hu => CA u h hu)
 ·rw [if_neg h]
  have TY : ∀ u, Sp W b L (ww w (ba bk) (ba s)) u → Calls Tryz.prog 160 #[.string (ba s)] u fun e w' => e = .returned (.agg #[.int .i64 (typedF (ba s)).1, .int .i64 (typedF (ba s)).2.1, .string (typedF (ba s)).2.2]) ∧ Below u.heap.size u w' := fun u hu => typed_any (ba s) (by rw [size_mk]; omega) u hu.1.t.t.t
  have hg : ((ba bk).toList.isEmpty = false) ∨ ((ba bk) = noB ∧ opOf L ≠ [40]) := by
   cases bk with
   | nil => exact .inr ⟨rfl, fun e => h ⟨rfl, e⟩⟩
   | cons c r => exact .inl (by rw [ByteArray.toList_eq]; rfl)
  rcases typed_word hh with ⟨n, h1, h2⟩ | ⟨h1, h2⟩
  ·rw [h1]
   rw [h2] at TY
   rcases hg with hg | ⟨hg, hg2⟩
   ·exact (word_book_true hn X hg TY).mono (by rintro e w' ⟨rfl, h⟩; exact ⟨_, rfl, NK.leaf, h⟩)
   ·exact (word_none_true hn X hg hg2 TY).mono (by rintro e w' ⟨rfl, h⟩; exact ⟨_, rfl, NK.leaf, h⟩)
  ·rw [h1]
   rcases hg with hg | ⟨hg, hg2⟩
   ·exact (word_book_name hn X hg TY h2).mono (by rintro e w' ⟨rfl, h⟩; exact ⟨_, rfl, NK.leaf (a := labN bk s), h⟩)
   ·exact (word_none_name hn X hg hg2 TY h2).mono (by rintro e w' ⟨rfl, h⟩; exact ⟨_, rfl, NK.leaf (a := labN bk s), h⟩)
end Go.Proofs.YtnibldnfbikipaaGreatDoor
