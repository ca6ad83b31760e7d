/- PApart, PToken. -/
import Derived.Test.YtljfkkpkcjigpaaGreatDoorBPurea
import Derived.Test.YtljfkkpkcjigpaaGreatDoorFPar2a
import Derived.Test.YtljfkkpkcjigpaaGreatDoorTNexta
set_option linter.unusedVariables false
set_option linter.unusedSimpArgs false
namespace Go.Proofs.YtljfkkpkcjigpaaGreatDoor
open Go.RowKit
set_option maxRecDepth 100000
theorem bl_beq (x y : List UInt8) : ((ba x).toList == y) = (x == y) := by rw [ByteArray.toList_eq]
set_option maxHeartbeats 2000000 in
theorem opsApart_any (x y : List UInt8) (w : World) : Calls Tryz.prog 105 #[.string (ba x), .string (ba y)] w fun e w' => e = .returned (.bool (oaF x y)) ∧ w' = w := by
  unfold oaF
  have y1 := bl_beq y [61]
  have y2 := bl_beq y [62]
  have y3 := bl_beq y [62, 61]
  have x1 := bl_beq x [60]
  have x2 := bl_beq x [62]
  by_cases h60 : x = [60]
  · subst h60
    rw [if_pos rfl]
    generalize ba y = Y at *
    cases h1 : (y == [61]) <;> cases h2 : (y == [62]) <;> cases h3 : (y == [62, 61])
    all_goals
      rw [h1] at y1
      rw [h2] at y2
      rw [h3] at y3
      clear h1 h2 h3 x1 x2
      go_enter Tryz.func105, Tryz.ntmps105
      go_wp2
      go_ret
      exact ⟨rfl, rfl⟩
  · rw [if_neg h60]
    have x1' : ((ba x).toList == [60]) = false := by rw [x1]; exact beq_eq_false_iff_ne.2 h60
    by_cases h62 : x = [62]
    · subst h62
      rw [if_pos rfl]
      generalize ba y = Y at *
      cases h1 : (y == [61])
      all_goals
        rw [h1] at y1
        clear h1 x1 x2 y2 y3
        go_enter Tryz.func105, Tryz.ntmps105
        go_wp2
        go_ret
        exact ⟨rfl, rfl⟩
    · rw [if_neg h62]
      have x2' : ((ba x).toList == [62]) = false := by rw [x2]; exact beq_eq_false_iff_ne.2 h62
      clear x1 x2 y1 y2 y3
      generalize ba y = Y at *
      generalize ba x = X at *
      go_enter Tryz.func105, Tryz.ntmps105
      go_wp2
      go_ret
      exact ⟨rfl, rfl⟩
set_option maxHeartbeats 2000000 in
theorem apart_core {a b : TT} {w : World} {q : Bool} (OA : ∀ u, Calls Tryz.prog 105 #[.string a.s, .string b.s] u fun e w' => e = .returned (.bool q) ∧ w' = u) :
    Calls Tryz.prog 63 #[.agg (tcs a.k a.n a.s a.b a.h a.r a.c a.fr a.fc), .agg (tcs b.k b.n b.s b.b b.h b.r b.c b.fr b.fc)] w fun e w' => e = .returned (.bool (if a.k = 5 then (if b.k = 5 then q else false) else (if b.k = 5 then false else true))) ∧ Below w.heap.size w w' := by
  obtain ⟨ak, an, ast, ab, ah, ar, ac, afr, afc⟩ := a
  obtain ⟨bk, bn, bs, bb, bh, br, bc, bfr, bfc⟩ := b
  simp only at OA ⊢
  by_cases h1 : ak = 5 <;> by_cases h2 : bk = 5
  · subst h1 h2
    rw [if_pos rfl, if_pos rfl]
    go_enter Tryz.func63, Tryz.ntmps63
    go_wp2_with (go_at_call 105; refine (OA _).mono ?_; rintro e w' ⟨rfl, hw⟩; obtain rfl := hw.symm; clear hw)
    go_ret
    exact ⟨rfl, bel_alloc (bel_alloc (Below.refl _ _) _) _⟩
  all_goals
    clear OA
    have g1 : (ak == 5) = decide (ak = 5) := rfl
    have g2 : (bk == 5) = decide (bk = 5) := rfl
    simp only [h1, h2, decide_true, decide_false] at g1 g2
    go_enter Tryz.func63, Tryz.ntmps63
    go_wp2
    go_ret
    refine ⟨?_, bel_alloc (bel_alloc (Below.refl _ _) _) _⟩
    simp [h1, h2]
theorem apart_any (a b : Tk.Tok) (w : World) : Calls Tryz.prog 63 #[.agg (tcs (tk a).k (tk a).n (tk a).s (tk a).b (tk a).h (tk a).r (tk a).c (tk a).fr (tk a).fc), .agg (tcs (tk b).k (tk b).n (tk b).s (tk b).b (tk b).h (tk b).r (tk b).c (tk b).fr (tk b).fc)] w fun e w' => e = .returned (.bool (apT a b)) ∧ Below w.heap.size w w' := by
  have key := fun (q : Bool) OA => apart_core (a := tk a) (b := tk b) (w := w) (q := q) OA
  cases a using Tk.Tok.cs with
  | op x =>
    cases b using Tk.Tok.cs with
    | op y => exact key (oaF x y) (fun u => opsApart_any x y u)
    | num n => exact key _ (fun u => opsApart_any x [] u)
    | str s => exact key _ (fun u => opsApart_any x s u)
    | ref r => exact key _ (fun u => opsApart_any x [] u)
    | word b' s => exact key _ (fun u => opsApart_any x s u)
    | bad n => exact key _ (fun u => opsApart_any x [] u)
  | num n =>
    cases b using Tk.Tok.cs with
    | op y => exact key _ (fun u => opsApart_any [] y u)
    | num n => exact key _ (fun u => opsApart_any [] [] u)
    | str s => exact key _ (fun u => opsApart_any [] s u)
    | ref r => exact key _ (fun u => opsApart_any [] [] u)
    | word b' s => exact key _ (fun u => opsApart_any [] s u)
    | bad n => exact key _ (fun u => opsApart_any [] [] u)
  | str s0 =>
    cases b using Tk.Tok.cs with
    | op y => exact key _ (fun u => opsApart_any s0 y u)
    | num n => exact key _ (fun u => opsApart_any s0 [] u)
    | str s => exact key _ (fun u => opsApart_any s0 s u)
    | ref r => exact key _ (fun u => opsApart_any s0 [] u)
    | word b' s => exact key _ (fun u => opsApart_any s0 s u)
    | bad n => exact key _ (fun u => opsApart_any s0 [] u)
  | ref r0 =>
    cases b using Tk.Tok.cs with
    | op y => exact key _ (fun u => opsApart_any [] y u)
    | num n => exact key _ (fun u => opsApart_any [] [] u)
    | str s => exact key _ (fun u => opsApart_any [] s u)
    | ref r => exact key _ (fun u => opsApart_any [] [] u)
    | word b' s => exact key _ (fun u => opsApart_any [] s u)
    | bad n => exact key _ (fun u => opsApart_any [] [] u)
  | word b0 s0 =>
    cases b using Tk.Tok.cs with
    | op y => exact key _ (fun u => opsApart_any s0 y u)
    | num n => exact key _ (fun u => opsApart_any s0 [] u)
    | str s => exact key _ (fun u => opsApart_any s0 s u)
    | ref r => exact key _ (fun u => opsApart_any s0 [] u)
    | word b' s => exact key _ (fun u => opsApart_any s0 s u)
    | bad n => exact key _ (fun u => opsApart_any s0 [] u)
  | bad n0 =>
    cases b using Tk.Tok.cs with
    | op y => exact key _ (fun u => opsApart_any [] y u)
    | num n => exact key _ (fun u => opsApart_any [] [] u)
    | str s => exact key _ (fun u => opsApart_any [] s u)
    | ref r => exact key _ (fun u => opsApart_any [] [] u)
    | word b' s => exact key _ (fun u => opsApart_any [] s u)
    | bad n => exact key _ (fun u => opsApart_any [] [] u)
set_option maxHeartbeats 2000000 in
theorem pbook_any (x : List UInt8) (hx : x.length ≤ 1000) (w : World) : Calls Tryz.prog 110 #[.string (ba x)] w fun e w' => e = .returned (.string (ba (if x = [] then [] else 91 :: (x ++ [93])))) ∧ w' = w := by
  by_cases h : x = []
  · subst h
    rw [if_pos rfl]
    go_enter Tryz.func110, Tryz.ntmps110
    go_wp2
    go_ret
    exact ⟨rfl, rfl⟩
  · rw [if_neg h]
    have hne : ((ba x).toList == []) = false := by rw [bl_beq]; exact beq_eq_false_iff_ne.2 h
    have e1 : (⟨#[91]⟩ : ByteArray) ++ ba x = ba (91 :: x) := app_mk [91] x
    have e2 : ba (91 :: x) ++ (⟨#[93]⟩ : ByteArray) = ba (91 :: (x ++ [93])) := app_mk (91 :: x) [93]
    have s0 : (ba x).size = x.length := size_mk x
    have s1 : (ba (91 :: x)).size = x.length + 1 := size_mk (91 :: x)
    obtain ⟨R, hR⟩ : ∃ R, R = ba (91 :: (x ++ [93])) := ⟨_, rfl⟩
    rw [← hR] at e2 ⊢
    generalize ba (91 :: x) = Y at *
    generalize ba x = X at *
    have n1 : ¬ 9223372036854775807 < 1 + x.length := by omega
    have n2 : ¬ 9223372036854775807 < x.length + 1 + 1 := by omega
    clear hR
    go_enter Tryz.func110, Tryz.ntmps110
    go_wp2
    go_ret
    exact ⟨rfl, rfl⟩
end Go.Proofs.YtljfkkpkcjigpaaGreatDoor

namespace Go.Proofs.YtljfkkpkcjigpaaGreatDoor
open Go.RowKit
set_option maxRecDepth 100000
abbrev ag (k n : Int) (s b h : ByteArray) (r c : Int) (fr fc : Bool) : Value := .agg (tcs k n s b h r c fr fc)
abbrev agO (k n : Int) (s b h : ByteArray) (r c : Int) (fr fc : Bool) : Obj := .cells (tcs k n s b h r c fr fc) 70
set_option maxHeartbeats 2000000 in
theorem ptok_num {w : World} {n : Int} {A : ByteArray} (P : ∀ u, Below w.heap.size w u → Calls Tryz.prog 107 #[.int .i64 n] u fun e w' => e = .returned (.string A) ∧ Below u.heap.size u w') :
    Calls Tryz.prog 65 #[ag 1 n noB noB noB 0 0 false false] w fun e w' => e = .returned (.string A) ∧ Below w.heap.size w w' := by
  have HB : Hid (Below w.heap.size w (w.alloc (agO 1 n noB noB noB 0 0 false false))) := bel_alloc (Below.refl _ _) _
  go_enter Tryz.func65, Tryz.ntmps65
  go_wp2_with (go_at_call 107; refine (P _ HB.out).mono ?_; rintro e w1 ⟨rfl, hs⟩; have H1 : Hid (Below w.heap.size w w1) := bel_step HB.out hs; clear hs)
  go_ret
  exact ⟨rfl, H1.out⟩
set_option maxHeartbeats 2000000 in
theorem ptok_str {w : World} {S A B R : ByteArray} {z : Nat} (hA : A.size = z) (hz : z ≤ 1000) (hB : (⟨#[34]⟩ : ByteArray) ++ A = B) (hBs : B.size = z + 1) (hR : B ++ (⟨#[34]⟩ : ByteArray) = R)
    (P : ∀ u, Below w.heap.size w u → Calls Tryz.prog 108 #[.string S, .string ⟨#[34]⟩, .string ⟨#[34, 34]⟩] u fun e w' => e = .returned (.string A) ∧ Below u.heap.size u w') :
    Calls Tryz.prog 65 #[ag 2 0 S noB noB 0 0 false false] w fun e w' => e = .returned (.string R) ∧ Below w.heap.size w w' := by
  have HB : Hid (Below w.heap.size w (w.alloc (agO 2 0 S noB noB 0 0 false false))) := bel_alloc (Below.refl _ _) _
  have n1 : ¬ 9223372036854775807 < 1 + z := by omega
  have n2 : ¬ 9223372036854775807 < z + 1 + 1 := by omega
  go_enter Tryz.func65, Tryz.ntmps65
  go_wp2_with (go_at_call 108; refine (P _ HB.out).mono ?_; rintro e w1 ⟨rfl, hs⟩; have H1 : Hid (Below w.heap.size w w1) := bel_step HB.out hs; clear hs)
  go_ret
  exact ⟨rfl, H1.out⟩
set_option maxHeartbeats 2000000 in
theorem ptok_ref {w : World} {b h A : ByteArray} {r c : Int} {fr fc : Bool} (P : ∀ u, Below w.heap.size w u → Calls Tryz.prog 109 #[refV b h r c fr fc] u fun e w' => e = .returned (.string A) ∧ Below u.heap.size u w') :
    Calls Tryz.prog 65 #[ag 3 0 noB b h r c fr fc] w fun e w' => e = .returned (.string A) ∧ Below w.heap.size w w' := by
  have HB : Hid (Below w.heap.size w (w.alloc (agO 3 0 noB b h r c fr fc))) := bel_alloc (Below.refl _ _) _
  go_enter Tryz.func65, Tryz.ntmps65
  go_wp2_with (go_at_call 109; refine (P _ HB.out).mono ?_; rintro e w1 ⟨rfl, hs⟩; have H1 : Hid (Below w.heap.size w w1) := bel_step HB.out hs; clear hs)
  go_ret
  exact ⟨rfl, H1.out⟩
set_option maxHeartbeats 2000000 in
theorem ptok_op {w : World} {S : ByteArray} : Calls Tryz.prog 65 #[ag 5 0 S noB noB 0 0 false false] w fun e w' => e = .returned (.string S) ∧ Below w.heap.size w w' := by
  go_enter Tryz.func65, Tryz.ntmps65
  go_wp2
  go_ret
  exact ⟨rfl, bel_alloc (Below.refl _ _) _⟩
set_option maxHeartbeats 2000000 in
theorem ptok_bad {w : World} {n : Int} {A : ByteArray} (P : ∀ u, Below w.heap.size w u → Calls Tryz.prog 103 #[.agg #[.int .i64 4, .int .i64 n, .string noB]] u fun e w' => e = .returned (.string A) ∧ Below u.heap.size u w') :
    Calls Tryz.prog 65 #[ag 6 n noB noB noB 0 0 false false] w fun e w' => e = .returned (.string A) ∧ Below w.heap.size w w' := by
  have HB : Hid (Below w.heap.size w (w.alloc (agO 6 n noB noB noB 0 0 false false))) := bel_alloc (Below.refl _ _) _
  go_enter Tryz.func65, Tryz.ntmps65
  go_wp2_with (go_at_call 103; refine (P _ HB.out).mono ?_; rintro e w1 ⟨rfl, hs⟩; have H1 : Hid (Below w.heap.size w w1) := bel_step HB.out hs; clear hs)
  go_ret
  exact ⟨rfl, H1.out⟩
set_option maxHeartbeats 4000000 in
theorem ptok_word {w : World} {b S B R : ByteArray} (hz : ¬ 9223372036854775807 < B.size + S.size) (hR : B ++ S = R) (P : ∀ u, Calls Tryz.prog 110 #[.string b] u fun e w' => e = .returned (.string B) ∧ w' = u) :
    Calls Tryz.prog 65 #[ag 4 0 S b noB 0 0 false false] w fun e w' => e = .returned (.string R) ∧ Below w.heap.size w w' := by
  have HC : Hid ((w.alloc (agO 4 0 S b noB 0 0 false false)).drew.cell? ⟨w.heap.size, 3, none⟩ = some (.string b) ∧ (w.alloc (agO 4 0 S b noB 0 0 false false)).drew.cell? ⟨w.heap.size, 2, none⟩ = some (.string S)) := by
    have hh : (w.alloc (agO 4 0 S b noB 0 0 false false)).drew.heap[w.heap.size]? = some (agO 4 0 S b noB 0 0 false false) := heap_alloc_new w _
    exact ⟨by rw [cell_of_row _ _ 3 _ _ _ hh]; rfl, by rw [cell_of_row _ _ 2 _ _ _ hh]; rfl⟩
  have HB : Hid (Below w.heap.size w (w.alloc (agO 4 0 S b noB 0 0 false false)).drew) := (bel_alloc (Below.refl _ _) _).drew
  go_enter Tryz.func65, Tryz.ntmps65
  go_wp2
  refine wp_region_d (fun u => u.cell? ⟨w.heap.size, 3, none⟩ = some (.string b) ∧ u.cell? ⟨w.heap.size, 2, none⟩ = some (.string S)) (fun _ => false) (by kernel_rfl) ?_
  refine wpAnyD_pured (i := 0) (v := .pointer (some ⟨w.heap.size, 3, none⟩)) rfl rfl (by kernel_rfl) (by kernel_rfl) (by kernel_rfl) (fun _ _ _ h => h) (by go_simp) (by intro u; go_simp) ?_
  try simp only [Act.put, List.setIfInBounds_toArray, List.set_cons_zero, List.set_cons_succ]
  refine wpAnyD_pured (i := 1) (v := .pointer (some ⟨w.heap.size, 3, none⟩)) rfl rfl (by kernel_rfl) (by kernel_rfl) (by kernel_rfl) (fun _ _ _ h => h) (by go_simp) (by intro u; go_simp) ?_
  try simp only [Act.put, List.setIfInBounds_toArray, List.set_cons_zero, List.set_cons_succ]
  refine wpAnyD_loadd (i := 2) (v := .string b) rfl rfl (by kernel_rfl) (by kernel_rfl) (by kernel_rfl) (by kernel_rfl) (fun _ _ _ h => h) (by go_simp) (fun u hSu => by obtain ⟨k0, k1⟩ := hSu; go_simp) HC.out ?_
  try simp only [Act.put, List.setIfInBounds_toArray, List.set_cons_zero, List.set_cons_succ]
  refine wpAnyD_pured (i := 4) (v := .pointer (some ⟨w.heap.size, 2, none⟩)) rfl rfl (by kernel_rfl) (by kernel_rfl) (by kernel_rfl) (fun _ _ _ h => h) (by go_simp) (by intro u; go_simp) ?_
  try simp only [Act.put, List.setIfInBounds_toArray, List.set_cons_zero, List.set_cons_succ]
  refine wpAnyD_loadd (i := 5) (v := .string S) rfl rfl (by kernel_rfl) (by kernel_rfl) (by kernel_rfl) (by kernel_rfl) (fun _ _ _ h => h) (by go_simp) (fun u hSu => by obtain ⟨k0, k1⟩ := hSu; go_simp) HC.out ?_
  try simp only [Act.put, List.setIfInBounds_toArray, List.set_cons_zero, List.set_cons_succ]
  refine wpAnyD_one (i := 3) (by kernel_rfl) rfl ?_
  intro K hK
  go_simp
  refine (P _).mono ?_
  rintro e w' ⟨rfl, hw⟩
  obtain rfl := hw.symm
  clear hw
  refine hK _ _ (.inr fun h => h) ?_
  clear hK
  try simp only [Act.put, List.setIfInBounds_toArray, List.set_cons_zero, List.set_cons_succ]
  refine wpAnyD_pured (i := 6) (v := .string R) rfl rfl (by kernel_rfl) (by kernel_rfl) (by kernel_rfl) (fun _ _ _ h => h) (by go_simp) (by intro u; go_simp) ?_
  try simp only [Act.put, List.setIfInBounds_toArray, List.set_cons_zero, List.set_cons_succ]
  refine wpAnyD_pured (i := 7) (v := .string R) rfl rfl (by kernel_rfl) (by kernel_rfl) (by kernel_rfl) (fun _ _ _ h => h) (by go_simp) (by intro u; go_simp) ?_
  try simp only [Act.put, List.setIfInBounds_toArray, List.set_cons_zero, List.set_cons_succ]
  refine wpAnyD_done (by kernel_rfl) ?_ _
  go_wp2
  go_ret
  exact ⟨rfl, HB.out⟩
theorem pair_ba (a b : List UInt8) : ba a ++ ba b = ba (a ++ b) := app_mk a b
theorem ptok_any (t : Tk.Tok) (ht : Tk.okT gnF trB okN t) (hs : smT t) (w : World) (T : Tab9 w) :
    Calls Tryz.prog 65 #[.agg (tcs (tk t).k (tk t).n (tk t).s (tk t).b (tk t).h (tk t).r (tk t).c (tk t).fr (tk t).fc)] w fun e w' => e = .returned (.string (ba (txT t))) ∧ Below w.heap.size w w' := by
  cases t using Tk.Tok.cs with
  | num n => exact ptok_num fun u hu => print_any n ⟨by have := ht.1; omega, by have := ht.2; omega⟩ u (T.below hu).t.t.p
  | str s =>
    have hl : s.length ≤ 255 := hs
    have hq := repl_eq s
    have hql := quoW_len s
    have hlen : (Lib.replaceAll s [34] [34, 34]).length ≤ 510 := by
      have := congrArg List.length hq
      simp at this
      omega
    have e1 : (⟨#[34]⟩ : ByteArray) ++ ba (Lib.replaceAll s [34] [34, 34]) = ba (34 :: Lib.replaceAll s [34] [34, 34]) := pair_ba [34] _
    have e2 : ba (34 :: Lib.replaceAll s [34] [34, 34]) ++ (⟨#[34]⟩ : ByteArray) = ba (txT (.str s)) := by
      have := pair_ba (34 :: Lib.replaceAll s [34] [34, 34]) [34]
      rw [List.cons_append, hq] at this
      exact this
    refine ptok_str (size_mk _) (by omega) e1 (size_mk _) e2 fun u hu => ?_
    obtain ⟨m, hm⟩ := (T.below hu).m
    exact Tryz.strings_ReplaceAll (ba s) ⟨#[34]⟩ ⟨#[34, 34]⟩ m u (by rw [size_mk]; omega) hm (by show 1 ≤ 1; omega) (by
      have := Lib.countB_le ⟨#[34]⟩ (by show 1 ≤ 1; omega) (ba s).size (ba s) (Nat.le_refl _)
      rw [size_mk] at this ⊢
      show s.length + Lib.countB (ba s) ⟨#[34]⟩ * 2 ≤ _
      omega)
  | ref x =>
    obtain ⟨hc, h1, h2⟩ := ht
    refine ptok_ref fun u hu => ?_
    have hb : x.book.length ≤ 16 := by
      rcases h2 with h | ⟨h, _⟩
      · rw [h]; simp
      · exact (gn_parts h).1
    have hsh : x.sheet.length ≤ 16 := by
      rcases h1 with h | h
      · rw [h]; simp
      · exact (gn_parts h).1
    have := aprint_any (ba x.book) (ba x.sheet) x.cell.row x.cell.col x.cell.fr x.cell.fc (by rw [size_mk]; omega) (by rw [size_mk]; omega) u (T.below hu).t.t
    have hg : goodB (ba x.book) (ba x.sheet) x.cell.row x.cell.col = true := by
      unfold goodB inB
      obtain ⟨i1, i2, i3, i4⟩ := hc
      rw [decide_eq_true (show (1 : Int) ≤ x.cell.row by omega), decide_eq_true (show (x.cell.row : Int) ≤ 64 by omega), decide_eq_true (show (1 : Int) ≤ x.cell.col by omega), decide_eq_true (show (x.cell.col : Int) ≤ 26 by omega)]
      rw [ByteArray.toList_eq, ByteArray.toList_eq]
      show (true && if x.sheet = [] then decide (x.book = []) else gnF x.sheet && (decide (x.book = []) || gnF x.book)) = true
      rw [Bool.true_and]
      split
      · rename_i e
        rcases h2 with h | ⟨_, h⟩
        · exact decide_eq_true h
        · exact absurd e h
      · rename_i e
        rw [h1.resolve_left e]
        rcases h2 with h | ⟨h, _⟩
        · simp [h]
        · simp [h]
    rw [show prB (ba x.book) (ba x.sheet) x.cell.row x.cell.col x.cell.fr x.cell.fc = ba (txT (.ref x)) by
      unfold prB
      rw [if_pos hg]
      rfl] at this
    exact this
  | word b s =>
    have hb : b.length ≤ 16 := by
      rcases ht with ⟨rfl, _⟩ | ⟨h, _⟩
      · simp
      · exact (gn_parts h).1
    have hsl := tx_len ht hs
    refine ptok_word (b := ba b) (S := ba s) (B := ba (if b = [] then [] else 91 :: (b ++ [93]))) ?_ ?_ (fun u => pbook_any b (by omega) u)
    · rw [size_mk, size_mk]
      have h1 : (if b = [] then ([] : List UInt8) else 91 :: (b ++ [93])).length ≤ 18 := by split <;> simp <;> omega
      have h2 : s.length ≤ 600 := by
        have : (if b = [] then s else 91 :: (b ++ 93 :: s)).length ≤ 600 := hsl
        split at this
        · exact this
        · simp at this; omega
      omega
    · rw [pair_ba]
      show ba _ = ba (if b = [] then s else 91 :: (b ++ 93 :: s))
      by_cases e : b = []
      · rw [if_pos e, if_pos e]; rfl
      · rw [if_neg e, if_neg e]; simp
  | op x => exact ptok_op
  | bad n => exact ptok_bad fun u hu => badtext n ht.1 ht.2 u (T.below hu).t.t
end Go.Proofs.YtljfkkpkcjigpaaGreatDoor
