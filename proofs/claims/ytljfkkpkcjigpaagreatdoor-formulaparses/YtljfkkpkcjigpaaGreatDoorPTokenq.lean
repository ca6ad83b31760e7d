/- FWhole, PApart, PToken. -/
import Derived.Test.YtljfkkpkcjigpaaGreatDoorFAllq
import Derived.Test.YtljfkkpkcjigpaaGreatDoorFPure2q
import Derived.Test.YtljfkkpkcjigpaaGreatDoorPTokq
import Derived.Test.YtljfkkpkcjigpaaGreatDoorTNextq
set_option linter.unusedVariables false
set_option linter.unusedSimpArgs false
namespace Go.Proofs.YtljfkkpkcjigpaaGreatDoor
open Go.RowKit Go.Fm
set_option maxRecDepth 100000
def allF (ts : List Tk.Tok) : Option T := match PP 1 ts with
  | some (t, []) => if dT t ≤ 24 then some t else none
  | _ => none
def WO (W : World) (b : Nat) (w : World) (o : Option T) (e : Ending) (w' : World) : Prop :=
  match o with
  | none => e = .panicked formP ∧ w.grownBy w' (some b)
  | some t => ∃ es, e = .returned (.agg es) ∧ NK (fun i => w.heap.size ≤ i) w' es t ∧ w.grownBy w' (some b) ∧ zT t ≤ 256
theorem wpList_load_g {P : Program} {ops : Array Oper} {rest : List Oper} {o : Oper} {a : Act} {w : World} {Q : Exit → Act → World → Prop} (ty : TypeId) (x : Operand) (ho : o.op = .load ty x)
    (p v : Value) (hx : a.eval x = p) (hrun : (Instr.loadAt ty p).run P w = .ok v w) (hw : Region.wanted o (yielded ops a.tmps) = true) (h : wpList P ops Q rest (a.put o.dst v) w) : wpList P ops Q (o :: rest) a w := by
  refine wpList_step fun K hK => ?_
  rw [if_pos hw]
  unfold Oper.wp execOp
  simp only [ho, hx, Sem.run_bind, Sem.run_pure, hrun, Result.andThen_ok]
  exact hK _ _ h
section
variable {W w : World} {b : Nat}
set_option maxHeartbeats 4000000 in
theorem whole_none (C : Calls Tryz.prog 42 #[.pointer (some ⟨b, 0, none⟩)] (w0 w) fun e w' => e = .panicked formP ∧ (w0 w).grownBy w' (some b)) :
    Calls Tryz.prog 25 #[.pointer (some ⟨b, 0, none⟩)] w fun e w' => e = .panicked formP ∧ w.grownBy w' (some b) := by
  go_enter Tryz.func25, Tryz.ntmps25
  go_wp2_with (go_at_call 42; refine C.mono ?_; rintro e w1 ⟨rfl, hg⟩)
  exact ⟨rfl, rfl, grown_trans (World.grownBy_alloc _ _ _) hg⟩
theorem whole_step {t : T} {r : List Tk.Tok} (hb : b < w.heap.size) (C : Calls Tryz.prog 42 #[.pointer (some ⟨b, 0, none⟩)] (w0 w) (PO W b (w0 w) (some (t, r)))) :
    Calls Tryz.prog 42 #[.pointer (some ⟨b, 0, none⟩)] (w0 w) fun e w1 => ∃ es a c, e = .returned (.agg es) ∧ Hid ((Instr.storeAt 28 (.pointer (some ⟨w1.heap.size, 0, none⟩)) (.agg es)).run Tryz.prog (w1.alloc (.cells nd0 28)) = .ok () (w1.alloc (.cells es 28))) ∧
      (w1.alloc (.cells es 28)).cell? ⟨b, 0, none⟩ = some (.slice a r.length c) ∧ Hid (NK (fun i => w.heap.size < i) (w1.alloc (.cells es 28)) es t) ∧ Hid (Sp W b r (w0 w) (w1.alloc (.cells es 28))) ∧ Hid ((w1.alloc (.cells es 28)).heap[w1.heap.size]? = some (.cells es 28)) := C.mono (by
  rintro e w1 ⟨es, rfl, h1, h2⟩
  have hS : Sp W b r (w0 w) (w1.alloc (.cells es 28)) := h2.alloc _
  obtain ⟨v, hv, hts⟩ := hS.1.blk
  obtain ⟨a, c, rfl⟩ := hts.slice
  rw [List.length_map] at hv
  refine ⟨es, a, c, rfl, (nbox w1 h1.nt).1, by rw [cell_of_row _ b 0 _ 50 (0, 0) hv]; rfl, ?_, hS, heap_alloc_new _ _⟩
  exact (h1.mono (K' := fun i => w.heap.size < i) (fun i hi _ => by simp at hi; omega)).below (bel_alloc (Below.refl _ _) (.cells es 28)))
set_option maxHeartbeats 4000000 in
theorem whole_more {t : T} {r : List Tk.Tok} (hb : b < w.heap.size) (hr : 0 < r.length) (C : Calls Tryz.prog 42 #[.pointer (some ⟨b, 0, none⟩)] (w0 w) (PO W b (w0 w) (some (t, r)))) :
    Calls Tryz.prog 25 #[.pointer (some ⟨b, 0, none⟩)] w fun e w' => e = .panicked formP ∧ w.grownBy w' (some b) := by
  have C' := whole_step hb C
  have hri : decide ((0 : Int) < (r.length : Int)) = true := by simp; omega
  have hri2 : (0 : Int) < (r.length : Int) := by omega
  clear C
  generalize r.length = n at *
  go_enter Tryz.func25, Tryz.ntmps25
  go_wp2_with (first
    | (go_at_call 42; refine C'.mono ?_; rintro e w1 ⟨es, a, c, rfl, RS0, c0, HN, HS, H3⟩)
    | (refine wpList_store_run rfl 28 _ _ rfl _ _ _ rfl rfl RS0.out ?_))
  exact ⟨rfl, rfl, grown_trans (World.grownBy_alloc _ _ _) HS.out.2⟩
set_option maxHeartbeats 4000000 in
theorem whole_deep {t : T} (hb : b < w.heap.size) (hz : zT t ≤ 1000000) (hd : ¬ dT t ≤ 24) (C : Calls Tryz.prog 42 #[.pointer (some ⟨b, 0, none⟩)] (w0 w) (PO W b (w0 w) (some (t, [])))) :
    Calls Tryz.prog 25 #[.pointer (some ⟨b, 0, none⟩)] w fun e w' => e = .panicked formP ∧ w.grownBy w' (some b) := by
  have C' := whole_step hb C
  have hdi : (24 : Int) < ((dT t : Nat) : Int) := by omega
  have DP := fun u es h => depth_any t hz u es h
  clear C hd
  generalize dT t = d at *
  go_enter Tryz.func25, Tryz.ntmps25
  go_wp2_with (first
    | (go_at_call 42; refine C'.mono ?_; rintro e w1 ⟨es, a, c, rfl, RS0, c0, HN, HS, H3⟩; have RL := HN.out.lod H3.out)
    | (refine wpList_store_run rfl 28 _ _ rfl _ _ _ rfl rfl RS0.out ?_; clear RS0)
    | (refine wpList_load_g 28 _ rfl _ _ rfl RL.out (by go_simp) ?_)
    | (go_at_call 20; refine (DP _ _ HN.out.nt).mono ?_; rintro e w3 ⟨rfl, hs⟩; have HS3 : Hid (Sp W b [] (w0 w) w3) := HS.out.bel hs; clear hs))
  all_goals exact ⟨rfl, rfl, grown_trans (World.grownBy_alloc _ _ _) HS3.out.2⟩
set_option maxHeartbeats 4000000 in
theorem whole_yes {t : T} (hb : b < w.heap.size) (hz : zT t ≤ 1000000) (hd : dT t ≤ 24) (C : Calls Tryz.prog 42 #[.pointer (some ⟨b, 0, none⟩)] (w0 w) (PO W b (w0 w) (some (t, [])))) :
    Calls Tryz.prog 25 #[.pointer (some ⟨b, 0, none⟩)] w fun e w' => ∃ es, e = .returned (.agg es) ∧ NK (fun i => w.heap.size ≤ i) w' es t ∧ w.grownBy w' (some b) := by
  have C' := whole_step hb C
  have hdi : ¬ (24 : Int) < ((dT t : Nat) : Int) := by omega
  have DP := fun u es h => depth_any t hz u es h
  have FIN := fun (u : World) (es : Array Value) (hN : NK (fun i => w.heap.size < i) u es t) (hu : Sp W b [] (w0 w) u) => fin_all hb hN hu
  clear C hd
  generalize dT t = d at *
  go_enter Tryz.func25, Tryz.ntmps25
  go_wp2_with (first
    | (go_at_call 42; refine C'.mono ?_; rintro e w1 ⟨es, a, c, rfl, RS0, c0, HN, HS, H3⟩; have RL := HN.out.lod H3.out)
    | (refine wpList_store_run rfl 28 _ _ rfl _ _ _ rfl rfl RS0.out ?_; clear RS0)
    | (refine wpList_load_g 28 _ rfl _ _ rfl RL.out (by go_simp) ?_)
    | (go_at_call 20; refine (DP _ _ HN.out.nt).mono ?_; rintro e w3 ⟨rfl, hs⟩; obtain ⟨RS, HG, HZ, HF⟩ := FIN _ _ (HN.out.below hs) (HS.out.bel hs); have RL3 := HN.out.lod ((hs.block _ (lt_of H3.out)).trans H3.out); clear hs)
    | (refine wpList_load_run rfl 28 _ rfl _ _ rfl RL3.out ?_)
    | (refine wpList_store_run rfl 28 _ _ rfl _ _ _ rfl rfl RS.out ?_))
  exact bodyPost_ret (nd_res HG.out HZ.out rfl rfl) rfl ⟨_, rfl, HF.out.1, HF.out.2.2⟩
end
theorem whole_any {W w : World} {b : Nat} {ts : List Tk.Tok} (hn : ts.length ≤ 256) (X : PR W b ts w) : Calls Tryz.prog 25 #[.pointer (some ⟨b, 0, none⟩)] w (WO W b w (allF ts)) := by
  have C := compared_any hn (X.alloc (.cells nd0 28))
  have hb := X.lt
  unfold allF
  cases hP : PP 1 ts with
  | none => rw [hP] at C; exact whole_none C
  | some p =>
    obtain ⟨t, r⟩ := p
    rw [hP] at C
    have hz := ps_few upF trF (by omega) _ t r hP
    cases r with
    | nil =>
      simp only
      by_cases hd : dT t ≤ 24
      · rw [if_pos hd]
        exact (whole_yes hb (by omega) hd C).mono (by rintro e w' ⟨es, rfl, h1, h2⟩; exact ⟨es, rfl, h1, h2, by simp at hz; omega⟩)
      · rw [if_neg hd]; exact whole_deep hb (by omega) hd C
    | cons x r => exact whole_more hb (by simp) C
end Go.Proofs.YtljfkkpkcjigpaaGreatDoor

namespace Go.Proofs.YtljfkkpkcjigpaaGreatDoor
open Go.RowKit
set_option maxRecDepth 100000
theorem bl_beq (x y : List UInt8) : ((ba x).toList == y) = (x == y) := by rw [ByteArray.toList_eq]
set_option maxHeartbeats 2000000 in
theorem opsApart_any (x y : List UInt8) (w : World) : Calls Tryz.prog 105 #[.string (ba x), .string (ba y)] w fun e w' => e = .returned (.bool (oaF x y)) ∧ w' = w := by
  unfold oaF
  have y1 := bl_beq y [61]
  have y2 := bl_beq y [62]
  have y3 := bl_beq y [62, 61]
  have x1 := bl_beq x [60]
  have x2 := bl_beq x [62]
  by_cases h60 : x = [60]
  · subst h60
    rw [if_pos rfl]
    generalize ba y = Y at *
    cases h1 : (y == [61]) <;> cases h2 : (y == [62]) <;> cases h3 : (y == [62, 61])
    all_goals
      rw [h1] at y1
      rw [h2] at y2
      rw [h3] at y3
      clear h1 h2 h3 x1 x2
      go_enter Tryz.func105, Tryz.ntmps105
      go_wp2
      go_ret
      exact ⟨rfl, rfl⟩
  · rw [if_neg h60]
    have x1' : ((ba x).toList == [60]) = false := by rw [x1]; exact beq_eq_false_iff_ne.2 h60
    by_cases h62 : x = [62]
    · subst h62
      rw [if_pos rfl]
      generalize ba y = Y at *
      cases h1 : (y == [61])
      all_goals
        rw [h1] at y1
        clear h1 x1 x2 y2 y3
        go_enter Tryz.func105, Tryz.ntmps105
        go_wp2
        go_ret
        exact ⟨rfl, rfl⟩
    · rw [if_neg h62]
      have x2' : ((ba x).toList == [62]) = false := by rw [x2]; exact beq_eq_false_iff_ne.2 h62
      clear x1 x2 y1 y2 y3
      generalize ba y = Y at *
      generalize ba x = X at *
      go_enter Tryz.func105, Tryz.ntmps105
      go_wp2
      go_ret
      exact ⟨rfl, rfl⟩
set_option maxHeartbeats 2000000 in
theorem apart_core {a b : TT} {w : World} {q : Bool} (OA : ∀ u, Calls Tryz.prog 105 #[.string a.s, .string b.s] u fun e w' => e = .returned (.bool q) ∧ w' = u) :
    Calls Tryz.prog 63 #[.agg (tcs a.k a.n a.s a.b a.h a.r a.c a.fr a.fc), .agg (tcs b.k b.n b.s b.b b.h b.r b.c b.fr b.fc)] w fun e w' => e = .returned (.bool (if a.k = 5 then (if b.k = 5 then q else false) else (if b.k = 5 then false else true))) ∧ Below w.heap.size w w' := by
  obtain ⟨ak, an, ast, ab, ah, ar, ac, afr, afc⟩ := a
  obtain ⟨bk, bn, bs, bb, bh, br, bc, bfr, bfc⟩ := b
  simp only at OA ⊢
  by_cases h1 : ak = 5 <;> by_cases h2 : bk = 5
  · subst h1 h2
    rw [if_pos rfl, if_pos rfl]
    go_enter Tryz.func63, Tryz.ntmps63
    go_wp2_with (go_at_call 105; refine (OA _).mono ?_; rintro e w' ⟨rfl, hw⟩; obtain rfl := hw.symm; clear hw)
    go_ret
    exact ⟨rfl, bel_alloc (bel_alloc (Below.refl _ _) _) _⟩
  all_goals
    clear OA
    have g1 : (ak == 5) = decide (ak = 5) := rfl
    have g2 : (bk == 5) = decide (bk = 5) := rfl
    simp only [h1, h2, decide_true, decide_false] at g1 g2
    go_enter Tryz.func63, Tryz.ntmps63
    go_wp2
    go_ret
    refine ⟨?_, bel_alloc (bel_alloc (Below.refl _ _) _) _⟩
    simp [h1, h2]
theorem apart_any (a b : Tk.Tok) (w : World) : Calls Tryz.prog 63 #[.agg (tcs (tk a).k (tk a).n (tk a).s (tk a).b (tk a).h (tk a).r (tk a).c (tk a).fr (tk a).fc), .agg (tcs (tk b).k (tk b).n (tk b).s (tk b).b (tk b).h (tk b).r (tk b).c (tk b).fr (tk b).fc)] w fun e w' => e = .returned (.bool (apT a b)) ∧ Below w.heap.size w w' := by
  have key := fun (q : Bool) OA => apart_core (a := tk a) (b := tk b) (w := w) (q := q) OA
  cases a using Tk.Tok.cs with
  | op x =>
    cases b using Tk.Tok.cs with
    | op y => exact key (oaF x y) (fun u => opsApart_any x y u)
    | num n => exact key _ (fun u => opsApart_any x [] u)
    | str s => exact key _ (fun u => opsApart_any x s u)
    | ref r => exact key _ (fun u => opsApart_any x [] u)
    | word b' s => exact key _ (fun u => opsApart_any x s u)
    | bad n => exact key _ (fun u => opsApart_any x [] u)
  | num n =>
    cases b using Tk.Tok.cs with
    | op y => exact key _ (fun u => opsApart_any [] y u)
    | num n => exact key _ (fun u => opsApart_any [] [] u)
    | str s => exact key _ (fun u => opsApart_any [] s u)
    | ref r => exact key _ (fun u => opsApart_any [] [] u)
    | word b' s => exact key _ (fun u => opsApart_any [] s u)
    | bad n => exact key _ (fun u => opsApart_any [] [] u)
  | str s0 =>
    cases b using Tk.Tok.cs with
    | op y => exact key _ (fun u => opsApart_any s0 y u)
    | num n => exact key _ (fun u => opsApart_any s0 [] u)
    | str s => exact key _ (fun u => opsApart_any s0 s u)
    | ref r => exact key _ (fun u => opsApart_any s0 [] u)
    | word b' s => exact key _ (fun u => opsApart_any s0 s u)
    | bad n => exact key _ (fun u => opsApart_any s0 [] u)
  | ref r0 =>
    cases b using Tk.Tok.cs with
    | op y => exact key _ (fun u => opsApart_any [] y u)
    | num n => exact key _ (fun u => opsApart_any [] [] u)
    | str s => exact key _ (fun u => opsApart_any [] s u)
    | ref r => exact key _ (fun u => opsApart_any [] [] u)
    | word b' s => exact key _ (fun u => opsApart_any [] s u)
    | bad n => exact key _ (fun u => opsApart_any [] [] u)
  | word b0 s0 =>
    cases b using Tk.Tok.cs with
    | op y => exact key _ (fun u => opsApart_any s0 y u)
    | num n => exact key _ (fun u => opsApart_any s0 [] u)
    | str s => exact key _ (fun u => opsApart_any s0 s u)
    | ref r => exact key _ (fun u => opsApart_any s0 [] u)
    | word b' s => exact key _ (fun u => opsApart_any s0 s u)
    | bad n => exact key _ (fun u => opsApart_any s0 [] u)
  | bad n0 =>
    cases b using Tk.Tok.cs with
    | op y => exact key _ (fun u => opsApart_any [] y u)
    | num n => exact key _ (fun u => opsApart_any [] [] u)
    | str s => exact key _ (fun u => opsApart_any [] s u)
    | ref r => exact key _ (fun u => opsApart_any [] [] u)
    | word b' s => exact key _ (fun u => opsApart_any [] s u)
    | bad n => exact key _ (fun u => opsApart_any [] [] u)
set_option maxHeartbeats 2000000 in
theorem pbook_any (x : List UInt8) (hx : x.length ≤ 1000) (w : World) : Calls Tryz.prog 110 #[.string (ba x)] w fun e w' => e = .returned (.string (ba (if x = [] then [] else 91 :: (x ++ [93])))) ∧ w' = w := by
  by_cases h : x = []
  · subst h
    rw [if_pos rfl]
    go_enter Tryz.func110, Tryz.ntmps110
    go_wp2
    go_ret
    exact ⟨rfl, rfl⟩
  · rw [if_neg h]
    have hne : ((ba x).toList == []) = false := by rw [bl_beq]; exact beq_eq_false_iff_ne.2 h
    have e1 : (⟨#[91]⟩ : ByteArray) ++ ba x = ba (91 :: x) := app_mk [91] x
    have e2 : ba (91 :: x) ++ (⟨#[93]⟩ : ByteArray) = ba (91 :: (x ++ [93])) := app_mk (91 :: x) [93]
    have s0 : (ba x).size = x.length := size_mk x
    have s1 : (ba (91 :: x)).size = x.length + 1 := size_mk (91 :: x)
    obtain ⟨R, hR⟩ : ∃ R, R = ba (91 :: (x ++ [93])) := ⟨_, rfl⟩
    rw [← hR] at e2 ⊢
    generalize ba (91 :: x) = Y at *
    generalize ba x = X at *
    have n1 : ¬ 9223372036854775807 < 1 + x.length := by omega
    have n2 : ¬ 9223372036854775807 < x.length + 1 + 1 := by omega
    clear hR
    go_enter Tryz.func110, Tryz.ntmps110
    go_wp2
    go_ret
    exact ⟨rfl, rfl⟩
end Go.Proofs.YtljfkkpkcjigpaaGreatDoor

namespace Go.Proofs.YtljfkkpkcjigpaaGreatDoor
open Go.RowKit
set_option maxRecDepth 100000
abbrev ag (k n : Int) (s b h : ByteArray) (r c : Int) (fr fc : Bool) : Value := .agg (tcs k n s b h r c fr fc)
abbrev agO (k n : Int) (s b h : ByteArray) (r c : Int) (fr fc : Bool) : Obj := .cells (tcs k n s b h r c fr fc) 70
set_option maxHeartbeats 2000000 in
theorem ptok_num {w : World} {n : Int} {A : ByteArray} (P : ∀ u, Below w.heap.size w u → Calls Tryz.prog 107 #[.int .i64 n] u fun e w' => e = .returned (.string A) ∧ Below u.heap.size u w') :
    Calls Tryz.prog 65 #[ag 1 n noB noB noB 0 0 false false] w fun e w' => e = .returned (.string A) ∧ Below w.heap.size w w' := by
  have HB : Hid (Below w.heap.size w (w.alloc (agO 1 n noB noB noB 0 0 false false))) := bel_alloc (Below.refl _ _) _
  go_enter Tryz.func65, Tryz.ntmps65
  go_wp2_with (go_at_call 107; refine (P _ HB.out).mono ?_; rintro e w1 ⟨rfl, hs⟩; have H1 : Hid (Below w.heap.size w w1) := bel_step HB.out hs; clear hs)
  go_ret
  exact ⟨rfl, H1.out⟩
set_option maxHeartbeats 2000000 in
theorem ptok_str {w : World} {S A B R : ByteArray} {z : Nat} (hA : A.size = z) (hz : z ≤ 1000) (hB : (⟨#[34]⟩ : ByteArray) ++ A = B) (hBs : B.size = z + 1) (hR : B ++ (⟨#[34]⟩ : ByteArray) = R)
    (P : ∀ u, Below w.heap.size w u → Calls Tryz.prog 108 #[.string S, .string ⟨#[34]⟩, .string ⟨#[34, 34]⟩] u fun e w' => e = .returned (.string A) ∧ Below u.heap.size u w') :
    Calls Tryz.prog 65 #[ag 2 0 S noB noB 0 0 false false] w fun e w' => e = .returned (.string R) ∧ Below w.heap.size w w' := by
  have HB : Hid (Below w.heap.size w (w.alloc (agO 2 0 S noB noB 0 0 false false))) := bel_alloc (Below.refl _ _) _
  have n1 : ¬ 9223372036854775807 < 1 + z := by omega
  have n2 : ¬ 9223372036854775807 < z + 1 + 1 := by omega
  go_enter Tryz.func65, Tryz.ntmps65
  go_wp2_with (go_at_call 108; refine (P _ HB.out).mono ?_; rintro e w1 ⟨rfl, hs⟩; have H1 : Hid (Below w.heap.size w w1) := bel_step HB.out hs; clear hs)
  go_ret
  exact ⟨rfl, H1.out⟩
set_option maxHeartbeats 2000000 in
theorem ptok_ref {w : World} {b h A : ByteArray} {r c : Int} {fr fc : Bool} (P : ∀ u, Below w.heap.size w u → Calls Tryz.prog 109 #[refV b h r c fr fc] u fun e w' => e = .returned (.string A) ∧ Below u.heap.size u w') :
    Calls Tryz.prog 65 #[ag 3 0 noB b h r c fr fc] w fun e w' => e = .returned (.string A) ∧ Below w.heap.size w w' := by
  have HB : Hid (Below w.heap.size w (w.alloc (agO 3 0 noB b h r c fr fc))) := bel_alloc (Below.refl _ _) _
  go_enter Tryz.func65, Tryz.ntmps65
  go_wp2_with (go_at_call 109; refine (P _ HB.out).mono ?_; rintro e w1 ⟨rfl, hs⟩; have H1 : Hid (Below w.heap.size w w1) := bel_step HB.out hs; clear hs)
  go_ret
  exact ⟨rfl, H1.out⟩
set_option maxHeartbeats 2000000 in
theorem ptok_op {w : World} {S : ByteArray} : Calls Tryz.prog 65 #[ag 5 0 S noB noB 0 0 false false] w fun e w' => e = .returned (.string S) ∧ Below w.heap.size w w' := by
  go_enter Tryz.func65, Tryz.ntmps65
  go_wp2
  go_ret
  exact ⟨rfl, bel_alloc (Below.refl _ _) _⟩
set_option maxHeartbeats 2000000 in
theorem ptok_bad {w : World} {n : Int} {A : ByteArray} (P : ∀ u, Below w.heap.size w u → Calls Tryz.prog 103 #[.agg #[.int .i64 4, .int .i64 n, .string noB]] u fun e w' => e = .returned (.string A) ∧ Below u.heap.size u w') :
    Calls Tryz.prog 65 #[ag 6 n noB noB noB 0 0 false false] w fun e w' => e = .returned (.string A) ∧ Below w.heap.size w w' := by
  have HB : Hid (Below w.heap.size w (w.alloc (agO 6 n noB noB noB 0 0 false false))) := bel_alloc (Below.refl _ _) _
  go_enter Tryz.func65, Tryz.ntmps65
  go_wp2_with (go_at_call 103; refine (P _ HB.out).mono ?_; rintro e w1 ⟨rfl, hs⟩; have H1 : Hid (Below w.heap.size w w1) := bel_step HB.out hs; clear hs)
  go_ret
  exact ⟨rfl, H1.out⟩
set_option maxHeartbeats 4000000 in
theorem ptok_word {w : World} {b S B R : ByteArray} (hz : ¬ 9223372036854775807 < B.size + S.size) (hR : B ++ S = R) (P : ∀ u, Calls Tryz.prog 110 #[.string b] u fun e w' => e = .returned (.string B) ∧ w' = u) :
    Calls Tryz.prog 65 #[ag 4 0 S b noB 0 0 false false] w fun e w' => e = .returned (.string R) ∧ Below w.heap.size w w' := by
  have HC : Hid ((w.alloc (agO 4 0 S b noB 0 0 false false)).drew.cell? ⟨w.heap.size, 3, none⟩ = some (.string b) ∧ (w.alloc (agO 4 0 S b noB 0 0 false false)).drew.cell? ⟨w.heap.size, 2, none⟩ = some (.string S)) := by
    have hh : (w.alloc (agO 4 0 S b noB 0 0 false false)).drew.heap[w.heap.size]? = some (agO 4 0 S b noB 0 0 false false) := heap_alloc_new w _
    exact ⟨by rw [cell_of_row _ _ 3 _ _ _ hh]; rfl, by rw [cell_of_row _ _ 2 _ _ _ hh]; rfl⟩
  have HB : Hid (Below w.heap.size w (w.alloc (agO 4 0 S b noB 0 0 false false)).drew) := (bel_alloc (Below.refl _ _) _).drew
  go_enter Tryz.func65, Tryz.ntmps65
  go_wp2
  refine wp_region_d (fun u => u.cell? ⟨w.heap.size, 3, none⟩ = some (.string b) ∧ u.cell? ⟨w.heap.size, 2, none⟩ = some (.string S)) (fun _ => false) (by kernel_rfl) ?_
  refine wpAnyD_pured (i := 0) (v := .pointer (some ⟨w.heap.size, 3, none⟩)) rfl rfl (by kernel_rfl) (by kernel_rfl) (by kernel_rfl) (fun _ _ _ h => h) (by go_simp) (by intro u; go_simp) ?_
  try simp only [Act.put, List.setIfInBounds_toArray, List.set_cons_zero, List.set_cons_succ]
  refine wpAnyD_pured (i := 1) (v := .pointer (some ⟨w.heap.size, 3, none⟩)) rfl rfl (by kernel_rfl) (by kernel_rfl) (by kernel_rfl) (fun _ _ _ h => h) (by go_simp) (by intro u; go_simp) ?_
  try simp only [Act.put, List.setIfInBounds_toArray, List.set_cons_zero, List.set_cons_succ]
  refine wpAnyD_loadd (i := 2) (v := .string b) rfl rfl (by kernel_rfl) (by kernel_rfl) (by kernel_rfl) (by kernel_rfl) (fun _ _ _ h => h) (by go_simp) (fun u hSu => by obtain ⟨k0, k1⟩ := hSu; go_simp) HC.out ?_
  try simp only [Act.put, List.setIfInBounds_toArray, List.set_cons_zero, List.set_cons_succ]
  refine wpAnyD_pured (i := 4) (v := .pointer (some ⟨w.heap.size, 2, none⟩)) rfl rfl (by kernel_rfl) (by kernel_rfl) (by kernel_rfl) (fun _ _ _ h => h) (by go_simp) (by intro u; go_simp) ?_
  try simp only [Act.put, List.setIfInBounds_toArray, List.set_cons_zero, List.set_cons_succ]
  refine wpAnyD_loadd (i := 5) (v := .string S) rfl rfl (by kernel_rfl) (by kernel_rfl) (by kernel_rfl) (by kernel_rfl) (fun _ _ _ h => h) (by go_simp) (fun u hSu => by obtain ⟨k0, k1⟩ := hSu; go_simp) HC.out ?_
  try simp only [Act.put, List.setIfInBounds_toArray, List.set_cons_zero, List.set_cons_succ]
  refine wpAnyD_one (i := 3) (by kernel_rfl) rfl ?_
  intro K hK
  go_simp
  refine (P _).mono ?_
  rintro e w' ⟨rfl, hw⟩
  obtain rfl := hw.symm
  clear hw
  refine hK _ _ (.inr fun h => h) ?_
  clear hK
  try simp only [Act.put, List.setIfInBounds_toArray, List.set_cons_zero, List.set_cons_succ]
  refine wpAnyD_pured (i := 6) (v := .string R) rfl rfl (by kernel_rfl) (by kernel_rfl) (by kernel_rfl) (fun _ _ _ h => h) (by go_simp) (by intro u; go_simp) ?_
  try simp only [Act.put, List.setIfInBounds_toArray, List.set_cons_zero, List.set_cons_succ]
  refine wpAnyD_pured (i := 7) (v := .string R) rfl rfl (by kernel_rfl) (by kernel_rfl) (by kernel_rfl) (fun _ _ _ h => h) (by go_simp) (by intro u; go_simp) ?_
  try simp only [Act.put, List.setIfInBounds_toArray, List.set_cons_zero, List.set_cons_succ]
  refine wpAnyD_done (by kernel_rfl) ?_ _
  go_wp2
  go_ret
  exact ⟨rfl, HB.out⟩
theorem pair_ba (a b : List UInt8) : ba a ++ ba b = ba (a ++ b) := app_mk a b
theorem ptok_any (t : Tk.Tok) (ht : Tk.okT gnF trB okN t) (hs : smT t) (w : World) (T : Tab9 w) :
    Calls Tryz.prog 65 #[.agg (tcs (tk t).k (tk t).n (tk t).s (tk t).b (tk t).h (tk t).r (tk t).c (tk t).fr (tk t).fc)] w fun e w' => e = .returned (.string (ba (txT t))) ∧ Below w.heap.size w w' := by
  cases t using Tk.Tok.cs with
  | num n => exact ptok_num fun u hu => print_any n ⟨by have := ht.1; omega, by have := ht.2; omega⟩ u (T.below hu).t.t.p
  | str s =>
    have hl : s.length ≤ 255 := hs
    have hq := repl_eq s
    have hql := quoW_len s
    have hlen : (Lib.replaceAll s [34] [34, 34]).length ≤ 510 := by
      have := congrArg List.length hq
      simp at this
      omega
    have e1 : (⟨#[34]⟩ : ByteArray) ++ ba (Lib.replaceAll s [34] [34, 34]) = ba (34 :: Lib.replaceAll s [34] [34, 34]) := pair_ba [34] _
    have e2 : ba (34 :: Lib.replaceAll s [34] [34, 34]) ++ (⟨#[34]⟩ : ByteArray) = ba (txT (.str s)) := by
      have := pair_ba (34 :: Lib.replaceAll s [34] [34, 34]) [34]
      rw [List.cons_append, hq] at this
      exact this
    refine ptok_str (size_mk _) (by omega) e1 (size_mk _) e2 fun u hu => ?_
    obtain ⟨m, hm⟩ := (T.below hu).m
    exact Tryz.strings_ReplaceAll (ba s) ⟨#[34]⟩ ⟨#[34, 34]⟩ m u (by rw [size_mk]; omega) hm (by show 1 ≤ 1; omega) (by
      have := Lib.countB_le ⟨#[34]⟩ (by show 1 ≤ 1; omega) (ba s).size (ba s) (Nat.le_refl _)
      rw [size_mk] at this ⊢
      show s.length + Lib.countB (ba s) ⟨#[34]⟩ * 2 ≤ _
      omega)
  | ref x =>
    obtain ⟨hc, h1, h2⟩ := ht
    refine ptok_ref fun u hu => ?_
    have hb : x.book.length ≤ 16 := by
      rcases h2 with h | ⟨h, _⟩
      · rw [h]; simp
      · exact (gn_parts h).1
    have hsh : x.sheet.length ≤ 16 := by
      rcases h1 with h | h
      · rw [h]; simp
      · exact (gn_parts h).1
    have := aprint_any (ba x.book) (ba x.sheet) x.cell.row x.cell.col x.cell.fr x.cell.fc (by rw [size_mk]; omega) (by rw [size_mk]; omega) u (T.below hu).t.t
    have hg : goodB (ba x.book) (ba x.sheet) x.cell.row x.cell.col = true := by
      unfold goodB inB
      obtain ⟨i1, i2, i3, i4⟩ := hc
      rw [decide_eq_true (show (1 : Int) ≤ x.cell.row by omega), decide_eq_true (show (x.cell.row : Int) ≤ 64 by omega), decide_eq_true (show (1 : Int) ≤ x.cell.col by omega), decide_eq_true (show (x.cell.col : Int) ≤ 26 by omega)]
      rw [ByteArray.toList_eq, ByteArray.toList_eq]
      show (true && if x.sheet = [] then decide (x.book = []) else gnF x.sheet && (decide (x.book = []) || gnF x.book)) = true
      rw [Bool.true_and]
      split
      · rename_i e
        rcases h2 with h | ⟨_, h⟩
        · exact decide_eq_true h
        · exact absurd e h
      · rename_i e
        rw [h1.resolve_left e]
        rcases h2 with h | ⟨h, _⟩
        · simp [h]
        · simp [h]
    rw [show prB (ba x.book) (ba x.sheet) x.cell.row x.cell.col x.cell.fr x.cell.fc = ba (txT (.ref x)) by
      unfold prB
      rw [if_pos hg]
      rfl] at this
    exact this
  | word b s =>
    have hb : b.length ≤ 16 := by
      rcases ht with ⟨rfl, _⟩ | ⟨h, _⟩
      · simp
      · exact (gn_parts h).1
    have hsl := tx_len ht hs
    refine ptok_word (b := ba b) (S := ba s) (B := ba (if b = [] then [] else 91 :: (b ++ [93]))) ?_ ?_ (fun u => pbook_any b (by omega) u)
    · rw [size_mk, size_mk]
      have h1 : (if b = [] then ([] : List UInt8) else 91 :: (b ++ [93])).length ≤ 18 := by split <;> simp <;> omega
      have h2 : s.length ≤ 600 := by
        have : (if b = [] then s else 91 :: (b ++ 93 :: s)).length ≤ 600 := hsl
        split at this
        · exact this
        · simp at this; omega
      omega
    · rw [pair_ba]
      show ba _ = ba (if b = [] then s else 91 :: (b ++ 93 :: s))
      by_cases e : b = []
      · rw [if_pos e, if_pos e]; rfl
      · rw [if_neg e, if_neg e]; simp
  | op x => exact ptok_op
  | bad n => exact ptok_bad fun u hu => badtext n ht.1 ht.2 u (T.below hu).t.t
end Go.Proofs.YtljfkkpkcjigpaaGreatDoor
