/- FAll, FPure2, FWhole, AEq, FAlike. -/
import Derived.Test.YtnibldnfbikipaaGreatDoorFOneFp
set_option linter.unusedVariables false
set_option linter.unusedSimpArgs false
set_option maxHeartbeats 16000000
set_option maxRecDepth 100000
namespace Go.Proofs.YtnibldnfbikipaaGreatDoor
open Go.RowKit Go.Fm
theorem args_any {W w : World} {b : Nat} {ts : List Tk.Tok} (hn : ts.length ≤ 256) (X : PR W b ts w) (C : ∀ ts' u, ts'.length ≤ ts.length → PR W b ts' u → Calls Tryz.prog 152 #[.pointer (some ⟨b, 0, none⟩)] u (PO W b u (PP 1 ts'))) :
  Calls Tryz.prog 327 #[.pointer (some ⟨b, 0, none⟩)] w (AO W b w (AA ts)) := by
 unfold AA
 by_cases h : opOf ts = [41]
 ·rw [if_pos h]
  exact (args_nil hn h X).mono (by rintro e w' ⟨rfl, hs⟩; exact ⟨none, 0, 0, rfl, rfl, .inl rfl, hs⟩)
 ·rw [if_neg h]
  have C0 := C ts w (Nat.le_refl _) X
  cases hP : PP 1 ts with
  | none =>
   rw [hP] at C0
   exact args_none hn h X C0
  | some p =>
   rw [hP] at C0
   have hl := ps_lt upF trF (by omega) _ p.1 p.2 hP
   exact args_some hn h X hl C0 (fun ts' u h1 h2 => C ts' u (by omega) h2)
theorem word_head {b s : List UInt8} (h : Tk.okT gnF trB okN (Tk.Tok.word b s)) : headL s = true ∧ s.length ≤ 1000 := by
 have hg : ∀ s, gnF s = true → headL s = true ∧ s.length ≤ 1000 := fun s h => ⟨(gn_parts h).2.1, by have := (gn_parts h).1; omega⟩
 rcases h with ⟨_, h | h⟩ | ⟨_, h⟩
 ·exact hg s h
 ·obtain ⟨h1, h2⟩ := tru_letters h
  refine ⟨?_, ?_⟩
  ·cases s with
   | nil => exact absurd rfl h1
   | cons c r => exact h2 c (by simp)
  ·rcases tru_word h with e | e
   ·have := congrArg List.length e; simp [szF] at this; omega
   ·have := congrArg List.length e; simp [szF] at this; omega
 ·exact hg s h
theorem one_any {W w : World} {b : Nat} {ts : List Tk.Tok} (hn : ts.length ≤ 256) (X : PR W b ts w) (C : ∀ ts' u, ts'.length < ts.length → PR W b ts' u → Calls Tryz.prog 152 #[.pointer (some ⟨b, 0, none⟩)] u (PO W b u (PP 1 ts'))) :
  Calls Tryz.prog 319 #[.pointer (some ⟨b, 0, none⟩)] w (PO W b w (PP 8 ts)) := by
 have e : PP 8 ts = oneF upF trF (PP 1) ts := ps_one upF trF ts
 rw [e]
 have hb := X.lt
 cases ts with
 | nil => exact one_nil X
 | cons t q =>
  have hok := X.ok t (by simp)
  have hq : q.length ≤ 256 := by simp at hn; omega
  by_cases h40 : opOf (t :: q) = [40]
  ·cases t using Tk.Tok.cs with
   | op s =>
    have hs : s = [40] := h40
    have e2 : oneF upF trF (PP 1) (Tk.Tok.op s :: q) = (PP 1 q).bind fun p => if opOf p.2 = [41] then some (p.1, p.2.tail) else none := by
     simp only [oneF]; rw [if_pos hs]
    rw [e2]
    have C1 := fun u hu => C q u (by simp) hu
    cases hP : PP 1 q with
    | none =>
     rw [hP] at C1
     exact one_inner hn h40 X C1
    | some p =>
     obtain ⟨n, r⟩ := p
     rw [hP] at C1
     have hl := ps_lt upF trF (by omega) _ n r hP
     simp only [Option.bind_some]
     by_cases h41 : opOf r = [41]
     ·rw [if_pos h41]; exact one_open hn h40 (by omega) X C1 h41
     ·rw [if_neg h41]; exact one_unclosed hn h40 (by omega) X C1 h41
   | num n => cases h40
   | str n => cases h40
   | ref n => cases h40
   | word n m => cases h40
   | bad n => cases h40
  ·obtain ⟨SK, TK⟩ := tk_all hn h40 X
   have lf : ∀ {a : Lab} {f : Nat} {r : List Tk.Tok}, Calls Tryz.prog 319 #[.pointer (some ⟨b, 0, none⟩)] w (fun e w' => e = .returned (.agg (lcs a (.slice none 0 0))) ∧ Sp W b r w w') → Calls Tryz.prog 319 #[.pointer (some ⟨b, 0, none⟩)] w (PO W b w (some (tree a [], r))) := fun h => h.mono (by rintro e w' ⟨rfl, h⟩; exact ⟨_, rfl, NK.leaf, h⟩)
   cases t using Tk.Tok.cs with
   | op s =>
    have hs : s ≠ [40] := h40
    have e2 : oneF upF trF (PP 1) (Tk.Tok.op s :: q) = none := by simp only [oneF]; rw [if_neg hs]
    rw [e2]
    exact one_op5 SK TK
   | num n =>
    have hg : ofV n true = .agg #[.int .i64 1, .int .i64 n, .string noB] := by
     unfold ofV
     have hgd : gd n = true := by
      have h1 : okN n := hok.1
      unfold gd
      simp only [Bool.and_eq_true, decide_eq_true_eq]
      exact ⟨by have := h1.1; omega, h1.2⟩
     rw [hgd]; rfl
    have V := fun u => of_any n true u
    rw [hg] at V
    exact lf (f := 0) (one_num hb SK TK V)
   | str s =>
    have hl : lenB (ba s) = true := by
     have h1 : s.length ≤ 255 := hok.2
     rcases len_cases (ba s) with ⟨_, h⟩ | ⟨h2, h⟩
     ·exact h
     ·rw [size_mk] at h2; omega
    have V := fun u => str_any (ba s) u
    rw [hl] at V
    exact lf (f := 0) (one_str hb SK TK V)
   | bad n =>
    have hg : badN (n : Int) = n := by
     have h1 : 1 ≤ n ∧ n ≤ 8 := hok.1
     unfold badN
     rw [if_pos (kn_nat n h1.1 h1.2)]
    have V := fun u => bad_any (n : Int) u
    rw [hg] at V
    exact lf (f := 0) (one_bad hb SK TK V)
   | ref x => exact one_ref hb SK TK (fun u hu => cells_any x hq hu)
   | word bk s =>
    obtain ⟨h1, h2⟩ := word_head hok.1
    have e2 : oneF upF trF (PP 1) (Tk.Tok.word bk s :: q) = wordF bk s q := by
     simp only [oneF, wordF]
     rw [call_eq]
     split
     ·rfl
     ·cases trF s <;> rfl
    rw [e2]
    refine one_word hb SK TK (fun u hu => word_any bk s hq h1 h2 hu (fun v h40 hv => ?_))
    have hl := (op_tail (ts := q) h40 (by decide)).1
    exact args_any (by omega) hv (fun ts' u' h3 h4 => C ts' u' (by simp; omega) h4)
def fnN : Nat → Nat
 | 1 => 152
 | 2 => 197
 | 3 => 237
 | 4 => 268
 | 5 => 282
 | 6 => 296
 | 7 => 313
 | _ => 319
theorem lv_all : ∀ (n lv : Nat) (ts : List Tk.Tok), 1 ≤ lv → lv ≤ 8 → need lv ts ≤ n → ts.length ≤ 256 → ∀ (W : World) (b : Nat) (w : World), PR W b ts w → Calls Tryz.prog (fnN lv) #[.pointer (some ⟨b, 0, none⟩)] w (PO W b w (PP lv ts))
 | 0, lv, ts, h1, h8, hn, _ => by unfold need at hn; omega
 | n + 1, lv, ts, h1, h8, hn, hl => by
  intro W b w X
  have IH := lv_all n
  unfold need at hn
  have R : ∀ lv', 1 ≤ lv' → lv' ≤ 8 → lv < lv' → ∀ ts' u, ts'.length ≤ ts.length → PR W b ts' u → Calls Tryz.prog (fnN lv') #[.pointer (some ⟨b, 0, none⟩)] u (PO W b u (PP lv' ts')) := fun lv' a1 a2 a3 ts' u h2 h3 => IH lv' ts' a1 a2 (by unfold need; omega) (by omega) W b u h3
  have hc : lv = 1 ∨ lv = 2 ∨ lv = 3 ∨ lv = 4 ∨ lv = 5 ∨ lv = 6 ∨ lv = 7 ∨ lv = 8 := by omega
  rcases hc with rfl | rfl | rfl | rfl | rfl | rfl | rfl | rfl
  ·exact lv1_any hl (R 2 (by omega) (by omega) (by omega)) X
  ·exact lv2_any hl (R 3 (by omega) (by omega) (by omega)) X
  ·exact lv3_any hl (R 4 (by omega) (by omega) (by omega)) X
  ·exact lv4_any hl (R 5 (by omega) (by omega) (by omega)) X
  ·exact lv5_any hl (R 6 (by omega) (by omega) (by omega)) X
  ·refine neg_any hl (fun u h hu => ?_) (fun u hu => R 7 (by omega) (by omega) (by omega) ts u (Nat.le_refl _) hu) X
   have := (op_tail (ts := ts) h (by decide)).1
   exact IH 6 ts.tail (by omega) (by omega) (by unfold need; omega) (by omega) W b u hu
  ·exact pct_any hl (fun u hu => R 8 (by omega) (by omega) (by omega) ts u (Nat.le_refl _) hu) X
  ·exact one_any hl X (fun ts' u h2 hu => IH 1 ts' (by omega) (by omega) (by unfold need; omega) (by omega) W b u hu)
theorem compared_any {W w : World} {b : Nat} {ts : List Tk.Tok} (hn : ts.length ≤ 256) (X : PR W b ts w) : Calls Tryz.prog 152 #[.pointer (some ⟨b, 0, none⟩)] w (PO W b w (PP 1 ts)) :=
 lv_all _ 1 ts (by omega) (by omega) (Nat.le_refl _) hn W b w X
end Go.Proofs.YtnibldnfbikipaaGreatDoor
namespace Go.Fm
open Go.Ad Go.Tk
def Few (part : Part) : Prop := ∀ ts n r, part ts = some (n, r) → zT n + r.length ≤ ts.length
def sumZ (l : List T) : Nat := (l.map zT).sum
theorem zT_tree (a : Lab) (l : List T) : zT (tree a l) = sumZ l + 1 := by
 unfold zT tree sumZ
 rw [size_kids, kids_mk]
theorem loop_few {part : Part} (hp : Few part) {lv : Nat} (hlv : lv ≠ 0) : ∀ (k : Nat) (n : T) (ts : List Tok) (m : T) (r : List Tok), loopF part lv k n ts = some (m, r) → zT m + r.length ≤ zT n + ts.length
 | 0, n, ts, m, r, h => by cases h; exact Nat.le_refl _
 | k + 1, n, ts, m, r, h => by
  unfold loopF at h
  split at h
  ·rename_i hs
   have h1 := (op_tail (ts := ts) rfl (strn_ne (by omega))).1
   cases hq : part ts.tail with
   | none => rw [hq] at h; cases h
   | some p =>
    rw [hq] at h
    have h2 := hp _ p.1 p.2 hq
    have h3 := loop_few hp hlv k _ _ _ _ h
    have h4 : zT (binT (opOf ts) n p.1) = zT n + zT p.1 + 1 := by unfold binT; rw [zT_tree]; simp [sumZ]
    omega
  ·cases h; exact Nat.le_refl _
theorem pct_few : ∀ (k : Nat) (n : T) (ts : List Tok), zT (pctF k n ts).1 + (pctF k n ts).2.length ≤ zT n + ts.length
 | 0, n, ts => Nat.le_refl _
 | k + 1, n, ts => by
  unfold pctF
  split
  ·rename_i hs
   have h1 := (op_tail (ts := ts) hs (by decide)).1
   have := pct_few k (unT [37] n) ts.tail
   have h4 : zT (unT [37] n) = zT n + 1 := by unfold unT; rw [zT_tree]; simp [sumZ]
   omega
  ·exact Nat.le_refl _
theorem args_few {part : Part} (hp : Few part) : ∀ (k : Nat) (acc : List T) (ts : List Tok) (m : List T) (r : List Tok), argsF part k acc ts = some (m, r) → sumZ m + r.length ≤ sumZ acc + ts.length
 | 0, acc, ts, m, r, h => by cases h
 | k + 1, acc, ts, m, r, h => by
  unfold argsF at h
  split at h
  ·rename_i hs
   have h1 := (op_tail (ts := ts) hs (by decide)).1
   cases h; omega
  ·split at h
   ·rename_i hs
    have h1 := (op_tail (ts := ts) hs (by decide)).1
    cases hq : part ts.tail with
    | none => rw [hq] at h; cases h
    | some p =>
     rw [hq] at h
     have h2 := hp _ p.1 p.2 hq
     have h3 := args_few hp k _ _ _ _ h
     have h4 : sumZ (acc ++ [p.1]) = sumZ acc + zT p.1 := by simp [sumZ]
     omega
   ·cases h
section
variable (up : List UInt8 → List UInt8) (tr : List UInt8 → Option Int)
theorem call_few {part : Part} (hp : Few part) {s : List UInt8} {ts : List Tok} {m : T} {r : List Tok} (h : callF up part s ts = some (m, r)) : zT m + r.length ≤ ts.length + 1 := by
 unfold callF at h
 split at h
 ·rename_i hs
  have h1 := (op_tail (ts := ts) hs (by decide)).1
  cases h
  rw [zT_tree]; simp [sumZ]; omega
 ·cases hq : part ts with
  | none => rw [hq] at h; cases h
  | some p =>
   rw [hq] at h
   have h2 := hp _ p.1 p.2 hq
   simp only [Option.bind_some] at h
   cases ha : argsF part (ts.length + 1) [p.1] p.2 with
   | none => rw [ha] at h; cases h
   | some q =>
    rw [ha] at h
    simp only [Option.bind_some] at h
    have h3 := args_few hp _ _ _ q.1 q.2 ha
    have h4 : sumZ [p.1] = zT p.1 := by simp [sumZ]
    split at h
    ·cases h
     rw [zT_tree]; omega
    ·cases h
theorem zT_leaf (a : Lab) : zT (tree a []) = 1 := by rw [zT_tree]; rfl
theorem one_few {part : Part} (hp : Few part) : Few (oneF up tr part) := by
 intro ts m r h
 cases ts with
 | nil => cases h
 | cons t q =>
  simp only [List.length_cons]
  cases t using Tk.Tok.cs with
  | num n => cases h; rw [zT_leaf]; omega
  | str s => cases h; rw [zT_leaf]; omega
  | bad n => cases h; rw [zT_leaf]; omega
  | ref x =>
   simp only [oneF] at h
   split at h
   ·rename_i hs
    have h1 := (op_tail (ts := q) hs (by decide)).1
    split at h
    ·rename_i y q' he
     rw [he] at h1
     simp only [List.length_cons] at h1
     split at h
     ·cases h; rw [zT_leaf]; omega
     ·cases h
    ·cases h
   ·cases h; rw [zT_leaf]; omega
  | word b s =>
   simp only [oneF] at h
   split at h
   ·rename_i hs
    have h1 := (op_tail (ts := q) hs.2 (by decide)).1
    have := call_few up hp h
    omega
   ·split at h
    ·cases h; rw [zT_leaf]; omega
    ·cases h; rw [zT_leaf]; omega
  | op s =>
   simp only [oneF] at h
   split at h
   ·cases hq : part q with
    | none => rw [hq] at h; cases h
    | some p =>
     rw [hq] at h
     have h2 := hp _ p.1 p.2 hq
     simp only [Option.bind_some] at h
     split at h
     ·cases h
      have : p.2.tail.length ≤ p.2.length := by rw [List.length_tail]; omega
      omega
     ·cases h
   ·cases h
theorem psN_few : ∀ (f lv : Nat), 1 ≤ lv → Few (psN up tr f lv)
 | 0, lv, _ => fun ts n r h => by cases h
 | f + 1, lv, hlv => fun ts n r h => by
  unfold psN at h
  split at h
  ·cases hq : psN up tr f (lv + 1) ts with
   | none => rw [hq] at h; cases h
   | some p =>
    rw [hq] at h
    have h2 := psN_few f (lv + 1) (by omega) _ p.1 p.2 hq
    have h3 := loop_few (psN_few f (lv + 1) (by omega)) (by omega) _ _ _ _ _ h
    omega
  ·split at h
   ·split at h
    ·rename_i hs
     have h1 := (op_tail (ts := ts) hs (by decide)).1
     cases hq : psN up tr f 6 ts.tail with
     | none => rw [hq] at h; cases h
     | some p =>
      rw [hq] at h
      have h2 := psN_few f 6 (by omega) _ p.1 p.2 hq
      cases h
      have h4 : zT (unT [45] p.1) = zT p.1 + 1 := by unfold unT; rw [zT_tree]; simp [sumZ]
      omega
    ·exact psN_few f 7 (by omega) _ n r h
   ·split at h
    ·cases hq : psN up tr f 8 ts with
     | none => rw [hq] at h; cases h
     | some p =>
      rw [hq] at h
      have h2 := psN_few f 8 (by omega) _ p.1 p.2 hq
      have h3 := pct_few ts.length p.1 p.2
      simp only [Option.map_some, Option.some.injEq] at h
      rw [h] at h3
      exact Nat.le_trans h3 h2
    ·exact one_few up tr (psN_few f 1 (Nat.le_refl _)) _ n r h
theorem ps_few {lv : Nat} (hlv : 1 ≤ lv) : Few (ps up tr lv) := fun ts n r h => psN_few up tr _ lv hlv ts n r h
end
end Go.Fm
namespace Go.Proofs.YtnibldnfbikipaaGreatDoor
open Go.RowKit Go.Fm
def allF (ts : List Tk.Tok) : Option T := match PP 1 ts with
 | some (t, []) => if dT t ≤ 24 then some t else none
 | _ => none
def WO (W : World) (b : Nat) (w : World) (o : Option T) (e : Ending) (w' : World) : Prop :=
 match o with
 | none => e = .panicked formP ∧ w.grownBy w' (some b)
 | some t => ∃ es, e = .returned (.agg es) ∧ NK (fun i => w.heap.size ≤ i) w' es t ∧ w.grownBy w' (some b) ∧ zT t ≤ 256
theorem wpList_load_g {P : Program} {ops : Array Oper} {rest : List Oper} {o : Oper} {a : Act} {w : World} {Q : Exit → Act → World → Prop} (ty : TypeId) (x : Operand) (ho : o.op = .load ty x)
  (p v : Value) (hx : a.eval x = p) (hrun : (Instr.loadAt ty p).run P w = .ok v w) (hw : Region.wanted o (yielded ops a.tmps) = true) (h : wpList P ops Q rest (a.put o.dst v) w) : wpList P ops Q (o :: rest) a w := by
 refine wpList_step fun K hK => ?_
 rw [if_pos hw]
 unfold Oper.wp execOp
 simp only [ho, hx, Sem.run_bind, Sem.run_pure, hrun, Result.andThen_ok]
 exact hK _ _ h
section
variable {W w : World} {b : Nat}
theorem whole_none (C : Calls Tryz.prog 152 #[.pointer (some ⟨b, 0, none⟩)] (w0 w) fun e w' => e = .panicked formP ∧ (w0 w).grownBy w' (some b)) :
  Calls Tryz.prog 107 #[.pointer (some ⟨b, 0, none⟩)] w fun e w' => e = .panicked formP ∧ w.grownBy w' (some b) := by
 go_enter Tryz.func107, Tryz.ntmps107
 go_wp2_with (go_at_call 152; refine C.mono ?_; rintro e w1 ⟨rfl, hg⟩)
 exact ⟨rfl, rfl, grown_trans (World.grownBy_alloc _ _ _) hg⟩
theorem whole_step {t : T} {r : List Tk.Tok} (hb : b < w.heap.size) (C : Calls Tryz.prog 152 #[.pointer (some ⟨b, 0, none⟩)] (w0 w) (PO W b (w0 w) (some (t, r)))) :
  Calls Tryz.prog 152 #[.pointer (some ⟨b, 0, none⟩)] (w0 w) fun e w1 => ∃ es a c, e = .returned (.agg es) ∧ Hid ((Instr.storeAt 67 (.pointer (some ⟨w1.heap.size, 0, none⟩)) (.agg es)).run Tryz.prog (w1.alloc (.cells nd0 67)) = .ok () (w1.alloc (.cells es 67))) ∧
   (w1.alloc (.cells es 67)).cell? ⟨b, 0, none⟩ = some (.slice a r.length c) ∧ Hid (NK (fun i => w.heap.size < i) (w1.alloc (.cells es 67)) es t) ∧ Hid (Sp W b r (w0 w) (w1.alloc (.cells es 67))) ∧ Hid ((w1.alloc (.cells es 67)).heap[w1.heap.size]? = some (.cells es 67)) := C.mono (by
 rintro e w1 ⟨es, rfl, h1, h2⟩
 have hS : Sp W b r (w0 w) (w1.alloc (.cells es 67)) := h2.alloc _
 obtain ⟨v, hv, hts⟩ := hS.1.blk
 obtain ⟨a, c, rfl⟩ := hts.slice
 rw [List.length_map] at hv
 refine ⟨es, a, c, rfl, (nbox w1 h1.nt).1, by rw [cell_of_row _ b 0 _ 138 (0, 0) hv]; rfl, ?_, hS, heap_alloc_new _ _⟩
 exact (h1.mono (K' := fun i => w.heap.size < i) (fun i hi _ => by simp at hi; omega)).below (bel_alloc (Below.refl _ _) (.cells es 67)))
theorem whole_more {t : T} {r : List Tk.Tok} (hb : b < w.heap.size) (hr : 0 < r.length) (C : Calls Tryz.prog 152 #[.pointer (some ⟨b, 0, none⟩)] (w0 w) (PO W b (w0 w) (some (t, r)))) :
  Calls Tryz.prog 107 #[.pointer (some ⟨b, 0, none⟩)] w fun e w' => e = .panicked formP ∧ w.grownBy w' (some b) := by
 have C' := whole_step hb C
 have hri : decide ((0 : Int) < (r.length : Int)) = true := by simp; omega
 have hri2 : (0 : Int) < (r.length : Int) := by omega
 clear C
 generalize r.length = n at *
 go_enter Tryz.func107, Tryz.ntmps107
 go_wp2_with (first
  | (go_at_call 152; refine C'.mono ?_; rintro e w1 ⟨es, a, c, rfl, RS0, c0, HN, HS, H3⟩)
  | (refine wpList_store_run rfl 67 _ _ rfl _ _ _ rfl rfl RS0.out ?_))
 exact ⟨rfl, rfl, grown_trans (World.grownBy_alloc _ _ _) HS.out.2⟩
theorem whole_deep {t : T} (hb : b < w.heap.size) (hz : zT t ≤ 1000000) (hd : ¬ dT t ≤ 24) (C : Calls Tryz.prog 152 #[.pointer (some ⟨b, 0, none⟩)] (w0 w) (PO W b (w0 w) (some (t, [])))) :
  Calls Tryz.prog 107 #[.pointer (some ⟨b, 0, none⟩)] w fun e w' => e = .panicked formP ∧ w.grownBy w' (some b) := by
 have C' := whole_step hb C
 have hdi : (24 : Int) < ((dT t : Nat) : Int) := by omega
 have DP := fun u es h => depth_any t hz u es h
 clear C hd
 generalize dT t = d at *
 go_enter Tryz.func107, Tryz.ntmps107
 go_wp2_with (first
  | (go_at_call 152; refine C'.mono ?_; rintro e w1 ⟨es, a, c, rfl, RS0, c0, HN, HS, H3⟩; have RL := HN.out.lod H3.out)
  | (refine wpList_store_run rfl 67 _ _ rfl _ _ _ rfl rfl RS0.out ?_; clear RS0)
  | (refine wpList_load_g 67 _ rfl _ _ rfl RL.out (by go_simp) ?_)
  | (go_at_call 44; refine (DP _ _ HN.out.nt).mono ?_; rintro e w3 ⟨rfl, hs⟩; have HS3 : Hid (Sp W b [] (w0 w) w3) := HS.out.bel hs; clear hs))
 all_goals exact ⟨rfl, rfl, grown_trans (World.grownBy_alloc _ _ _) HS3.out.2⟩
theorem whole_yes {t : T} (hb : b < w.heap.size) (hz : zT t ≤ 1000000) (hd : dT t ≤ 24) (C : Calls Tryz.prog 152 #[.pointer (some ⟨b, 0, none⟩)] (w0 w) (PO W b (w0 w) (some (t, [])))) :
  Calls Tryz.prog 107 #[.pointer (some ⟨b, 0, none⟩)] w fun e w' => ∃ es, e = .returned (.agg es) ∧ NK (fun i => w.heap.size ≤ i) w' es t ∧ w.grownBy w' (some b) := by
 have C' := whole_step hb C
 have hdi : ¬ (24 : Int) < ((dT t : Nat) : Int) := by omega
 have DP := fun u es h => depth_any t hz u es h
 have FIN := fun (u : World) (es : Array Value) (hN : NK (fun i => w.heap.size < i) u es t) (hu : Sp W b [] (w0 w) u) => fin_all hb hN hu
 clear C hd
 generalize dT t = d at *
 go_enter Tryz.func107, Tryz.ntmps107
 go_wp2_with (first
  | (go_at_call 152; refine C'.mono ?_; rintro e w1 ⟨es, a, c, rfl, RS0, c0, HN, HS, H3⟩; have RL := HN.out.lod H3.out)
  | (refine wpList_store_run rfl 67 _ _ rfl _ _ _ rfl rfl RS0.out ?_; clear RS0)
  | (refine wpList_load_g 67 _ rfl _ _ rfl RL.out (by go_simp) ?_)
  | (go_at_call 44; refine (DP _ _ HN.out.nt).mono ?_; rintro e w3 ⟨rfl, hs⟩; obtain ⟨RS, HG, HZ, HF⟩ := FIN _ _ (HN.out.below hs) (HS.out.bel hs); have RL3 := HN.out.lod ((hs.block _ (lt_of H3.out)).trans H3.out); clear hs)
  | (refine wpList_load_run rfl 67 _ rfl _ _ rfl RL3.out ?_)
  | (refine wpList_store_run rfl 67 _ _ rfl _ _ _ rfl rfl RS.out ?_))
 exact bodyPost_ret (nd_res HG.out HZ.out rfl rfl) rfl ⟨_, rfl, HF.out.1, HF.out.2.2⟩
end
theorem whole_any {W w : World} {b : Nat} {ts : List Tk.Tok} (hn : ts.length ≤ 256) (X : PR W b ts w) : Calls Tryz.prog 107 #[.pointer (some ⟨b, 0, none⟩)] w (WO W b w (allF ts)) := by
 have C := compared_any hn (X.alloc (.cells nd0 67))
 have hb := X.lt
 unfold allF
 cases hP : PP 1 ts with
 | none => rw [hP] at C; exact whole_none C
 | some p =>
  obtain ⟨t, r⟩ := p
  rw [hP] at C
  have hz := ps_few upF trF (by omega) _ t r hP
  cases r with
  | nil =>
   simp only
   by_cases hd : dT t ≤ 24
   ·rw [if_pos hd]
    exact (whole_yes hb (by omega) hd C).mono (by rintro e w' ⟨es, rfl, h1, h2⟩; exact ⟨es, rfl, h1, h2, by simp at hz; omega⟩)
   ·rw [if_neg hd]; exact whole_deep hb (by omega) hd C
  | cons x r => exact whole_more hb (by simp) C
end Go.Proofs.YtnibldnfbikipaaGreatDoor
namespace Go.Proofs.YtnibldnfbikipaaGreatDoor
open Go.RowKit
theorem guard25 : Tryz.prog.eqGuardType Tryz.prog.depth 64 = false := by kernel_rfl
theorem held25 : Tryz.prog.stoodInHeld 64 = false := by kernel_rfl
theorem str25 : Tryz.prog.underlying 64 = some (.struct (Tryz.prog.fieldsOf 64)) := by kernel_rfl
abbrev rf0 : Field := { name := "Book", type := 9, offset := 0, embedded := false, tag := "", pkgPath := "", byteOffset := 0 }
abbrev rf1 : Field := { name := "Sheet", type := 9, offset := 1, embedded := false, tag := "", pkgPath := "", byteOffset := 16 }
abbrev rf2 : Field := { name := "Row", type := 3, offset := 2, embedded := false, tag := "", pkgPath := "", byteOffset := 32 }
abbrev rf3 : Field := { name := "Col", type := 3, offset := 3, embedded := false, tag := "", pkgPath := "", byteOffset := 40 }
abbrev rf4 : Field := { name := "FixRow", type := 4, offset := 4, embedded := false, tag := "", pkgPath := "", byteOffset := 48 }
abbrev rf5 : Field := { name := "FixCol", type := 4, offset := 5, embedded := false, tag := "", pkgPath := "", byteOffset := 49 }
theorem fields25 : (Tryz.prog.fieldsOf 64).toList = [rf0, rf1, rf2, rf3, rf4, rf5] := by kernel_rfl
section
variable (b s : ByteArray) (r c : Int) (fr fc : Bool) (b' s' : ByteArray) (r' c' : Int) (fr' fc' : Bool) (W : World)
theorem eqn_ref : (Op.equalIn 10000 64 (refV b s r c fr fc) (refV b s r c fr fc)).run Tryz.prog W = .ok true W := by
 rw [run_equalIn_struct W 9999 64 _ _ str25 held25, fields25]
 have h9 := Tryz.underlying9
 have h3 := Tryz.underlying3
 have h4 := Tryz.underlying4
 have a9 := Tryz.isAgg9
 have a3 := Tryz.isAgg3
 have a4 := Tryz.isAgg4
 have z9 := Tryz.sizeOf9
 have z3 := Tryz.sizeOf3
 have z4 := Tryz.sizeOf4
 simp only [Op.eqFields]
 go_simp
theorem nen_b (hb : (b.toList == b'.toList) = false) : (Op.equalIn 10000 64 (refV b s r c fr fc) (refV b' s' r' c' fr' fc')).run Tryz.prog W = .ok false W := by
 rw [run_equalIn_struct W 9999 64 _ _ str25 held25, fields25]
 have h9 := Tryz.underlying9
 have h3 := Tryz.underlying3
 have h4 := Tryz.underlying4
 have a9 := Tryz.isAgg9
 have a3 := Tryz.isAgg3
 have a4 := Tryz.isAgg4
 have z9 := Tryz.sizeOf9
 have z3 := Tryz.sizeOf3
 have z4 := Tryz.sizeOf4
 simp only [Op.eqFields]
 go_simp
theorem nen_s (hb : (b.toList == b'.toList) = true) (hs : (s.toList == s'.toList) = false) : (Op.equalIn 10000 64 (refV b s r c fr fc) (refV b' s' r' c' fr' fc')).run Tryz.prog W = .ok false W := by
 rw [run_equalIn_struct W 9999 64 _ _ str25 held25, fields25]
 have h9 := Tryz.underlying9
 have h3 := Tryz.underlying3
 have h4 := Tryz.underlying4
 have a9 := Tryz.isAgg9
 have a3 := Tryz.isAgg3
 have a4 := Tryz.isAgg4
 have z9 := Tryz.sizeOf9
 have z3 := Tryz.sizeOf3
 have z4 := Tryz.sizeOf4
 simp only [Op.eqFields]
 go_simp
theorem run_ne_ref : (binOp .neq 64 (refV b s r c fr fc) (refV b s r c fr fc)).run Tryz.prog W = .ok (.bool false) W := by
 rw [run_neq_struct, eqn_ref]
 rfl
theorem run_ne_other (h : (b.toList == b'.toList) = false ∨ (s.toList == s'.toList) = false) : (binOp .neq 64 (refV b s r c fr fc) (refV b' s' r' c' fr' fc')).run Tryz.prog W = .ok (.bool true) W := by
 rw [run_neq_struct]
 cases hb : (b.toList == b'.toList)
 ·rw [nen_b _ _ _ _ _ _ _ _ _ _ _ _ _ hb]; rfl
 ·rw [hb] at h
  rw [nen_s _ _ _ _ _ _ _ _ _ _ _ _ _ hb (h.resolve_left (by decide))]; rfl
end
end Go.Proofs.YtnibldnfbikipaaGreatDoor
namespace Go.Proofs.YtnibldnfbikipaaGreatDoor
open Go.RowKit Go.Fm
theorem held23 : Tryz.prog.stoodInHeld 62 = false := by kernel_rfl
theorem guard23 : Tryz.prog.eqGuardType Tryz.prog.depth 62 = false := by kernel_rfl
theorem str23 : Tryz.prog.underlying 62 = some (.struct (Tryz.prog.fieldsOf 62)) := by kernel_rfl
abbrev vf0 : Field := { name := "Kind", type := 3, offset := 0, embedded := false, tag := "", pkgPath := "", byteOffset := 0 }
abbrev vf1 : Field := { name := "N", type := 3, offset := 1, embedded := false, tag := "", pkgPath := "", byteOffset := 8 }
abbrev vf2 : Field := { name := "S", type := 9, offset := 2, embedded := false, tag := "", pkgPath := "", byteOffset := 16 }
theorem fields23 : (Tryz.prog.fieldsOf 62).toList = [vf0, vf1, vf2] := by kernel_rfl
def veB (k n : Int) (s : ByteArray) (k' n' : Int) (s' : ByteArray) : Bool := (k == k') && ((n == n') && (s.toList == s'.toList))
def reB (b s : ByteArray) (r c : Int) (fr fc : Bool) (b' s' : ByteArray) (r' c' : Int) (fr' fc' : Bool) : Bool := (b.toList == b'.toList) && ((s.toList == s'.toList) && ((r == r') && ((c == c') && ((fr == fr') && (fc == fc')))))
theorem bytes_eq {a b : ByteArray} (h : (a.toList == b.toList) = true) : a = b := by
 rw [ByteArray.toList_eq, ByteArray.toList_eq] at h
 have h2 : a.data.toList = b.data.toList := by simpa using h
 have h3 : a.data = b.data := Array.toList_inj.1 h2
 obtain ⟨x⟩ := a
 obtain ⟨y⟩ := b
 exact congrArg ByteArray.mk h3
section
variable (W : World)
theorem eqn_val (k n : Int) (s : ByteArray) (k' n' : Int) (s' : ByteArray) : (Op.equalIn 10000 62 (val k n s) (val k' n' s')).run Tryz.prog W = .ok (veB k n s k' n' s') W := by
 rw [run_equalIn_struct W 9999 62 _ _ str23 held23, fields23]
 have h9 := Tryz.underlying9
 have h3 := Tryz.underlying3
 have a9 := Tryz.isAgg9
 have a3 := Tryz.isAgg3
 have z9 := Tryz.sizeOf9
 have z3 := Tryz.sizeOf3
 unfold veB
 simp only [Op.eqFields]
 cases e1 : (k == k') <;> cases e2 : (n == n') <;> cases e3 : (s.toList == s'.toList) <;> go_simp
theorem eqn_refB (b s : ByteArray) (r c : Int) (fr fc : Bool) (b' s' : ByteArray) (r' c' : Int) (fr' fc' : Bool) : (Op.equalIn 10000 64 (refV b s r c fr fc) (refV b' s' r' c' fr' fc')).run Tryz.prog W = .ok (reB b s r c fr fc b' s' r' c' fr' fc') W := by
 rw [run_equalIn_struct W 9999 64 _ _ str25 held25, fields25]
 have h9 := Tryz.underlying9
 have h3 := Tryz.underlying3
 have h4 := Tryz.underlying4
 have a9 := Tryz.isAgg9
 have a3 := Tryz.isAgg3
 have a4 := Tryz.isAgg4
 have z9 := Tryz.sizeOf9
 have z3 := Tryz.sizeOf3
 have z4 := Tryz.sizeOf4
 unfold reB
 simp only [Op.eqFields]
 cases e1 : (b.toList == b'.toList)
 ·go_simp
 cases e2 : (s.toList == s'.toList)
 ·go_simp
 cases e3 : (r == r')
 ·go_simp
 cases e4 : (c == c')
 ·go_simp
 cases e5 : (fr == fr')
 ·go_simp
 cases e6 : (fc == fc')
 ·go_simp
 go_simp
end
def labB (a b : Lab) : Bool := (a.k == b.k) && ((a.s.toList == b.s.toList) && (veB a.vk a.vn a.vs b.vk b.vn b.vs && (reB a.b1 a.h1 a.r1 a.c1 a.fr1 a.fc1 b.b1 b.h1 b.r1 b.c1 b.fr1 b.fc1 && reB a.b2 a.h2 a.r2 a.c2 a.fr2 a.fc2 b.b2 b.h2 b.r2 b.c2 b.fr2 b.fc2)))
theorem labB_refl (a : Lab) : labB a a = true := by unfold labB veB reB; simp
theorem labB_eq {a b : Lab} (h : labB a b = true) : a = b := by
 unfold labB veB reB at h
 simp only [Bool.and_eq_true] at h
 obtain ⟨h1, h2, ⟨h3, h4, h5⟩, ⟨h6, h7, h8, h9, h10, h11⟩, h12, h13, h14, h15, h16, h17⟩ := h
 obtain ⟨k, s, vk, vn, vs, b1, x1, r1, c1, f1, g1, b2, x2, r2, c2, f2, g2⟩ := a
 obtain ⟨k', s', vk', vn', vs', b1', x1', r1', c1', f1', g1', b2', x2', r2', c2', f2', g2'⟩ := b
 simp only at *
 simp only [beq_iff_eq] at h1 h3 h4 h8 h9 h10 h11 h14 h15 h16 h17
 rw [h1, bytes_eq h2, h3, h4, bytes_eq h5, bytes_eq h6, bytes_eq h7, h8, h9, h10, h11, bytes_eq h12, bytes_eq h13, h14, h15, h16, h17]
theorem box_all {u : World} {g : Nat} {a : Lab} {sl : Value} {z : Nat × Nat} (h : u.heap[g]? = some (.cells (lcs a sl) 67 z)) :
  u.cell? ⟨g, 0, none⟩ = some (.int .i64 a.k) ∧ u.cell? ⟨g, 1, none⟩ = some (.string a.s) ∧ (Instr.loadAt 62 (.pointer (some ⟨g, 2, none⟩))).run Tryz.prog u = .ok (val a.vk a.vn a.vs) u ∧ (Instr.loadAt 64 (.pointer (some ⟨g, 5, none⟩))).run Tryz.prog u = .ok (refV a.b1 a.h1 a.r1 a.c1 a.fr1 a.fc1) u ∧ (Instr.loadAt 64 (.pointer (some ⟨g, 11, none⟩))).run Tryz.prog u = .ok (refV a.b2 a.h2 a.r2 a.c2 a.fr2 a.fc2) u := by
 have hc : ∀ j v, (lcs a sl)[j]? = some v → u.cell? ⟨g, j, none⟩ = some v := fun j v hj => by rw [cell_of_row u g j _ 67 z h]; exact hj
 have hadd : ∀ o j, (⟨g, o, none⟩ : Addr).add j = ⟨g, o + j, none⟩ := fun o j => by unfold Addr.add; split <;> simp_all
 refine ⟨hc 0 _ rfl, hc 1 _ rfl, ?_, ?_, ?_⟩
 ·exact run_loadVar_any u ⟨g, 2, none⟩ 62 [.int .i64 a.vk, .int .i64 a.vn, .string a.vs] _ (fun j v hj => by
   rw [hadd]
   refine hc _ _ ?_
   match j, hj with
   | 0, hj => exact hj
   | 1, hj => exact hj
   | 2, hj => exact hj) Tryz.underlying62 rfl (by kernel_rfl)
 ·exact run_loadVar_any u ⟨g, 5, none⟩ 64 [.string a.b1, .string a.h1, .int .i64 a.r1, .int .i64 a.c1, .bool a.fr1, .bool a.fc1] _ (fun j v hj => by
   rw [hadd]
   refine hc _ _ ?_
   match j, hj with
   | 0, hj => exact hj
   | 1, hj => exact hj
   | 2, hj => exact hj
   | 3, hj => exact hj
   | 4, hj => exact hj
   | 5, hj => exact hj) Tryz.underlying64 rfl (by kernel_rfl)
 ·exact run_loadVar_any u ⟨g, 11, none⟩ 64 [.string a.b2, .string a.h2, .int .i64 a.r2, .int .i64 a.c2, .bool a.fr2, .bool a.fc2] _ (fun j v hj => by
   rw [hadd]
   refine hc _ _ ?_
   match j, hj with
   | 0, hj => exact hj
   | 1, hj => exact hj
   | 2, hj => exact hj
   | 3, hj => exact hj
   | 4, hj => exact hj
   | 5, hj => exact hj) Tryz.underlying64 rfl (by kernel_rfl)
theorem run_eql_val (W : World) (k n : Int) (s : ByteArray) (k' n' : Int) (s' : ByteArray) : (binOp .eql 62 (val k n s) (val k' n' s')).run Tryz.prog W = .ok (.bool (veB k n s k' n' s')) W := by
 rw [run_eql_struct, eqn_val]; rfl
theorem run_neq_val (W : World) (k n : Int) (s : ByteArray) (k' n' : Int) (s' : ByteArray) : (binOp .neq 62 (val k n s) (val k' n' s')).run Tryz.prog W = .ok (.bool (!veB k n s k' n' s')) W := by
 rw [run_neq_struct, eqn_val]; rfl
theorem run_eql_refB (W : World) (b s : ByteArray) (r c : Int) (fr fc : Bool) (b' s' : ByteArray) (r' c' : Int) (fr' fc' : Bool) : (binOp .eql 64 (refV b s r c fr fc) (refV b' s' r' c' fr' fc')).run Tryz.prog W = .ok (.bool (reB b s r c fr fc b' s' r' c' fr' fc')) W := by
 rw [run_eql_struct, eqn_refB]; rfl
theorem run_neq_refB (W : World) (b s : ByteArray) (r c : Int) (fr fc : Bool) (b' s' : ByteArray) (r' c' : Int) (fr' fc' : Bool) : (binOp .neq 64 (refV b s r c fr fc) (refV b' s' r' c' fr' fc')).run Tryz.prog W = .ok (.bool (!reB b s r c fr fc b' s' r' c' fr' fc')) W := by
 rw [run_neq_struct, eqn_refB]; rfl
end Go.Proofs.YtnibldnfbikipaaGreatDoor
