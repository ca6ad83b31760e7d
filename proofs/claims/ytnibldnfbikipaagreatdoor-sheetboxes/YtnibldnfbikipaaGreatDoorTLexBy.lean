/- FPure2, FWhole, TLex. -/
import Derived.Test.YtnibldnfbikipaaGreatDoorFAllBy
set_option linter.unusedVariables false
set_option linter.unusedSimpArgs false
set_option maxHeartbeats 16000000
set_option maxRecDepth 100000
namespace Go.Fm
open Go.Ad Go.Tk
def Few (part : Part) : Prop := ∀ ts n r, part ts = some (n, r) → zT n + r.length ≤ ts.length
def sumZ (l : List T) : Nat := (l.map zT).sum
theorem zT_tree (a : Lab) (l : List T) : zT (tree a l) = sumZ l + 1 := by
 unfold zT tree sumZ
 rw [size_kids, kids_mk]
theorem loop_few {part : Part} (hp : Few part) {lv : Nat} (hlv : lv ≠ 0) : ∀ (k : Nat) (n : T) (ts : List Tok) (m : T) (r : List Tok), loopF part lv k n ts = some (m, r) → zT m + r.length ≤ zT n + ts.length
 | 0, n, ts, m, r, h => by cases h; exact Nat.le_refl _
 | k + 1, n, ts, m, r, h => by
  unfold loopF at h
  split at h
  ·rename_i hs
   have h1 := (op_tail (ts := ts) rfl (strn_ne (by omega))).1
   cases hq : part ts.tail with
   | none => rw [hq] at h; cases h
   | some p =>
    rw [hq] at h
    have h2 := hp _ p.1 p.2 hq
    have h3 := loop_few hp hlv k _ _ _ _ h
    have h4 : zT (binT (opOf ts) n p.1) = zT n + zT p.1 + 1 := by unfold binT; rw [zT_tree]; simp [sumZ]
    omega
  ·cases h; exact Nat.le_refl _
theorem pct_few : ∀ (k : Nat) (n : T) (ts : List Tok), zT (pctF k n ts).1 + (pctF k n ts).2.length ≤ zT n + ts.length
 | 0, n, ts => Nat.le_refl _
 | k + 1, n, ts => by
  unfold pctF
  split
  ·rename_i hs
   have h1 := (op_tail (ts := ts) hs (by decide)).1
   have := pct_few k (unT [37] n) ts.tail
   have h4 : zT (unT [37] n) = zT n + 1 := by unfold unT; rw [zT_tree]; simp [sumZ]
   omega
  ·exact Nat.le_refl _
theorem args_few {part : Part} (hp : Few part) : ∀ (k : Nat) (acc : List T) (ts : List Tok) (m : List T) (r : List Tok), argsF part k acc ts = some (m, r) → sumZ m + r.length ≤ sumZ acc + ts.length
 | 0, acc, ts, m, r, h => by cases h
 | k + 1, acc, ts, m, r, h => by
  unfold argsF at h
  split at h
  ·rename_i hs
   have h1 := (op_tail (ts := ts) hs (by decide)).1
   cases h; omega
  ·split at h
   ·rename_i hs
    have h1 := (op_tail (ts := ts) hs (by decide)).1
    cases hq : part ts.tail with
    | none => rw [hq] at h; cases h
    | some p =>
     rw [hq] at h
     have h2 := hp _ p.1 p.2 hq
     have h3 := args_few hp k _ _ _ _ h
     have h4 : sumZ (acc ++ [p.1]) = sumZ acc + zT p.1 := by simp [sumZ]
     omega
   ·cases h
section
variable (up : List UInt8 → List UInt8) (tr : List UInt8 → Option Int)
theorem call_few {part : Part} (hp : Few part) {s : List UInt8} {ts : List Tok} {m : T} {r : List Tok} (h : callF up part s ts = some (m, r)) : zT m + r.length ≤ ts.length + 1 := by
 unfold callF at h
 split at h
 ·rename_i hs
  have h1 := (op_tail (ts := ts) hs (by decide)).1
  cases h
  rw [zT_tree]; simp [sumZ]; omega
 ·cases hq : part ts with
  | none => rw [hq] at h; cases h
  | some p =>
   rw [hq] at h
   have h2 := hp _ p.1 p.2 hq
   simp only [Option.bind_some] at h
   cases ha : argsF part (ts.length + 1) [p.1] p.2 with
   | none => rw [ha] at h; cases h
   | some q =>
    rw [ha] at h
    simp only [Option.bind_some] at h
    have h3 := args_few hp _ _ _ q.1 q.2 ha
    have h4 : sumZ [p.1] = zT p.1 := by simp [sumZ]
    split at h
    ·cases h
     rw [zT_tree]; omega
    ·cases h
theorem zT_leaf (a : Lab) : zT (tree a []) = 1 := by rw [zT_tree]; rfl
theorem one_few {part : Part} (hp : Few part) : Few (oneF up tr part) := by
 intro ts m r h
 cases ts with
 | nil => cases h
 | cons t q =>
  simp only [List.length_cons]
  cases t using Tk.Tok.cs with
  | num n => cases h; rw [zT_leaf]; omega
  | str s => cases h; rw [zT_leaf]; omega
  | bad n => cases h; rw [zT_leaf]; omega
  | ref x =>
   simp only [oneF] at h
   split at h
   ·rename_i hs
    have h1 := (op_tail (ts := q) hs (by decide)).1
    split at h
    ·rename_i y q' he
     rw [he] at h1
     simp only [List.length_cons] at h1
     split at h
     ·cases h; rw [zT_leaf]; omega
     ·cases h
    ·cases h
   ·cases h; rw [zT_leaf]; omega
  | word b s =>
   simp only [oneF] at h
   split at h
   ·rename_i hs
    have h1 := (op_tail (ts := q) hs.2 (by decide)).1
    have := call_few up hp h
    omega
   ·split at h
    ·cases h; rw [zT_leaf]; omega
    ·cases h; rw [zT_leaf]; omega
  | op s =>
   simp only [oneF] at h
   split at h
   ·cases hq : part q with
    | none => rw [hq] at h; cases h
    | some p =>
     rw [hq] at h
     have h2 := hp _ p.1 p.2 hq
     simp only [Option.bind_some] at h
     split at h
     ·cases h
      have : p.2.tail.length ≤ p.2.length := by rw [List.length_tail]; omega
      omega
     ·cases h
   ·cases h
theorem psN_few : ∀ (f lv : Nat), 1 ≤ lv → Few (psN up tr f lv)
 | 0, lv, _ => fun ts n r h => by cases h
 | f + 1, lv, hlv => fun ts n r h => by
  unfold psN at h
  split at h
  ·cases hq : psN up tr f (lv + 1) ts with
   | none => rw [hq] at h; cases h
   | some p =>
    rw [hq] at h
    have h2 := psN_few f (lv + 1) (by omega) _ p.1 p.2 hq
    have h3 := loop_few (psN_few f (lv + 1) (by omega)) (by omega) _ _ _ _ _ h
    omega
  ·split at h
   ·split at h
    ·rename_i hs
     have h1 := (op_tail (ts := ts) hs (by decide)).1
     cases hq : psN up tr f 6 ts.tail with
     | none => rw [hq] at h; cases h
     | some p =>
      rw [hq] at h
      have h2 := psN_few f 6 (by omega) _ p.1 p.2 hq
      cases h
      have h4 : zT (unT [45] p.1) = zT p.1 + 1 := by unfold unT; rw [zT_tree]; simp [sumZ]
      omega
    ·exact psN_few f 7 (by omega) _ n r h
   ·split at h
    ·cases hq : psN up tr f 8 ts with
     | none => rw [hq] at h; cases h
     | some p =>
      rw [hq] at h
      have h2 := psN_few f 8 (by omega) _ p.1 p.2 hq
      have h3 := pct_few ts.length p.1 p.2
      simp only [Option.map_some, Option.some.injEq] at h
      rw [h] at h3
      exact Nat.le_trans h3 h2
    ·exact one_few up tr (psN_few f 1 (Nat.le_refl _)) _ n r h
theorem ps_few {lv : Nat} (hlv : 1 ≤ lv) : Few (ps up tr lv) := fun ts n r h => psN_few up tr _ lv hlv ts n r h
end
end Go.Fm
namespace Go.Proofs.YtnibldnfbikipaaGreatDoor
open Go.RowKit Go.Fm
def allF (ts : List Tk.Tok) : Option T := match PP 1 ts with
 | some (t, []) => if dT t ≤ 24 then some t else none
 | _ => none
def WO (W : World) (b : Nat) (w : World) (o : Option T) (e : Ending) (w' : World) : Prop :=
 match o with
 | none => e = .panicked formP ∧ w.grownBy w' (some b)
 | some t => ∃ es, e = .returned (.agg es) ∧ NK (fun i => w.heap.size ≤ i) w' es t ∧ w.grownBy w' (some b) ∧ zT t ≤ 256
theorem wpList_load_g {P : Program} {ops : Array Oper} {rest : List Oper} {o : Oper} {a : Act} {w : World} {Q : Exit → Act → World → Prop} (ty : TypeId) (x : Operand) (ho : o.op = .load ty x)
  (p v : Value) (hx : a.eval x = p) (hrun : (Instr.loadAt ty p).run P w = .ok v w) (hw : Region.wanted o (yielded ops a.tmps) = true) (h : wpList P ops Q rest (a.put o.dst v) w) : wpList P ops Q (o :: rest) a w := by
 refine wpList_step fun K hK => ?_
 rw [if_pos hw]
 unfold Oper.wp execOp
 simp only [ho, hx, Sem.run_bind, Sem.run_pure, hrun, Result.andThen_ok]
 exact hK _ _ h
section
variable {W w : World} {b : Nat}
theorem whole_none (C : Calls Tryz.prog 152 #[.pointer (some ⟨b, 0, none⟩)] (w0 w) fun e w' => e = .panicked formP ∧ (w0 w).grownBy w' (some b)) :
  Calls Tryz.prog 107 #[.pointer (some ⟨b, 0, none⟩)] w fun e w' => e = .panicked formP ∧ w.grownBy w' (some b) := by
 go_enter Tryz.func107, Tryz.ntmps107
 go_wp2_with (go_at_call 152; refine C.mono ?_; rintro e w1 ⟨rfl, hg⟩)
 exact ⟨rfl, rfl, grown_trans (World.grownBy_alloc _ _ _) hg⟩
theorem whole_step {t : T} {r : List Tk.Tok} (hb : b < w.heap.size) (C : Calls Tryz.prog 152 #[.pointer (some ⟨b, 0, none⟩)] (w0 w) (PO W b (w0 w) (some (t, r)))) :
  Calls Tryz.prog 152 #[.pointer (some ⟨b, 0, none⟩)] (w0 w) fun e w1 => ∃ es a c, e = .returned (.agg es) ∧ Hid ((Instr.storeAt 67 (.pointer (some ⟨w1.heap.size, 0, none⟩)) (.agg es)).run Tryz.prog (w1.alloc (.cells nd0 67)) = .ok () (w1.alloc (.cells es 67))) ∧
   (w1.alloc (.cells es 67)).cell? ⟨b, 0, none⟩ = some (.slice a r.length c) ∧ Hid (NK (fun i => w.heap.size < i) (w1.alloc (.cells es 67)) es t) ∧ Hid (Sp W b r (w0 w) (w1.alloc (.cells es 67))) ∧ Hid ((w1.alloc (.cells es 67)).heap[w1.heap.size]? = some (.cells es 67)) := C.mono (by
 rintro e w1 ⟨es, rfl, h1, h2⟩
 have hS : Sp W b r (w0 w) (w1.alloc (.cells es 67)) := h2.alloc _
 obtain ⟨v, hv, hts⟩ := hS.1.blk
 obtain ⟨a, c, rfl⟩ := hts.slice
 rw [List.length_map] at hv
 refine ⟨es, a, c, rfl, (nbox w1 h1.nt).1, by rw [cell_of_row _ b 0 _ 138 (0, 0) hv]; rfl, ?_, hS, heap_alloc_new _ _⟩
 exact (h1.mono (K' := fun i => w.heap.size < i) (fun i hi _ => by simp at hi; omega)).below (bel_alloc (Below.refl _ _) (.cells es 67)))
theorem whole_more {t : T} {r : List Tk.Tok} (hb : b < w.heap.size) (hr : 0 < r.length) (C : Calls Tryz.prog 152 #[.pointer (some ⟨b, 0, none⟩)] (w0 w) (PO W b (w0 w) (some (t, r)))) :
  Calls Tryz.prog 107 #[.pointer (some ⟨b, 0, none⟩)] w fun e w' => e = .panicked formP ∧ w.grownBy w' (some b) := by
 have C' := whole_step hb C
 have hri : decide ((0 : Int) < (r.length : Int)) = true := by simp; omega
 have hri2 : (0 : Int) < (r.length : Int) := by omega
 clear C
 generalize r.length = n at *
 go_enter Tryz.func107, Tryz.ntmps107
 go_wp2_with (first
  | (go_at_call 152; refine C'.mono ?_; rintro e w1 ⟨es, a, c, rfl, RS0, c0, HN, HS, H3⟩)
  | (refine wpList_store_run rfl 67 _ _ rfl _ _ _ rfl rfl RS0.out ?_))
 exact ⟨rfl, rfl, grown_trans (World.grownBy_alloc _ _ _) HS.out.2⟩
theorem whole_deep {t : T} (hb : b < w.heap.size) (hz : zT t ≤ 1000000) (hd : ¬ dT t ≤ 24) (C : Calls Tryz.prog 152 #[.pointer (some ⟨b, 0, none⟩)] (w0 w) (PO W b (w0 w) (some (t, [])))) :
  Calls Tryz.prog 107 #[.pointer (some ⟨b, 0, none⟩)] w fun e w' => e = .panicked formP ∧ w.grownBy w' (some b) := by
 have C' := whole_step hb C
 have hdi : (24 : Int) < ((dT t : Nat) : Int) := by omega
 have DP := fun u es h => depth_any t hz u es h
 clear C hd
 generalize dT t = d at *
 go_enter Tryz.func107, Tryz.ntmps107
 go_wp2_with (first
  | (go_at_call 152; refine C'.mono ?_; rintro e w1 ⟨es, a, c, rfl, RS0, c0, HN, HS, H3⟩; have RL := HN.out.lod H3.out)
  | (refine wpList_store_run rfl 67 _ _ rfl _ _ _ rfl rfl RS0.out ?_; clear RS0)
  | (refine wpList_load_g 67 _ rfl _ _ rfl RL.out (by go_simp) ?_)
  | (go_at_call 44; refine (DP _ _ HN.out.nt).mono ?_; rintro e w3 ⟨rfl, hs⟩; have HS3 : Hid (Sp W b [] (w0 w) w3) := HS.out.bel hs; clear hs))
 all_goals exact ⟨rfl, rfl, grown_trans (World.grownBy_alloc _ _ _) HS3.out.2⟩
theorem whole_yes {t : T} (hb : b < w.heap.size) (hz : zT t ≤ 1000000) (hd : dT t ≤ 24) (C : Calls Tryz.prog 152 #[.pointer (some ⟨b, 0, none⟩)] (w0 w) (PO W b (w0 w) (some (t, [])))) :
  Calls Tryz.prog 107 #[.pointer (some ⟨b, 0, none⟩)] w fun e w' => ∃ es, e = .returned (.agg es) ∧ NK (fun i => w.heap.size ≤ i) w' es t ∧ w.grownBy w' (some b) := by
 have C' := whole_step hb C
 have hdi : ¬ (24 : Int) < ((dT t : Nat) : Int) := by omega
 have DP := fun u es h => depth_any t hz u es h
 have FIN := fun (u : World) (es : Array Value) (hN : NK (fun i => w.heap.size < i) u es t) (hu : Sp W b [] (w0 w) u) => fin_all hb hN hu
 clear C hd
 generalize dT t = d at *
 go_enter Tryz.func107, Tryz.ntmps107
 go_wp2_with (first
  | (go_at_call 152; refine C'.mono ?_; rintro e w1 ⟨es, a, c, rfl, RS0, c0, HN, HS, H3⟩; have RL := HN.out.lod H3.out)
  | (refine wpList_store_run rfl 67 _ _ rfl _ _ _ rfl rfl RS0.out ?_; clear RS0)
  | (refine wpList_load_g 67 _ rfl _ _ rfl RL.out (by go_simp) ?_)
  | (go_at_call 44; refine (DP _ _ HN.out.nt).mono ?_; rintro e w3 ⟨rfl, hs⟩; obtain ⟨RS, HG, HZ, HF⟩ := FIN _ _ (HN.out.below hs) (HS.out.bel hs); have RL3 := HN.out.lod ((hs.block _ (lt_of H3.out)).trans H3.out); clear hs)
  | (refine wpList_load_run rfl 67 _ rfl _ _ rfl RL3.out ?_)
  | (refine wpList_store_run rfl 67 _ _ rfl _ _ _ rfl rfl RS.out ?_))
 exact bodyPost_ret (nd_res HG.out HZ.out rfl rfl) rfl ⟨_, rfl, HF.out.1, HF.out.2.2⟩
end
theorem whole_any {W w : World} {b : Nat} {ts : List Tk.Tok} (hn : ts.length ≤ 256) (X : PR W b ts w) : Calls Tryz.prog 107 #[.pointer (some ⟨b, 0, none⟩)] w (WO W b w (allF ts)) := by
 have C := compared_any hn (X.alloc (.cells nd0 67))
 have hb := X.lt
 unfold allF
 cases hP : PP 1 ts with
 | none => rw [hP] at C; exact whole_none C
 | some p =>
  obtain ⟨t, r⟩ := p
  rw [hP] at C
  have hz := ps_few upF trF (by omega) _ t r hP
  cases r with
  | nil =>
   simp only
   by_cases hd : dT t ≤ 24
   ·rw [if_pos hd]
    exact (whole_yes hb (by omega) hd C).mono (by rintro e w' ⟨es, rfl, h1, h2⟩; exact ⟨es, rfl, h1, h2, by simp at hz; omega⟩)
   ·rw [if_neg hd]; exact whole_deep hb (by omega) hd C
  | cons x r => exact whole_more hb (by simp) C
end Go.Proofs.YtnibldnfbikipaaGreatDoor
namespace Go.Proofs.YtnibldnfbikipaaGreatDoor
open Go.RowKit
theorem LX.own {W w w' : World} {b : Nat} {l : List UInt8} {v : Value} {L : List TT} (h : LX W b l w) (ho : OwnT 156 W.heap.size w v L) (hg : w.grownBy w' v.ownBlock) : LX W b l w' :=
 h.grown hg fun k hk => ⟨(World.ownsRow.lt ho k hk).1, fun e => by
  rcases ho.ne h.blk (fun c z => by simp) with h1 | h1
  ·rw [h1] at hk; cases hk
  ·exact h1 (by rw [hk, e])⟩
theorem OwnT.meth {W u u1 : World} {b : Nat} {l m : List UInt8} {v : Value} {L : List TT} (h : OwnT 156 W.heap.size u v L) (X : LX W b l u) (k : St W b m u u1) : OwnT 156 W.heap.size u1 v L :=
 h.kept k.2 (h.ne X.blk (fun c z => by simp))
def LexS (w : World) (o : Option (List Tk.Tok)) (e : Ending) (w' : World) : Prop :=
 Below w.heap.size w w' ∧ match o with
  | none => e = .returned (.tuple #[.slice none 0 0, .int .i64 10])
  | some L => ∃ v, e = .returned (.tuple #[v, .int .i64 0]) ∧ OwnT 156 w.heap.size w' v (L.map tk) ∧ L.length ≤ 255
theorem blank_ne {l : List UInt8} {c : UInt8} {r : List UInt8} (h : l.dropWhile Tk.blank = c :: r) : Tk.blank c = false := drop_head h
theorem app_all {W w2 : World} {b : Nat} {m : List UInt8} {v : Value} {L : List TT} (X : LX W b m w2) (ho : OwnT 156 W.heap.size w2 v L) (t : TT) (hn : L.length + 1 ≤ 1000000) :
  ∃ v' w4, Hid ((Builtin.append_ #[119, 119] 119 #[v, .slice (some ⟨w2.heap.size + 1, 0, none⟩) 1 1]).run Tryz.prog ((w2.alloc (.cells (tcs t.k t.n t.s t.b t.h t.r t.c t.fr t.fc) 156)).alloc (.cells (tcs t.k t.n t.s t.b t.h t.r t.c t.fr t.fc) 156)) = .ok v' w4) ∧ Hid (OwnT 156 W.heap.size w4 v' (L ++ [t])) ∧ Hid (LX W b m w4) := by
 have X3 := (X.alloc (.cells (tcs t.k t.n t.s t.b t.h t.r t.c t.fr t.fc) 156)).alloc (.cells (tcs t.k t.n t.s t.b t.h t.r t.c t.fr t.fc) 156)
 have o3 : OwnT 156 W.heap.size ((w2.alloc (.cells (tcs t.k t.n t.s t.b t.h t.r t.c t.fr t.fc) 156)).alloc (.cells (tcs t.k t.n t.s t.b t.h t.r t.c t.fr t.fc) 156)) v L :=
  (ho.below (bel_alloc (Below.refl _ _) _)).below (bel_alloc (Below.refl _ _) _)
 obtain ⟨v', w4, R, o4, g4, _⟩ := ownT_app (t := t) (g := w2.heap.size + 1) (e' := 156) (z := (0, 0)) Tryz.underlying119 inf35z o3 (by
  have := heap_alloc_new (w2.alloc (.cells (tcs t.k t.n t.s t.b t.h t.r t.c t.fr t.fc) 156)) (.cells (tcs t.k t.n t.s t.b t.h t.r t.c t.fr t.fc) 156)
  rw [show (w2.alloc (.cells (tcs t.k t.n t.s t.b t.h t.r t.c t.fr t.fc) 156)).heap.size = w2.heap.size + 1 by simp] at this
  exact this) hn X3.bel.size
 exact ⟨v', w4, R, o4, X3.own o3 g4⟩
theorem lex_long (l : List UInt8) (w : World) (hl : 255 < l.length) : Calls Tryz.prog 105 #[.string (ba l)] w fun e w' => e = .returned (.tuple #[.slice none 0 0, .int .i64 3]) ∧ w' = w := by
 have hs : (ba l).size = l.length := size_mk l
 have h1 : (255 : Int) < l.length := by omega
 generalize ba l = A at *
 generalize l.length = n at *
 go_enter Tryz.func105, Tryz.ntmps105
 go_wp2
 go_ret2
 exact ⟨rfl, rfl⟩
theorem lex_short (l : List UInt8) (w : World) (T : Tab9 w) (hl : l.length ≤ 255) : Calls Tryz.prog 105 #[.string (ba l)] w (LexS w (lexF l)) := by
 have hs : (ba l).size = l.length := size_mk l
 have h1 : ¬ (255 : Int) < l.length := by omega
 have X0 : Hid (LX w w.heap.size l (w.alloc (lexO l))) := ⟨T, bel_alloc (Below.refl _ _) _, Nat.le_refl _, heap_alloc_new w _⟩
 generalize ho : lexF l = o
 have HO : Hid (lexF l = o) := ho
 clear ho T
 go_enter Tryz.func105, Tryz.ntmps105
 go_wp2
 clear hs h1
 go_loopw [4] (fun v wr => ∃ (L : List Tk.Tok) (m : List UInt8), L.length + m.length ≤ 255 ∧ Hid (o = (lexF m).map (L ++ ·)) ∧ Hid (LX w w.heap.size m wr) ∧ Hid (OwnT 156 w.heap.size wr v (L.map tk))) (fun _ wr => leftN w.heap.size wr)
 case atStart => exact ⟨[], l, by simpa using hl, by show _ = _; rw [← HO.out]; cases lexF l <;> simp, X0, OwnT.nil _ _ _⟩
 case round =>
  obtain ⟨L, m, hlen, HQ, HX, HW⟩ := hrel
  clear HO X0
  have hm : m.length ≤ 255 := by omega
  have hlm := leftN_eq HX.out
  have MO := fun u (Y : LX w w.heap.size m u) => more_any Y hm
  have hdl := Tk.drop_le Tk.blank m
  cases hD : m.dropWhile Tk.blank with
  | nil =>
   rw [hD] at MO
   have HN : Hid (o = some L) := by
    show _ = _
    rw [HQ.out, ← lex_drop, hD]
    show some (L ++ []) = _
    rw [List.append_nil]
   have MO' : ∀ u, LX w w.heap.size m u → Calls Tryz.prog 150 #[.pointer (some ⟨w.heap.size, 0, none⟩)] u fun e w' => e = .returned (.bool false) ∧ St w w.heap.size [] u w' := MO
   clear MO HQ
   go_wp2_with (go_at_call 150; refine (MO' _ HX.out).mono ?_; rintro e w2 ⟨rfl, hs⟩; have H2 : Hid (St w w.heap.size [] wr w2) := hs; clear hs)
   go_ret2
   rw [HN.out]
   exact ⟨H2.out.1.bel, _, rfl, HW.out.meth HX.out H2.out, by omega⟩
  | cons c r =>
   rw [hD] at MO hdl
   have MO' : ∀ u, LX w w.heap.size m u → Calls Tryz.prog 150 #[.pointer (some ⟨w.heap.size, 0, none⟩)] u fun e w' => e = .returned (.bool true) ∧ St w w.heap.size (c :: r) u w' := MO
   have hb := blank_ne hD
   have NX := fun u (Y : LX w w.heap.size (c :: r) u) => next_any Y (by omega)
   have hlx := lex_cons (r := r) hb
   rw [← hD, lex_drop] at hlx
   rw [hD] at hlx
   cases h1 : Tk.one gnF trB pnF (c :: r) with
   | none =>
    rw [h1] at NX hlx
    have HN : Hid (o = none) := by
     show _ = _
     rw [HQ.out, hlx]; rfl
    have NX' : ∀ u, LX w w.heap.size (c :: r) u → Calls Tryz.prog 151 #[.pointer (some ⟨w.heap.size, 0, none⟩)] u fun e w' => ∃ (t : TT) (q : List UInt8), e = .returned (.tuple #[.agg (tcs t.k t.n t.s t.b t.h t.r t.c t.fr t.fc), .bool false]) ∧ St w w.heap.size q u w' := fun u Y => (NX u Y).mono (by
     rintro e w' ⟨⟨t, rfl⟩, q, h⟩
     exact ⟨t, q, rfl, h⟩)
    clear MO NX HQ hlx
    go_wp2_with (first
     | (go_at_call 150; refine (MO' _ HX.out).mono ?_; rintro e w2 ⟨rfl, hs⟩; have H2 : Hid (St w w.heap.size (c :: r) wr w2) := hs; clear hs)
     | (go_at_call 151; refine (NX' _ H2.out.1).mono ?_; rintro e w3 ⟨t, q, rfl, hs⟩; have H3 : Hid (St w w.heap.size q wr w3) := H2.out.step hs; clear hs))
    go_ret2
    rw [HN.out]
    exact ⟨((H3.out.alloc _).1).bel, rfl⟩
   | some p =>
    obtain ⟨t, q⟩ := p
    have hql := one_len h1
    rw [h1] at NX hlx
    have HN : Hid (o = (lexF q).map ((L ++ [t]) ++ ·)) := by
     show _ = _
     rw [HQ.out, hlx]
     simp only
     cases lexF q <;> simp
    have NX' : ∀ u, LX w w.heap.size (c :: r) u → Calls Tryz.prog 151 #[.pointer (some ⟨w.heap.size, 0, none⟩)] u fun e w' => e = .returned (.tuple #[.agg (tcs (tk t).k (tk t).n (tk t).s (tk t).b (tk t).h (tk t).r (tk t).c (tk t).fr (tk t).fc), .bool true]) ∧ St w w.heap.size q u w' := fun u Y => (NX u Y).mono (by
     rintro e w' ⟨rfl, h⟩
     exact ⟨rfl, h⟩)
    have HL : Hid ((L ++ [t]).length + q.length ≤ 255) := by show _ ≤ _; simp at hql hdl ⊢; omega
    have HM : Hid (q.length < m.length) := by show _ < _; simp at hql hdl ⊢; omega
    have HT : Hid (∀ x, x = tk t → (L ++ [t]).map tk = L.map tk ++ [x]) := fun x e => by rw [e]; simp
    clear MO NX HQ hlx h1 hql
    generalize htt : tk t = tt at *
    have HT2 : Hid ((L ++ [t]).map tk = L.map tk ++ [tt]) := HT.out tt rfl
    clear HT htt
    go_wp2_with (first
     | (go_at_call 150; refine (MO' _ HX.out).mono ?_; rintro e w2 ⟨rfl, hs⟩; have H2 : Hid (St w w.heap.size (c :: r) wr w2) := hs; clear hs)
     | (go_at_call 151; refine (NX' _ H2.out.1).mono ?_; rintro e w3 ⟨rfl, hs⟩; have H3 : Hid (St w w.heap.size q wr w3) := H2.out.step hs; clear hs; obtain ⟨v', w4, RR, HO4, HX4⟩ := app_all H3.out.1 (HW.out.meth HX.out H3.out) tt (by have := HL.out; simp at this ⊢; omega))
     | (at_builtin; refine wpList_append_run rfl _ _ 119 rfl _ _ _ _ rfl rfl RR.out ?_))
    go_roundw
    case rel => exact ⟨L ++ [t], q, HL.out, HN, HX4, by show OwnT _ _ _ _ _; rw [HT2.out]; exact HO4.out⟩
    case measure => rw [leftN_eq HX4.out, hlm]; exact HM.out
end Go.Proofs.YtnibldnfbikipaaGreatDoor
