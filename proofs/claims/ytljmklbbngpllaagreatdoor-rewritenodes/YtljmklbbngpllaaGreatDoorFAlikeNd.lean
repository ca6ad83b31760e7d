/- FPure2, FWhole, AEq, FAlike. -/
import Derived.Test.YtljmklbbngpllaaGreatDoorFAllNd
set_option linter.unusedVariables false
set_option linter.unusedSimpArgs false
set_option maxHeartbeats 16000000
set_option maxRecDepth 100000
namespace Go.Fm
open Go.Ad Go.Tk
def Few (part : Part) : Prop := ∀ ts n r, part ts = some (n, r) → zT n + r.length ≤ ts.length
def oK (l : List T) : Nat := (l.map zT).sum
theorem kT (a : Lab) (l : List T) : zT (tree a l) = oK l + 1 := by
 unfold zT tree oK
 rw [fT, kR]
theorem zV {part : Part} (hp : Few part) {lv : Nat} (hlv : lv ≠ 0) : ∀ (k : Nat) (n : T) (ts : List Tok) (m : T) (r : List Tok), dJ part lv k n ts = some (m, r) → zT m + r.length ≤ zT n + ts.length
 | 0, n, ts, m, r, h => by cases h; exact Nat.le_refl _
 | k + 1, n, ts, m, r, h => by
  unfold dJ at h
  split at h
  ·rename_i hs
   have h1 := (bA (ts := ts) rfl (kS (by omega))).1
   cases hq : part ts.tail with
   | none => rw [hq] at h; cases h
   | some p =>
    rw [hq] at h
    have h2 := hp _ p.1 p.2 hq
    have h3 := zV hp hlv k _ _ _ _ h
    have h4 : zT (zD (bE ts) n p.1) = zT n + zT p.1 + 1 := by unfold zD; rw [kT]; simp [oK]
    omega
  ·cases h; exact Nat.le_refl _
theorem aCc : ∀ (k : Nat) (n : T) (ts : List Tok), zT (iI k n ts).1 + (iI k n ts).2.length ≤ zT n + ts.length
 | 0, n, ts => Nat.le_refl _
 | k + 1, n, ts => by
  unfold iI
  split
  ·rename_i hs
   have h1 := (bA (ts := ts) hs (by decide)).1
   have := aCc k (unT [37] n) ts.tail
   have h4 : zT (unT [37] n) = zT n + 1 := by unfold unT; rw [kT]; simp [oK]
   omega
  ·exact Nat.le_refl _
theorem zW {part : Part} (hp : Few part) : ∀ (k : Nat) (acc : List T) (ts : List Tok) (m : List T) (r : List Tok), cB part k acc ts = some (m, r) → oK m + r.length ≤ oK acc + ts.length
 | 0, acc, ts, m, r, h => by cases h
 | k + 1, acc, ts, m, r, h => by
  unfold cB at h
  split at h
  ·rename_i hs
   have h1 := (bA (ts := ts) hs (by decide)).1
   cases h; omega
  ·split at h
   ·rename_i hs
    have h1 := (bA (ts := ts) hs (by decide)).1
    cases hq : part ts.tail with
    | none => rw [hq] at h; cases h
    | some p =>
     rw [hq] at h
     have h2 := hp _ p.1 p.2 hq
     have h3 := zW hp k _ _ _ _ h
     have h4 : oK (acc ++ [p.1]) = oK acc + zT p.1 := by simp [oK]
     omega
   ·cases h
section
variable (up : List UInt8 → List UInt8) (tr : List UInt8 → Option Int)
theorem aFB {part : Part} (hp : Few part) {s : List UInt8} {ts : List Tok} {m : T} {r : List Tok} (h : lM up part s ts = some (m, r)) : zT m + r.length ≤ ts.length + 1 := by
 unfold lM at h
 split at h
 ·rename_i hs
  have h1 := (bA (ts := ts) hs (by decide)).1
  cases h
  rw [kT]; simp [oK]; omega
 ·cases hq : part ts with
  | none => rw [hq] at h; cases h
  | some p =>
   rw [hq] at h
   have h2 := hp _ p.1 p.2 hq
   simp only [Option.bind_some] at h
   cases ha : cB part (ts.length + 1) [p.1] p.2 with
   | none => rw [ha] at h; cases h
   | some q =>
    rw [ha] at h
    simp only [Option.bind_some] at h
    have h3 := zW hp _ _ _ q.1 q.2 ha
    have h4 : oK [p.1] = zT p.1 := by simp [oK]
    split at h
    ·cases h
     rw [kT]; omega
    ·cases h
theorem jD (a : Lab) : zT (tree a []) = 1 := by rw [kT]; rfl
theorem aHu {part : Part} (hp : Few part) : Few (iJ up tr part) := by
 intro ts m r h
 cases ts with
 | nil => cases h
 | cons t q =>
  simp only [List.length_cons]
  cases t using Tk.Tok.cs with
  | num n => cases h; rw [jD]; omega
  | str s => cases h; rw [jD]; omega
  | bad n => cases h; rw [jD]; omega
  | ref x =>
   simp only [iJ] at h
   split at h
   ·rename_i hs
    have h1 := (bA (ts := q) hs (by decide)).1
    split at h
    ·rename_i y q' he
     rw [he] at h1
     simp only [List.length_cons] at h1
     split at h
     ·cases h; rw [jD]; omega
     ·cases h
    ·cases h
   ·cases h; rw [jD]; omega
  | word b s =>
   simp only [iJ] at h
   split at h
   ·rename_i hs
    have h1 := (bA (ts := q) hs.2 (by decide)).1
    have := aFB up hp h
    omega
   ·split at h
    ·cases h; rw [jD]; omega
    ·cases h; rw [jD]; omega
  | op s =>
   simp only [iJ] at h
   split at h
   ·cases hq : part q with
    | none => rw [hq] at h; cases h
    | some p =>
     rw [hq] at h
     have h2 := hp _ p.1 p.2 hq
     simp only [Option.bind_some] at h
     split at h
     ·cases h
      have : p.2.tail.length ≤ p.2.length := by rw [List.length_tail]; omega
      omega
     ·cases h
   ·cases h
theorem jE : ∀ (f lv : Nat), 1 ≤ lv → Few (psN up tr f lv)
 | 0, lv, _ => fun ts n r h => by cases h
 | f + 1, lv, hlv => fun ts n r h => by
  unfold psN at h
  split at h
  ·cases hq : psN up tr f (lv + 1) ts with
   | none => rw [hq] at h; cases h
   | some p =>
    rw [hq] at h
    have h2 := jE f (lv + 1) (by omega) _ p.1 p.2 hq
    have h3 := zV (jE f (lv + 1) (by omega)) (by omega) _ _ _ _ _ h
    omega
  ·split at h
   ·split at h
    ·rename_i hs
     have h1 := (bA (ts := ts) hs (by decide)).1
     cases hq : psN up tr f 6 ts.tail with
     | none => rw [hq] at h; cases h
     | some p =>
      rw [hq] at h
      have h2 := jE f 6 (by omega) _ p.1 p.2 hq
      cases h
      have h4 : zT (unT [45] p.1) = zT p.1 + 1 := by unfold unT; rw [kT]; simp [oK]
      omega
    ·exact jE f 7 (by omega) _ n r h
   ·split at h
    ·cases hq : psN up tr f 8 ts with
     | none => rw [hq] at h; cases h
     | some p =>
      rw [hq] at h
      have h2 := jE f 8 (by omega) _ p.1 p.2 hq
      have h3 := aCc ts.length p.1 p.2
      simp only [Option.map_some, Option.some.injEq] at h
      rw [h] at h3
      exact Nat.le_trans h3 h2
    ·exact aHu up tr (jE f 1 (Nat.le_refl _)) _ n r h
theorem aI6 {lv : Nat} (hlv : 1 ≤ lv) : Few (ps up tr lv) := fun ts n r h => jE up tr _ lv hlv ts n r h
end
end Go.Fm
namespace Go.Proofs.YtljmklbbngpllaaGreatDoor
open Go.RowKit Go.Fm
def aDl (ts : List Tk.Tok) : Option T := match PP 1 ts with
 | some (t, []) => if dT t ≤ 24 then some t else none
 | _ => none
def WO (W : World) (b : Nat) (w : World) (o : Option T) (e : Ending) (w' : World) : Prop :=
 match o with
 | none => e = .panicked bQ ∧ w.grownBy w' (some b)
 | some t => ∃ es, e = .returned (.agg es) ∧ NK (fun i => w.heap.size ≤ i) w' es t ∧ w.grownBy w' (some b) ∧ zT t ≤ 256
theorem aF {P : Program} {ops : Array Oper} {rest : List Oper} {o : Oper} {a : Act} {w : World} {Q : Exit → Act → World → Prop} (ty : TypeId) (x : Operand) (ho : o.op = .load ty x)
  (p v : Value) (hx : a.eval x = p) (hrun : (Instr.loadAt ty p).run P w = .ok v w) (hw : Region.wanted o (yielded ops a.tmps) = true) (h : wpList P ops Q rest (a.put o.dst v) w) : wpList P ops Q (o :: rest) a w := by
 refine wpList_step fun K hK => ?_
 rw [if_pos hw]
 unfold Oper.wp execOp
 simp only [ho, hx, Sem.run_bind, Sem.run_pure, hrun, Result.andThen_ok]
 exact hK _ _ h
section
variable {W w : World} {b : Nat}
theorem aBa (C : Calls Tryz.prog 79 #[.pointer (some ⟨b, 0, none⟩)] (w0 w) fun e w' => e = .panicked bQ ∧ (w0 w).grownBy w' (some b)) :
  Calls Tryz.prog 57 #[.pointer (some ⟨b, 0, none⟩)] w fun e w' => e = .panicked bQ ∧ w.grownBy w' (some b) := by
 go_enter Tryz.func57, Tryz.ntmps57
 go_wp2_with (go_at_call 79; refine C.mono ?_; rintro e w1 ⟨rfl, hg⟩)
 exact ⟨rfl, rfl, aM (World.grownBy_alloc _ _ _) hg⟩
theorem lY {t : T} {r : List Tk.Tok} (hb : b < w.heap.size) (C : Calls Tryz.prog 79 #[.pointer (some ⟨b, 0, none⟩)] (w0 w) (PO W b (w0 w) (some (t, r)))) :
  Calls Tryz.prog 79 #[.pointer (some ⟨b, 0, none⟩)] (w0 w) fun e w1 => ∃ es a c, e = .returned (.agg es) ∧ Hid ((Instr.storeAt 28 (.pointer (some ⟨w1.heap.size, 0, none⟩)) (.agg es)).run Tryz.prog (w1.alloc (.cells nd0 28)) = .ok () (w1.alloc (.cells es 28))) ∧
   (w1.alloc (.cells es 28)).cell? ⟨b, 0, none⟩ = some (.slice a r.length c) ∧ Hid (NK (fun i => w.heap.size < i) (w1.alloc (.cells es 28)) es t) ∧ Hid (Sp W b r (w0 w) (w1.alloc (.cells es 28))) ∧ Hid ((w1.alloc (.cells es 28)).heap[w1.heap.size]? = some (.cells es 28)) := C.mono (by
 rintro e w1 ⟨es, rfl, h1, h2⟩
 have hS : Sp W b r (w0 w) (w1.alloc (.cells es 28)) := h2.alloc _
 obtain ⟨v, hv, hts⟩ := hS.1.blk
 obtain ⟨a, c, rfl⟩ := hts.slice
 rw [List.length_map] at hv
 refine ⟨es, a, c, rfl, (kC w1 h1.nt).1, by rw [cell_of_row _ b 0 _ 99 (0, 0) hv]; rfl, ?_, hS, heap_alloc_new _ _⟩
 exact (h1.mono (K' := fun i => w.heap.size < i) (fun i hi _ => by simp at hi; omega)).below (aA (Below.refl _ _) (.cells es 28)))
theorem aBb {t : T} {r : List Tk.Tok} (hb : b < w.heap.size) (hr : 0 < r.length) (C : Calls Tryz.prog 79 #[.pointer (some ⟨b, 0, none⟩)] (w0 w) (PO W b (w0 w) (some (t, r)))) :
  Calls Tryz.prog 57 #[.pointer (some ⟨b, 0, none⟩)] w fun e w' => e = .panicked bQ ∧ w.grownBy w' (some b) := by
 have C' := lY hb C
 have hri : decide ((0 : Int) < (r.length : Int)) = true := by simp; omega
 have aLe : (0 : Int) < (r.length : Int) := by omega
 clear C
 generalize r.length = n at *
 go_enter Tryz.func57, Tryz.ntmps57
 go_wp2_with (first
  | (go_at_call 79; refine C'.mono ?_; rintro e w1 ⟨es, a, c, rfl, RS0, c0, HN, HS, H3⟩)
  | (refine aD rfl 28 _ _ rfl _ _ _ rfl rfl RS0.out ?_))
 exact ⟨rfl, rfl, aM (World.grownBy_alloc _ _ _) HS.out.2⟩
theorem aBd {t : T} (hb : b < w.heap.size) (hz : zT t ≤ 1000000) (hd : ¬ dT t ≤ 24) (C : Calls Tryz.prog 79 #[.pointer (some ⟨b, 0, none⟩)] (w0 w) (PO W b (w0 w) (some (t, [])))) :
  Calls Tryz.prog 57 #[.pointer (some ⟨b, 0, none⟩)] w fun e w' => e = .panicked bQ ∧ w.grownBy w' (some b) := by
 have C' := lY hb C
 have hdi : (24 : Int) < ((dT t : Nat) : Int) := by omega
 have DP := fun u es h => uK t hz u es h
 clear C hd
 generalize dT t = d at *
 go_enter Tryz.func57, Tryz.ntmps57
 go_wp2_with (first
  | (go_at_call 79; refine C'.mono ?_; rintro e w1 ⟨es, a, c, rfl, RS0, c0, HN, HS, H3⟩; have RL := HN.out.lod H3.out)
  | (refine aD rfl 28 _ _ rfl _ _ _ rfl rfl RS0.out ?_; clear RS0)
  | (refine aF 28 _ rfl _ _ rfl RL.out (by go_simp) ?_)
  | (go_at_call 80; refine (DP _ _ HN.out.nt).mono ?_; rintro e w3 ⟨rfl, hs⟩; have HS3 : Hid (Sp W b [] (w0 w) w3) := HS.out.bel hs; clear hs))
 all_goals exact ⟨rfl, rfl, aM (World.grownBy_alloc _ _ _) HS3.out.2⟩
theorem aDm {t : T} (hb : b < w.heap.size) (hz : zT t ≤ 1000000) (hd : dT t ≤ 24) (C : Calls Tryz.prog 79 #[.pointer (some ⟨b, 0, none⟩)] (w0 w) (PO W b (w0 w) (some (t, [])))) :
  Calls Tryz.prog 57 #[.pointer (some ⟨b, 0, none⟩)] w fun e w' => ∃ es, e = .returned (.agg es) ∧ NK (fun i => w.heap.size ≤ i) w' es t ∧ w.grownBy w' (some b) := by
 have C' := lY hb C
 have hdi : ¬ (24 : Int) < ((dT t : Nat) : Int) := by omega
 have DP := fun u es h => uK t hz u es h
 have FIN := fun (u : World) (es : Array Value) (hN : NK (fun i => w.heap.size < i) u es t) (hu : Sp W b [] (w0 w) u) => dU hb hN hu
 clear C hd
 generalize dT t = d at *
 go_enter Tryz.func57, Tryz.ntmps57
 go_wp2_with (first
  | (go_at_call 79; refine C'.mono ?_; rintro e w1 ⟨es, a, c, rfl, RS0, c0, HN, HS, H3⟩; have RL := HN.out.lod H3.out)
  | (refine aD rfl 28 _ _ rfl _ _ _ rfl rfl RS0.out ?_; clear RS0)
  | (refine aF 28 _ rfl _ _ rfl RL.out (by go_simp) ?_)
  | (go_at_call 80; refine (DP _ _ HN.out.nt).mono ?_; rintro e w3 ⟨rfl, hs⟩; obtain ⟨RS, HG, HZ, HF⟩ := FIN _ _ (HN.out.below hs) (HS.out.bel hs); have RL3 := HN.out.lod ((hs.block _ (aS H3.out)).trans H3.out); clear hs)
  | (refine aB rfl 28 _ rfl _ _ rfl RL3.out ?_)
  | (refine aD rfl 28 _ _ rfl _ _ _ rfl rfl RS.out ?_))
 exact bodyPost_ret (bP HG.out HZ.out rfl rfl) rfl ⟨_, rfl, HF.out.1, HF.out.2.2⟩
end
theorem uO {W w : World} {b : Nat} {ts : List Tk.Tok} (hn : ts.length ≤ 256) (X : PR W b ts w) : Calls Tryz.prog 57 #[.pointer (some ⟨b, 0, none⟩)] w (WO W b w (aDl ts)) := by
 have C := wF hn (X.alloc (.cells nd0 28))
 have hb := X.lt
 unfold aDl
 cases hP : PP 1 ts with
 | none => rw [hP] at C; exact aBa C
 | some p =>
  obtain ⟨t, r⟩ := p
  rw [hP] at C
  have hz := aI6 upF trF (by omega) _ t r hP
  cases r with
  | nil =>
   simp only
   by_cases hd : dT t ≤ 24
   ·rw [if_pos hd]
    exact (aDm hb (by omega) hd C).mono (by rintro e w' ⟨es, rfl, h1, h2⟩; exact ⟨es, rfl, h1, h2, by simp at hz; omega⟩)
   ·rw [if_neg hd]; exact aBd hb (by omega) hd C
  | cons x r => exact aBb hb (by simp) C
end Go.Proofs.YtljmklbbngpllaaGreatDoor
namespace Go.Proofs.YtljmklbbngpllaaGreatDoor
open Go.RowKit
theorem dH : Tryz.prog.eqGuardType Tryz.prog.depth 25 = false := by kernel_rfl
theorem wG : Tryz.prog.stoodInHeld 25 = false := by kernel_rfl
theorem aCd : Tryz.prog.underlying 25 = some (.struct (Tryz.prog.fieldsOf 25)) := by kernel_rfl
abbrev rf0 : Field := { name := "Book", type := 9, offset := 0, embedded := false, tag := "", pkgPath := "", byteOffset := 0 }
abbrev rf1 : Field := { name := "Sheet", type := 9, offset := 1, embedded := false, tag := "", pkgPath := "", byteOffset := 16 }
abbrev rf2 : Field := { name := "Row", type := 3, offset := 2, embedded := false, tag := "", pkgPath := "", byteOffset := 32 }
abbrev rf3 : Field := { name := "Col", type := 3, offset := 3, embedded := false, tag := "", pkgPath := "", byteOffset := 40 }
abbrev rf4 : Field := { name := "FixRow", type := 4, offset := 4, embedded := false, tag := "", pkgPath := "", byteOffset := 48 }
abbrev rf5 : Field := { name := "FixCol", type := 4, offset := 5, embedded := false, tag := "", pkgPath := "", byteOffset := 49 }
theorem nJ : (Tryz.prog.fieldsOf 25).toList = [rf0, rf1, rf2, rf3, rf4, rf5] := by kernel_rfl
section
variable (b s : ByteArray) (r c : Int) (fr fc : Bool) (b' s' : ByteArray) (r' c' : Int) (fr' fc' : Bool) (W : World)
theorem aHv : (Op.equalIn 10000 25 (bC b s r c fr fc) (bC b s r c fr fc)).run Tryz.prog W = .ok true W := by
 rw [run_equalIn_struct W 9999 25 _ _ aCd wG, nJ]
 have h9 := Tryz.underlying9
 have h3 := Tryz.underlying3
 have h4 := Tryz.underlying4
 have a9 := Tryz.isAgg9
 have a3 := Tryz.isAgg3
 have a4 := Tryz.isAgg4
 have z9 := Tryz.sizeOf9
 have z3 := Tryz.sizeOf3
 have z4 := Tryz.sizeOf4
 simp only [Op.eqFields]
 go_simp
theorem aJU (hb : (b.toList == b'.toList) = false) : (Op.equalIn 10000 25 (bC b s r c fr fc) (bC b' s' r' c' fr' fc')).run Tryz.prog W = .ok false W := by
 rw [run_equalIn_struct W 9999 25 _ _ aCd wG, nJ]
 have h9 := Tryz.underlying9
 have h3 := Tryz.underlying3
 have h4 := Tryz.underlying4
 have a9 := Tryz.isAgg9
 have a3 := Tryz.isAgg3
 have a4 := Tryz.isAgg4
 have z9 := Tryz.sizeOf9
 have z3 := Tryz.sizeOf3
 have z4 := Tryz.sizeOf4
 simp only [Op.eqFields]
 go_simp
theorem aJV (hb : (b.toList == b'.toList) = true) (hs : (s.toList == s'.toList) = false) : (Op.equalIn 10000 25 (bC b s r c fr fc) (bC b' s' r' c' fr' fc')).run Tryz.prog W = .ok false W := by
 rw [run_equalIn_struct W 9999 25 _ _ aCd wG, nJ]
 have h9 := Tryz.underlying9
 have h3 := Tryz.underlying3
 have h4 := Tryz.underlying4
 have a9 := Tryz.isAgg9
 have a3 := Tryz.isAgg3
 have a4 := Tryz.isAgg4
 have z9 := Tryz.sizeOf9
 have z3 := Tryz.sizeOf3
 have z4 := Tryz.sizeOf4
 simp only [Op.eqFields]
 go_simp
theorem aBe : (binOp .neq 25 (bC b s r c fr fc) (bC b s r c fr fc)).run Tryz.prog W = .ok (.bool false) W := by
 rw [run_neq_struct, aHv]
 rfl
theorem wH (h : (b.toList == b'.toList) = false ∨ (s.toList == s'.toList) = false) : (binOp .neq 25 (bC b s r c fr fc) (bC b' s' r' c' fr' fc')).run Tryz.prog W = .ok (.bool true) W := by
 rw [run_neq_struct]
 cases hb : (b.toList == b'.toList)
 ·rw [aJU _ _ _ _ _ _ _ _ _ _ _ _ _ hb]; rfl
 ·rw [hb] at h
  rw [aJV _ _ _ _ _ _ _ _ _ _ _ _ _ hb (h.resolve_left (by decide))]; rfl
end
end Go.Proofs.YtljmklbbngpllaaGreatDoor
namespace Go.Proofs.YtljmklbbngpllaaGreatDoor
open Go.RowKit Go.Fm
theorem aI7 : Tryz.prog.stoodInHeld 23 = false := by kernel_rfl
theorem eG : Tryz.prog.eqGuardType Tryz.prog.depth 23 = false := by kernel_rfl
theorem aJW : Tryz.prog.underlying 23 = some (.struct (Tryz.prog.fieldsOf 23)) := by kernel_rfl
abbrev vf0 : Field := { name := "Kind", type := 3, offset := 0, embedded := false, tag := "", pkgPath := "", byteOffset := 0 }
abbrev vf1 : Field := { name := "N", type := 3, offset := 1, embedded := false, tag := "", pkgPath := "", byteOffset := 8 }
abbrev vf2 : Field := { name := "S", type := 9, offset := 2, embedded := false, tag := "", pkgPath := "", byteOffset := 16 }
theorem aFC : (Tryz.prog.fieldsOf 23).toList = [vf0, vf1, vf2] := by kernel_rfl
def veB (k n : Int) (s : ByteArray) (k' n' : Int) (s' : ByteArray) : Bool := (k == k') && ((n == n') && (s.toList == s'.toList))
def reB (b s : ByteArray) (r c : Int) (fr fc : Bool) (b' s' : ByteArray) (r' c' : Int) (fr' fc' : Bool) : Bool := (b.toList == b'.toList) && ((s.toList == s'.toList) && ((r == r') && ((c == c') && ((fr == fr') && (fc == fc')))))
theorem iQ {a b : ByteArray} (h : (a.toList == b.toList) = true) : a = b := by
 rw [ByteArray.toList_eq, ByteArray.toList_eq] at h
 have h2 : a.data.toList = b.data.toList := by simpa using h
 have h3 : a.data = b.data := Array.toList_inj.1 h2
 obtain ⟨x⟩ := a
 obtain ⟨y⟩ := b
 exact congrArg ByteArray.mk h3
section
variable (W : World)
theorem aCe (k n : Int) (s : ByteArray) (k' n' : Int) (s' : ByteArray) : (Op.equalIn 10000 23 (val k n s) (val k' n' s')).run Tryz.prog W = .ok (veB k n s k' n' s') W := by
 rw [run_equalIn_struct W 9999 23 _ _ aJW aI7, aFC]
 have h9 := Tryz.underlying9
 have h3 := Tryz.underlying3
 have a9 := Tryz.isAgg9
 have a3 := Tryz.isAgg3
 have z9 := Tryz.sizeOf9
 have z3 := Tryz.sizeOf3
 unfold veB
 simp only [Op.eqFields]
 cases e1 : (k == k') <;> cases e2 : (n == n') <;> cases e3 : (s.toList == s'.toList) <;> go_simp
theorem zZ (b s : ByteArray) (r c : Int) (fr fc : Bool) (b' s' : ByteArray) (r' c' : Int) (fr' fc' : Bool) : (Op.equalIn 10000 25 (bC b s r c fr fc) (bC b' s' r' c' fr' fc')).run Tryz.prog W = .ok (reB b s r c fr fc b' s' r' c' fr' fc') W := by
 rw [run_equalIn_struct W 9999 25 _ _ aCd wG, nJ]
 have h9 := Tryz.underlying9
 have h3 := Tryz.underlying3
 have h4 := Tryz.underlying4
 have a9 := Tryz.isAgg9
 have a3 := Tryz.isAgg3
 have a4 := Tryz.isAgg4
 have z9 := Tryz.sizeOf9
 have z3 := Tryz.sizeOf3
 have z4 := Tryz.sizeOf4
 unfold reB
 simp only [Op.eqFields]
 cases e1 : (b.toList == b'.toList)
 ·go_simp
 cases e2 : (s.toList == s'.toList)
 ·go_simp
 cases e3 : (r == r')
 ·go_simp
 cases e4 : (c == c')
 ·go_simp
 cases e5 : (fr == fr')
 ·go_simp
 cases e6 : (fc == fc')
 ·go_simp
 go_simp
end
def rY (a b : Lab) : Bool := (a.k == b.k) && ((a.s.toList == b.s.toList) && (veB a.vk a.vn a.vs b.vk b.vn b.vs && (reB a.b1 a.h1 a.r1 a.c1 a.fr1 a.fc1 b.b1 b.h1 b.r1 b.c1 b.fr1 b.fc1 && reB a.b2 a.h2 a.r2 a.c2 a.fr2 a.fc2 b.b2 b.h2 b.r2 b.c2 b.fr2 b.fc2)))
theorem uP (a : Lab) : rY a a = true := by unfold rY veB reB; simp
theorem aCf {a b : Lab} (h : rY a b = true) : a = b := by
 unfold rY veB reB at h
 simp only [Bool.and_eq_true] at h
 obtain ⟨h1, h2, ⟨h3, h4, h5⟩, ⟨h6, h7, h8, h9, h10, h11⟩, h12, h13, h14, h15, h16, h17⟩ := h
 obtain ⟨k, s, vk, vn, vs, b1, x1, r1, c1, f1, g1, b2, x2, r2, c2, f2, g2⟩ := a
 obtain ⟨k', s', vk', vn', vs', b1', x1', r1', c1', f1', g1', b2', x2', r2', c2', f2', g2'⟩ := b
 simp only at *
 simp only [beq_iff_eq] at h1 h3 h4 h8 h9 h10 h11 h14 h15 h16 h17
 rw [h1, iQ h2, h3, h4, iQ h5, iQ h6, iQ h7, h8, h9, h10, h11, iQ h12, iQ h13, h14, h15, h16, h17]
theorem aN {u : World} {g : Nat} {a : Lab} {sl : Value} {z : Nat × Nat} (h : u.heap[g]? = some (.cells (lcs a sl) 28 z)) :
  u.cell? ⟨g, 0, none⟩ = some (.int .i64 a.k) ∧ u.cell? ⟨g, 1, none⟩ = some (.string a.s) ∧ (Instr.loadAt 23 (.pointer (some ⟨g, 2, none⟩))).run Tryz.prog u = .ok (val a.vk a.vn a.vs) u ∧ (Instr.loadAt 25 (.pointer (some ⟨g, 5, none⟩))).run Tryz.prog u = .ok (bC a.b1 a.h1 a.r1 a.c1 a.fr1 a.fc1) u ∧ (Instr.loadAt 25 (.pointer (some ⟨g, 11, none⟩))).run Tryz.prog u = .ok (bC a.b2 a.h2 a.r2 a.c2 a.fr2 a.fc2) u := by
 have hc : ∀ j v, (lcs a sl)[j]? = some v → u.cell? ⟨g, j, none⟩ = some v := fun j v hj => by rw [cell_of_row u g j _ 28 z h]; exact hj
 have hadd : ∀ o j, (⟨g, o, none⟩ : Addr).add j = ⟨g, o + j, none⟩ := fun o j => by unfold Addr.add; split <;> simp_all
 refine ⟨hc 0 _ rfl, hc 1 _ rfl, ?_, ?_, ?_⟩
 ·exact bW u ⟨g, 2, none⟩ 23 [.int .i64 a.vk, .int .i64 a.vn, .string a.vs] _ (fun j v hj => by
   rw [hadd]
   refine hc _ _ ?_
   match j, hj with
   | 0, hj => exact hj
   | 1, hj => exact hj
   | 2, hj => exact hj) Tryz.underlying23 rfl (by kernel_rfl)
 ·exact bW u ⟨g, 5, none⟩ 25 [.string a.b1, .string a.h1, .int .i64 a.r1, .int .i64 a.c1, .bool a.fr1, .bool a.fc1] _ (fun j v hj => by
   rw [hadd]
   refine hc _ _ ?_
   match j, hj with
   | 0, hj => exact hj
   | 1, hj => exact hj
   | 2, hj => exact hj
   | 3, hj => exact hj
   | 4, hj => exact hj
   | 5, hj => exact hj) Tryz.underlying25 rfl (by kernel_rfl)
 ·exact bW u ⟨g, 11, none⟩ 25 [.string a.b2, .string a.h2, .int .i64 a.r2, .int .i64 a.c2, .bool a.fr2, .bool a.fc2] _ (fun j v hj => by
   rw [hadd]
   refine hc _ _ ?_
   match j, hj with
   | 0, hj => exact hj
   | 1, hj => exact hj
   | 2, hj => exact hj
   | 3, hj => exact hj
   | 4, hj => exact hj
   | 5, hj => exact hj) Tryz.underlying25 rfl (by kernel_rfl)
theorem dY (W : World) (k n : Int) (s : ByteArray) (k' n' : Int) (s' : ByteArray) : (binOp .eql 23 (val k n s) (val k' n' s')).run Tryz.prog W = .ok (.bool (veB k n s k' n' s')) W := by
 rw [run_eql_struct, aCe]; rfl
theorem dZ (W : World) (k n : Int) (s : ByteArray) (k' n' : Int) (s' : ByteArray) : (binOp .neq 23 (val k n s) (val k' n' s')).run Tryz.prog W = .ok (.bool (!veB k n s k' n' s')) W := by
 rw [run_neq_struct, aCe]; rfl
theorem bI (W : World) (b s : ByteArray) (r c : Int) (fr fc : Bool) (b' s' : ByteArray) (r' c' : Int) (fr' fc' : Bool) : (binOp .eql 25 (bC b s r c fr fc) (bC b' s' r' c' fr' fc')).run Tryz.prog W = .ok (.bool (reB b s r c fr fc b' s' r' c' fr' fc')) W := by
 rw [run_eql_struct, zZ]; rfl
theorem bD (W : World) (b s : ByteArray) (r c : Int) (fr fc : Bool) (b' s' : ByteArray) (r' c' : Int) (fr' fc' : Bool) : (binOp .neq 25 (bC b s r c fr fc) (bC b' s' r' c' fr' fc')).run Tryz.prog W = .ok (.bool (!reB b s r c fr fc b' s' r' c' fr' fc')) W := by
 rw [run_neq_struct, zZ]; rfl
end Go.Proofs.YtljmklbbngpllaaGreatDoor
