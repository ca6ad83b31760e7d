/- FWhole, AEq, FAlike, FAlike2. -/
import Derived.Test.YtljmklbbngpllaaGreatDoorFPure2Ot
set_option linter.unusedVariables false
set_option linter.unusedSimpArgs false
set_option maxHeartbeats 16000000
set_option maxRecDepth 100000
namespace Go.Proofs.YtljmklbbngpllaaGreatDoor
open Go.RowKit Go.Fm
def allF (ts : List Tk.Tok) : Option T := match PP 1 ts with
 | some (t, []) => if dT t ≤ 24 then some t else none
 | _ => none
def WO (W : World) (b : Nat) (w : World) (o : Option T) (e : Ending) (w' : World) : Prop :=
 match o with
 | none => e = .panicked formP ∧ w.grownBy w' (some b)
 | some t => ∃ es, e = .returned (.agg es) ∧ NK (fun i => w.heap.size ≤ i) w' es t ∧ w.grownBy w' (some b) ∧ zT t ≤ 256
theorem wpList_load_g {P : Program} {ops : Array Oper} {rest : List Oper} {o : Oper} {a : Act} {w : World} {Q : Exit → Act → World → Prop} (ty : TypeId) (x : Operand) (ho : o.op = .load ty x)
  (p v : Value) (hx : a.eval x = p) (hrun : (Instr.loadAt ty p).run P w = .ok v w) (hw : Region.wanted o (yielded ops a.tmps) = true) (h : wpList P ops Q rest (a.put o.dst v) w) : wpList P ops Q (o :: rest) a w := by
 refine wpList_step fun K hK => ?_
 rw [if_pos hw]
 unfold Oper.wp execOp
 simp only [ho, hx, Sem.run_bind, Sem.run_pure, hrun, Result.andThen_ok]
 exact hK _ _ h
section
variable {W w : World} {b : Nat}
theorem whole_none (C : Calls Tryz.prog 79 #[.pointer (some ⟨b, 0, none⟩)] (w0 w) fun e w' => e = .panicked formP ∧ (w0 w).grownBy w' (some b)) :
  Calls Tryz.prog 57 #[.pointer (some ⟨b, 0, none⟩)] w fun e w' => e = .panicked formP ∧ w.grownBy w' (some b) := by
 go_enter Tryz.func57, Tryz.ntmps57
 go_wp2_with (go_at_call 79; refine C.mono ?_; rintro e w1 ⟨rfl, hg⟩)
 exact ⟨rfl, rfl, grown_trans (World.grownBy_alloc _ _ _) hg⟩
theorem whole_step {t : T} {r : List Tk.Tok} (hb : b < w.heap.size) (C : Calls Tryz.prog 79 #[.pointer (some ⟨b, 0, none⟩)] (w0 w) (PO W b (w0 w) (some (t, r)))) :
  Calls Tryz.prog 79 #[.pointer (some ⟨b, 0, none⟩)] (w0 w) fun e w1 => ∃ es a c, e = .returned (.agg es) ∧ Hid ((Instr.storeAt 28 (.pointer (some ⟨w1.heap.size, 0, none⟩)) (.agg es)).run Tryz.prog (w1.alloc (.cells nd0 28)) = .ok () (w1.alloc (.cells es 28))) ∧
   (w1.alloc (.cells es 28)).cell? ⟨b, 0, none⟩ = some (.slice a r.length c) ∧ Hid (NK (fun i => w.heap.size < i) (w1.alloc (.cells es 28)) es t) ∧ Hid (Sp W b r (w0 w) (w1.alloc (.cells es 28))) ∧ Hid ((w1.alloc (.cells es 28)).heap[w1.heap.size]? = some (.cells es 28)) := C.mono (by
 rintro e w1 ⟨es, rfl, h1, h2⟩
 have hS : Sp W b r (w0 w) (w1.alloc (.cells es 28)) := h2.alloc _
 obtain ⟨v, hv, hts⟩ := hS.1.blk
 obtain ⟨a, c, rfl⟩ := hts.slice
 rw [List.length_map] at hv
 refine ⟨es, a, c, rfl, (nbox w1 h1.nt).1, by rw [cell_of_row _ b 0 _ 99 (0, 0) hv]; rfl, ?_, hS, heap_alloc_new _ _⟩
 exact (h1.mono (K' := fun i => w.heap.size < i) (fun i hi _ => by simp at hi; omega)).below (bel_alloc (Below.refl _ _) (.cells es 28)))
theorem whole_more {t : T} {r : List Tk.Tok} (hb : b < w.heap.size) (hr : 0 < r.length) (C : Calls Tryz.prog 79 #[.pointer (some ⟨b, 0, none⟩)] (w0 w) (PO W b (w0 w) (some (t, r)))) :
  Calls Tryz.prog 57 #[.pointer (some ⟨b, 0, none⟩)] w fun e w' => e = .panicked formP ∧ w.grownBy w' (some b) := by
 have C' := whole_step hb C
 have hri : decide ((0 : Int) < (r.length : Int)) = true := by simp; omega
 have hri2 : (0 : Int) < (r.length : Int) := by omega
 clear C
 generalize r.length = n at *
 go_enter Tryz.func57, Tryz.ntmps57
 go_wp2_with (first
  | (go_at_call 79; refine C'.mono ?_; rintro e w1 ⟨es, a, c, rfl, RS0, c0, HN, HS, H3⟩)
  | (refine wpList_store_run rfl 28 _ _ rfl _ _ _ rfl rfl RS0.out ?_))
 exact ⟨rfl, rfl, grown_trans (World.grownBy_alloc _ _ _) HS.out.2⟩
theorem whole_deep {t : T} (hb : b < w.heap.size) (hz : zT t ≤ 1000000) (hd : ¬ dT t ≤ 24) (C : Calls Tryz.prog 79 #[.pointer (some ⟨b, 0, none⟩)] (w0 w) (PO W b (w0 w) (some (t, [])))) :
  Calls Tryz.prog 57 #[.pointer (some ⟨b, 0, none⟩)] w fun e w' => e = .panicked formP ∧ w.grownBy w' (some b) := by
 have C' := whole_step hb C
 have hdi : (24 : Int) < ((dT t : Nat) : Int) := by omega
 have DP := fun u es h => depth_any t hz u es h
 clear C hd
 generalize dT t = d at *
 go_enter Tryz.func57, Tryz.ntmps57
 go_wp2_with (first
  | (go_at_call 79; refine C'.mono ?_; rintro e w1 ⟨es, a, c, rfl, RS0, c0, HN, HS, H3⟩; have RL := HN.out.lod H3.out)
  | (refine wpList_store_run rfl 28 _ _ rfl _ _ _ rfl rfl RS0.out ?_; clear RS0)
  | (refine wpList_load_g 28 _ rfl _ _ rfl RL.out (by go_simp) ?_)
  | (go_at_call 80; refine (DP _ _ HN.out.nt).mono ?_; rintro e w3 ⟨rfl, hs⟩; have HS3 : Hid (Sp W b [] (w0 w) w3) := HS.out.bel hs; clear hs))
 all_goals exact ⟨rfl, rfl, grown_trans (World.grownBy_alloc _ _ _) HS3.out.2⟩
theorem whole_yes {t : T} (hb : b < w.heap.size) (hz : zT t ≤ 1000000) (hd : dT t ≤ 24) (C : Calls Tryz.prog 79 #[.pointer (some ⟨b, 0, none⟩)] (w0 w) (PO W b (w0 w) (some (t, [])))) :
  Calls Tryz.prog 57 #[.pointer (some ⟨b, 0, none⟩)] w fun e w' => ∃ es, e = .returned (.agg es) ∧ NK (fun i => w.heap.size ≤ i) w' es t ∧ w.grownBy w' (some b) := by
 have C' := whole_step hb C
 have hdi : ¬ (24 : Int) < ((dT t : Nat) : Int) := by omega
 have DP := fun u es h => depth_any t hz u es h
 have FIN := fun (u : World) (es : Array Value) (hN : NK (fun i => w.heap.size < i) u es t) (hu : Sp W b [] (w0 w) u) => fin_all hb hN hu
 clear C hd
 generalize dT t = d at *
 go_enter Tryz.func57, Tryz.ntmps57
 go_wp2_with (first
  | (go_at_call 79; refine C'.mono ?_; rintro e w1 ⟨es, a, c, rfl, RS0, c0, HN, HS, H3⟩; have RL := HN.out.lod H3.out)
  | (refine wpList_store_run rfl 28 _ _ rfl _ _ _ rfl rfl RS0.out ?_; clear RS0)
  | (refine wpList_load_g 28 _ rfl _ _ rfl RL.out (by go_simp) ?_)
  | (go_at_call 80; refine (DP _ _ HN.out.nt).mono ?_; rintro e w3 ⟨rfl, hs⟩; obtain ⟨RS, HG, HZ, HF⟩ := FIN _ _ (HN.out.below hs) (HS.out.bel hs); have RL3 := HN.out.lod ((hs.block _ (lt_of H3.out)).trans H3.out); clear hs)
  | (refine wpList_load_run rfl 28 _ rfl _ _ rfl RL3.out ?_)
  | (refine wpList_store_run rfl 28 _ _ rfl _ _ _ rfl rfl RS.out ?_))
 exact bodyPost_ret (nd_res HG.out HZ.out rfl rfl) rfl ⟨_, rfl, HF.out.1, HF.out.2.2⟩
end
theorem whole_any {W w : World} {b : Nat} {ts : List Tk.Tok} (hn : ts.length ≤ 256) (X : PR W b ts w) : Calls Tryz.prog 57 #[.pointer (some ⟨b, 0, none⟩)] w (WO W b w (allF ts)) := by
 have C := compared_any hn (X.alloc (.cells nd0 28))
 have hb := X.lt
 unfold allF
 cases hP : PP 1 ts with
 | none => rw [hP] at C; exact whole_none C
 | some p =>
  obtain ⟨t, r⟩ := p
  rw [hP] at C
  have hz := ps_few upF trF (by omega) _ t r hP
  cases r with
  | nil =>
   simp only
   by_cases hd : dT t ≤ 24
   ·rw [if_pos hd]
    exact (whole_yes hb (by omega) hd C).mono (by rintro e w' ⟨es, rfl, h1, h2⟩; exact ⟨es, rfl, h1, h2, by simp at hz; omega⟩)
   ·rw [if_neg hd]; exact whole_deep hb (by omega) hd C
  | cons x r => exact whole_more hb (by simp) C
end Go.Proofs.YtljmklbbngpllaaGreatDoor
namespace Go.Proofs.YtljmklbbngpllaaGreatDoor
open Go.RowKit
theorem guard25 : Tryz.prog.eqGuardType Tryz.prog.depth 25 = false := by kernel_rfl
theorem held25 : Tryz.prog.stoodInHeld 25 = false := by kernel_rfl
theorem str25 : Tryz.prog.underlying 25 = some (.struct (Tryz.prog.fieldsOf 25)) := by kernel_rfl
abbrev rf0 : Field := { name := "Book", type := 9, offset := 0, embedded := false, tag := "", pkgPath := "", byteOffset := 0 }
abbrev rf1 : Field := { name := "Sheet", type := 9, offset := 1, embedded := false, tag := "", pkgPath := "", byteOffset := 16 }
abbrev rf2 : Field := { name := "Row", type := 3, offset := 2, embedded := false, tag := "", pkgPath := "", byteOffset := 32 }
abbrev rf3 : Field := { name := "Col", type := 3, offset := 3, embedded := false, tag := "", pkgPath := "", byteOffset := 40 }
abbrev rf4 : Field := { name := "FixRow", type := 4, offset := 4, embedded := false, tag := "", pkgPath := "", byteOffset := 48 }
abbrev rf5 : Field := { name := "FixCol", type := 4, offset := 5, embedded := false, tag := "", pkgPath := "", byteOffset := 49 }
theorem fields25 : (Tryz.prog.fieldsOf 25).toList = [rf0, rf1, rf2, rf3, rf4, rf5] := by kernel_rfl
section
variable (b s : ByteArray) (r c : Int) (fr fc : Bool) (b' s' : ByteArray) (r' c' : Int) (fr' fc' : Bool) (W : World)
theorem eqn_ref : (Op.equalIn 10000 25 (refV b s r c fr fc) (refV b s r c fr fc)).run Tryz.prog W = .ok true W := by
 rw [run_equalIn_struct W 9999 25 _ _ str25 held25, fields25]
 have h9 := Tryz.underlying9
 have h3 := Tryz.underlying3
 have h4 := Tryz.underlying4
 have a9 := Tryz.isAgg9
 have a3 := Tryz.isAgg3
 have a4 := Tryz.isAgg4
 have z9 := Tryz.sizeOf9
 have z3 := Tryz.sizeOf3
 have z4 := Tryz.sizeOf4
 simp only [Op.eqFields]
 go_simp
theorem nen_b (hb : (b.toList == b'.toList) = false) : (Op.equalIn 10000 25 (refV b s r c fr fc) (refV b' s' r' c' fr' fc')).run Tryz.prog W = .ok false W := by
 rw [run_equalIn_struct W 9999 25 _ _ str25 held25, fields25]
 have h9 := Tryz.underlying9
 have h3 := Tryz.underlying3
 have h4 := Tryz.underlying4
 have a9 := Tryz.isAgg9
 have a3 := Tryz.isAgg3
 have a4 := Tryz.isAgg4
 have z9 := Tryz.sizeOf9
 have z3 := Tryz.sizeOf3
 have z4 := Tryz.sizeOf4
 simp only [Op.eqFields]
 go_simp
theorem nen_s (hb : (b.toList == b'.toList) = true) (hs : (s.toList == s'.toList) = false) : (Op.equalIn 10000 25 (refV b s r c fr fc) (refV b' s' r' c' fr' fc')).run Tryz.prog W = .ok false W := by
 rw [run_equalIn_struct W 9999 25 _ _ str25 held25, fields25]
 have h9 := Tryz.underlying9
 have h3 := Tryz.underlying3
 have h4 := Tryz.underlying4
 have a9 := Tryz.isAgg9
 have a3 := Tryz.isAgg3
 have a4 := Tryz.isAgg4
 have z9 := Tryz.sizeOf9
 have z3 := Tryz.sizeOf3
 have z4 := Tryz.sizeOf4
 simp only [Op.eqFields]
 go_simp
theorem run_ne_ref : (binOp .neq 25 (refV b s r c fr fc) (refV b s r c fr fc)).run Tryz.prog W = .ok (.bool false) W := by
 rw [run_neq_struct, eqn_ref]
 rfl
theorem run_ne_other (h : (b.toList == b'.toList) = false ∨ (s.toList == s'.toList) = false) : (binOp .neq 25 (refV b s r c fr fc) (refV b' s' r' c' fr' fc')).run Tryz.prog W = .ok (.bool true) W := by
 rw [run_neq_struct]
 cases hb : (b.toList == b'.toList)
 ·rw [nen_b _ _ _ _ _ _ _ _ _ _ _ _ _ hb]; rfl
 ·rw [hb] at h
  rw [nen_s _ _ _ _ _ _ _ _ _ _ _ _ _ hb (h.resolve_left (by decide))]; rfl
end
end Go.Proofs.YtljmklbbngpllaaGreatDoor
namespace Go.Proofs.YtljmklbbngpllaaGreatDoor
open Go.RowKit Go.Fm
theorem held23 : Tryz.prog.stoodInHeld 23 = false := by kernel_rfl
theorem guard23 : Tryz.prog.eqGuardType Tryz.prog.depth 23 = false := by kernel_rfl
theorem str23 : Tryz.prog.underlying 23 = some (.struct (Tryz.prog.fieldsOf 23)) := by kernel_rfl
abbrev vf0 : Field := { name := "Kind", type := 3, offset := 0, embedded := false, tag := "", pkgPath := "", byteOffset := 0 }
abbrev vf1 : Field := { name := "N", type := 3, offset := 1, embedded := false, tag := "", pkgPath := "", byteOffset := 8 }
abbrev vf2 : Field := { name := "S", type := 9, offset := 2, embedded := false, tag := "", pkgPath := "", byteOffset := 16 }
theorem fields23 : (Tryz.prog.fieldsOf 23).toList = [vf0, vf1, vf2] := by kernel_rfl
def veB (k n : Int) (s : ByteArray) (k' n' : Int) (s' : ByteArray) : Bool := (k == k') && ((n == n') && (s.toList == s'.toList))
def reB (b s : ByteArray) (r c : Int) (fr fc : Bool) (b' s' : ByteArray) (r' c' : Int) (fr' fc' : Bool) : Bool := (b.toList == b'.toList) && ((s.toList == s'.toList) && ((r == r') && ((c == c') && ((fr == fr') && (fc == fc')))))
theorem bytes_eq {a b : ByteArray} (h : (a.toList == b.toList) = true) : a = b := by
 rw [ByteArray.toList_eq, ByteArray.toList_eq] at h
 have h2 : a.data.toList = b.data.toList := by simpa using h
 have h3 : a.data = b.data := Array.toList_inj.1 h2
 obtain ⟨x⟩ := a
 obtain ⟨y⟩ := b
 exact congrArg ByteArray.mk h3
section
variable (W : World)
theorem eqn_val (k n : Int) (s : ByteArray) (k' n' : Int) (s' : ByteArray) : (Op.equalIn 10000 23 (val k n s) (val k' n' s')).run Tryz.prog W = .ok (veB k n s k' n' s') W := by
 rw [run_equalIn_struct W 9999 23 _ _ str23 held23, fields23]
 have h9 := Tryz.underlying9
 have h3 := Tryz.underlying3
 have a9 := Tryz.isAgg9
 have a3 := Tryz.isAgg3
 have z9 := Tryz.sizeOf9
 have z3 := Tryz.sizeOf3
 unfold veB
 simp only [Op.eqFields]
 cases e1 : (k == k') <;> cases e2 : (n == n') <;> cases e3 : (s.toList == s'.toList) <;> go_simp
theorem eqn_refB (b s : ByteArray) (r c : Int) (fr fc : Bool) (b' s' : ByteArray) (r' c' : Int) (fr' fc' : Bool) : (Op.equalIn 10000 25 (refV b s r c fr fc) (refV b' s' r' c' fr' fc')).run Tryz.prog W = .ok (reB b s r c fr fc b' s' r' c' fr' fc') W := by
 rw [run_equalIn_struct W 9999 25 _ _ str25 held25, fields25]
 have h9 := Tryz.underlying9
 have h3 := Tryz.underlying3
 have h4 := Tryz.underlying4
 have a9 := Tryz.isAgg9
 have a3 := Tryz.isAgg3
 have a4 := Tryz.isAgg4
 have z9 := Tryz.sizeOf9
 have z3 := Tryz.sizeOf3
 have z4 := Tryz.sizeOf4
 unfold reB
 simp only [Op.eqFields]
 cases e1 : (b.toList == b'.toList)
 ·go_simp
 cases e2 : (s.toList == s'.toList)
 ·go_simp
 cases e3 : (r == r')
 ·go_simp
 cases e4 : (c == c')
 ·go_simp
 cases e5 : (fr == fr')
 ·go_simp
 cases e6 : (fc == fc')
 ·go_simp
 go_simp
end
def labB (a b : Lab) : Bool := (a.k == b.k) && ((a.s.toList == b.s.toList) && (veB a.vk a.vn a.vs b.vk b.vn b.vs && (reB a.b1 a.h1 a.r1 a.c1 a.fr1 a.fc1 b.b1 b.h1 b.r1 b.c1 b.fr1 b.fc1 && reB a.b2 a.h2 a.r2 a.c2 a.fr2 a.fc2 b.b2 b.h2 b.r2 b.c2 b.fr2 b.fc2)))
theorem labB_refl (a : Lab) : labB a a = true := by unfold labB veB reB; simp
theorem labB_eq {a b : Lab} (h : labB a b = true) : a = b := by
 unfold labB veB reB at h
 simp only [Bool.and_eq_true] at h
 obtain ⟨h1, h2, ⟨h3, h4, h5⟩, ⟨h6, h7, h8, h9, h10, h11⟩, h12, h13, h14, h15, h16, h17⟩ := h
 obtain ⟨k, s, vk, vn, vs, b1, x1, r1, c1, f1, g1, b2, x2, r2, c2, f2, g2⟩ := a
 obtain ⟨k', s', vk', vn', vs', b1', x1', r1', c1', f1', g1', b2', x2', r2', c2', f2', g2'⟩ := b
 simp only at *
 simp only [beq_iff_eq] at h1 h3 h4 h8 h9 h10 h11 h14 h15 h16 h17
 rw [h1, bytes_eq h2, h3, h4, bytes_eq h5, bytes_eq h6, bytes_eq h7, h8, h9, h10, h11, bytes_eq h12, bytes_eq h13, h14, h15, h16, h17]
theorem box_all {u : World} {g : Nat} {a : Lab} {sl : Value} {z : Nat × Nat} (h : u.heap[g]? = some (.cells (lcs a sl) 28 z)) :
  u.cell? ⟨g, 0, none⟩ = some (.int .i64 a.k) ∧ u.cell? ⟨g, 1, none⟩ = some (.string a.s) ∧ (Instr.loadAt 23 (.pointer (some ⟨g, 2, none⟩))).run Tryz.prog u = .ok (val a.vk a.vn a.vs) u ∧ (Instr.loadAt 25 (.pointer (some ⟨g, 5, none⟩))).run Tryz.prog u = .ok (refV a.b1 a.h1 a.r1 a.c1 a.fr1 a.fc1) u ∧ (Instr.loadAt 25 (.pointer (some ⟨g, 11, none⟩))).run Tryz.prog u = .ok (refV a.b2 a.h2 a.r2 a.c2 a.fr2 a.fc2) u := by
 have hc : ∀ j v, (lcs a sl)[j]? = some v → u.cell? ⟨g, j, none⟩ = some v := fun j v hj => by rw [cell_of_row u g j _ 28 z h]; exact hj
 have hadd : ∀ o j, (⟨g, o, none⟩ : Addr).add j = ⟨g, o + j, none⟩ := fun o j => by unfold Addr.add; split <;> simp_all
 refine ⟨hc 0 _ rfl, hc 1 _ rfl, ?_, ?_, ?_⟩
 ·exact run_loadVar_any u ⟨g, 2, none⟩ 23 [.int .i64 a.vk, .int .i64 a.vn, .string a.vs] _ (fun j v hj => by
   rw [hadd]
   refine hc _ _ ?_
   match j, hj with
   | 0, hj => exact hj
   | 1, hj => exact hj
   | 2, hj => exact hj) Tryz.underlying23 rfl (by kernel_rfl)
 ·exact run_loadVar_any u ⟨g, 5, none⟩ 25 [.string a.b1, .string a.h1, .int .i64 a.r1, .int .i64 a.c1, .bool a.fr1, .bool a.fc1] _ (fun j v hj => by
   rw [hadd]
   refine hc _ _ ?_
   match j, hj with
   | 0, hj => exact hj
   | 1, hj => exact hj
   | 2, hj => exact hj
   | 3, hj => exact hj
   | 4, hj => exact hj
   | 5, hj => exact hj) Tryz.underlying25 rfl (by kernel_rfl)
 ·exact run_loadVar_any u ⟨g, 11, none⟩ 25 [.string a.b2, .string a.h2, .int .i64 a.r2, .int .i64 a.c2, .bool a.fr2, .bool a.fc2] _ (fun j v hj => by
   rw [hadd]
   refine hc _ _ ?_
   match j, hj with
   | 0, hj => exact hj
   | 1, hj => exact hj
   | 2, hj => exact hj
   | 3, hj => exact hj
   | 4, hj => exact hj
   | 5, hj => exact hj) Tryz.underlying25 rfl (by kernel_rfl)
theorem run_eql_val (W : World) (k n : Int) (s : ByteArray) (k' n' : Int) (s' : ByteArray) : (binOp .eql 23 (val k n s) (val k' n' s')).run Tryz.prog W = .ok (.bool (veB k n s k' n' s')) W := by
 rw [run_eql_struct, eqn_val]; rfl
theorem run_neq_val (W : World) (k n : Int) (s : ByteArray) (k' n' : Int) (s' : ByteArray) : (binOp .neq 23 (val k n s) (val k' n' s')).run Tryz.prog W = .ok (.bool (!veB k n s k' n' s')) W := by
 rw [run_neq_struct, eqn_val]; rfl
theorem run_eql_refB (W : World) (b s : ByteArray) (r c : Int) (fr fc : Bool) (b' s' : ByteArray) (r' c' : Int) (fr' fc' : Bool) : (binOp .eql 25 (refV b s r c fr fc) (refV b' s' r' c' fr' fc')).run Tryz.prog W = .ok (.bool (reB b s r c fr fc b' s' r' c' fr' fc')) W := by
 rw [run_eql_struct, eqn_refB]; rfl
theorem run_neq_refB (W : World) (b s : ByteArray) (r c : Int) (fr fc : Bool) (b' s' : ByteArray) (r' c' : Int) (fr' fc' : Bool) : (binOp .neq 25 (refV b s r c fr fc) (refV b' s' r' c' fr' fc')).run Tryz.prog W = .ok (.bool (!reB b s r c fr fc b' s' r' c' fr' fc')) W := by
 rw [run_neq_struct, eqn_refB]; rfl
theorem alike_0 {a b : Lab} {sl sl' : Value} (hk : (a.k == b.k) = false) (w : World) : Calls Tryz.prog 160 #[.agg (lcs a sl), .agg (lcs b sl')] w fun e w' => e = .returned (.bool false) ∧ Below w.heap.size w w' := by
 obtain ⟨w2, hw2⟩ : ∃ w2, (w.alloc (.cells (lcs a sl) 28)).alloc (.cells (lcs b sl') 28) = w2 := ⟨_, rfl⟩
 have H0 : w2.heap[w.heap.size]? = some (.cells (lcs a sl) 28) := by rw [← hw2]; exact (Below.heap_alloc _ _ _ (by simp)).trans (heap_alloc_new w _)
 have H1 : w2.heap[w.heap.size + 1]? = some (.cells (lcs b sl') 28) := by
  rw [← hw2]
  have := heap_alloc_new (w.alloc (.cells (lcs a sl) 28)) (.cells (lcs b sl') 28)
  simpa using this
 have HB : Hid (Below w.heap.size w w2) := by show Below _ _ _; rw [← hw2]; exact bel_alloc (bel_alloc (Below.refl _ _) _) _
 obtain ⟨c0, c1, l2, l3, l4⟩ := box_all H0
 obtain ⟨d0, d1, m2, m3, m4⟩ := box_all H1
 have L2 : Hid _ := l2
 have L3 : Hid _ := l3
 have L4 : Hid _ := l4
 have M2 : Hid _ := m2
 have M3 : Hid _ := m3
 have M4 : Hid _ := m4
 have E2 := fun u => run_eql_val u a.vk a.vn a.vs b.vk b.vn b.vs
 have E3 := fun u => run_eql_refB u a.b1 a.h1 a.r1 a.c1 a.fr1 a.fc1 b.b1 b.h1 b.r1 b.c1 b.fr1 b.fc1
 have E4 := fun u => run_eql_refB u a.b2 a.h2 a.r2 a.c2 a.fr2 a.fc2 b.b2 b.h2 b.r2 b.c2 b.fr2 b.fc2
 have G2 := guard23
 have G3 := guard25
 clear H0 H1 l2 l3 l4 m2 m3 m4
 generalize lcs a sl = bx at *
 generalize lcs b sl' = bz at *
 obtain ⟨k, s, vk, vn, vs, b1, x1, r1, c1_, f1, g1, b2, x2, r2, c2, f2, g2⟩ := a
 obtain ⟨k', s', vk', vn', vs', b1', x1', r1', c1', f1', g1', b2', x2', r2', c2', f2', g2'⟩ := b
 dsimp only at *
 go_enter Tryz.func160, Tryz.ntmps160
 go_wp2_with (first
  | (refine wpList_load_g 23 _ rfl _ _ rfl L2.out (by go_simp) ?_)
  | (refine wpList_load_g 23 _ rfl _ _ rfl M2.out (by go_simp) ?_)
  | (refine wpList_load_g 25 _ rfl _ _ rfl L3.out (by go_simp) ?_)
  | (refine wpList_load_g 25 _ rfl _ _ rfl M3.out (by go_simp) ?_)
  | (refine wpList_load_g 25 _ rfl _ _ rfl L4.out (by go_simp) ?_)
  | (refine wpList_load_g 25 _ rfl _ _ rfl M4.out (by go_simp) ?_))
 go_ret
 exact ⟨by first | rfl | (simp; done), HB.out⟩
theorem alike_1 {a b : Lab} {sl sl' : Value} (hk : (a.k == b.k) = true) (hs : (a.s.toList == b.s.toList) = false) (w : World) : Calls Tryz.prog 160 #[.agg (lcs a sl), .agg (lcs b sl')] w fun e w' => e = .returned (.bool false) ∧ Below w.heap.size w w' := by
 obtain ⟨w2, hw2⟩ : ∃ w2, (w.alloc (.cells (lcs a sl) 28)).alloc (.cells (lcs b sl') 28) = w2 := ⟨_, rfl⟩
 have H0 : w2.heap[w.heap.size]? = some (.cells (lcs a sl) 28) := by rw [← hw2]; exact (Below.heap_alloc _ _ _ (by simp)).trans (heap_alloc_new w _)
 have H1 : w2.heap[w.heap.size + 1]? = some (.cells (lcs b sl') 28) := by
  rw [← hw2]
  have := heap_alloc_new (w.alloc (.cells (lcs a sl) 28)) (.cells (lcs b sl') 28)
  simpa using this
 have HB : Hid (Below w.heap.size w w2) := by show Below _ _ _; rw [← hw2]; exact bel_alloc (bel_alloc (Below.refl _ _) _) _
 obtain ⟨c0, c1, l2, l3, l4⟩ := box_all H0
 obtain ⟨d0, d1, m2, m3, m4⟩ := box_all H1
 have L2 : Hid _ := l2
 have L3 : Hid _ := l3
 have L4 : Hid _ := l4
 have M2 : Hid _ := m2
 have M3 : Hid _ := m3
 have M4 : Hid _ := m4
 have E2 := fun u => run_eql_val u a.vk a.vn a.vs b.vk b.vn b.vs
 have E3 := fun u => run_eql_refB u a.b1 a.h1 a.r1 a.c1 a.fr1 a.fc1 b.b1 b.h1 b.r1 b.c1 b.fr1 b.fc1
 have E4 := fun u => run_eql_refB u a.b2 a.h2 a.r2 a.c2 a.fr2 a.fc2 b.b2 b.h2 b.r2 b.c2 b.fr2 b.fc2
 have G2 := guard23
 have G3 := guard25
 clear H0 H1 l2 l3 l4 m2 m3 m4
 generalize lcs a sl = bx at *
 generalize lcs b sl' = bz at *
 obtain ⟨k, s, vk, vn, vs, b1, x1, r1, c1_, f1, g1, b2, x2, r2, c2, f2, g2⟩ := a
 obtain ⟨k', s', vk', vn', vs', b1', x1', r1', c1', f1', g1', b2', x2', r2', c2', f2', g2'⟩ := b
 dsimp only at *
 go_enter Tryz.func160, Tryz.ntmps160
 go_wp2_with (first
  | (refine wpList_load_g 23 _ rfl _ _ rfl L2.out (by go_simp) ?_)
  | (refine wpList_load_g 23 _ rfl _ _ rfl M2.out (by go_simp) ?_)
  | (refine wpList_load_g 25 _ rfl _ _ rfl L3.out (by go_simp) ?_)
  | (refine wpList_load_g 25 _ rfl _ _ rfl M3.out (by go_simp) ?_)
  | (refine wpList_load_g 25 _ rfl _ _ rfl L4.out (by go_simp) ?_)
  | (refine wpList_load_g 25 _ rfl _ _ rfl M4.out (by go_simp) ?_))
 go_ret
 exact ⟨by first | rfl | (simp; done), HB.out⟩
theorem alike_2 {a b : Lab} {sl sl' : Value} (hk : (a.k == b.k) = true) (hs : (a.s.toList == b.s.toList) = true) (hv : veB a.vk a.vn a.vs b.vk b.vn b.vs = false) (w : World) : Calls Tryz.prog 160 #[.agg (lcs a sl), .agg (lcs b sl')] w fun e w' => e = .returned (.bool false) ∧ Below w.heap.size w w' := by
 obtain ⟨w2, hw2⟩ : ∃ w2, (w.alloc (.cells (lcs a sl) 28)).alloc (.cells (lcs b sl') 28) = w2 := ⟨_, rfl⟩
 have H0 : w2.heap[w.heap.size]? = some (.cells (lcs a sl) 28) := by rw [← hw2]; exact (Below.heap_alloc _ _ _ (by simp)).trans (heap_alloc_new w _)
 have H1 : w2.heap[w.heap.size + 1]? = some (.cells (lcs b sl') 28) := by
  rw [← hw2]
  have := heap_alloc_new (w.alloc (.cells (lcs a sl) 28)) (.cells (lcs b sl') 28)
  simpa using this
 have HB : Hid (Below w.heap.size w w2) := by show Below _ _ _; rw [← hw2]; exact bel_alloc (bel_alloc (Below.refl _ _) _) _
 obtain ⟨c0, c1, l2, l3, l4⟩ := box_all H0
 obtain ⟨d0, d1, m2, m3, m4⟩ := box_all H1
 have L2 : Hid _ := l2
 have L3 : Hid _ := l3
 have L4 : Hid _ := l4
 have M2 : Hid _ := m2
 have M3 : Hid _ := m3
 have M4 : Hid _ := m4
 have E2 := fun u => run_eql_val u a.vk a.vn a.vs b.vk b.vn b.vs
 have E3 := fun u => run_eql_refB u a.b1 a.h1 a.r1 a.c1 a.fr1 a.fc1 b.b1 b.h1 b.r1 b.c1 b.fr1 b.fc1
 have E4 := fun u => run_eql_refB u a.b2 a.h2 a.r2 a.c2 a.fr2 a.fc2 b.b2 b.h2 b.r2 b.c2 b.fr2 b.fc2
 rw [hv] at E2
 have G2 := guard23
 have G3 := guard25
 clear H0 H1 l2 l3 l4 m2 m3 m4
 generalize lcs a sl = bx at *
 generalize lcs b sl' = bz at *
 obtain ⟨k, s, vk, vn, vs, b1, x1, r1, c1_, f1, g1, b2, x2, r2, c2, f2, g2⟩ := a
 obtain ⟨k', s', vk', vn', vs', b1', x1', r1', c1', f1', g1', b2', x2', r2', c2', f2', g2'⟩ := b
 dsimp only at *
 go_enter Tryz.func160, Tryz.ntmps160
 go_wp2_with (first
  | (refine wpList_load_g 23 _ rfl _ _ rfl L2.out (by go_simp) ?_)
  | (refine wpList_load_g 23 _ rfl _ _ rfl M2.out (by go_simp) ?_)
  | (refine wpList_load_g 25 _ rfl _ _ rfl L3.out (by go_simp) ?_)
  | (refine wpList_load_g 25 _ rfl _ _ rfl M3.out (by go_simp) ?_)
  | (refine wpList_load_g 25 _ rfl _ _ rfl L4.out (by go_simp) ?_)
  | (refine wpList_load_g 25 _ rfl _ _ rfl M4.out (by go_simp) ?_))
 go_ret
 exact ⟨by first | rfl | (simp; done), HB.out⟩
theorem alike_3 {a b : Lab} {sl sl' : Value} (hk : (a.k == b.k) = true) (hs : (a.s.toList == b.s.toList) = true) (hv : veB a.vk a.vn a.vs b.vk b.vn b.vs = true) (hr : reB a.b1 a.h1 a.r1 a.c1 a.fr1 a.fc1 b.b1 b.h1 b.r1 b.c1 b.fr1 b.fc1 = false) (w : World) : Calls Tryz.prog 160 #[.agg (lcs a sl), .agg (lcs b sl')] w fun e w' => e = .returned (.bool false) ∧ Below w.heap.size w w' := by
 obtain ⟨w2, hw2⟩ : ∃ w2, (w.alloc (.cells (lcs a sl) 28)).alloc (.cells (lcs b sl') 28) = w2 := ⟨_, rfl⟩
 have H0 : w2.heap[w.heap.size]? = some (.cells (lcs a sl) 28) := by rw [← hw2]; exact (Below.heap_alloc _ _ _ (by simp)).trans (heap_alloc_new w _)
 have H1 : w2.heap[w.heap.size + 1]? = some (.cells (lcs b sl') 28) := by
  rw [← hw2]
  have := heap_alloc_new (w.alloc (.cells (lcs a sl) 28)) (.cells (lcs b sl') 28)
  simpa using this
 have HB : Hid (Below w.heap.size w w2) := by show Below _ _ _; rw [← hw2]; exact bel_alloc (bel_alloc (Below.refl _ _) _) _
 obtain ⟨c0, c1, l2, l3, l4⟩ := box_all H0
 obtain ⟨d0, d1, m2, m3, m4⟩ := box_all H1
 have L2 : Hid _ := l2
 have L3 : Hid _ := l3
 have L4 : Hid _ := l4
 have M2 : Hid _ := m2
 have M3 : Hid _ := m3
 have M4 : Hid _ := m4
 have E2 := fun u => run_eql_val u a.vk a.vn a.vs b.vk b.vn b.vs
 have E3 := fun u => run_eql_refB u a.b1 a.h1 a.r1 a.c1 a.fr1 a.fc1 b.b1 b.h1 b.r1 b.c1 b.fr1 b.fc1
 have E4 := fun u => run_eql_refB u a.b2 a.h2 a.r2 a.c2 a.fr2 a.fc2 b.b2 b.h2 b.r2 b.c2 b.fr2 b.fc2
 rw [hv] at E2
 rw [hr] at E3
 have G2 := guard23
 have G3 := guard25
 clear H0 H1 l2 l3 l4 m2 m3 m4
 generalize lcs a sl = bx at *
 generalize lcs b sl' = bz at *
 obtain ⟨k, s, vk, vn, vs, b1, x1, r1, c1_, f1, g1, b2, x2, r2, c2, f2, g2⟩ := a
 obtain ⟨k', s', vk', vn', vs', b1', x1', r1', c1', f1', g1', b2', x2', r2', c2', f2', g2'⟩ := b
 dsimp only at *
 go_enter Tryz.func160, Tryz.ntmps160
 go_wp2_with (first
  | (refine wpList_load_g 23 _ rfl _ _ rfl L2.out (by go_simp) ?_)
  | (refine wpList_load_g 23 _ rfl _ _ rfl M2.out (by go_simp) ?_)
  | (refine wpList_load_g 25 _ rfl _ _ rfl L3.out (by go_simp) ?_)
  | (refine wpList_load_g 25 _ rfl _ _ rfl M3.out (by go_simp) ?_)
  | (refine wpList_load_g 25 _ rfl _ _ rfl L4.out (by go_simp) ?_)
  | (refine wpList_load_g 25 _ rfl _ _ rfl M4.out (by go_simp) ?_))
 go_ret
 exact ⟨by first | rfl | (simp; done), HB.out⟩
theorem alike_4 {a b : Lab} {sl sl' : Value} (hk : (a.k == b.k) = true) (hs : (a.s.toList == b.s.toList) = true) (hv : veB a.vk a.vn a.vs b.vk b.vn b.vs = true) (hr : reB a.b1 a.h1 a.r1 a.c1 a.fr1 a.fc1 b.b1 b.h1 b.r1 b.c1 b.fr1 b.fc1 = true) (ht : reB a.b2 a.h2 a.r2 a.c2 a.fr2 a.fc2 b.b2 b.h2 b.r2 b.c2 b.fr2 b.fc2 = false) (w : World) : Calls Tryz.prog 160 #[.agg (lcs a sl), .agg (lcs b sl')] w fun e w' => e = .returned (.bool false) ∧ Below w.heap.size w w' := by
 obtain ⟨w2, hw2⟩ : ∃ w2, (w.alloc (.cells (lcs a sl) 28)).alloc (.cells (lcs b sl') 28) = w2 := ⟨_, rfl⟩
 have H0 : w2.heap[w.heap.size]? = some (.cells (lcs a sl) 28) := by rw [← hw2]; exact (Below.heap_alloc _ _ _ (by simp)).trans (heap_alloc_new w _)
 have H1 : w2.heap[w.heap.size + 1]? = some (.cells (lcs b sl') 28) := by
  rw [← hw2]
  have := heap_alloc_new (w.alloc (.cells (lcs a sl) 28)) (.cells (lcs b sl') 28)
  simpa using this
 have HB : Hid (Below w.heap.size w w2) := by show Below _ _ _; rw [← hw2]; exact bel_alloc (bel_alloc (Below.refl _ _) _) _
 obtain ⟨c0, c1, l2, l3, l4⟩ := box_all H0
 obtain ⟨d0, d1, m2, m3, m4⟩ := box_all H1
 have L2 : Hid _ := l2
 have L3 : Hid _ := l3
 have L4 : Hid _ := l4
 have M2 : Hid _ := m2
 have M3 : Hid _ := m3
 have M4 : Hid _ := m4
 have E2 := fun u => run_eql_val u a.vk a.vn a.vs b.vk b.vn b.vs
 have E3 := fun u => run_eql_refB u a.b1 a.h1 a.r1 a.c1 a.fr1 a.fc1 b.b1 b.h1 b.r1 b.c1 b.fr1 b.fc1
 have E4 := fun u => run_eql_refB u a.b2 a.h2 a.r2 a.c2 a.fr2 a.fc2 b.b2 b.h2 b.r2 b.c2 b.fr2 b.fc2
 rw [hv] at E2
 rw [hr] at E3
 rw [ht] at E4
 have G2 := guard23
 have G3 := guard25
 clear H0 H1 l2 l3 l4 m2 m3 m4
 generalize lcs a sl = bx at *
 generalize lcs b sl' = bz at *
 obtain ⟨k, s, vk, vn, vs, b1, x1, r1, c1_, f1, g1, b2, x2, r2, c2, f2, g2⟩ := a
 obtain ⟨k', s', vk', vn', vs', b1', x1', r1', c1', f1', g1', b2', x2', r2', c2', f2', g2'⟩ := b
 dsimp only at *
 go_enter Tryz.func160, Tryz.ntmps160
 go_wp2_with (first
  | (refine wpList_load_g 23 _ rfl _ _ rfl L2.out (by go_simp) ?_)
  | (refine wpList_load_g 23 _ rfl _ _ rfl M2.out (by go_simp) ?_)
  | (refine wpList_load_g 25 _ rfl _ _ rfl L3.out (by go_simp) ?_)
  | (refine wpList_load_g 25 _ rfl _ _ rfl M3.out (by go_simp) ?_)
  | (refine wpList_load_g 25 _ rfl _ _ rfl L4.out (by go_simp) ?_)
  | (refine wpList_load_g 25 _ rfl _ _ rfl M4.out (by go_simp) ?_))
 go_ret
 exact ⟨by first | rfl | (simp; done), HB.out⟩
theorem alike_5 {a b : Lab} {sl sl' : Value} (hk : (a.k == b.k) = true) (hs : (a.s.toList == b.s.toList) = true) (hv : veB a.vk a.vn a.vs b.vk b.vn b.vs = true) (hr : reB a.b1 a.h1 a.r1 a.c1 a.fr1 a.fc1 b.b1 b.h1 b.r1 b.c1 b.fr1 b.fc1 = true) (ht : reB a.b2 a.h2 a.r2 a.c2 a.fr2 a.fc2 b.b2 b.h2 b.r2 b.c2 b.fr2 b.fc2 = true) (w : World) : Calls Tryz.prog 160 #[.agg (lcs a sl), .agg (lcs b sl')] w fun e w' => e = .returned (.bool true) ∧ Below w.heap.size w w' := by
 obtain ⟨w2, hw2⟩ : ∃ w2, (w.alloc (.cells (lcs a sl) 28)).alloc (.cells (lcs b sl') 28) = w2 := ⟨_, rfl⟩
 have H0 : w2.heap[w.heap.size]? = some (.cells (lcs a sl) 28) := by rw [← hw2]; exact (Below.heap_alloc _ _ _ (by simp)).trans (heap_alloc_new w _)
 have H1 : w2.heap[w.heap.size + 1]? = some (.cells (lcs b sl') 28) := by
  rw [← hw2]
  have := heap_alloc_new (w.alloc (.cells (lcs a sl) 28)) (.cells (lcs b sl') 28)
  simpa using this
 have HB : Hid (Below w.heap.size w w2) := by show Below _ _ _; rw [← hw2]; exact bel_alloc (bel_alloc (Below.refl _ _) _) _
 obtain ⟨c0, c1, l2, l3, l4⟩ := box_all H0
 obtain ⟨d0, d1, m2, m3, m4⟩ := box_all H1
 have L2 : Hid _ := l2
 have L3 : Hid _ := l3
 have L4 : Hid _ := l4
 have M2 : Hid _ := m2
 have M3 : Hid _ := m3
 have M4 : Hid _ := m4
 have E2 := fun u => run_eql_val u a.vk a.vn a.vs b.vk b.vn b.vs
 have E3 := fun u => run_eql_refB u a.b1 a.h1 a.r1 a.c1 a.fr1 a.fc1 b.b1 b.h1 b.r1 b.c1 b.fr1 b.fc1
 have E4 := fun u => run_eql_refB u a.b2 a.h2 a.r2 a.c2 a.fr2 a.fc2 b.b2 b.h2 b.r2 b.c2 b.fr2 b.fc2
 rw [hv] at E2
 rw [hr] at E3
 rw [ht] at E4
 have G2 := guard23
 have G3 := guard25
 clear H0 H1 l2 l3 l4 m2 m3 m4
 generalize lcs a sl = bx at *
 generalize lcs b sl' = bz at *
 obtain ⟨k, s, vk, vn, vs, b1, x1, r1, c1_, f1, g1, b2, x2, r2, c2, f2, g2⟩ := a
 obtain ⟨k', s', vk', vn', vs', b1', x1', r1', c1', f1', g1', b2', x2', r2', c2', f2', g2'⟩ := b
 dsimp only at *
 go_enter Tryz.func160, Tryz.ntmps160
 go_wp2_with (first
  | (refine wpList_load_g 23 _ rfl _ _ rfl L2.out (by go_simp) ?_)
  | (refine wpList_load_g 23 _ rfl _ _ rfl M2.out (by go_simp) ?_)
  | (refine wpList_load_g 25 _ rfl _ _ rfl L3.out (by go_simp) ?_)
  | (refine wpList_load_g 25 _ rfl _ _ rfl M3.out (by go_simp) ?_)
  | (refine wpList_load_g 25 _ rfl _ _ rfl L4.out (by go_simp) ?_)
  | (refine wpList_load_g 25 _ rfl _ _ rfl M4.out (by go_simp) ?_))
 go_ret
 exact ⟨by first | rfl | (simp; done), HB.out⟩
theorem alike_any {w : World} {a b : Lab} {sl sl' : Value} : Calls Tryz.prog 160 #[.agg (lcs a sl), .agg (lcs b sl')] w fun e w' => e = .returned (.bool (labB a b)) ∧ Below w.heap.size w w' := by
 unfold labB
 cases hk : (a.k == b.k)
 ·exact alike_0 hk w
 cases hs : (a.s.toList == b.s.toList)
 ·exact alike_1 hk hs w
 cases hv : veB a.vk a.vn a.vs b.vk b.vn b.vs
 ·exact alike_2 hk hs hv w
 cases hr : reB a.b1 a.h1 a.r1 a.c1 a.fr1 a.fc1 b.b1 b.h1 b.r1 b.c1 b.fr1 b.fc1
 ·exact alike_3 hk hs hv hr w
 cases ht : reB a.b2 a.h2 a.r2 a.c2 a.fr2 a.fc2 b.b2 b.h2 b.r2 b.c2 b.fr2 b.fc2
 ·exact alike_4 hk hs hv hr ht w
 ·exact alike_5 hk hs hv hr ht w
end Go.Proofs.YtljmklbbngpllaaGreatDoor
