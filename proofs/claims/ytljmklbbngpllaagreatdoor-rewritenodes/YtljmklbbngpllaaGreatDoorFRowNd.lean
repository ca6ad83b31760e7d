/- FRow. -/
import Derived.Test.YtljmklbbngpllaaGreatDoorFPar4Nd
set_option linter.unusedVariables false
set_option linter.unusedSimpArgs false
set_option maxHeartbeats 16000000
set_option maxRecDepth 100000
namespace Go.Proofs.YtljmklbbngpllaaGreatDoor
open Go.RowKit Go.Fm
def upF (l : List UInt8) : List UInt8 := szF 97 65 l
def trF (s : List UInt8) : Option Int := if (lS (ba s)).2 = true then some (if (lS (ba s)).1 = true then 1 else 0) else none
def PP (lv : Nat) (ts : List Tk.Tok) : Option (T × List Tk.Tok) := ps upF trF lv ts
def PO (W : World) (b : Nat) (w : World) (o : Option (T × List Tk.Tok)) (e : Ending) (w' : World) : Prop :=
 match o with
 | none => e = .panicked bQ ∧ w.grownBy w' (some b)
 | some p => ∃ es, e = .returned (.agg es) ∧ NK (fun i => w.heap.size ≤ i) w' es p.1 ∧ Sp W b p.2 w w'
def zQ (b : Nat) (w : World) : Nat := match w.heap[b]? with
 | some (.cells cs _ _) => (match (cs[0]? : Option Value) with
  | some (.slice _ n _) => n
  | _ => 0)
 | _ => 0
theorem PR.left {W w : World} {b : Nat} {L : List Tk.Tok} (h : PR W b L w) : zQ b w = L.length := by
 obtain ⟨v, h1, h2⟩ := h.blk
 obtain ⟨a, c, rfl⟩ := h2.slice
 unfold zQ
 rw [h1]
 simp
theorem aHd {part : Part} {lv : Nat} {n : T} {r : List Tk.Tok} (h : bY (bE r) ≠ lv) (k : Nat) : dJ part lv k n r = some (n, r) := by
 cases k with
 | zero => rfl
 | succ k => unfold dJ; rw [if_neg h]
theorem aFm {lv : Nat} (h1 : 1 ≤ lv) {n : T} {r : List Tk.Tok} (h : bY (bE r) = lv) : dJ (PP (lv + 1)) lv r.length n r = (PP (lv + 1) r.tail).bind fun p => dJ (PP (lv + 1)) lv p.2.length (zD (bE r) n p.1) p.2 := by
 have h2 := (bA (ts := r) rfl (kS (by omega))).1
 rw [← h2]
 conv => lhs; unfold dJ
 rw [if_pos h]
 cases hq : PP (lv + 1) r.tail with
 | none => rfl
 | some p =>
  simp only [Option.bind_some]
  have h3 := jP upF trF (by omega) _ p.1 p.2 hq
  exact oF (by omega) (jP upF trF (by omega)) _ _ _ _ (by omega) (Nat.le_refl _)
theorem aKV (W : World) (k n : Int) (s b h : ByteArray) (r c : Int) (fr fc : Bool) : (Instr.field 123 (.agg (tcs k n s b h r c fr fc)) 2).run Tryz.prog W = .ok (.string s) W := by kernel_rfl
theorem aFo {W : World} {b : Nat} {lv pf : Nat} (hE : ∀ args u, (callFunc pf args).run Tryz.prog u = .ok (.enter pf args) u) {w : World} (hb : b < w.heap.size)
  (C : Calls Tryz.prog pf #[.pointer (some ⟨b, 0, none⟩)] (w.alloc (.cells nd0 28)) fun e w' => e = .panicked bQ ∧ (w.alloc (.cells nd0 28)).grownBy w' (some b)) :
  Calls Tryz.prog 121 #[.pointer (some ⟨b, 0, none⟩), .int .i64 (lv : Nat), .func (.func pf) #[] #[]] w fun e w' => e = .panicked bQ ∧ w.grownBy w' (some b) := by
 go_enter Tryz.func121, Tryz.ntmps121
 go_wp2_with (go_at_fn pf; refine C.mono ?_; rintro e w1 ⟨rfl, hg⟩)
 exact ⟨rfl, rfl, aM (World.grownBy_alloc _ _ _) hg⟩
section
variable {P : Program} {o : Oper} {a : Act} {w w' : World} {K : Act → World → Prop} {Q : Exit → Act → World → Prop}
theorem wD (d : Option Tmp) (hd : o.dst = d) (ty : TypeId) (xs : Array (Nat × Operand)) (ho : o.op = .build ty xs) (ps : Array (Nat × Value)) (v : Value) (hx : (xs.map fun (i, x) => (i, a.eval x)) = ps) (hrun : (Instr.build ty ps).run P w = .ok v w) (h : K (a.put d v) w) : Oper.wp P o a w K Q := by
 subst hd
 unfold Oper.wp execOp
 simp only [ho, hx, Sem.run_bind, Sem.run_pure, hrun, Result.andThen_ok]
 exact h
theorem lN (d : Option Tmp) (hd : o.dst = d) (ty : TypeId) (len : Nat) (xs : Array (Nat × Operand)) (ho : o.op = .buildSlice ty len xs) (ps : Array (Nat × Value)) (v : Value) (hx : (xs.map fun (i, x) => (i, a.eval x)) = ps) (hrun : (Instr.buildSlice ty len ps).run P w = .ok v w') (h : K (a.put d v) w') : Oper.wp P o a w K Q := by
 subst hd
 unfold Oper.wp execOp
 simp only [ho, hx, Sem.run_bind, Sem.run_pure, hrun, Result.andThen_ok]
 exact h
theorem aJ (d : Option Tmp) (hd : o.dst = d) (ty : TypeId) (x y : Operand) (ho : o.op = .store ty x y) (p v : Value) (hx : a.eval x = p) (hy : a.eval y = v) (hrun : (Instr.storeAt ty p v).run P w = .ok () w') (h : K (a.put d undef) w') : Oper.wp P o a w K Q := by
 subst hd
 unfold Oper.wp execOp
 simp only [ho, hx, hy, Sem.run_bind, Sem.run_pure, hrun, Result.andThen_ok]
 exact h
end
theorem aC7 {K K' : Nat → Prop} {w w1 u : World} {es es2 : Array Value} {t t2 : T} (h : NK K w es t) (h2 : NK K' w1 es2 t2) : (Instr.buildSlice 26 2 #[(0, .agg es), (1, .agg es2)]).run Tryz.prog u = .ok (.slice (some ⟨u.heap.size, 0, none⟩) 2 2) (u.alloc (.cells (es.toList ++ es2.toList).toArray 28)) := by
 obtain ⟨p, n, c, rfl, _⟩ := h
 obtain ⟨p', n', c', rfl, _⟩ := h2
 exact aC6 u _ _ _ _ _ _ _ _
theorem aFp {W : World} {b : Nat} {lv pf : Nat} (h1 : 1 ≤ lv) (h5 : lv ≤ 5) (hE : ∀ args u, (callFunc pf args).run Tryz.prog u = .ok (.enter pf args) u) {n0 : T} {r0 : List Tk.Tok} (hn : r0.length ≤ 256)
  (C : ∀ ts' u, ts'.length ≤ r0.length → PR W b ts' u → Calls Tryz.prog pf #[.pointer (some ⟨b, 0, none⟩)] u (PO W b u (PP (lv + 1) ts'))) {w : World} (hb : b < w.heap.size)
  (C0 : Calls Tryz.prog pf #[.pointer (some ⟨b, 0, none⟩)] (w.alloc (.cells nd0 28)) fun e w' => ∃ es, e = .returned (.agg es) ∧ NK (fun i => (w.alloc (.cells nd0 28)).heap.size ≤ i) w' es n0 ∧ Sp W b r0 (w.alloc (.cells nd0 28)) w') :
  Calls Tryz.prog 121 #[.pointer (some ⟨b, 0, none⟩), .int .i64 (lv : Nat), .func (.func pf) #[] #[]] w (PO W b w (dJ (PP (lv + 1)) lv r0.length n0 r0)) := by
 have C0' : Calls Tryz.prog pf #[.pointer (some ⟨b, 0, none⟩)] (w.alloc (.cells nd0 28)) fun e w1 => ∃ es, e = .returned (.agg es) ∧
   Hid ((Instr.storeAt 28 (.pointer (some ⟨w1.heap.size, 0, none⟩)) (.agg es)).run Tryz.prog (w1.alloc (.cells nd0 28)) = .ok () (w1.alloc (.cells es 28))) ∧ Hid (NK (fun i => w.heap.size < i ∧ i ≠ w1.heap.size) (w1.alloc (.cells es 28)) es n0) ∧ Hid (Sp W b r0 w (w1.alloc (.cells es 28))) ∧
   Hid ((w1.alloc (.cells es 28)).heap[w.heap.size]? = some (.cells nd0 28)) ∧ Hid ((w1.alloc (.cells es 28)).heap[w1.heap.size]? = some (.cells es 28)) ∧ Hid (w.heap.size < w1.heap.size) := by
  refine C0.mono ?_
  rintro e w1 ⟨es, rfl, h1, h2⟩
  have hlt : w.heap.size < w1.heap.size := by have := h2.2.size; simp at this; omega
  refine ⟨es, rfl, (kC w1 h1.nt).1, ?_, h2.jB.alloc _, ?_, heap_alloc_new _ _, hlt⟩
  ·have := h1.below (aA (Below.refl _ _) (.cells es 28))
   refine NK.below (K := fun i => w.heap.size < i ∧ i ≠ w1.heap.size) (h1.mono (fun i hi hl => ?_)) (aA (Below.refl _ _) (.cells es 28))
   simp at hi
   exact ⟨by omega, by omega⟩
  ·exact (Below.heap_alloc _ _ _ hlt).trans (h2.kept (heap_alloc_new w _) (by omega))
 clear C0
 generalize ho : dJ (PP (lv + 1)) lv r0.length n0 r0 = o
 have HO : Hid (dJ (PP (lv + 1)) lv r0.length n0 r0 = o) := ho
 have HC : Hid (∀ ts' u, ts'.length ≤ r0.length → PR W b ts' u → Calls Tryz.prog pf #[.pointer (some ⟨b, 0, none⟩)] u (PO W b u (PP (lv + 1) ts'))) := C
 clear ho C
 go_enter Tryz.func121, Tryz.ntmps121
 go_wp2_with (first
  | (go_at_fn pf; refine C0'.mono ?_; rintro e w1 ⟨es0, rfl, RS0, HN0, HS0, HG0, HG7, HLT⟩)
  | (refine aD rfl 28 _ _ rfl _ _ _ rfl rfl RS0.out ?_))
 clear C0'
 try simp only [Act.put, List.setIfInBounds_toArray, List.set_cons_zero, List.set_cons_succ]
 generalize hg7 : w1.heap.size = g7 at *
 clear hg7
 go_loopw [8] (fun _ wr => ∃ (nT : T) (r : List Tk.Tok) (es : Array Value), Hid (dJ (PP (lv + 1)) lv r.length nT r = o) ∧ r.length ≤ r0.length ∧ Hid (wr.heap[g7]? = some (.cells es 28)) ∧ Hid (NK (fun i => w.heap.size < i ∧ i ≠ g7) wr es nT) ∧ Hid (Sp W b r w wr) ∧ Hid (wr.heap[w.heap.size]? = some (.cells nd0 28))) (fun _ wr => zQ b wr)
 case atStart => exact ⟨n0, r0, es0, HO, Nat.le_refl _, HG7, HN0, HS0, HG0⟩
 case round =>
  obtain ⟨nT, r, es, HL, hr, H7, HN, HS, H0⟩ := hrel
  clear HO HG7 HN0 HS0 HG0 RS0
  have OP := aA3 HS.out.1 (by omega)
  have ST := fun u => nH (bE r) u
  have hleft := HS.out.1.left
  by_cases hq : bY (bE r) = lv
  ·have hne := kS (s := bE r) (by omega)
   obtain ⟨hrt, hrc⟩ := bA (ts := r) rfl hne
   have HQ : Hid (o = (PP (lv + 1) r.tail).bind fun p => dJ (PP (lv + 1)) lv p.2.length (zD (bE r) nT p.1) p.2) := by show _ = _; rw [← HL.out]; exact aFm h1 hq
   have TK : Calls Tryz.prog 157 #[.pointer (some ⟨b, 0, none⟩)] wr fun e w' => e = .returned (.agg (tcs 5 0 (ba (bE r)) noB noB 0 0 false false)) ∧ Sp W b r.tail wr w' := by
    have X := HS.out.1
    rw [hrc] at X
    exact take_cons X (by omega)
   have hqi : (((bY (bE r) : Nat) : Int) == ((lv : Nat) : Int)) = true := by simp [hq]
   have aKW : g7 < wr.heap.size := aS H7.out
   have aLc : r.tail.length < r.length := by omega
   have FL := fun u => aKV u 5 0 (ba (bE r)) noB noB 0 0 false false
   clear HL hq hrc
   generalize hrr : r.tail = r' at *
   generalize bY (bE r) = sv at *
   generalize hss : bE r = sg at *
   clear hrr hss
   go_wp2_with (first
    | (go_at_call 156; refine OP.mono ?_; rintro e w' ⟨rfl, hw⟩; obtain rfl := hw.symm; clear hw)
    | (go_at_call 127; refine (ST _).mono ?_; rintro e w' ⟨rfl, hw⟩; obtain rfl := hw.symm; clear hw)
    | (go_at_call 157; refine TK.mono ?_; rintro e w2 ⟨rfl, hw⟩; have HS2 : Hid (Sp W b r' wr w2) := hw; clear hw TK))
   have H72 : w2.heap[g7]? = some (.cells es 28) := HS2.out.kept H7.out (by have := HLT.out; omega)
   have H02 : w2.heap[w.heap.size]? = some (.cells nd0 28) := HS2.out.kept H0.out (by omega)
   have hz2 : wr.heap.size ≤ w2.heap.size := HS2.out.2.size
   have C1 := HC.out r' w2.drew (by omega) HS2.out.1.drew
   have RLS : Hid ((Instr.loadAt 28 (.pointer (some ⟨g7, 0, none⟩))).run Tryz.prog w2.drew = .ok (.agg es) w2.drew) := HN.out.lod (u := w2.drew) H72
   have K1 : ∀ i, (fun i => w.heap.size < i ∧ i ≠ g7) i → i ≠ b := fun i hi e => by have := hi.1; omega
   have HN2 : Hid (NK (fun i => w.heap.size < i ∧ i ≠ g7) w2.drew es nT) := (HN.out.grown HS2.out.2 (fun g e hk => by cases e; exact K1 _ hk rfl)).below (Below.refl _ _).drew
   cases hP : PP (lv + 1) r' with
   | none =>
    rw [hP] at C1 HQ
    have HQ2 : Hid (o = none) := HQ.out
    have C1' : Calls Tryz.prog pf #[.pointer (some ⟨b, 0, none⟩)] w2.drew fun e w' => e = .panicked bQ ∧ w2.drew.grownBy w' (some b) := C1
    clear C1 HQ
    refine aQ (fun u => (Instr.loadAt 28 (.pointer (some ⟨g7, 0, none⟩))).run Tryz.prog u = .ok (.agg es) u) (fun j => j == 7) (by kernel_rfl) ?_
    refine dwp 0 (.string (ba sg)) ?_
    refine dwl 1 (.agg es) ?_ (hS := RLS.out) (hy := (fun u hSu => aI rfl rfl hSu))
    refine dwp 2 (.func (.func pf) #[] #[]) ?_
    refine dwp 3 (.pointer (some ⟨b, 0, none⟩)) ?_
    refine aH (i := 4) (by kernel_rfl) rfl ?_
    intro K hK
    go_simp
    refine C1'.mono ?_
    rintro e w3 ⟨rfl, hg3⟩
    refine ⟨rfl, ?_⟩
    rw [HQ2.out]
    exact ⟨rfl, aM HS.out.2 (aM HS2.out.2 (aM (aZ (Below.refl _ _).drew) hg3))⟩
   | some p =>
    obtain ⟨m, r2⟩ := p
    have hr2 := jP upF trF (by omega) _ m r2 hP
    rw [hP] at C1 HQ
    have HQ2 : Hid (dJ (PP (lv + 1)) lv r2.length (zD sg nT m) r2 = o) := HQ.out.symm
    have C1' : Calls Tryz.prog pf #[.pointer (some ⟨b, 0, none⟩)] w2.drew fun e w3 => ∃ es2, e = .returned (.agg es2) ∧ Hid (Sp W b r2 w2.drew w3) ∧ Hid (NK (fun i => w2.drew.heap.size ≤ i) w3 es2 m) ∧
      Hid ((Instr.buildSlice 26 2 #[(0, .agg es), (1, .agg es2)]).run Tryz.prog w3 = .ok (.slice (some ⟨w3.heap.size, 0, none⟩) 2 2) (w3.alloc (.cells (es.toList ++ es2.toList).toArray 28))) := C1.mono (by
     rintro e w3 ⟨es2, rfl, h1, h2⟩
     exact ⟨es2, rfl, h2, h1, aC7 HN.out h1⟩)
    clear C1 HQ hP
    refine aQ (fun u => (Instr.loadAt 28 (.pointer (some ⟨g7, 0, none⟩))).run Tryz.prog u = .ok (.agg es) u) (fun j => j == 7) (by kernel_rfl) ?_
    refine dwp 0 (.string (ba sg)) ?_
    refine dwl 1 (.agg es) ?_ (hS := RLS.out) (hy := (fun u hSu => aI rfl rfl hSu))
    refine dwp 2 (.func (.func pf) #[] #[]) ?_
    refine dwp 3 (.pointer (some ⟨b, 0, none⟩)) ?_
    refine aH (i := 4) (by kernel_rfl) rfl ?_
    intro K hK
    go_simp
    refine C1'.mono ?_
    rintro e w3 ⟨es2, rfl, HS3, HM, RC⟩
    have H73 : w3.heap[g7]? = some (.cells es 28) := HS3.out.kept (w := w2.drew) H72 (by have := HLT.out; omega)
    have H03 : w3.heap[w.heap.size]? = some (.cells nd0 28) := HS3.out.kept (w := w2.drew) H02 (by omega)
    have hz3 : w2.heap.size ≤ w3.heap.size := HS3.out.2.size
    have RL3 : Hid ((Instr.loadAt 28 (.pointer (some ⟨g7, 0, none⟩))).run Tryz.prog w3 = .ok (.agg es) w3) := HN.out.lod H73
    refine hK _ _ (.inr fun _ => RL3.out) ?_
    clear hK C1'
    try simp only [Act.put, List.setIfInBounds_toArray, List.set_cons_zero, List.set_cons_succ]
    obtain ⟨w4, hw4⟩ : ∃ w4, w3.alloc (.cells (es.toList ++ es2.toList).toArray 28) = w4 := ⟨_, rfl⟩
    rw [hw4] at RC
    have H74 : w4.heap[g7]? = some (.cells es 28) := by rw [← hw4]; exact (Below.heap_alloc _ _ _ (aS H73)).trans H73
    have H04 : w4.heap[w.heap.size]? = some (.cells nd0 28) := by rw [← hw4]; exact (Below.heap_alloc _ _ _ (aS H03)).trans H03
    have H4 : w4.heap[w3.heap.size]? = some (.cells (es.toList ++ es2.toList).toArray 28) := by rw [← hw4]; exact heap_alloc_new _ _
    have hz4 : w4.heap.size = w3.heap.size + 1 := by rw [← hw4]; simp
    have B4 : Below w3.heap.size w3 w4 := by rw [← hw4]; exact aA (Below.refl _ _) _
    have RL4 : Hid ((Instr.loadAt 28 (.pointer (some ⟨g7, 0, none⟩))).run Tryz.prog w4 = .ok (.agg es) w4) := HN.out.lod H74
    have RB := uM w4 6 (ba sg) (some ⟨w3.heap.size, 0, none⟩) 2 2
    have RS := jC H74 HN.out.size (eF 6 (ba sg)) (some ⟨w3.heap.size, 0, none⟩) 2 2
    generalize hfs : lcs (eF 6 (ba sg)) (.slice (some ⟨w3.heap.size, 0, none⟩) 2 2) = fs at *
    have G5 := aC w4 g7 fs
    have K4 : ∀ g, (some g7 : Option Nat) = some g → ¬ (fun i => w.heap.size < i ∧ i ≠ g7) g := fun g e hk => by cases e; exact hk.2 rfl
    have HA : NK (fun i => w.heap.size < i ∧ i ≠ g7) (w4.setRow g7 fs) es nT := (((HN2.out.grown HS3.out.2 (fun g e hk => by cases e; exact K1 _ hk rfl)).below B4).grown G5 K4)
    have HBm : NK (fun i => w.heap.size < i ∧ i ≠ g7) (w4.setRow g7 fs) es2 m := ((HM.out.mono (K' := fun i => w.heap.size < i ∧ i ≠ g7) (fun i hi _ => by
     have hi' : w2.heap.size ≤ i := hi
     have := HLT.out
     exact ⟨by omega, by omega⟩)).below B4).grown G5 K4
    have HN5 : Hid (NK (fun i => w.heap.size < i ∧ i ≠ g7) (w4.setRow g7 fs) fs (zD sg nT m)) := by
     have := HLT.out
     rw [← hfs] at HA HBm ⊢
     refine NK.newAt (g := w3.heap.size) ⟨by omega, by omega⟩ (k := 6) (s := ba sg) [(es, nT), (es2, m)] (fun x hx => ?_) (es := (es.toList ++ es2.toList).toArray) (z := (0, 0)) (o := 0) (((aC w4 g7 _).block _ (by omega) (by intro e; have := Option.some.inj e; omega)).trans H4) (fun j v hj => by simpa using hj) 2
     simp only [List.mem_cons, List.not_mem_nil, or_false] at hx
     rcases hx with rfl | rfl
     ·exact HA
     ·exact HBm
    have aLd : fs.size = 18 := by rw [← hfs]; rfl
    have H75 : Hid ((w4.setRow g7 fs).heap[g7]? = some (.cells fs 28)) := setRow_heap _ _ _ _ _ _ H74
    have H05 : Hid ((w4.setRow g7 fs).heap[w.heap.size]? = some (.cells nd0 28)) := (G5.block _ (aS H04) (by intro e; have := Option.some.inj e; have := HLT.out; omega)).trans H04
    have HS5 : Hid (Sp W b r2 w (w4.setRow g7 fs)) := by
     have s1 : Sp W b r2 wr w3 := ⟨HS3.out.1, aM HS2.out.2 (aM (aZ (Below.refl _ _).drew) HS3.out.2)⟩
     exact ((HS.out.step s1).bel B4).grown G5 (by have := HLT.out; omega) hb
    clear HA HBm G5 K4 hfs
    refine aH (i := 5) (by kernel_rfl) rfl ?_
    intro K hK
    rw [if_pos (by go_simp)]
    refine lN (some 25) rfl 26 2 _ rfl _ _ (by go_simp) RC.out (hK _ _ (.inr fun _ => RL4.out) ?_)
    clear hK
    try simp only [Act.put, List.setIfInBounds_toArray, List.set_cons_zero, List.set_cons_succ]
    refine aH (i := 6) (by kernel_rfl) rfl ?_
    intro K hK
    rw [if_pos (by go_simp)]
    refine wD (some 26) rfl 28 _ rfl _ _ (by go_simp) RB (hK _ _ (.inr id) ?_)
    clear hK
    try simp only [Act.put, List.setIfInBounds_toArray, List.set_cons_zero, List.set_cons_succ]
    refine aH (i := 7) (by kernel_rfl) rfl ?_
    intro K hK
    rw [if_pos (by go_simp)]
    refine aJ none rfl 28 _ _ rfl _ _ rfl rfl RS.out (hK _ _ (.inl rfl) ?_)
    clear hK
    try simp only [Act.put, List.setIfInBounds_toArray, List.set_cons_zero, List.set_cons_succ]
    refine aK (by kernel_rfl) ?_ _
    go_wp2
    go_roundw
    case rel => exact ⟨zD sg nT m, r2, fs, HQ2, by omega, H75, HN5, HS5, H05⟩
    case measure => rw [HS5.out.1.left, hleft]; omega
  ·have HQ : Hid (o = some (nT, r)) := by show _ = _; rw [← HL.out]; exact aHd hq _
   have hqi : (((bY (bE r) : Nat) : Int) == ((lv : Nat) : Int)) = false := by simp; omega
   generalize bY (bE r) = sv at *
   generalize ba (bE r) = A at *
   have RL := HN.out.lod H7.out
   have RS := HN.out.sto H0.out rfl
   have HF : Hid (Sp W b r w (wr.setRow w.heap.size es)) := HS.out.grown (aC _ _ _) (Nat.le_refl _) hb
   have HNF : Hid (NK (fun i => w.heap.size ≤ i) (wr.setRow w.heap.size es) es nT) := (HN.out.grown (aC _ _ _) (fun g e hk => by cases e; have := hk.1; omega)).mono (fun i hi _ => by have := hi.1; omega)
   have hes := HN.out.size
   clear hq HL hleft
   go_wp2_with (first
    | (go_at_call 156; refine OP.mono ?_; rintro e w' ⟨rfl, hw⟩; obtain rfl := hw.symm; clear hw)
    | (go_at_call 127; refine (ST _).mono ?_; rintro e w' ⟨rfl, hw⟩; obtain rfl := hw.symm; clear hw)
    | (refine aB rfl 28 _ rfl _ _ rfl RL.out ?_)
    | (refine aD rfl 28 _ _ rfl _ _ _ rfl rfl RS.out ?_))
   refine bodyPost_ret (bP H0.out hes rfl rfl) rfl ?_
   rw [HQ.out]
   exact ⟨es, rfl, HNF.out, HF.out⟩
end Go.Proofs.YtljmklbbngpllaaGreatDoor
