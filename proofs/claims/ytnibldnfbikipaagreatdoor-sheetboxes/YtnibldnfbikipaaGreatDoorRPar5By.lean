/- RPar4, RPar5. -/
import Derived.Test.YtnibldnfbikipaaGreatDoorRPar3bBy
set_option linter.unusedVariables false
set_option linter.unusedSimpArgs false
set_option maxHeartbeats 16000000
set_option maxRecDepth 100000
namespace Go.Proofs.YtnibldnfbikipaaGreatDoor
open Go.RowKit Go.Fm
theorem one_na {u : World} {es : Array Value} (h : NA es) : (Instr.buildSlice 65 1 #[(0, .agg es)]).run Tryz.prog u = .ok (.slice (some ⟨u.heap.size, 0, none⟩) 1 1) (u.alloc (.cells es 67)) := by
 obtain ⟨a, p, n, c, rfl⟩ := h
 exact slice_one u _ _ _ _
theorem un_node {K K' : Nat → Prop} {u : World} {es : Array Value} {n : T} {sg : List UInt8} {g : Nat} (h : NK K u es n) (hK : ∀ i, K i → i < u.heap.size → K' i) (hn : K' u.heap.size) (hg : ¬ K' g) :
  NK K' ((u.alloc (.cells es 67)).setRow g (lcs (lab0 5 (ba sg)) (.slice (some ⟨u.heap.size, 0, none⟩) 1 1))) (lcs (lab0 5 (ba sg)) (.slice (some ⟨u.heap.size, 0, none⟩) 1 1)) (unT sg n) := by
 generalize hfs : lcs (lab0 5 (ba sg)) (.slice (some ⟨u.heap.size, 0, none⟩) 1 1) = fs
 have G6 := setRow_grown (u.alloc (.cells es 67)) g fs
 have HA : NK K' ((u.alloc (.cells es 67)).setRow g fs) es n := ((h.mono hK).below (bel_alloc (Below.refl _ _) _)).grown G6 (fun k e hk => by cases e; exact hg hk)
 rw [← hfs] at HA ⊢
 refine NK.newAt (g := u.heap.size) hn (k := 5) (s := ba sg) [(es, n)] (fun x hx => ?_) (es := es) (z := (0, 0)) (o := 0) (((setRow_grown _ g _).block _ (by simp) (by intro e; exact hg (Option.some.inj e ▸ hn))).trans (heap_alloc_new _ _)) (fun j v hj => by simpa using hj) 1
 simp only [List.mem_cons, List.not_mem_nil, or_false] at hx
 subst hx; exact HA
theorem un_end {W w u2 w3 : World} {b : Nat} {r' : List Tk.Tok} {es2 : Array Value} {o2 : Option (T × List Tk.Tok)} (hb : b < w.heap.size) (h2 : Sq W b r' (w.alloc (.cells nd0 67)) u2) (hn : NA es2) (h3 : RA W b u2 o2 es2 w3) :
  Hid ((Instr.storeAt 67 (.pointer (some ⟨w3.heap.size, 0, none⟩)) (.agg es2)).run Tryz.prog (w3.alloc (.cells nd0 67)) = .ok () (w3.alloc (.cells es2 67))) ∧
  Hid ((Instr.loadAt 67 (.pointer (some ⟨w3.heap.size, 0, none⟩))).run Tryz.prog (w3.alloc (.cells es2 67)) = .ok (.agg es2) (w3.alloc (.cells es2 67))) ∧
  ∃ w5, Hid ((Instr.buildSlice 65 1 #[(0, .agg es2)]).run Tryz.prog (w3.alloc (.cells es2 67)) = .ok (.slice (some ⟨w3.heap.size + 1, 0, none⟩) 1 1) w5) ∧
  Hid ((Instr.build 67 #[(0, .int .i64 5), (1, .string ⟨#[45]⟩), (5, .slice (some ⟨w3.heap.size + 1, 0, none⟩) 1 1)]).run Tryz.prog w5 = .ok (.agg (lcs (lab0 5 ⟨#[45]⟩) (.slice (some ⟨w3.heap.size + 1, 0, none⟩) 1 1))) w5) ∧
  Hid ((Instr.storeAt 67 (.pointer (some ⟨w.heap.size, 0, none⟩)) (.agg (lcs (lab0 5 ⟨#[45]⟩) (.slice (some ⟨w3.heap.size + 1, 0, none⟩) 1 1)))).run Tryz.prog w5 = .ok () (w5.setRow w.heap.size (lcs (lab0 5 ⟨#[45]⟩) (.slice (some ⟨w3.heap.size + 1, 0, none⟩) 1 1)))) ∧
  Hid (w5.heap[w.heap.size]? = some (.cells nd0 67)) ∧ Hid ((lcs (lab0 5 ⟨#[45]⟩) (.slice (some ⟨w3.heap.size + 1, 0, none⟩) 1 1)).size = 18) ∧ Hid (NA (lcs (lab0 5 ⟨#[45]⟩) (.slice (some ⟨w3.heap.size + 1, 0, none⟩) 1 1))) ∧
  Hid (RA W b w (o2.map fun p => (unT [45] p.1, p.2)) (lcs (lab0 5 ⟨#[45]⟩) (.slice (some ⟨w3.heap.size + 1, 0, none⟩) 1 1)) (w5.setRow w.heap.size (lcs (lab0 5 ⟨#[45]⟩) (.slice (some ⟨w3.heap.size + 1, 0, none⟩) 1 1)))) := by
 have hs2 := h2.2.size
 have hs3 := h3.grow.size
 simp at hs2
 have R2 : u2.heap[w.heap.size]? = some (.cells nd0 67) := h2.kept (heap_alloc_new w _) (by omega)
 have R3 : w3.heap[w.heap.size]? = some (.cells nd0 67) := h3.kept R2 (by omega)
 have R4 : (w3.alloc (.cells es2 67)).heap[w.heap.size]? = some (.cells nd0 67) := (Below.heap_alloc _ _ _ (by omega)).trans R3
 have hz4 : (w3.alloc (.cells es2 67)).heap.size = w3.heap.size + 1 := by simp
 have R5 : ((w3.alloc (.cells es2 67)).alloc (.cells es2 67)).heap[w.heap.size]? = some (.cells nd0 67) := (Below.heap_alloc _ _ _ (by omega)).trans R4
 refine ⟨run_storeAt_new w3 67 nd0 _ (by rw [hn.size]; exact inf67) (by rw [hn.size]; rfl) hn.one, hn.lod (heap_alloc_new _ _), (w3.alloc (.cells es2 67)).alloc (.cells es2 67), by have := one_na (u := w3.alloc (.cells es2 67)) hn; rw [hz4] at this; exact this, build_lab _ _ _ _ _ _, nd_sto R5 rfl _ _ _ _, R5, rfl, ⟨_, _, _, _, rfl⟩, ?_⟩
 have L5 : Below w3.heap.size w3 ((w3.alloc (.cells es2 67)).alloc (.cells es2 67)) := bel_alloc (bel_alloc (Below.refl _ _) _) _
 cases o2 with
 | none => exact (((h2.bad (show Sw W b u2 w3 from h3)).unalloc).bel L5).grown (setRow_grown _ _ _) (Nat.le_refl _) hb
 | some p =>
  obtain ⟨hM, hS3⟩ := h3
  refine ⟨?_, (((h2.step hS3).unalloc).bel L5).grown (setRow_grown _ _ _) (Nat.le_refl _) hb⟩
  have hM4 : NK (fun i => u2.heap.size ≤ i) (w3.alloc (.cells es2 67)) es2 p.1 := hM.below (bel_alloc (Below.refl _ _) _)
  have := un_node (K' := fun i => w.heap.size < i) (sg := [45]) (g := w.heap.size) hM4 (fun i hi _ => by have hi' : u2.heap.size ≤ i := hi; omega) (by omega) (Nat.lt_irrefl _)
  rw [hz4] at this
  exact this.mono (fun i hi _ => Nat.le_of_lt hi)
theorem BI.pct {W w u u2 : World} {b g : Nat} {n : T} {r r' : List Tk.Tok} {es : Array Value} (h : BI W b w g (some (n, r)) es u) (hb : b < w.heap.size) (hg : w.heap.size < g) (h2 : Sq W b r' u u2) :
  Hid ((Instr.loadAt 67 (.pointer (some ⟨g, 0, none⟩))).run Tryz.prog u2 = .ok (.agg es) u2) ∧
  Hid ((Instr.buildSlice 65 1 #[(0, .agg es)]).run Tryz.prog u2 = .ok (.slice (some ⟨u2.heap.size, 0, none⟩) 1 1) (u2.alloc (.cells es 67))) ∧
  Hid ((Instr.build 67 #[(0, .int .i64 5), (1, .string ⟨#[37]⟩), (5, .slice (some ⟨u2.heap.size, 0, none⟩) 1 1)]).run Tryz.prog (u2.alloc (.cells es 67)) = .ok (.agg (lcs (lab0 5 ⟨#[37]⟩) (.slice (some ⟨u2.heap.size, 0, none⟩) 1 1))) (u2.alloc (.cells es 67))) ∧
  Hid ((Instr.storeAt 67 (.pointer (some ⟨g, 0, none⟩)) (.agg (lcs (lab0 5 ⟨#[37]⟩) (.slice (some ⟨u2.heap.size, 0, none⟩) 1 1)))).run Tryz.prog (u2.alloc (.cells es 67)) = .ok () ((u2.alloc (.cells es 67)).setRow g (lcs (lab0 5 ⟨#[37]⟩) (.slice (some ⟨u2.heap.size, 0, none⟩) 1 1)))) ∧
  Hid (BI W b w g (some (unT [37] n, r')) (lcs (lab0 5 ⟨#[37]⟩) (.slice (some ⟨u2.heap.size, 0, none⟩) 1 1)) ((u2.alloc (.cells es 67)).setRow g (lcs (lab0 5 ⟨#[37]⟩) (.slice (some ⟨u2.heap.size, 0, none⟩) 1 1)))) := by
 have hgl : g < u.heap.size := lt_of h.box
 have hs2 := h2.2.size
 have B2 : u2.heap[g]? = some (.cells es 67) := h2.kept h.box (by omega)
 have R2 : u2.heap[w.heap.size]? = some (.cells nd0 67) := h2.kept h.res (by omega)
 have B3 : (u2.alloc (.cells es 67)).heap[g]? = some (.cells es 67) := (Below.heap_alloc _ _ _ (by omega)).trans B2
 have R3 : (u2.alloc (.cells es 67)).heap[w.heap.size]? = some (.cells nd0 67) := (Below.heap_alloc _ _ _ (by omega)).trans R2
 have G6 := setRow_grown (u2.alloc (.cells es 67)) g (lcs (lab0 5 ⟨#[37]⟩) (.slice (some ⟨u2.heap.size, 0, none⟩) 1 1))
 obtain ⟨hN, hS⟩ := h.st
 refine ⟨h.na.lod B2, one_na h.na, build_lab _ _ _ _ _ _, nd_sto B3 h.na.size _ _ _ _, setRow_heap _ _ _ _ _ _ B3, (G6.block _ (lt_of R3) (by intro e; have := Option.some.inj e; omega)).trans R3, ⟨_, _, _, _, rfl⟩, ?_⟩
 show NK _ _ _ (unT [37] n) ∧ Sq W b r' w _
 refine ⟨?_, ((hS.step h2).alloc _).grown G6 (by omega) hb⟩
 have hN2 : NK (fun i => w.heap.size < i ∧ i ≠ g) u2 es n := hN.grown h2.2 (fun k e hk => by cases e; have := hk.1; omega)
 exact un_node (K' := fun i => w.heap.size < i ∧ i ≠ g) (sg := [37]) (g := g) hN2 (fun i hi _ => hi) ⟨by omega, by omega⟩ (fun hk => hk.2 rfl)
theorem rpct_yes {n : T} {r : List Tk.Tok} (h : opOf r = [37]) : pctF r.length n r = pctF r.tail.length (unT [37] n) r.tail := by
 have h2 := (op_tail (ts := r) h (by decide)).1
 rw [← h2]
 conv => lhs; unfold pctF
 rw [if_pos h]
theorem rpct_no {n : T} {r : List Tk.Tok} (h : opOf r ≠ [37]) (k : Nat) : pctF k n r = (n, r) := by
 cases k with
 | zero => rfl
 | succ k => unfold pctF; rw [if_neg h]
theorem run_neg {W : World} {b : Nat} {ts : List Tk.Tok} (hn : ts.length ≤ 256) (h : opOf ts = [45]) (C : ∀ u, QR W b ts.tail u → Calls Tryz.prog 155 #[.pointer (some ⟨b, 0, none⟩)] u (RO W b u (PP 6 ts.tail))) {w : World} (X : QR W b ts w) :
  Calls Tryz.prog 155 #[.pointer (some ⟨b, 0, none⟩)] w (RO W b w ((PP 6 ts.tail).map fun p => (unT [45] p.1, p.2))) := by
 have hb := X.lt
 have OP := rop_any (X.alloc (.cells nd0 67)) hn
 rw [h] at OP
 have OP' : Calls Tryz.prog 156 #[.pointer (some ⟨b, 0, none⟩)] (w.alloc (.cells nd0 67)) fun e w' => e = .returned (.string ⟨#[45]⟩) ∧ w' = w.alloc (.cells nd0 67) := OP
 have TK : Calls Tryz.prog 157 #[.pointer (some ⟨b, 0, none⟩), .string ⟨#[45]⟩] (w.alloc (.cells nd0 67)) fun e w' => e = .returned (.tuple #[]) ∧ Sq W b ts.tail (w.alloc (.cells nd0 67)) w' := rtake_yes (s := [45]) (X.alloc (.cells nd0 67)) hn (by decide) h
 have C1 : Hid (∀ u2, Sq W b ts.tail (w.alloc (.cells nd0 67)) u2 → Calls Tryz.prog 155 #[.pointer (some ⟨b, 0, none⟩)] u2 fun e w3 => ∃ es2, e = .returned (.agg es2) ∧ NA es2 ∧ RA W b u2 (PP 6 ts.tail) es2 w3) := fun u2 h2 => C u2 h2.1
 clear C X OP h
 generalize PP 6 ts.tail = o2 at *
 go_enter Tryz.func155, Tryz.ntmps155
 go_wp2_with (first
  | (go_at_call 156; refine OP'.mono ?_; rintro e w' ⟨rfl, hw⟩; obtain rfl := hw.symm; clear hw)
  | (go_at_call 157; refine TK.mono ?_; rintro e w2 ⟨rfl, hw⟩; have HS2 : Hid (Sq W b ts.tail (w.alloc (.cells nd0 67)) w2) := hw; clear hw TK)
  | (go_at_call 155; refine (C1.out _ HS2.out).mono ?_; rintro e w3 ⟨es2, rfl, hn2, h3⟩; obtain ⟨R1, R2, w5, R4, R5, R6, HG, HZ, HNA, HF⟩ := un_end hb HS2.out hn2 h3; clear hn2 h3)
  | (refine wpList_store_run rfl 67 _ _ rfl _ _ _ rfl rfl R1.out ?_; clear R1)
  | (refine wpList_load_run rfl 67 _ rfl _ _ rfl R2.out ?_; clear R2)
  | (refine wpList_bslice_run rfl 65 1 _ rfl _ _ _ (by go_simp) R4.out ?_; clear R4)
  | (refine wpList_build_run rfl 67 _ rfl _ _ (by go_simp) R5.out ?_; clear R5)
  | (refine wpList_store_run rfl 67 _ _ rfl _ _ _ rfl rfl R6.out ?_; clear R6))
 exact bodyPost_ret (nd_res HG.out HZ.out rfl rfl) rfl ⟨_, rfl, HNA.out, HF.out⟩
theorem run_pct {W : World} {b : Nat} {ts : List Tk.Tok} (hn : ts.length ≤ 256) (h : opOf ts ≠ [45]) (C : ∀ u, QR W b ts u → Calls Tryz.prog 201 #[.pointer (some ⟨b, 0, none⟩)] u (RO W b u (PP 8 ts))) {w : World} (X : QR W b ts w) :
  Calls Tryz.prog 155 #[.pointer (some ⟨b, 0, none⟩)] w (RO W b w ((PP 8 ts).map fun p => pctF p.2.length p.1 p.2)) := by
 have hb := X.lt
 have hlen : ∀ p, PP 8 ts = some p → p.2.length ≤ 256 := fun p hp => Nat.le_trans (Nat.le_of_lt (ps_lt upF trF (by omega) _ p.1 p.2 hp)) hn
 have OP := rop_any (X.alloc (.cells nd0 67)) hn
 have hne : ((ba (opOf ts)).toList == [45]) = false := ne_list h
 have C0 : Calls Tryz.prog 201 #[.pointer (some ⟨b, 0, none⟩)] (w.alloc (.cells nd0 67)) fun e w1 => ∃ es, e = .returned (.agg es) ∧ Hid ((Instr.storeAt 67 (.pointer (some ⟨w1.heap.size, 0, none⟩)) (.agg es)).run Tryz.prog (w1.alloc (.cells nd0 67)) = .ok () (w1.alloc (.cells es 67))) ∧ Hid (BI W b w w1.heap.size (PP 8 ts) es (w1.alloc (.cells es 67))) ∧ Hid (w.heap.size < w1.heap.size) := (C _ (X.alloc _)).mono (by
  rintro e w1 ⟨es, rfl, hn, h⟩
  exact ⟨es, rfl, BI.begin hb hn h⟩)
 generalize ho : ((PP 8 ts).map fun p => pctF p.2.length p.1 p.2) = o
 have HO : Hid (((PP 8 ts).map fun p => pctF p.2.length p.1 p.2) = o) := ho
 have HLE : Hid (∀ p, PP 8 ts = some p → p.2.length ≤ 256) := hlen
 clear ho C hlen X h
 generalize PP 8 ts = o1 at C0 HO HLE
 generalize ba (opOf ts) = A at *
 go_enter Tryz.func155, Tryz.ntmps155
 go_wp2_with (first
  | (go_at_call 156; refine OP.mono ?_; rintro e w' ⟨rfl, hw⟩; obtain rfl := hw.symm; clear hw)
  | (go_at_call 201; refine C0.mono ?_; rintro e w1 ⟨es0, rfl, RS0, HB0, HLT⟩)
  | (refine wpList_store_run rfl 67 _ _ rfl _ _ _ rfl rfl RS0.out ?_; clear RS0))
 clear C0 OP hne
 try simp only [Act.put, List.setIfInBounds_toArray, List.set_cons_zero, List.set_cons_succ]
 generalize hg7 : w1.heap.size = g7 at *
 clear hg7
 go_loopw [] (fun wr => ∃ (cur : Option (T × List Tk.Tok)) (es : Array Value), Hid ((cur.map fun p => pctF p.2.length p.1 p.2) = o) ∧ Hid (BI W b w g7 cur es wr) ∧ Hid (∀ p, cur = some p → p.2.length ≤ 256)) (fun wr => leftP b wr)
 case atStart => exact ⟨o1, es0, HO, HB0, HLE⟩
 case round =>
  obtain ⟨cur, es, HL, HB, HR⟩ := hrel
  clear HO HB0 HLE
  cases cur with
  | none =>
   obtain ⟨RL, RS, HZ, HF⟩ := HB.out.fin hb
   have hyes : wr.cell? ⟨b, 1, none⟩ = some (.bool true) := (show Sw W b w wr from HB.out.st).1.yes
   have HQ : Hid (none = o) := HL.out
   have HNA : Hid (NA es) := HB.out.na
   have HG : Hid (wr.heap[w.heap.size]? = some (.cells nd0 67)) := HB.out.res
   clear HL HB HR
   go_wp2_with (first
    | (refine wpList_load_run rfl 67 _ rfl _ _ rfl RL.out ?_; clear RL)
    | (refine wpList_store_run rfl 67 _ _ rfl _ _ _ rfl rfl RS.out ?_; clear RS))
   refine bodyPost_ret (nd_res HG.out HZ.out rfl rfl) rfl ?_
   rw [← HQ.out]
   exact ⟨es, rfl, HNA.out, HF.out⟩
  | some p =>
   obtain ⟨n, r⟩ := p
   have hr : r.length ≤ 256 := HR.out _ rfl
   have hS : Sq W b r w wr := (HB.out.st).2
   have hnot : wr.cell? ⟨b, 1, none⟩ = some (.bool false) := hS.1.not
   have OP := rop_any hS.1 hr
   have hleft := hS.1.left
   by_cases hq : opOf r = [37]
   ·have hrt := (op_tail (ts := r) hq (by decide)).1
    have HQ : Hid (o = some (pctF r.tail.length (unT [37] n) r.tail)) := by show _ = _; rw [← HL.out]; show some (pctF r.length n r) = _; rw [rpct_yes hq]
    have TK : Calls Tryz.prog 157 #[.pointer (some ⟨b, 0, none⟩), .string ⟨#[37]⟩] wr fun e w' => e = .returned (.tuple #[]) ∧ Sq W b r.tail wr w' := rtake_yes (s := [37]) hS.1 hr (by decide) hq
    rw [hq] at OP
    have OP' : Calls Tryz.prog 156 #[.pointer (some ⟨b, 0, none⟩)] wr fun e w' => e = .returned (.string ⟨#[37]⟩) ∧ w' = wr := OP
    clear HL hq hS OP
    generalize hrr : r.tail = r' at *
    clear hrr
    go_wp2_with (first
     | (go_at_call 156; refine OP'.mono ?_; rintro e w' ⟨rfl, hw⟩; obtain rfl := hw.symm; clear hw)
     | (go_at_call 157; refine TK.mono ?_; rintro e w2 ⟨rfl, hw⟩; have HS2 : Hid (Sq W b r' wr w2) := hw; clear hw TK; obtain ⟨R2, R4, R5, R6, HB6⟩ := BI.pct HB.out hb HLT.out HS2.out)
     | (refine wpList_load_run rfl 67 _ rfl _ _ rfl R2.out ?_; clear R2)
     | (refine wpList_bslice_run rfl 65 1 _ rfl _ _ _ (by go_simp) R4.out ?_; clear R4)
     | (refine wpList_build_run rfl 67 _ rfl _ _ (by go_simp) R5.out ?_; clear R5)
     | (refine wpList_store_run rfl 67 _ _ rfl _ _ _ rfl rfl R6.out ?_; clear R6))
    try simp only [Act.put, List.setIfInBounds_toArray, List.set_cons_zero, List.set_cons_succ]
    go_roundw
    case rel =>
     refine ⟨some (unT [37] n, r'), _, ?_, HB6, ?_⟩
     ·show _ = _
      rw [HQ.out]
      rfl
     ·show ∀ p, _ → _
      intro p hp
      cases hp
      show r'.length ≤ 256
      omega
    case measure =>
     have hst := HB6.out.st
     rw [(show _ ∧ Sq W b r' w _ from hst).2.1.left, hleft]; omega
   ·have HQ : Hid (o = some (n, r)) := by show _ = _; rw [← HL.out]; show some (pctF r.length n r) = _; rw [rpct_no hq]
    have hqi : ((ba (opOf r)).toList == [37]) = false := ne_list hq
    obtain ⟨RL, RS, HZ, HF⟩ := HB.out.fin hb
    have HNA : Hid (NA es) := HB.out.na
    have HG : Hid (wr.heap[w.heap.size]? = some (.cells nd0 67)) := HB.out.res
    generalize ba (opOf r) = A at *
    clear hq HL hleft HB hS
    go_wp2_with (first
     | (go_at_call 156; refine OP.mono ?_; rintro e w' ⟨rfl, hw⟩; obtain rfl := hw.symm; clear hw)
     | (refine wpList_load_run rfl 67 _ rfl _ _ rfl RL.out ?_; clear RL)
     | (refine wpList_store_run rfl 67 _ _ rfl _ _ _ rfl rfl RS.out ?_; clear RS))
    refine bodyPost_ret (nd_res HG.out HZ.out rfl rfl) rfl ?_
    rw [HQ.out]
    exact ⟨es, rfl, HNA.out, HF.out⟩
theorem run_any {W : World} {b : Nat} {ts : List Tk.Tok} (hn : ts.length ≤ 256) (C : ∀ u, opOf ts = [45] → QR W b ts.tail u → Calls Tryz.prog 155 #[.pointer (some ⟨b, 0, none⟩)] u (RO W b u (PP 6 ts.tail))) (D : ∀ u, QR W b ts u → Calls Tryz.prog 201 #[.pointer (some ⟨b, 0, none⟩)] u (RO W b u (PP 8 ts))) {w : World} (X : QR W b ts w) :
  Calls Tryz.prog 155 #[.pointer (some ⟨b, 0, none⟩)] w (RO W b w (PP 6 ts)) := by
 have e : PP 6 ts = if opOf ts = [45] then (PP 6 ts.tail).map fun p => (unT [45] p.1, p.2) else PP 7 ts := ps_neg upF trF ts
 have e7 : PP 7 ts = (PP 8 ts).map fun p => pctF p.2.length p.1 p.2 := ps_pct upF trF ts
 rw [e]
 by_cases h : opOf ts = [45]
 ·rw [if_pos h]; exact run_neg hn h (fun u hu => C u h hu) X
 ·rw [if_neg h, e7]; exact run_pct hn h D X
theorem add_none (g o j : Nat) : (⟨g, o, none⟩ : Addr).add j = ⟨g, o + j, none⟩ := by unfold Addr.add; split <;> simp_all
theorem load_ref {u : World} {g o : Nat} {k n r c : Int} {s bk h : ByteArray} {fr fc : Bool} (hc : ∀ j x, (tcs k n s bk h r c fr fc).toList[j]? = some x → u.cell? ⟨g, o + j, none⟩ = some x) :
  (Instr.loadAt 64 (.pointer (some ⟨g, o + 3, none⟩))).run Tryz.prog u = .ok (refV bk h r c fr fc) u := by
 refine run_loadVar_any u ⟨g, o + 3, none⟩ 64 [.string bk, .string h, .int .i64 r, .int .i64 c, .bool fr, .bool fc] _ (fun j v hj => ?_) Tryz.underlying64 rfl inf64
 rw [add_none, Nat.add_assoc]
 refine hc (3 + j) v ?_
 match j, hj with
 | 0, hj => exact hj
 | 1, hj => exact hj
 | 2, hj => exact hj
 | 3, hj => exact hj
 | 4, hj => exact hj
 | 5, hj => exact hj
theorem QR.first {W u : World} {b : Nat} {t : Tk.Tok} {q : List Tk.Tok} (h : QR W b (t :: q) u) : ∃ g o c, u.heap[b]? = some (rpO (.slice (some ⟨g, o, none⟩) (q.length + 1) c) false) ∧ q.length + 1 ≤ c ∧ (∀ j x, (tk t).cl[j]? = some x → u.cell? ⟨g, o + j, none⟩ = some x) ∧
  TS W (.slice (if c = 1 then some ⟨g, o, none⟩ else some ⟨g, o + 9, none⟩) q.length (c - 1)) (q.map tk) := by
 obtain ⟨v, hv, hs⟩ := h.blk
 rw [List.map_cons] at hs
 obtain ⟨g, o, c, rfl, hlc, hcs, hts⟩ := hs.cons
 rw [List.length_map] at hv hlc hts
 exact ⟨g, o, c, hv, hlc, fun j x hx => cell_bel h.bel (hcs j x hx), hts⟩
theorem QR.rest {W u v : World} {b : Nat} {t : Tk.Tok} {q : List Tk.Tok} {A : Option Addr} {c : Nat} (h : QR W b (t :: q) u) (hb : Below u.heap.size u v) (hts : TS W (.slice A q.length c) (q.map tk)) : Sq W b q u (v.setCell ⟨b, 0, none⟩ (.slice A q.length c)) := by
 obtain ⟨x, hx, _⟩ := (h.below hb).blk
 refine ⟨⟨h.tab, ((h.below hb).bel).setCell h.lo _, h.lo, fun y hy => h.ok y (by simp [hy]), _, (rp_facts hx).2.2.2.2.2 _, hts⟩, grown_trans (grown_below hb) (Lib.grownBy_setCell _ _ _ _)⟩
abbrev rw2 (w : World) (cs : Array Value) : World := (w.alloc (.cells cs 188)).alloc (.cells nd0 67)
theorem rw2_facts {w : World} {cs : Array Value} : (rw2 w cs).heap[w.heap.size]? = some (.cells cs 188) ∧ (rw2 w cs).heap[w.heap.size + 1]? = some (.cells nd0 67) ∧ (rw2 w cs).heap.size = w.heap.size + 2 ∧ Below w.heap.size w (rw2 w cs) := by
 refine ⟨(Below.heap_alloc _ _ _ (by simp)).trans (heap_alloc_new w _), ?_, by simp, bel_alloc (bel_alloc (Below.refl _ _) _) _⟩
 have := heap_alloc_new (w.alloc (.cells cs 188)) (.cells nd0 67)
 simpa using this
theorem RA.fin2 {W w u : World} {b : Nat} {cs es : Array Value} {o : Option (T × List Tk.Tok)} (hb : b < w.heap.size) (hn : NA es) (h : RA W b (rw2 w cs) o es u) :
  Hid ((Instr.storeAt 67 (.pointer (some ⟨w.heap.size + 1, 0, none⟩)) (.agg es)).run Tryz.prog u = .ok () (u.setRow (w.heap.size + 1) es)) ∧ Hid (u.heap[w.heap.size + 1]? = some (.cells nd0 67)) ∧ Hid (es.size = 18) ∧ Hid (NA es) ∧
  Hid (RA W b w o es (u.setRow (w.heap.size + 1) es)) := by
 obtain ⟨f0, f1, f2, f3⟩ := rw2_facts (w := w) (cs := cs)
 have k1 := h.kept f1 (by omega)
 refine ⟨hn.sto k1 rfl, k1, hn.size, hn, ?_⟩
 cases o with
 | none => exact (show Sw W b (rw2 w cs) u from h).unalloc.unalloc.grown (setRow_grown _ _ _) (by omega) hb
 | some p =>
  obtain ⟨h1, h2⟩ := h
  exact ⟨(h1.grown (setRow_grown _ _ _) (fun g e hk => by cases e; have hk' : (rw2 w cs).heap.size ≤ w.heap.size + 1 := hk; omega)).mono (fun i hi _ => by have hi' : (rw2 w cs).heap.size ≤ i := hi; omega), h2.unalloc.unalloc.grown (setRow_grown _ _ _) (by omega) hb⟩
theorem RA.leaf {W w u : World} {b : Nat} {L : List Tk.Tok} (a : Lab) (h : Sq W b L w u) : RA W b w (some (tree a [], L)) (lcs a (.slice none 0 0)) u := ⟨NK.leaf, h⟩
theorem na_leaf (a : Lab) : NA (lcs a (.slice none 0 0)) := ⟨_, _, _, _, rfl⟩
theorem build_r (u : World) (bk h : ByteArray) (r c : Int) (fr fc : Bool) : (Instr.build 67 #[(0, .int .i64 2), (3, refV bk h r c fr fc)]).run Tryz.prog u = .ok (.agg (lcs ⟨2, nb, 0, 0, nb, bk, h, r, c, fr, fc, nb, nb, 0, 0, false, false⟩ (.slice none 0 0))) u := by kernel_rfl
theorem build_a (u : World) (bk h : ByteArray) (r c : Int) (fr fc : Bool) (bk' h' : ByteArray) (r' c' : Int) (fr' fc' : Bool) : (Instr.build 67 #[(0, .int .i64 3), (3, refV bk h r c fr fc), (4, refV bk' h' r' c' fr' fc')]).run Tryz.prog u = .ok (.agg (lcs ⟨3, nb, 0, 0, nb, bk, h, r, c, fr, fc, bk', h', r', c', fr', fc'⟩ (.slice none 0 0))) u := by kernel_rfl
theorem ref_one (bk h : ByteArray) (r c : Int) (fr fc : Bool) : (#[.string bk, .string h, .int .i64 r, .int .i64 c, .bool fr, .bool fc] : Array Value).all (·.oneCell') = true := by simp [Value.oneCell']
abbrev rz25 : Array Value := #[.string noB, .string noB, .int .i64 0, .int .i64 0, .bool false, .bool false]
section
variable {W w : World} {b : Nat} {k0 n0 r1 c1 : Int} {s0 b1 h1 : ByteArray} {fr1 fc1 : Bool}
theorem box_ref {u : World} {g : Nat} (hg : u.heap[g]? = some (.cells (tcs k0 n0 s0 b1 h1 r1 c1 fr1 fc1) 188)) : (Instr.loadAt 64 (.pointer (some ⟨g, 3, none⟩))).run Tryz.prog u = .ok (refV b1 h1 r1 c1 fr1 fc1) u := by
 have := load_ref (u := u) (g := g) (o := 0) (k := k0) (n := n0) (s := s0) (bk := b1) (h := h1) (r := r1) (c := c1) (fr := fr1) (fc := fc1) (fun j x hx => by
  rw [Nat.zero_add, cell_of_row u g j _ 188 (0, 0) hg, ← Array.getElem?_toList]; exact hx)
 rw [Nat.zero_add] at this
 exact this
theorem rref_one {L : List Tk.Tok} (hn : L.length ≤ 256) (h : opOf L ≠ [58]) (X : QR W b L w) : Calls Tryz.prog 245 #[.pointer (some ⟨b, 0, none⟩), .agg (tcs k0 n0 s0 b1 h1 r1 c1 fr1 fc1)] w (RO W b w (some (tree ⟨2, nb, 0, 0, nb, b1, h1, r1, c1, fr1, fc1, nb, nb, 0, 0, false, false⟩ [], L))) := by
 have hb := X.lt
 obtain ⟨f0, f1, f2, f3⟩ := rw2_facts (w := w) (cs := tcs k0 n0 s0 b1 h1 r1 c1 fr1 fc1)
 have X2 := X.below f3
 have OP := rop_any X2 hn
 have hne : ((ba (opOf L)).toList == [58]) = false := ne_list h
 have RL : Hid _ := box_ref f0
 have RB : Hid _ := build_r (rw2 w (tcs k0 n0 s0 b1 h1 r1 c1 fr1 fc1)) b1 h1 r1 c1 fr1 fc1
 obtain ⟨RS, HG, HZ, HNA, HF⟩ := RA.fin2 hb (na_leaf _) (RA.leaf ⟨2, nb, 0, 0, nb, b1, h1, r1, c1, fr1, fc1, nb, nb, 0, 0, false, false⟩ (Sq.refl X2))
 clear X X2 h f0 f1 f2 f3
 generalize lcs ⟨2, nb, 0, 0, nb, b1, h1, r1, c1, fr1, fc1, nb, nb, 0, 0, false, false⟩ (.slice none 0 0) = es at *
 generalize hcs : tcs k0 n0 s0 b1 h1 r1 c1 fr1 fc1 = cs at *
 generalize ba (opOf L) = A at *
 go_enter Tryz.func245, Tryz.ntmps245
 go_wp2_with (first
  | (go_at_call 156; refine OP.mono ?_; rintro e w' ⟨rfl, hw⟩; obtain rfl := hw.symm; clear hw)
  | (refine wpList_load_run rfl 64 _ rfl _ _ rfl RL.out ?_; clear RL)
  | (refine wpList_build_run rfl 67 _ rfl _ _ (by go_simp) RB.out ?_; clear RB)
  | (refine wpList_store_run rfl 67 _ _ rfl _ _ _ rfl rfl RS.out ?_; clear RS))
 exact bodyPost_ret (nd_res HG.out HZ.out rfl rfl) rfl ⟨_, rfl, HNA.out, HF.out⟩
theorem rref_nil {L : List Tk.Tok} (hn : L.length ≤ 256) (h : opOf L = [58]) (hL : L.tail = []) (X : QR W b L w) : Calls Tryz.prog 245 #[.pointer (some ⟨b, 0, none⟩), .agg (tcs k0 n0 s0 b1 h1 r1 c1 fr1 fc1)] w (RO W b w none) := by
 have hb := X.lt
 generalize hcs : tcs k0 n0 s0 b1 h1 r1 c1 fr1 fc1 = cs at *
 obtain ⟨f0, f1, f2, f3⟩ := rw2_facts (w := w) (cs := cs)
 have X2 := X.below f3
 have OP : Calls Tryz.prog 156 #[.pointer (some ⟨b, 0, none⟩)] (rw2 w cs) fun e w' => e = .returned (.string ⟨#[58]⟩) ∧ w' = rw2 w cs := by
  have := rop_any X2 hn
  rw [h] at this
  exact this
 have TK : Calls Tryz.prog 157 #[.pointer (some ⟨b, 0, none⟩), .string ⟨#[58]⟩] (rw2 w cs) fun e w2 => e = .returned (.tuple #[]) ∧ Hid (Sq W b [] (rw2 w cs) w2) ∧ ∃ a c, w2.cell? ⟨b, 0, none⟩ = some (.slice a 0 c) := (rtake_yes (s := [58]) X2 hn (by decide) h).mono (by
  rintro e w2 ⟨rfl, h2⟩
  rw [hL] at h2
  obtain ⟨v, hv, hs⟩ := h2.1.blk
  obtain ⟨a, c, rfl⟩ := hs.slice
  exact ⟨rfl, h2, a, c, (rp_facts hv).1⟩)
 have FA : Hid (∀ u, Sq W b [] (rw2 w cs) u → Calls Tryz.prog 244 #[.pointer (some ⟨b, 0, none⟩)] u fun e w3 => ∃ es, e = .returned (.agg es) ∧ Hid ((Instr.storeAt 67 (.pointer (some ⟨w.heap.size + 1, 0, none⟩)) (.agg es)).run Tryz.prog w3 = .ok () (w3.setRow (w.heap.size + 1) es)) ∧ Hid (w3.heap[w.heap.size + 1]? = some (.cells nd0 67)) ∧ Hid (es.size = 18) ∧ Hid (NA es) ∧
  Hid (RA W b w none es (w3.setRow (w.heap.size + 1) es))) := fun u hu => (rfail_any hu.1.b).mono (by
  rintro e w3 ⟨rfl, h3⟩
  exact ⟨nd0, rfl, RA.fin2 (cs := cs) (o := none) hb NA.zero (hu.bad h3)⟩)
 clear X X2 h f0 f1 f2 f3 hcs
 go_enter Tryz.func245, Tryz.ntmps245
 go_wp2_with (first
  | (go_at_call 156; refine OP.mono ?_; rintro e w' ⟨rfl, hw⟩; obtain rfl := hw.symm; clear hw)
  | (go_at_call 157; refine TK.mono ?_; rintro e w2 ⟨rfl, HS2, a, c, hc0⟩)
  | (go_at_call 244; refine (FA.out _ HS2.out).mono ?_; rintro e w3 ⟨es, rfl, RS, HG, HZ, HNA, HF⟩)
  | (refine wpList_store_run rfl 67 _ _ rfl _ _ _ rfl rfl RS.out ?_; clear RS))
 exact bodyPost_ret (nd_res HG.out HZ.out rfl rfl) rfl ⟨_, rfl, HNA.out, HF.out⟩
theorem rref_bad {L q : List Tk.Tok} {t : Tk.Tok} (hn : L.length ≤ 256) (h : opOf L = [58]) (hL : L.tail = t :: q) (hk : (tk t).k ≠ 3 ∨ ((tk t).k = 3 ∧ ¬ (tk t).h.toList = [])) (X : QR W b L w) : Calls Tryz.prog 245 #[.pointer (some ⟨b, 0, none⟩), .agg (tcs k0 n0 s0 b1 h1 r1 c1 fr1 fc1)] w (RO W b w none) := by
 have hb := X.lt
 generalize hcs : tcs k0 n0 s0 b1 h1 r1 c1 fr1 fc1 = cs at *
 obtain ⟨f0, f1, f2, f3⟩ := rw2_facts (w := w) (cs := cs)
 have X2 := X.below f3
 have OP : Calls Tryz.prog 156 #[.pointer (some ⟨b, 0, none⟩)] (rw2 w cs) fun e w' => e = .returned (.string ⟨#[58]⟩) ∧ w' = rw2 w cs := by
  have := rop_any X2 hn
  rw [h] at this
  exact this
 have TK : Calls Tryz.prog 157 #[.pointer (some ⟨b, 0, none⟩), .string ⟨#[58]⟩] (rw2 w cs) fun e w2 => e = .returned (.tuple #[]) ∧ Hid (Sq W b (t :: q) (rw2 w cs) w2) ∧ ∃ g o c, w2.cell? ⟨b, 0, none⟩ = some (.slice (some ⟨g, o, none⟩) (q.length + 1) c) ∧ w2.cell? ⟨g, o, none⟩ = some (.int .i64 (tk t).k) ∧ w2.cell? ⟨g, o + (3 + 1), none⟩ = some (.string (tk t).h) := (rtake_yes (s := [58]) X2 hn (by decide) h).mono (by
  rintro e w2 ⟨rfl, h2⟩
  rw [hL] at h2
  obtain ⟨g, o, c, hv, _, hcc, _⟩ := h2.1.first
  exact ⟨rfl, h2, g, o, c, (rp_facts hv).1, hcc 0 _ rfl, hcc 4 _ rfl⟩)
 have FA : Hid (∀ u, Sq W b (t :: q) (rw2 w cs) u → Calls Tryz.prog 244 #[.pointer (some ⟨b, 0, none⟩)] u fun e w3 => ∃ es, e = .returned (.agg es) ∧ Hid ((Instr.storeAt 67 (.pointer (some ⟨w.heap.size + 1, 0, none⟩)) (.agg es)).run Tryz.prog w3 = .ok () (w3.setRow (w.heap.size + 1) es)) ∧ Hid (w3.heap[w.heap.size + 1]? = some (.cells nd0 67)) ∧ Hid (es.size = 18) ∧ Hid (NA es) ∧
  Hid (RA W b w none es (w3.setRow (w.heap.size + 1) es))) := fun u hu => (rfail_any hu.1.b).mono (by
  rintro e w3 ⟨rfl, h3⟩
  exact ⟨nd0, rfl, RA.fin2 (cs := cs) (o := none) hb NA.zero (hu.bad h3)⟩)
 have hlq : (((q.length : Int) + 1) == 0) = false := by simp; omega
 have hlt : q.length ≤ 256 := by
  have := (op_tail (ts := L) h (by decide)).1
  rw [hL] at this; simp at this; omega
 clear X X2 h f0 f1 f2 f3 hcs hL
 generalize (tk t).k = k at *
 generalize (tk t).h = hh at *
 rcases hk with hk | ⟨rfl, hs⟩
 ·have hkb : (k != 3) = true := by simpa using hk
  clear hk
  go_enter Tryz.func245, Tryz.ntmps245
  go_wp2_with (first
   | (go_at_call 156; refine OP.mono ?_; rintro e w' ⟨rfl, hw⟩; obtain rfl := hw.symm; clear hw)
   | (go_at_call 157; refine TK.mono ?_; rintro e w2 ⟨rfl, HS2, g, o, c, hc0, hk0, hk4⟩; generalize q.length = n at *)
   | (go_at_call 244; refine (FA.out _ HS2.out).mono ?_; rintro e w3 ⟨es, rfl, RS, HG, HZ, HNA, HF⟩)
   | (refine wpList_store_run rfl 67 _ _ rfl _ _ _ rfl rfl RS.out ?_; clear RS))
  exact bodyPost_ret (nd_res HG.out HZ.out rfl rfl) rfl ⟨_, rfl, HNA.out, HF.out⟩
 ·have hsb : hh.toList.isEmpty = false := by
   cases hx : hh.toList with
   | nil => exact absurd hx hs
   | cons _ _ => rfl
  clear hs
  go_enter Tryz.func245, Tryz.ntmps245
  go_wp2_with (first
   | (go_at_call 156; refine OP.mono ?_; rintro e w' ⟨rfl, hw⟩; obtain rfl := hw.symm; clear hw)
   | (go_at_call 157; refine TK.mono ?_; rintro e w2 ⟨rfl, HS2, g, o, c, hc0, hk0, hk4⟩; generalize q.length = n at *)
   | (go_at_call 244; refine (FA.out _ HS2.out).mono ?_; rintro e w3 ⟨es, rfl, RS, HG, HZ, HNA, HF⟩)
   | (refine wpList_store_run rfl 67 _ _ rfl _ _ _ rfl rfl RS.out ?_; clear RS))
  exact bodyPost_ret (nd_res HG.out HZ.out rfl rfl) rfl ⟨_, rfl, HNA.out, HF.out⟩
theorem rref_yes {L q : List Tk.Tok} {t : Tk.Tok} (hn : L.length ≤ 256) (h : opOf L = [58]) (hL : L.tail = t :: q) (hk : (tk t).k = 3) (hs : (tk t).h.toList = []) (X : QR W b L w) : Calls Tryz.prog 245 #[.pointer (some ⟨b, 0, none⟩), .agg (tcs k0 n0 s0 b1 h1 r1 c1 fr1 fc1)] w
  (RO W b w (some (tree ⟨3, nb, 0, 0, nb, b1, h1, r1, c1, fr1, fc1, (tk t).b, (tk t).h, (tk t).r, (tk t).c, (tk t).fr, (tk t).fc⟩ [], q))) := by
 have hb := X.lt
 obtain ⟨f0, f1, f2, f3⟩ := rw2_facts (w := w) (cs := tcs k0 n0 s0 b1 h1 r1 c1 fr1 fc1)
 have X2 := X.below f3
 have OP : Calls Tryz.prog 156 #[.pointer (some ⟨b, 0, none⟩)] (rw2 w (tcs k0 n0 s0 b1 h1 r1 c1 fr1 fc1)) fun e w' => e = .returned (.string ⟨#[58]⟩) ∧ w' = rw2 w (tcs k0 n0 s0 b1 h1 r1 c1 fr1 fc1) := by
  have := rop_any X2 hn
  rw [h] at this
  exact this
 have hlq : (((q.length : Int) + 1) == 0) = false := by simp; omega
 have hlt : q.length ≤ 256 := by
  have := (op_tail (ts := L) h (by decide)).1
  rw [hL] at this; simp at this; omega
 have TK : Calls Tryz.prog 157 #[.pointer (some ⟨b, 0, none⟩), .string ⟨#[58]⟩] (rw2 w (tcs k0 n0 s0 b1 h1 r1 c1 fr1 fc1)) fun e w2 => e = .returned (.tuple #[]) ∧ ∃ g o c A, w2.cell? ⟨b, 0, none⟩ = some (.slice (some ⟨g, o, none⟩) (q.length + 1) c) ∧ w2.cell? ⟨g, o, none⟩ = some (.int .i64 (tk t).k) ∧ w2.cell? ⟨g, o + (3 + 1), none⟩ = some (.string (tk t).h) ∧ q.length + 1 ≤ c ∧
   (if c = 1 then some (⟨g, o, none⟩ : Addr) else some ⟨g, o + 9, none⟩) = A ∧
   Hid ((Instr.loadAt 64 (.pointer (some ⟨g, o + 3, none⟩))).run Tryz.prog w2 = .ok (refV (tk t).b (tk t).h (tk t).r (tk t).c (tk t).fr (tk t).fc) w2) ∧
   Hid ((Instr.storeAt 64 (.pointer (some ⟨w2.heap.size, 0, none⟩)) (refV (tk t).b (tk t).h (tk t).r (tk t).c (tk t).fr (tk t).fc)).run Tryz.prog (w2.alloc (.cells rz25 64)) = .ok () (w2.alloc (refO (tk t).b (tk t).h (tk t).r (tk t).c (tk t).fr (tk t).fc))) ∧
   (w2.alloc (refO (tk t).b (tk t).h (tk t).r (tk t).c (tk t).fr (tk t).fc)).cell? ⟨b, 0, none⟩ = some (.slice (some ⟨g, o, none⟩) (q.length + 1) c) ∧ (w2.alloc (refO (tk t).b (tk t).h (tk t).r (tk t).c (tk t).fr (tk t).fc)).frozen? ⟨b, 0, none⟩ = false ∧
   ∃ w5, (w2.alloc (refO (tk t).b (tk t).h (tk t).r (tk t).c (tk t).fr (tk t).fc)).setCell ⟨b, 0, none⟩ (.slice A q.length (c - 1)) = w5 ∧
   Hid ((Instr.loadAt 64 (.pointer (some ⟨w.heap.size, 3, none⟩))).run Tryz.prog w5 = .ok (refV b1 h1 r1 c1 fr1 fc1) w5) ∧ Hid ((Instr.loadAt 64 (.pointer (some ⟨w2.heap.size, 0, none⟩))).run Tryz.prog w5 = .ok (refV (tk t).b (tk t).h (tk t).r (tk t).c (tk t).fr (tk t).fc) w5) ∧
   Hid (Sq W b q (rw2 w (tcs k0 n0 s0 b1 h1 r1 c1 fr1 fc1)) w5) := (rtake_yes (s := [58]) X2 hn (by decide) h).mono (by
  rintro e w2 ⟨rfl, h2⟩
  rw [hL] at h2
  obtain ⟨g, o, c, hv, hlc, hcc, hts⟩ := h2.1.first
  have hz2 := h2.2.size
  have B3 : Below w2.heap.size w2 (w2.alloc (refO (tk t).b (tk t).h (tk t).r (tk t).c (tk t).fr (tk t).fc)) := bel_alloc (Below.refl _ _) _
  have hv3 := (B3.block _ (lt_of hv)).trans hv
  have G5 := Lib.grownBy_setCell (w2.alloc (refO (tk t).b (tk t).h (tk t).r (tk t).c (tk t).fr (tk t).fc)) b 0 (.slice (if c = 1 then some ⟨g, o, none⟩ else some ⟨g, o + 9, none⟩) q.length (c - 1))
  have hR := h2.1.rest B3 hts
  have hk0 := h2.kept f0 (by omega)
  have hk3 := (B3.block _ (lt_of hk0)).trans hk0
  refine ⟨rfl, g, o, c, _, (rp_facts hv).1, hcc 0 _ rfl, hcc 4 _ rfl, hlc, rfl, load_ref (fun j x hx => hcc j x hx), run_storeAt_new w2 64 rz25 _ inf64 rfl (ref_one _ _ _ _ _ _), (rp_facts hv3).1, (rp_facts hv3).2.2.1, _, rfl, ?_, ?_, h2.step hR⟩
  ·exact box_ref ((G5.block _ (lt_of hk3) (by intro e; have := Option.some.inj e; omega)).trans hk3)
  ·exact lod (z := (0, 0)) ((G5.block _ (by simp) (by intro e; have := Option.some.inj e; have := lt_of hv; omega)).trans (heap_alloc_new _ _)) rfl Tryz.underlying64 inf64)
 have FIN : Hid (∀ u, Sq W b q (rw2 w (tcs k0 n0 s0 b1 h1 r1 c1 fr1 fc1)) u → _) := fun u hu => RA.fin2 hb (na_leaf _) (RA.leaf ⟨3, nb, 0, 0, nb, b1, h1, r1, c1, fr1, fc1, (tk t).b, (tk t).h, (tk t).r, (tk t).c, (tk t).fr, (tk t).fc⟩ hu)
 have RB : Hid _ := fun u => build_a u b1 h1 r1 c1 fr1 fc1 (tk t).b (tk t).h (tk t).r (tk t).c (tk t).fr (tk t).fc
 clear X X2 h f0 f1 f2 f3 hL
 generalize tk t = tt at *
 obtain ⟨k, n, s, bk, hh, r, c, fr, fc⟩ := tt
 dsimp only at *
 subst hk
 have hsb : hh.toList.isEmpty = true := by rw [hs]; rfl
 clear hs
 generalize lcs ⟨3, nb, 0, 0, nb, b1, h1, r1, c1, fr1, fc1, bk, hh, r, c, fr, fc⟩ (.slice none 0 0) = es at *
 generalize hcs : tcs k0 n0 s0 b1 h1 r1 c1 fr1 fc1 = cs at *
 clear hcs
 go_enter Tryz.func245, Tryz.ntmps245
 go_wp2_with (first
  | (go_at_call 156; refine OP.mono ?_; rintro e w' ⟨rfl, hw⟩; obtain rfl := hw.symm; clear hw)
  | (go_at_call 157; refine TK.mono ?_; rintro e w2 ⟨rfl, g, o, cc, A, hc0, hk0, hk4, hlc, hA, RT, RS25, hc3, hf3, w5, hw5, RL5, RM5, HS5⟩; obtain ⟨RS, HG, HZ, HNA, HF⟩ := FIN.out _ HS5.out; generalize q.length = n at *)
  | (refine wpList_load_run rfl 64 _ rfl _ _ rfl RT.out ?_; clear RT)
  | (refine wpList_store_run rfl 64 _ _ rfl _ _ _ rfl rfl RS25.out ?_; clear RS25)
  | (refine wpList_load_run rfl 64 _ rfl _ _ rfl RL5.out ?_; clear RL5)
  | (refine wpList_load_run rfl 64 _ rfl _ _ rfl RM5.out ?_; clear RM5)
  | (refine wpList_build_run rfl 67 _ rfl _ _ (by go_simp) (RB.out _) ?_)
  | (refine wpList_store_run rfl 67 _ _ rfl _ _ _ rfl rfl RS.out ?_; clear RS))
 exact bodyPost_ret (nd_res HG.out HZ.out rfl rfl) rfl ⟨_, rfl, HNA.out, HF.out⟩
end
theorem rref_any {W w : World} {b : Nat} (x : Ad.Ref) {L : List Tk.Tok} (hn : L.length ≤ 256) (X : QR W b L w) : Calls Tryz.prog 245 #[.pointer (some ⟨b, 0, none⟩), .agg (tk (Tk.Tok.ref x)).cs] w (RO W b w (cellsF x L)) := by
 unfold cellsF
 by_cases h : opOf L = [58]
 ·rw [if_pos h]
  cases hL : L.tail with
  | nil => exact rref_nil hn h hL X
  | cons t q =>
   have no : ((tk t).k ≠ 3 ∨ ((tk t).k = 3 ∧ ¬ (tk t).h.toList = [])) → Calls Tryz.prog 245 #[.pointer (some ⟨b, 0, none⟩), .agg (tk (Tk.Tok.ref x)).cs] w (RO W b w none) := fun hne => rref_bad hn h hL hne X
   cases t using Tk.Tok.cs with
   | ref y =>
    simp only
    by_cases hy : y.sheet = []
    ·rw [if_pos hy]
     exact rref_yes hn h hL rfl (by rw [ByteArray.toList_eq]; exact hy) X
    ·rw [if_neg hy]
     exact no (.inr ⟨rfl, fun e => hy (by rw [ByteArray.toList_eq] at e; exact e)⟩)
   | num n => exact no (.inl (by simp [tk]))
   | str n => exact no (.inl (by simp [tk]))
   | word n m => exact no (.inl (by simp [tk]))
   | op n => exact no (.inl (by simp [tk]))
   | bad n => exact no (.inl (by simp [tk]))
 ·rw [if_neg h]
  exact rref_one hn h X
end Go.Proofs.YtnibldnfbikipaaGreatDoor
