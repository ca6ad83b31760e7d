/- RParse, ARPrint, SR1. -/
import Derived.Test.YtnibldnfbikipaaGreatDoorRLexBy
import Derived.Test.YtnibldnfbikipaaGreatDoorSOwnBy
set_option linter.unusedVariables false
set_option linter.unusedSimpArgs false
set_option maxHeartbeats 16000000
set_option maxRecDepth 100000
namespace Go.Proofs.YtnibldnfbikipaaGreatDoor
open Go.RowKit Go.Fm
theorem results_ns {fn : Func} {p u : Tmp} (h : fn.results = #[.cell p 67, .tmp u]) {tmps : Array Value} {w : World} {g : Nat} {es : Array Value} {x : Value}
  (hp : tmps.getD p undef = .pointer (some ⟨g, 0, none⟩)) (hu : tmps.getD u undef = x) (h2 : w.heap[g]? = some (.cells es 67)) (he : es.size = 18) :
  (results fn tmps).run Tryz.prog w = .ok (.tuple #[.agg es, x]) w := by
 have hp' : tmps[p]?.getD undef = .pointer (some ⟨g, 0, none⟩) := by simpa using hp
 have hu' : tmps[u]?.getD undef = x := by simpa using hu
 have r2 := run_loadVar_row (P := Tryz.prog) w g 67 67 es (0, 0) _ h2 Tryz.underlying67 rfl (by rw [he]; exact inf67)
 simp [results, h, hp', hu', asAddr, r2]
def PB (w : World) (p : T × Int) (e : Ending) (w' : World) : Prop := ∃ es, e = .returned (.tuple #[.agg es, .int .i64 p.2]) ∧ NT w' es p.1 ∧ Below w.heap.size w w'
theorem fin_res {w u : World} {es : Array Value} (hn : NA es) (h : u.heap[w.heap.size]? = some (.cells nd0 67)) (hb : Below w.heap.size w u) : Hid ((Instr.storeAt 67 (.pointer (some ⟨w.heap.size, 0, none⟩)) (.agg es)).run Tryz.prog u = .ok () (u.setRow w.heap.size es)) ∧ Hid ((u.setRow w.heap.size es).heap[w.heap.size]? = some (.cells es 67)) ∧ Hid (Below w.heap.size w (u.setRow w.heap.size es)) ∧ Hid (es.size = 18) :=
 ⟨hn.sto h rfl, setRow_heap _ _ _ _ _ _ h, hb.grown (setRow_grown _ _ _) hb.size (fun j e => by cases e; exact Nat.le_refl _), hn.size⟩
section
variable {w : World} {l : List UInt8}
theorem rparse_err {A : ByteArray} {c : Int} (hc : (c != 0) = true) (L : Calls Tryz.prog 108 #[.string A] (w.alloc (.cells nd0 67)) fun e w1 => e = .returned (.tuple #[.slice none 0 0, .int .i64 c]) ∧ Below (w.alloc (.cells nd0 67)).heap.size (w.alloc (.cells nd0 67)) w1) :
  Calls Tryz.prog 75 #[.string A] w (PB w (zeroT, c)) := by
 have L' : Calls Tryz.prog 108 #[.string A] (w.alloc (.cells nd0 67)) fun e w1 => e = .returned (.tuple #[.slice none 0 0, .int .i64 c]) ∧ Hid ((Instr.storeAt 67 (.pointer (some ⟨w.heap.size, 0, none⟩)) (.agg nd0)).run Tryz.prog w1 = .ok () (w1.setRow w.heap.size nd0)) ∧ Hid ((w1.setRow w.heap.size nd0).heap[w.heap.size]? = some (.cells nd0 67)) ∧ Hid (Below w.heap.size w (w1.setRow w.heap.size nd0)) := L.mono (by
  rintro e w1 ⟨rfl, h⟩
  obtain ⟨a1, a2, a3, a4⟩ := fin_res (w := w) NA.zero ((h.block _ (by simp)).trans (heap_alloc_new w _)) (bel_step (bel_alloc (Below.refl _ _) _) h)
  exact ⟨rfl, a1, a2, a3⟩)
 have RB : Hid (∀ u, (Instr.build 67 #[]).run Tryz.prog u = .ok (.agg nd0) u) := build_none
 clear L
 go_enter Tryz.func75, Tryz.ntmps75
 go_wp2_with (first
  | (go_at_call 108; refine L'.mono ?_; rintro e w1 ⟨rfl, RS, HG, HF⟩)
  | (refine wpList_build_run rfl 67 _ rfl _ _ rfl (RB.out _) ?_)
  | (refine wpList_store_run rfl 67 _ _ rfl _ _ _ rfl rfl RS.out ?_; clear RS))
 exact bodyPost_ret (results_ns rfl rfl rfl HG.out rfl) rfl ⟨nd0, rfl, zero_nt _, HF.out⟩
theorem begin_rp {w w1 : World} {v : Value} {ts : List Tk.Tok} (T : Tab9 w1) (ho : OwnT 188 (w.alloc (.cells nd0 67)).heap.size w1 v (ts.map tk)) (hok : OkL ts) : QR w1 w1.heap.size ts (w1.alloc (rpO v false)) :=
 ⟨T, bel_alloc (Below.refl _ _) _, Nat.le_refl _, hok, v, heap_alloc_new _ _, TS.of ho⟩
theorem build_p (u : World) (a : Option Addr) (n c : Nat) : (Instr.build 145 #[(0, .slice a n c)]).run Tryz.prog u = .ok (.agg #[.slice a n c, .bool false]) u := by kernel_rfl
theorem end_rp {w w1 w2 : World} {v : Value} {ts : List Tk.Tok} {o : Option (T × List Tk.Tok)} {es : Array Value} (hb : Below (w.alloc (.cells nd0 67)).heap.size (w.alloc (.cells nd0 67)) w1) (hn : NA es) (h : RA w1 w1.heap.size (w1.alloc (rpO v false)) o es w2) :
  Hid ((Instr.storeAt 67 (.pointer (some ⟨w2.heap.size, 0, none⟩)) (.agg es)).run Tryz.prog (w2.alloc (.cells nd0 67)) = .ok () (w2.alloc (.cells es 67))) ∧ (w2.alloc (.cells es 67)).heap[w.heap.size]? = some (.cells nd0 67) ∧ Below w.heap.size w (w2.alloc (.cells es 67)) ∧ (w2.alloc (.cells es 67)).heap[w2.heap.size]? = some (.cells es 67) := by
 have hg := h.grow
 have hz1 : w.heap.size < w1.heap.size := by have := hb.size; simp at this; omega
 have B1 : Below w.heap.size w (w1.alloc (rpO v false)) := bel_alloc (bel_step (bel_alloc (Below.refl _ _) _) hb) _
 have B2 : Below w.heap.size w w2 := B1.grown hg B1.size (fun k e => by cases e; omega)
 have k0 : (w1.alloc (rpO v false)).heap[w.heap.size]? = some (.cells nd0 67) := (Below.heap_alloc _ _ _ hz1).trans ((hb.block _ (by simp)).trans (heap_alloc_new w _))
 have k2 : w2.heap[w.heap.size]? = some (.cells nd0 67) := h.kept k0 (by omega)
 exact ⟨run_storeAt_new w2 67 nd0 _ (by rw [hn.size]; exact inf67) (by rw [hn.size]; rfl) hn.one, (Below.heap_alloc _ _ _ (lt_of k2)).trans k2, bel_alloc B2 _, heap_alloc_new _ _⟩
theorem rparse_toks {A : ByteArray} {ts : List Tk.Tok} (T : Tab9 w) (hok : OkL ts) (hts : ts.length ≤ 255) (L : Calls Tryz.prog 108 #[.string A] (w.alloc (.cells nd0 67)) fun e w1 => ∃ v, e = .returned (.tuple #[v, .int .i64 0]) ∧ OwnT 188 (w.alloc (.cells nd0 67)).heap.size w1 v (ts.map tk) ∧ Below (w.alloc (.cells nd0 67)).heap.size (w.alloc (.cells nd0 67)) w1) :
  Calls Tryz.prog 75 #[.string A] w (PB w (match allF ts with
   | none => (zeroT, 10)
   | some t => (t, 0))) := by
 have L' : Calls Tryz.prog 108 #[.string A] (w.alloc (.cells nd0 67)) fun e w1 => ∃ a n c, e = .returned (.tuple #[.slice a n c, .int .i64 0]) ∧ Hid (Below (w.alloc (.cells nd0 67)).heap.size (w.alloc (.cells nd0 67)) w1) ∧ Hid (QR w1 w1.heap.size ts (w1.alloc (rpO (.slice a n c) false))) := L.mono (by
  rintro e w1 ⟨v, rfl, ho, hb⟩
  obtain ⟨a, c, rfl⟩ := ho.slice
  exact ⟨a, _, c, rfl, hb, begin_rp ((T.below (bel_alloc (Below.refl _ _) _)).below hb) ho hok⟩)
 have RB : Hid (∀ u, (Instr.build 67 #[]).run Tryz.prog u = .ok (.agg nd0) u) := build_none
 have RP : Hid (∀ u a n c, (Instr.build 145 #[(0, .slice a n c)]).run Tryz.prog u = .ok (.agg #[.slice a n c, .bool false]) u) := build_p
 cases hP : PP 1 ts with
 | none =>
  have hall : allF ts = none := by unfold allF; rw [hP]
  rw [hall]
  have C : Hid (∀ w1 v, QR w1 w1.heap.size ts (w1.alloc (rpO v false)) → Below (w.alloc (.cells nd0 67)).heap.size (w.alloc (.cells nd0 67)) w1 → Calls Tryz.prog 109 #[.pointer (some ⟨w1.heap.size, 0, none⟩), .int .i64 1] (w1.alloc (rpO v false)) fun e w2 => ∃ es, e = .returned (.agg es) ∧
    Hid ((Instr.storeAt 67 (.pointer (some ⟨w2.heap.size, 0, none⟩)) (.agg es)).run Tryz.prog (w2.alloc (.cells nd0 67)) = .ok () (w2.alloc (.cells es 67))) ∧ (w2.alloc (.cells es 67)).cell? ⟨w1.heap.size, 1, none⟩ = some (.bool true) ∧
    Hid ((Instr.storeAt 67 (.pointer (some ⟨w.heap.size, 0, none⟩)) (.agg nd0)).run Tryz.prog (w2.alloc (.cells es 67)) = .ok () ((w2.alloc (.cells es 67)).setRow w.heap.size nd0)) ∧ Hid (((w2.alloc (.cells es 67)).setRow w.heap.size nd0).heap[w.heap.size]? = some (.cells nd0 67)) ∧ Hid (Below w.heap.size w ((w2.alloc (.cells es 67)).setRow w.heap.size nd0))) := fun w1 v hq hb => (rbinary_any (by omega) hq).mono (by
   rintro e w2 ⟨es, rfl, hn, h⟩
   rw [hP] at h
   have h' : Sw w1 w1.heap.size (w1.alloc (rpO v false)) w2 := h
   obtain ⟨r1, r2, r3, r4⟩ := end_rp (ts := ts) hb hn (o := none) h
   obtain ⟨a1, a2, a3, a4⟩ := fin_res (w := w) NA.zero r2 r3
   exact ⟨es, rfl, r1, (h'.alloc (.cells es 67)).1.yes, a1, a2, a3⟩)
  clear L hok T hts hall hP
  go_enter Tryz.func75, Tryz.ntmps75
  go_wp2_with (first
   | (go_at_call 108; refine L'.mono ?_; rintro e w1 ⟨a, n, c, rfl, HB, HQ⟩)
   | (refine wpList_build_run rfl 145 _ rfl _ _ (by go_simp) (RP.out _ _ _ _) ?_)
   | (go_at_call 109; refine (C.out _ _ HQ.out HB.out).mono ?_; rintro e w2 ⟨es, rfl, RS1, hyes, RS, HG, HF⟩)
   | (refine wpList_store_run rfl 67 _ _ rfl _ _ _ rfl rfl RS1.out ?_; clear RS1)
   | (refine wpList_build_run rfl 67 _ rfl _ _ rfl (RB.out _) ?_)
   | (refine wpList_store_run rfl 67 _ _ rfl _ _ _ rfl rfl RS.out ?_; clear RS))
  exact bodyPost_ret (results_ns rfl rfl rfl HG.out rfl) rfl ⟨nd0, rfl, zero_nt _, HF.out⟩
 | some p =>
  obtain ⟨t, r⟩ := p
  have hlt := ps_lt upF trF (by omega) _ t r hP
  have hzt : zT t + r.length ≤ ts.length := ps_few upF trF (Nat.le_refl _) _ _ _ hP
  cases r with
  | cons x r =>
   have hall : allF ts = none := by unfold allF; rw [hP]
   rw [hall]
   have C : Hid (∀ w1 v, QR w1 w1.heap.size ts (w1.alloc (rpO v false)) → Below (w.alloc (.cells nd0 67)).heap.size (w.alloc (.cells nd0 67)) w1 → Calls Tryz.prog 109 #[.pointer (some ⟨w1.heap.size, 0, none⟩), .int .i64 1] (w1.alloc (rpO v false)) fun e w2 => ∃ es a n c, e = .returned (.agg es) ∧
     Hid ((Instr.storeAt 67 (.pointer (some ⟨w2.heap.size, 0, none⟩)) (.agg es)).run Tryz.prog (w2.alloc (.cells nd0 67)) = .ok () (w2.alloc (.cells es 67))) ∧ (w2.alloc (.cells es 67)).cell? ⟨w1.heap.size, 1, none⟩ = some (.bool false) ∧ (w2.alloc (.cells es 67)).cell? ⟨w1.heap.size, 0, none⟩ = some (.slice a n c) ∧ (0 : Int) < (n : Int) ∧
     Hid ((Instr.storeAt 67 (.pointer (some ⟨w.heap.size, 0, none⟩)) (.agg nd0)).run Tryz.prog (w2.alloc (.cells es 67)) = .ok () ((w2.alloc (.cells es 67)).setRow w.heap.size nd0)) ∧ Hid (((w2.alloc (.cells es 67)).setRow w.heap.size nd0).heap[w.heap.size]? = some (.cells nd0 67)) ∧ Hid (Below w.heap.size w ((w2.alloc (.cells es 67)).setRow w.heap.size nd0))) := fun w1 v hq hb => (rbinary_any (by omega) hq).mono (by
    rintro e w2 ⟨es, rfl, hn, h⟩
    rw [hP] at h
    have h' : Sq w1 w1.heap.size (x :: r) (w1.alloc (rpO v false)) w2 := h.2
    obtain ⟨r1, r2, r3, r4⟩ := end_rp (ts := ts) hb hn (o := some (t, x :: r)) h
    obtain ⟨a1, a2, a3, a4⟩ := fin_res (w := w) NA.zero r2 r3
    obtain ⟨u, hu, hs⟩ := (h'.alloc (.cells es 67)).1.blk
    obtain ⟨a, c, rfl⟩ := hs.slice
    exact ⟨es, a, _, c, rfl, r1, (rp_facts hu).2.1, (rp_facts hu).1, by simp, a1, a2, a3⟩)
   clear L hok T hts hall hP
   go_enter Tryz.func75, Tryz.ntmps75
   go_wp2_with (first
    | (go_at_call 108; refine L'.mono ?_; rintro e w1 ⟨a, n, c, rfl, HB, HQ⟩)
    | (refine wpList_build_run rfl 145 _ rfl _ _ (by go_simp) (RP.out _ _ _ _) ?_)
    | (go_at_call 109; refine (C.out _ _ HQ.out HB.out).mono ?_; rintro e w2 ⟨es, a2, n2, c2, rfl, RS1, hno, hsl, hpos, RS, HG, HF⟩)
    | (refine wpList_store_run rfl 67 _ _ rfl _ _ _ rfl rfl RS1.out ?_; clear RS1)
    | (refine wpList_build_run rfl 67 _ rfl _ _ rfl (RB.out _) ?_)
    | (refine wpList_store_run rfl 67 _ _ rfl _ _ _ rfl rfl RS.out ?_; clear RS))
   exact bodyPost_ret (results_ns rfl rfl rfl HG.out rfl) rfl ⟨nd0, rfl, zero_nt _, HF.out⟩
  | nil =>
   have C : Hid (∀ w1 v, QR w1 w1.heap.size ts (w1.alloc (rpO v false)) → Below (w.alloc (.cells nd0 67)).heap.size (w.alloc (.cells nd0 67)) w1 → Calls Tryz.prog 109 #[.pointer (some ⟨w1.heap.size, 0, none⟩), .int .i64 1] (w1.alloc (rpO v false)) fun e w2 => ∃ es a c, e = .returned (.agg es) ∧
     Hid ((Instr.storeAt 67 (.pointer (some ⟨w2.heap.size, 0, none⟩)) (.agg es)).run Tryz.prog (w2.alloc (.cells nd0 67)) = .ok () (w2.alloc (.cells es 67))) ∧ (w2.alloc (.cells es 67)).cell? ⟨w1.heap.size, 1, none⟩ = some (.bool false) ∧ (w2.alloc (.cells es 67)).cell? ⟨w1.heap.size, 0, none⟩ = some (.slice a 0 c) ∧
     Hid ((Instr.loadAt 67 (.pointer (some ⟨w2.heap.size, 0, none⟩))).run Tryz.prog (w2.alloc (.cells es 67)) = .ok (.agg es) (w2.alloc (.cells es 67))) ∧
     Hid (Calls Tryz.prog 45 #[.agg es] (w2.alloc (.cells es 67)) fun e w4 => e = .returned (.int .i64 (dT t : Nat)) ∧ Hid ((Instr.storeAt 67 (.pointer (some ⟨w.heap.size, 0, none⟩)) (.agg nd0)).run Tryz.prog w4 = .ok () (w4.setRow w.heap.size nd0)) ∧ Hid ((w4.setRow w.heap.size nd0).heap[w.heap.size]? = some (.cells nd0 67)) ∧ Hid (Below w.heap.size w (w4.setRow w.heap.size nd0)) ∧
      Hid ((Instr.loadAt 67 (.pointer (some ⟨w2.heap.size, 0, none⟩))).run Tryz.prog w4 = .ok (.agg es) w4) ∧ Hid ((Instr.storeAt 67 (.pointer (some ⟨w.heap.size, 0, none⟩)) (.agg es)).run Tryz.prog w4 = .ok () (w4.setRow w.heap.size es)) ∧ Hid ((w4.setRow w.heap.size es).heap[w.heap.size]? = some (.cells es 67)) ∧ Hid (Below w.heap.size w (w4.setRow w.heap.size es)) ∧ Hid (es.size = 18) ∧ Hid (NT (w4.setRow w.heap.size es) es t))) := fun w1 v hq hb => (rbinary_any (by omega) hq).mono (by
    rintro e w2 ⟨es, rfl, hn, h⟩
    rw [hP] at h
    have h' : Sq w1 w1.heap.size [] (w1.alloc (rpO v false)) w2 := h.2
    have hN : NK (fun i => (w1.alloc (rpO v false)).heap.size ≤ i) w2 es t := h.1
    obtain ⟨r1, r2, r3, r4⟩ := end_rp (ts := ts) hb hn (o := some (t, [])) h
    obtain ⟨u, hu, hs⟩ := (h'.alloc (.cells es 67)).1.blk
    obtain ⟨a, c, rfl⟩ := hs.slice
    have hN3 := hN.below (bel_alloc (Below.refl _ _) (.cells es 67))
    have hz1 : w.heap.size < w1.heap.size := by have := hb.size; simp at this; omega
    refine ⟨es, a, c, rfl, r1, (rp_facts hu).2.1, (rp_facts hu).1, hn.lod r4, (rdepth_any t (by omega) _ es hN3.nt).mono ?_⟩
    rintro e w4 ⟨rfl, h4⟩
    have k2 := (h4.block _ (lt_of r2)).trans r2
    have k4 := (h4.block _ (lt_of r4)).trans r4
    have B4 := bel_step r3 h4
    obtain ⟨a1, a2, a3, a4⟩ := fin_res (w := w) NA.zero k2 B4
    obtain ⟨b1, b2, b3, b4⟩ := fin_res (w := w) hn k2 B4
    refine ⟨rfl, a1, a2, a3, hn.lod k4, b1, b2, b3, b4, ((hN3.below h4).grown (setRow_grown _ _ _) (fun g e hk => ?_)).nt⟩
    cases e
    have hk' : (w1.alloc (rpO v false)).heap.size ≤ w.heap.size := hk
    simp at hk'
    omega)
   by_cases hd : dT t ≤ 24
   ·have hall : allF ts = some t := by unfold allF; rw [hP]; simp only; rw [if_pos hd]
    rw [hall]
    have hdi : ¬ (24 : Int) < ((dT t : Nat) : Int) := by omega
    clear L hok T hts hall hP hd
    generalize ((dT t : Nat) : Int) = dd at *
    go_enter Tryz.func75, Tryz.ntmps75
    go_wp2_with (first
     | (go_at_call 108; refine L'.mono ?_; rintro e w1 ⟨a, n, c, rfl, HB, HQ⟩)
     | (refine wpList_build_run rfl 145 _ rfl _ _ (by go_simp) (RP.out _ _ _ _) ?_)
     | (go_at_call 109; refine (C.out _ _ HQ.out HB.out).mono ?_; rintro e w2 ⟨es, a2, c2, rfl, RS1, hno, hsl, RL3, CD⟩)
     | (refine wpList_store_run rfl 67 _ _ rfl _ _ _ rfl rfl RS1.out ?_; clear RS1)
     | (refine wpList_load_g 67 _ rfl _ _ rfl RL3.out (by go_simp) ?_; clear RL3)
     | (go_at_call 45; refine CD.out.mono ?_; rintro e w4 ⟨rfl, RSz, HGz, HFz, RL4, RS, HG, HF, HZ, HNT⟩)
     | (refine wpList_load_run rfl 67 _ rfl _ _ rfl RL4.out ?_; clear RL4)
     | (refine wpList_store_run rfl 67 _ _ rfl _ _ _ rfl rfl RS.out ?_; clear RS))
    exact bodyPost_ret (results_ns rfl rfl rfl HG.out HZ.out) rfl ⟨_, rfl, HNT.out, HF.out⟩
   ·have hall : allF ts = none := by unfold allF; rw [hP]; simp only; rw [if_neg hd]
    rw [hall]
    have hdi : (24 : Int) < ((dT t : Nat) : Int) := by omega
    clear L hok T hts hall hP hd
    generalize ((dT t : Nat) : Int) = dd at *
    go_enter Tryz.func75, Tryz.ntmps75
    go_wp2_with (first
     | (go_at_call 108; refine L'.mono ?_; rintro e w1 ⟨a, n, c, rfl, HB, HQ⟩)
     | (refine wpList_build_run rfl 145 _ rfl _ _ (by go_simp) (RP.out _ _ _ _) ?_)
     | (go_at_call 109; refine (C.out _ _ HQ.out HB.out).mono ?_; rintro e w2 ⟨es, a2, c2, rfl, RS1, hno, hsl, RL3, CD⟩)
     | (refine wpList_store_run rfl 67 _ _ rfl _ _ _ rfl rfl RS1.out ?_; clear RS1)
     | (refine wpList_load_g 67 _ rfl _ _ rfl RL3.out (by go_simp) ?_; clear RL3)
     | (go_at_call 45; refine CD.out.mono ?_; rintro e w4 ⟨rfl, RS, HG, HF, RL4, RSe, HGe, HFe, HZ, HNT⟩)
     | (refine wpList_build_run rfl 67 _ rfl _ _ rfl (RB.out _) ?_)
     | (refine wpList_store_run rfl 67 _ _ rfl _ _ _ rfl rfl RS.out ?_; clear RS))
    exact bodyPost_ret (results_ns rfl rfl rfl HG.out rfl) rfl ⟨nd0, rfl, zero_nt _, HF.out⟩
end
theorem fparse_ref (l : List UInt8) (w : World) (T : Tab9 w) : Calls Tryz.prog 75 #[.string (ba l)] w (PB w (parF l)) := by
 have R := rlex_any l (w.alloc (.cells nd0 67))
 unfold parF
 by_cases h : 255 < l.length
 ·rw [if_pos h]
  unfold LexB at R
  simp only [if_pos h] at R
  exact rparse_err (by decide) (R.mono (by rintro e w1 ⟨rfl, rfl⟩; exact ⟨rfl, Below.refl _ _⟩))
 ·rw [if_neg h]
  unfold LexB at R
  simp only [if_neg h] at R
  cases hx : lexF l with
  | none =>
   rw [hx] at R
   exact rparse_err (by decide) (R.mono (by rintro e w1 ⟨h1, rfl⟩; exact ⟨rfl, h1⟩))
  | some ts =>
   rw [hx] at R
   have hts : ts.length ≤ 255 := lex_le hx (by omega)
   exact rparse_toks T (fun x hxm => ⟨lex_ok hx x hxm, lex_sm (by omega) hx x hxm⟩) hts (R.mono (by
    rintro e w1 ⟨h1, v, rfl, h2, h3⟩
    exact ⟨v, rfl, h2, h1⟩))
end Go.Proofs.YtnibldnfbikipaaGreatDoor
namespace Go.Proofs.YtnibldnfbikipaaGreatDoor
open Go.RowKit
theorem rct_no (r c : Int) (hi : inB r c = false) (w : World) : Calls Tryz.prog 97 #[.int .i64 r, .int .i64 c] w fun e w' => e = .returned (.string ⟨#[]⟩) ∧ Below w.heap.size w w' := by
 have IN := fun u => rin_any r c u
 rw [hi] at IN
 clear hi
 go_enter Tryz.func97, Tryz.ntmps97
 go_wp2_with (go_at_call 145; refine (IN _).mono ?_; rintro e w' ⟨rfl, hw⟩; obtain rfl := hw.symm; clear hw)
 go_ret
 exact ⟨rfl, Below.refl _ _⟩
theorem rct_any (r c : Int) (w : World) : Calls Tryz.prog 97 #[.int .i64 r, .int .i64 c] w fun e w' => e = .returned (.string (ctB r c)) ∧ Below w.heap.size w w' := by
 unfold ctB
 cases hi : inB r c
 ·exact rct_no r c hi w
 ·obtain ⟨R, C, rfl, rfl, q1, q2, q3, q4⟩ := in_yes hi
  exact rct_yes R C hi q1 q2 q3 q4 w
end Go.Proofs.YtnibldnfbikipaaGreatDoor
namespace Go.Proofs.YtnibldnfbikipaaGreatDoor.Sh
open Go.RowKit Go.Fm
theorem in_ins (r c : Int) : inB r c = insB r c := by
 unfold inB insB
 rw [Bool.eq_iff_iff]
 simp
 omega
theorem ct_ne (r c : Int) (h : insB r c = true) : (ctB r c).toList ≠ [] := by
 rw [← in_ins] at h
 unfold ctB
 rw [if_pos h]
 unfold cellB Ad.cellW
 rw [ByteArray.toList_eq]
 simp
theorem rinside_any (r c : Int) (w : World) : Calls Tryz.prog 59 #[.int .i64 r, .int .i64 c] w fun e w' => e = .returned (.bool (insB r c)) ∧ Below w.heap.size w w' := by
 have C := rct_any r c w
 cases hin : insB r c with
 | false =>
  have e : ctB r c = ⟨#[]⟩ := by unfold ctB; rw [in_ins, hin]; rfl
  rw [e] at C
  clear e hin
  go_enter Tryz.func59, Tryz.ntmps59
  go_wp2_with (go_at_call 97; refine C.mono ?_; clear C; rintro e w1 ⟨rfl, hb⟩; have HB : Hid _ := hb; clear hb)
  go_ret
  exact ⟨rfl, HB.out⟩
 | true =>
  have hne := ct_ne r c hin
  have hb0 : ((ctB r c).toList == []) = false := by simpa using hne
  generalize ctB r c = s at *
  clear hin hne
  go_enter Tryz.func59, Tryz.ntmps59
  go_wp2_with (go_at_call 97; refine C.mono ?_; clear C; rintro e w1 ⟨rfl, hb⟩; have HB : Hid _ := hb; clear hb)
  go_ret
  exact ⟨rfl, HB.out⟩
theorem ord_lt (a b : CellT) : decide (ordC a b < 0) = ltB a b := by
 rw [Bool.eq_iff_iff, ltB_iff, decide_eq_true_iff]
 exact ord_neg
theorem rafter_any (x y : CellT) (w : World) : Calls Tryz.prog 94 #[cellV x, cellV y] w fun e w' => e = .returned (.bool (ltB y x)) ∧ Below w.heap.size w w' := by
 have HB : Hid (Below w.heap.size w ((w.alloc (ceO x)).alloc (ceO y))) := Sh.bel_alloc (Sh.bel_alloc (Below.refl _ _) (Nat.le_refl _) _) (Nat.le_refl _) _
 have h1 : ((w.alloc (ceO x)).alloc (ceO y)).heap[w.heap.size]? = some (ceO x) := by
  rw [((Below.refl (w.alloc (ceO x)).heap.size (w.alloc (ceO x))).alloc (Nat.le_refl _) (ceO y)).block _ (by simp)]
  exact heap_alloc_new w _
 have h2 : ((w.alloc (ceO x)).alloc (ceO y)).heap[w.heap.size + 1]? = some (ceO y) := by
  have := heap_alloc_new (w.alloc (ceO x)) (ceO y)
  rw [show (w.alloc (ceO x)).heap.size = w.heap.size + 1 by simp] at this
  exact this
 obtain ⟨a0, a1, a2⟩ := c_cells h1
 obtain ⟨b0, b1, b2⟩ := c_cells h2
 have HL : Hid (ltB y x = decide (y.row < x.row ∨ y.row = x.row ∧ y.col < x.col)) := rfl
 generalize ltB y x = r at *
 obtain ⟨xr, xc, xt⟩ := x
 obtain ⟨yr, yc, yt⟩ := y
 dsimp only at *
 clear h1 h2
 by_cases e1 : yr < xr
 ·obtain rfl : r = true := HL.out.trans (by simp [e1])
  go_enter Tryz.func94, Tryz.ntmps94
  go_wp2
  go_ret
  exact ⟨rfl, HB.out⟩
 ·by_cases e2 : xr = yr
  ·subst e2
   by_cases e3 : yc < xc
   ·obtain rfl : r = true := HL.out.trans (by simp [e3])
    go_enter Tryz.func94, Tryz.ntmps94
    go_wp2
    go_ret
    exact ⟨rfl, HB.out⟩
   ·obtain rfl : r = false := HL.out.trans (by simp; omega)
    go_enter Tryz.func94, Tryz.ntmps94
    go_wp2
    go_ret
    exact ⟨rfl, HB.out⟩
  ·obtain rfl : r = false := HL.out.trans (by simp; omega)
   go_enter Tryz.func94, Tryz.ntmps94
   go_wp2
   go_ret
   exact ⟨rfl, HB.out⟩
theorem par_err (l : List UInt8) (h : l.length ≤ 255) : (parF l).2 = 0 ∨ (parF l).2 = 10 := by
 unfold parF
 rw [if_neg (by omega)]
 split
 ·exact .inr rfl
 ·split
  ·exact .inr rfl
  ·exact .inl rfl
theorem strip_ways (s : ByteArray) : (s.data.toList = [] ∧ (Ad.strip 61 s.data.toList).1 = false) ∨ ∃ x r, s.data.toList = x :: r ∧ ((x = 61 ∧ Ad.strip 61 s.data.toList = (true, r)) ∨ (x ≠ 61 ∧ (Ad.strip 61 s.data.toList).1 = false)) := by
 cases h : s.data.toList with
 | nil => exact .inl ⟨rfl, rfl⟩
 | cons x r =>
  refine .inr ⟨x, r, rfl, ?_⟩
  by_cases e : x = 61
  ·exact .inl ⟨e, by subst e; simp [Ad.strip]⟩
  ·exact .inr ⟨e, by simp [Ad.strip, e]⟩
theorem rmay_any (s : ByteArray) (w : World) (T : Tab9 w) : Calls Tryz.prog 27 #[.string s] w fun e w' => e = .returned (.int .i64 (mayF s)) ∧ Below w.heap.size w w' := by
 by_cases hlong : 255 < s.size
 ·have hm : mayF s = 3 := by unfold mayF; rw [if_pos hlong]
  rw [hm]
  have hli : (255 : Int) < s.size := by omega
  go_enter Tryz.func27, Tryz.ntmps27
  go_wp2
  go_ret
  exact ⟨rfl, Below.refl _ _⟩
 have hli : ¬ (255 : Int) < s.size := by omega
 have hsz : s.data.toList.length = s.size := by cases s; simp [ByteArray.size]
 rcases strip_ways s with ⟨h1, h2⟩ | ⟨x, r, h1, ⟨rfl, h2⟩ | ⟨h2, h3⟩⟩
 ·have hm : mayF s = 0 := by unfold mayF; rw [if_neg hlong, h2]; rfl
  rw [hm]
  have e0 : (s.toList == []) = true := by rw [ByteArray.toList_eq, h1]; rfl
  clear h1 h2 hm hsz
  go_enter Tryz.func27, Tryz.ntmps27
  go_wp2
  go_ret
  exact ⟨rfl, Below.refl _ _⟩
 ·have hpe := par_err r (by rw [h1] at hsz; simp at hsz; omega)
  have hm : mayF s = (parF r).2 := by
   unfold mayF
   rw [if_neg hlong, h2]
   rcases hpe with h | h <;> simp [h]
  rw [hm]
  have e0 : (s.toList == []) = false := by rw [ByteArray.toList_eq, h1]; rfl
  have hrl : r.length = s.size - 1 := by rw [← hsz, h1]; simp
  have hnn : 0 < s.size := by rw [← hsz, h1]; simp
  have hn0 : (0 : Int) < s.size := by omega
  have hidx : s[0]'hnn = 61 := by
   show s.data[0]'(by have : s.data.size = s.size := rfl; omega) = 61
   have : s.data.toList[0]? = some 61 := by rw [h1]; rfl
   rw [Array.getElem?_toList] at this
   exact (Array.getElem?_eq_some_iff.1 this).2
  have hcut : s.extract 1 s.size = ba r := by
   apply ByteArray.ext
   apply Array.ext'
   rw [ByteArray.data_extract, Array.toList_extract, h1]
   show (List.drop 1 (61 :: r)).take (s.size - 1) = r
   rw [List.drop_succ_cons, List.drop_zero, List.take_of_length_le (by omega)]
  have P2 : Calls Tryz.prog 75 #[.string (ba r)] w fun e w' => ∃ es, e = .returned (.tuple #[.agg es, .int .i64 (parF r).2]) ∧ Hid ((Instr.storeAt 67 (.pointer (some ⟨w'.heap.size, 0, none⟩)) (.agg es)).run Tryz.prog (w'.alloc (.cells nd0 67)) = .ok () (w'.alloc (.cells es 67))) ∧ Hid (Below w.heap.size w (w'.alloc (.cells es 67))) := (fparse_ref r w T).mono (by
   rintro e w1 ⟨es, rfl, hN, hb⟩
   exact ⟨es, rfl, (nbox w1 hN).1, Sh.bel_alloc hb (Nat.le_refl _) _⟩)
  clear h1 h2 hm hsz hpe hrl
  generalize (parF r).2 = pe at *
  generalize ba r = rs at *
  go_enter Tryz.func27, Tryz.ntmps27
  go_wp2_with (first
   | (go_at_call 75; refine P2.mono ?_; clear P2; rintro e w1 ⟨es, rfl, RS, HB⟩)
   | (refine wpList_store_run rfl 67 _ _ rfl _ _ _ rfl rfl RS.out ?_; clear RS))
  go_ret
  exact ⟨rfl, HB.out⟩
 ·have hm : mayF s = 0 := by unfold mayF; rw [if_neg hlong, h3]; rfl
  rw [hm]
  have e0 : (s.toList == []) = false := by rw [ByteArray.toList_eq, h1]; rfl
  have hnn : 0 < s.size := by rw [← hsz, h1]; simp
  have hn0 : (0 : Int) < s.size := by omega
  have hidx : s[0]'hnn = x := by
   show s.data[0]'(by have : s.data.size = s.size := rfl; omega) = x
   have : s.data.toList[0]? = some x := by rw [h1]; rfl
   rw [Array.getElem?_toList] at this
   exact (Array.getElem?_eq_some_iff.1 this).2
  have hx : ((x.toNat : Int) == 61) = false := by
   have : x.toNat ≠ 61 := fun h => h2 (UInt8.toNat_inj.1 h)
   simp; omega
  clear h1 h2 h3 hm hsz
  go_enter Tryz.func27, Tryz.ntmps27
  go_wp2
  go_ret
  exact ⟨rfl, Below.refl _ _⟩
theorem rtexts_any {lo hi : Nat} {w : World} {a : Option Addr} {c : Nat} {L : List CellT} (h : Cls lo hi w (.slice a L.length c) L) (hhi : hi ≤ w.heap.size) (T : Tab9 w) :
  Calls Tryz.prog 50 #[.slice a L.length c] w fun e w' => e = .returned (.int .i64 (textsF L)) ∧ Below w.heap.size w w' := by
 obtain ⟨_, _, he, hz1, hz2⟩ := h.slice
 cases he
 have hlen : L.length ≤ 9223372036854775807 := by unfold maxLen at hz2; omega
 have HS : Hid (Cls lo hi w (.slice a L.length c) L) := h
 have HT : Hid (Tab9 w) := T
 generalize hO : textsF L = tf
 have HO : Hid (textsF (L.drop 0) = tf) := by show _ = _; rw [List.drop_zero]; exact hO
 clear h hz1 hz2 hO T
 go_enter Tryz.func50, Tryz.ntmps50
 go_wp2
 go_loopw [8] (fun i wr => ∃ (k : Nat), k ≤ L.length ∧ i = .int .i64 (k : Nat) ∧ Hid (textsF (L.drop k) = tf) ∧ Hid (Below w.heap.size w wr)) (fun i _ => L.length - (intOf i).toNat)
 case atStart => exact ⟨0, Nat.zero_le _, rfl, HO, Below.refl _ _⟩
 case round =>
  obtain ⟨k, hk, rfl, HA, HD⟩ := hrel
  clear HO
  by_cases hkL : k < L.length
  ·have hki : (k : Int) < L.length := by omega
   obtain ⟨a', ov, W', rfl, rfl, hW', R2, R3, -⟩ := (HS.out.below hhi HD.out).runs hkL
   obtain ⟨_, _, c2⟩ := c_cells (show W'.heap[wr.heap.size]? = some (.cells (cellC L[k]).toArray 57) by rw [hW']; exact heap_alloc_new wr _)
   have HD2 : Hid (Below w.heap.size w W') := by rw [hW']; exact Sh.bel_alloc HD.out (Nat.le_refl _) _
   have C := rmay_any L[k].text W' (HT.out.below HD2.out)
   have hk63 : k < 9223372036854775807 := by omega
   have HX : Hid (mayF L[k].text ≠ 0 → tf = mayF L[k].text) := fun e => by rw [← HA.out, List.drop_eq_getElem_cons hkL]; unfold textsF; rw [if_pos e]
   have HY : Hid (mayF L[k].text = 0 → textsF (L.drop (k + 1)) = tf) := fun e => by rw [← HA.out, List.drop_eq_getElem_cons hkL, textsF, if_neg (by simpa using e)]
   clear hW'
   generalize L[k] = y at *
   obtain ⟨yr, yc, yt⟩ := y
   dsimp only at *
   generalize mayF yt = me at *
   by_cases e1 : me = 0
   ·have HY2 : Hid _ := HY.out e1
    subst e1
    clear HX HY
    go_wp2_with (first
     | (refine wpList_load_run rfl 57 _ rfl _ _ rfl R2.out ?_; clear R2)
     | (refine wpList_store_run rfl 57 _ _ rfl _ _ _ rfl rfl R3.out ?_; clear R3)
     | (go_at_call 27; refine C.mono ?_; clear C; rintro e w1 ⟨rfl, hb⟩; have HB1 : Hid _ := Sh.bel_step HD2.out HD2.out.size hb; clear hb))
    go_roundw
    case rel => exact ⟨k + 1, by omega, by go_num, HY2, HB1⟩
    case measure => simp [intOf]; omega
   ·have hpb : (me != 0) = true := by simpa using e1
    obtain rfl := HX.out e1
    clear HX HY
    go_wp2_with (first
     | (refine wpList_load_run rfl 57 _ rfl _ _ rfl R2.out ?_; clear R2)
     | (refine wpList_store_run rfl 57 _ _ rfl _ _ _ rfl rfl R3.out ?_; clear R3)
     | (go_at_call 27; refine C.mono ?_; clear C; rintro e w1 ⟨rfl, hb⟩; have HB1 : Hid _ := Sh.bel_step HD2.out HD2.out.size hb; clear hb))
    go_ret
    exact ⟨rfl, HB1.out⟩
  ·have hki : ¬ (k : Int) < L.length := by omega
   obtain rfl : tf = 0 := by rw [← HA.out, List.drop_of_length_le (by omega)]; rfl
   go_wp2
   go_ret
   exact ⟨rfl, HD.out⟩
theorem rcount_any {lo hi : Nat} {w : World} {sv nv lv : Value} {x : BookT} (h : BkM lo hi w sv nv lv x) (hhi : hi ≤ w.heap.size) (hz : cntL x.sheets ≤ 4611686018427387904) :
  Calls Tryz.prog 25 #[.agg #[sv, nv, lv]] w fun e w' => e = .returned (.int .i64 (cntL x.sheets : Nat)) ∧ Below w.heap.size w w' := by
 obtain ⟨sa, sc, rfl, hs1, hs2⟩ := h.sh.slice
 obtain ⟨na, nc, rfl, _, _⟩ := h.nm.slice
 obtain ⟨la, lc, rfl, _, _⟩ := h.lk.slice
 have HB : Hid (Below w.heap.size w (w.alloc (bkO (.slice sa x.sheets.length sc) (.slice na x.names.length nc) (.slice la x.links.length lc)))) := bel_alloc (Below.refl _ _) (Nat.le_refl _) _
 have c0 := cell_heap (heap_alloc_new w (bkO (.slice sa x.sheets.length sc) (.slice na x.names.length nc) (.slice la x.links.length lc))) (j := 0) rfl
 have HS : Hid (Shs lo hi w (.slice sa x.sheets.length sc) x.sheets) := h.sh
 have hlen : x.sheets.length ≤ 9223372036854775807 := by unfold maxLen at hs2; omega
 generalize hT : cntL x.sheets = tot at *
 have HT : Hid (cntL x.sheets = tot) := hT
 clear h hs1 hs2 hT
 go_enter Tryz.func25, Tryz.ntmps25
 go_wp2
 go_loopw [3, 9] (fun m i wr => ∃ (k q : Nat), k ≤ x.sheets.length ∧ i = .int .i64 (k : Nat) ∧ m = .int .i64 (q : Nat) ∧ q = cntL (x.sheets.take k) ∧ Hid (Below w.heap.size w wr)) (fun _ i _ => x.sheets.length - (intOf i).toNat)
 case atStart => exact ⟨0, 0, Nat.zero_le _, rfl, rfl, rfl, HB⟩
 case round =>
  obtain ⟨k, q, hk, rfl, rfl, hq, HD⟩ := hrel
  clear HB
  by_cases hkL : k < x.sheets.length
  ·have hki : (k : Int) < x.sheets.length := by omega
   obtain ⟨a', cv, ov, W, rfl, rfl, hcl, hW, R1, R2, -⟩ := (HS.out.below hhi HD.out).runs hkL
   obtain ⟨ca, cc, rfl, _, _⟩ := hcl.slice
   have c1 := cell_heap (show W.heap[wr.heap.size]? = some (.cells #[.string x.sheets[k].name, .slice ca x.sheets[k].cells.length cc] 78) by rw [hW]; exact heap_alloc_new wr _) (j := 1) rfl
   have HD2 : Hid (Below w.heap.size w W) := by rw [hW]; exact bel_alloc HD.out (Nat.le_refl _) _
   have hk63 : k < 9223372036854775807 := by omega
   have hs := cnt_take hkL
   have hle := cnt_le (L := x.sheets) (k + 1)
   rw [HT.out] at hle
   clear hcl hW
   generalize x.sheets[k] = y at *
   obtain ⟨yn, yc⟩ := y
   dsimp only at *
   have hw : (q : Int) + (yc.length : Nat) = ((q + yc.length : Nat) : Int) := by omega
   have hm : IntKind.i64.wrap ((q + yc.length : Nat) : Int) = ((q + yc.length : Nat) : Int) := by rw [IntKind.wrap_i64]; omega
   generalize hqq : q + yc.length = q2 at *
   go_wp2_with (first
    | (refine wpList_load_run rfl 78 _ rfl _ _ rfl R1.out ?_; clear R1)
    | (refine wpList_store_run rfl 78 _ _ rfl _ _ _ rfl rfl R2.out ?_; clear R2))
   go_roundw
   case rel => exact ⟨k + 1, q2, by omega, by go_num, by go_num, by omega, HD2⟩
   case measure => simp [intOf]; omega
  ·have hki : ¬ (k : Int) < x.sheets.length := by omega
   obtain rfl : q = tot := by rw [hq, List.take_of_length_le (by omega)]; exact HT.out
   go_wp2
   go_ret
   exact ⟨rfl, HD.out⟩
theorem rindex_any {lo hi : Nat} {w : World} {sv nv lv : Value} {x : BookT} (h : BkM lo hi w sv nv lv x) (hhi : hi ≤ w.heap.size) (s : ByteArray) :
  Calls Tryz.prog 21 #[.agg #[sv, nv, lv], .string s] w fun e w' => e = .returned (.int .i64 (idxI (idxN x.sheets s))) ∧ Below w.heap.size w w' := by
 obtain ⟨sa, sc, rfl, hs1, hs2⟩ := h.sh.slice
 obtain ⟨na, nc, rfl, _, _⟩ := h.nm.slice
 obtain ⟨la, lc, rfl, _, _⟩ := h.lk.slice
 have HB : Hid (Below w.heap.size w (w.alloc (bkO (.slice sa x.sheets.length sc) (.slice na x.names.length nc) (.slice la x.links.length lc)))) := Sh.bel_alloc (Below.refl _ _) (Nat.le_refl _) _
 have c0 := cell_heap (heap_alloc_new w (bkO (.slice sa x.sheets.length sc) (.slice na x.names.length nc) (.slice la x.links.length lc))) (j := 0) rfl
 have HS : Hid (Shs lo hi w (.slice sa x.sheets.length sc) x.sheets) := h.sh
 have hlen : x.sheets.length ≤ 9223372036854775807 := by unfold maxLen at hs2; omega
 generalize hT : idxI (idxN x.sheets s) = tot at *
 have HT : Hid (idxI (idxN x.sheets s) = tot) := hT
 clear h hs1 hs2 hT
 go_enter Tryz.func21, Tryz.ntmps21
 go_wp2
 go_loopw [10] (fun i wr => ∃ (k : Nat), k ≤ x.sheets.length ∧ i = .int .i64 (k : Nat) ∧ Hid (∀ j (hj : j < x.sheets.length), j < k → (x.sheets[j].name.toList == s.toList) = false) ∧ Hid (Below w.heap.size w wr)) (fun i _ => x.sheets.length - (intOf i).toNat)
 case atStart => exact ⟨0, Nat.zero_le _, rfl, fun j _ hj => by omega, HB⟩
 case round =>
  obtain ⟨k, hk, rfl, HA, HD⟩ := hrel
  clear HB
  by_cases hkL : k < x.sheets.length
  ·have hki : (k : Int) < x.sheets.length := by omega
   obtain ⟨a', cv, ov, W, rfl, rfl, hcl, hW, R1, R2, -⟩ := (HS.out.below hhi HD.out).runs hkL
   obtain ⟨ca, cc, rfl, _, _⟩ := hcl.slice
   have c1 := cell_heap (show W.heap[wr.heap.size]? = some (.cells #[.string x.sheets[k].name, .slice ca x.sheets[k].cells.length cc] 78) by rw [hW]; exact heap_alloc_new wr _) (j := 0) rfl
   have HD2 : Hid (Below w.heap.size w W) := by rw [hW]; exact Sh.bel_alloc HD.out (Nat.le_refl _) _
   have hk63 : k < 9223372036854775807 := by omega
   have HX : Hid ((x.sheets[k].name.toList == s.toList) = true → tot = (k : Int)) := fun e => by rw [← HT.out]; unfold idxN; rw [findIdx_some hkL (fun j hj => HA.out j (by omega) hj) e]; rfl
   have HY : Hid ((x.sheets[k].name.toList == s.toList) = false → ∀ j (hj : j < x.sheets.length), j < k + 1 → (x.sheets[j].name.toList == s.toList) = false) := fun e j hj hlt => by
    by_cases hjk : j = k
    ·subst hjk; exact e
    ·exact HA.out j hj (by omega)
   clear hcl hW
   generalize x.sheets[k] = y at *
   obtain ⟨yn, yc⟩ := y
   dsimp only at *
   cases e1 : yn.toList == s.toList with
   | true =>
    obtain rfl := HX.out e1
    clear HX HY HT
    go_wp2_with (first
     | (refine wpList_load_run rfl 78 _ rfl _ _ rfl R1.out ?_; clear R1)
     | (refine wpList_store_run rfl 78 _ _ rfl _ _ _ rfl rfl R2.out ?_; clear R2))
    go_ret
    exact ⟨rfl, HD2.out⟩
   | false =>
    have HY2 : Hid _ := HY.out e1
    clear HX HY HT
    go_wp2_with (first
     | (refine wpList_load_run rfl 78 _ rfl _ _ rfl R1.out ?_; clear R1)
     | (refine wpList_store_run rfl 78 _ _ rfl _ _ _ rfl rfl R2.out ?_; clear R2))
    go_roundw
    case rel => exact ⟨k + 1, by omega, by go_num, HY2, HD2⟩
    case measure => simp [intOf]; omega
  ·have hki : ¬ (k : Int) < x.sheets.length := by omega
   obtain rfl : tot = -1 := by
    rw [← HT.out]
    unfold idxN
    rw [findIdx_none fun j hj => HA.out j hj (by omega)]
    rfl
   go_wp2
   go_ret
   exact ⟨rfl, HD.out⟩
end Go.Proofs.YtnibldnfbikipaaGreatDoor.Sh
