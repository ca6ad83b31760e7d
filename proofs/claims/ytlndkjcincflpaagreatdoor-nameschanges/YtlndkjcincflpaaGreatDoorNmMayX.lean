/- RParse, NmMay. -/
import Derived.Test.YtlndkjcincflpaaGreatDoorRDepthX
import Derived.Test.YtlndkjcincflpaaGreatDoorRLexX
import Derived.Test.YtlndkjcincflpaaGreatDoorNmWrongX
import Derived.Test.YtlndkjcincflpaaGreatDoorAParseX
set_option linter.unusedVariables false
set_option linter.unusedSimpArgs false
namespace Go.Proofs.YtlndkjcincflpaaGreatDoor
open Go.RowKit Go.Fm
set_option maxRecDepth 100000
theorem results_ns {fn : Func} {p u : Tmp} (h : fn.results = #[.cell p 50, .tmp u]) {tmps : Array Value} {w : World} {g : Nat} {es : Array Value} {x : Value}
    (hp : tmps.getD p undef = .pointer (some ⟨g, 0, none⟩)) (hu : tmps.getD u undef = x) (h2 : w.heap[g]? = some (.cells es 50)) (he : es.size = 18) :
    (results fn tmps).run Tryz.prog w = .ok (.tuple #[.agg es, x]) w := by
  have hp' : tmps[p]?.getD undef = .pointer (some ⟨g, 0, none⟩) := by simpa using hp
  have hu' : tmps[u]?.getD undef = x := by simpa using hu
  have r2 := run_loadVar_row (P := Tryz.prog) w g 50 50 es (0, 0) _ h2 Tryz.underlying50 rfl (by rw [he]; exact inf50)
  simp [results, h, hp', hu', asAddr, r2]
def PB (w : World) (p : T × Int) (e : Ending) (w' : World) : Prop := ∃ es, e = .returned (.tuple #[.agg es, .int .i64 p.2]) ∧ NT w' es p.1 ∧ Below w.heap.size w w'
theorem fin_res {w u : World} {es : Array Value} (hn : NA es) (h : u.heap[w.heap.size]? = some (.cells nd0 50)) (hb : Below w.heap.size w u) : Hid ((Instr.storeAt 50 (.pointer (some ⟨w.heap.size, 0, none⟩)) (.agg es)).run Tryz.prog u = .ok () (u.setRow w.heap.size es)) ∧ Hid ((u.setRow w.heap.size es).heap[w.heap.size]? = some (.cells es 50)) ∧ Hid (Below w.heap.size w (u.setRow w.heap.size es)) ∧ Hid (es.size = 18) :=
  ⟨hn.sto h rfl, setRow_heap _ _ _ _ _ _ h, hb.grown (setRow_grown _ _ _) hb.size (fun j e => by cases e; exact Nat.le_refl _), hn.size⟩
section
variable {w : World} {l : List UInt8}
set_option maxHeartbeats 2000000 in
theorem rparse_err {A : ByteArray} {c : Int} (hc : (c != 0) = true) (L : Calls Tryz.prog 91 #[.string A] (w.alloc (.cells nd0 50)) fun e w1 => e = .returned (.tuple #[.slice none 0 0, .int .i64 c]) ∧ Below (w.alloc (.cells nd0 50)).heap.size (w.alloc (.cells nd0 50)) w1) :
    Calls Tryz.prog 56 #[.string A] w (PB w (zeroT, c)) := by
  have L' : Calls Tryz.prog 91 #[.string A] (w.alloc (.cells nd0 50)) fun e w1 => e = .returned (.tuple #[.slice none 0 0, .int .i64 c]) ∧ Hid ((Instr.storeAt 50 (.pointer (some ⟨w.heap.size, 0, none⟩)) (.agg nd0)).run Tryz.prog w1 = .ok () (w1.setRow w.heap.size nd0)) ∧ Hid ((w1.setRow w.heap.size nd0).heap[w.heap.size]? = some (.cells nd0 50)) ∧ Hid (Below w.heap.size w (w1.setRow w.heap.size nd0)) := L.mono (by
    rintro e w1 ⟨rfl, h⟩
    obtain ⟨a1, a2, a3, a4⟩ := fin_res (w := w) NA.zero ((h.block _ (by simp)).trans (heap_alloc_new w _)) (bel_step (bel_alloc (Below.refl _ _) _) h)
    exact ⟨rfl, a1, a2, a3⟩)
  have RB : Hid (∀ u, (Instr.build 50 #[]).run Tryz.prog u = .ok (.agg nd0) u) := build_none
  clear L
  go_enter Tryz.func56, Tryz.ntmps56
  go_wp2_with (first
    | (go_at_call 91; refine L'.mono ?_; rintro e w1 ⟨rfl, RS, HG, HF⟩)
    | (refine wpList_build_run rfl 50 _ rfl _ _ rfl (RB.out _) ?_)
    | (refine wpList_store_run rfl 50 _ _ rfl _ _ _ rfl rfl RS.out ?_; clear RS))
  exact bodyPost_ret (results_ns rfl rfl rfl HG.out rfl) rfl ⟨nd0, rfl, zero_nt _, HF.out⟩
theorem begin_rp {w w1 : World} {v : Value} {ts : List Tk.Tok} (T : Tab9 w1) (ho : OwnT 138 (w.alloc (.cells nd0 50)).heap.size w1 v (ts.map tk)) (hok : OkL ts) : QR w1 w1.heap.size ts (w1.alloc (rpO v false)) :=
  ⟨T, bel_alloc (Below.refl _ _) _, Nat.le_refl _, hok, v, heap_alloc_new _ _, TS.of ho⟩
theorem build_p (u : World) (a : Option Addr) (n c : Nat) : (Instr.build 120 #[(0, .slice a n c)]).run Tryz.prog u = .ok (.agg #[.slice a n c, .bool false]) u := by kernel_rfl
theorem end_rp {w w1 w2 : World} {v : Value} {ts : List Tk.Tok} {o : Option (T × List Tk.Tok)} {es : Array Value} (hb : Below (w.alloc (.cells nd0 50)).heap.size (w.alloc (.cells nd0 50)) w1) (hn : NA es) (h : RA w1 w1.heap.size (w1.alloc (rpO v false)) o es w2) :
    Hid ((Instr.storeAt 50 (.pointer (some ⟨w2.heap.size, 0, none⟩)) (.agg es)).run Tryz.prog (w2.alloc (.cells nd0 50)) = .ok () (w2.alloc (.cells es 50))) ∧ (w2.alloc (.cells es 50)).heap[w.heap.size]? = some (.cells nd0 50) ∧ Below w.heap.size w (w2.alloc (.cells es 50)) ∧ (w2.alloc (.cells es 50)).heap[w2.heap.size]? = some (.cells es 50) := by
  have hg := h.grow
  have hz1 : w.heap.size < w1.heap.size := by have := hb.size; simp at this; omega
  have B1 : Below w.heap.size w (w1.alloc (rpO v false)) := bel_alloc (bel_step (bel_alloc (Below.refl _ _) _) hb) _
  have B2 : Below w.heap.size w w2 := B1.grown hg B1.size (fun k e => by cases e; omega)
  have k0 : (w1.alloc (rpO v false)).heap[w.heap.size]? = some (.cells nd0 50) := (Below.heap_alloc _ _ _ hz1).trans ((hb.block _ (by simp)).trans (heap_alloc_new w _))
  have k2 : w2.heap[w.heap.size]? = some (.cells nd0 50) := h.kept k0 (by omega)
  exact ⟨run_storeAt_new w2 50 nd0 _ (by rw [hn.size]; exact inf50) (by rw [hn.size]; rfl) hn.one, (Below.heap_alloc _ _ _ (lt_of k2)).trans k2, bel_alloc B2 _, heap_alloc_new _ _⟩
set_option maxHeartbeats 8000000 in
theorem rparse_toks {A : ByteArray} {ts : List Tk.Tok} (T : Tab9 w) (hok : OkL ts) (hts : ts.length ≤ 255) (L : Calls Tryz.prog 91 #[.string A] (w.alloc (.cells nd0 50)) fun e w1 => ∃ v, e = .returned (.tuple #[v, .int .i64 0]) ∧ OwnT 138 (w.alloc (.cells nd0 50)).heap.size w1 v (ts.map tk) ∧ Below (w.alloc (.cells nd0 50)).heap.size (w.alloc (.cells nd0 50)) w1) :
    Calls Tryz.prog 56 #[.string A] w (PB w (match allF ts with
      | none => (zeroT, 10)
      | some t => (t, 0))) := by
  have L' : Calls Tryz.prog 91 #[.string A] (w.alloc (.cells nd0 50)) fun e w1 => ∃ a n c, e = .returned (.tuple #[.slice a n c, .int .i64 0]) ∧ Hid (Below (w.alloc (.cells nd0 50)).heap.size (w.alloc (.cells nd0 50)) w1) ∧ Hid (QR w1 w1.heap.size ts (w1.alloc (rpO (.slice a n c) false))) := L.mono (by
    rintro e w1 ⟨v, rfl, ho, hb⟩
    obtain ⟨a, c, rfl⟩ := ho.slice
    exact ⟨a, _, c, rfl, hb, begin_rp ((T.below (bel_alloc (Below.refl _ _) _)).below hb) ho hok⟩)
  have RB : Hid (∀ u, (Instr.build 50 #[]).run Tryz.prog u = .ok (.agg nd0) u) := build_none
  have RP : Hid (∀ u a n c, (Instr.build 120 #[(0, .slice a n c)]).run Tryz.prog u = .ok (.agg #[.slice a n c, .bool false]) u) := build_p
  cases hP : PP 1 ts with
  | none =>
    have hall : allF ts = none := by unfold allF; rw [hP]
    rw [hall]
    have C : Hid (∀ w1 v, QR w1 w1.heap.size ts (w1.alloc (rpO v false)) → Below (w.alloc (.cells nd0 50)).heap.size (w.alloc (.cells nd0 50)) w1 → Calls Tryz.prog 92 #[.pointer (some ⟨w1.heap.size, 0, none⟩), .int .i64 1] (w1.alloc (rpO v false)) fun e w2 => ∃ es, e = .returned (.agg es) ∧
        Hid ((Instr.storeAt 50 (.pointer (some ⟨w2.heap.size, 0, none⟩)) (.agg es)).run Tryz.prog (w2.alloc (.cells nd0 50)) = .ok () (w2.alloc (.cells es 50))) ∧ (w2.alloc (.cells es 50)).cell? ⟨w1.heap.size, 1, none⟩ = some (.bool true) ∧
        Hid ((Instr.storeAt 50 (.pointer (some ⟨w.heap.size, 0, none⟩)) (.agg nd0)).run Tryz.prog (w2.alloc (.cells es 50)) = .ok () ((w2.alloc (.cells es 50)).setRow w.heap.size nd0)) ∧ Hid (((w2.alloc (.cells es 50)).setRow w.heap.size nd0).heap[w.heap.size]? = some (.cells nd0 50)) ∧ Hid (Below w.heap.size w ((w2.alloc (.cells es 50)).setRow w.heap.size nd0))) := fun w1 v hq hb => (rbinary_any (by omega) hq).mono (by
      rintro e w2 ⟨es, rfl, hn, h⟩
      rw [hP] at h
      have h' : Sw w1 w1.heap.size (w1.alloc (rpO v false)) w2 := h
      obtain ⟨r1, r2, r3, r4⟩ := end_rp (ts := ts) hb hn (o := none) h
      obtain ⟨a1, a2, a3, a4⟩ := fin_res (w := w) NA.zero r2 r3
      exact ⟨es, rfl, r1, (h'.alloc (.cells es 50)).1.yes, a1, a2, a3⟩)
    clear L hok T hts hall hP
    go_enter Tryz.func56, Tryz.ntmps56
    go_wp2_with (first
      | (go_at_call 91; refine L'.mono ?_; rintro e w1 ⟨a, n, c, rfl, HB, HQ⟩)
      | (refine wpList_build_run rfl 120 _ rfl _ _ (by go_simp) (RP.out _ _ _ _) ?_)
      | (go_at_call 92; refine (C.out _ _ HQ.out HB.out).mono ?_; rintro e w2 ⟨es, rfl, RS1, hyes, RS, HG, HF⟩)
      | (refine wpList_store_run rfl 50 _ _ rfl _ _ _ rfl rfl RS1.out ?_; clear RS1)
      | (refine wpList_build_run rfl 50 _ rfl _ _ rfl (RB.out _) ?_)
      | (refine wpList_store_run rfl 50 _ _ rfl _ _ _ rfl rfl RS.out ?_; clear RS))
    exact bodyPost_ret (results_ns rfl rfl rfl HG.out rfl) rfl ⟨nd0, rfl, zero_nt _, HF.out⟩
  | some p =>
    obtain ⟨t, r⟩ := p
    have hlt := ps_lt upF trF (by omega) _ t r hP
    have hzt : zT t + r.length ≤ ts.length := ps_few upF trF (Nat.le_refl _) _ _ _ hP
    cases r with
    | cons x r =>
      have hall : allF ts = none := by unfold allF; rw [hP]
      rw [hall]
      have C : Hid (∀ w1 v, QR w1 w1.heap.size ts (w1.alloc (rpO v false)) → Below (w.alloc (.cells nd0 50)).heap.size (w.alloc (.cells nd0 50)) w1 → Calls Tryz.prog 92 #[.pointer (some ⟨w1.heap.size, 0, none⟩), .int .i64 1] (w1.alloc (rpO v false)) fun e w2 => ∃ es a n c, e = .returned (.agg es) ∧
          Hid ((Instr.storeAt 50 (.pointer (some ⟨w2.heap.size, 0, none⟩)) (.agg es)).run Tryz.prog (w2.alloc (.cells nd0 50)) = .ok () (w2.alloc (.cells es 50))) ∧ (w2.alloc (.cells es 50)).cell? ⟨w1.heap.size, 1, none⟩ = some (.bool false) ∧ (w2.alloc (.cells es 50)).cell? ⟨w1.heap.size, 0, none⟩ = some (.slice a n c) ∧ (0 : Int) < (n : Int) ∧
          Hid ((Instr.storeAt 50 (.pointer (some ⟨w.heap.size, 0, none⟩)) (.agg nd0)).run Tryz.prog (w2.alloc (.cells es 50)) = .ok () ((w2.alloc (.cells es 50)).setRow w.heap.size nd0)) ∧ Hid (((w2.alloc (.cells es 50)).setRow w.heap.size nd0).heap[w.heap.size]? = some (.cells nd0 50)) ∧ Hid (Below w.heap.size w ((w2.alloc (.cells es 50)).setRow w.heap.size nd0))) := fun w1 v hq hb => (rbinary_any (by omega) hq).mono (by
        rintro e w2 ⟨es, rfl, hn, h⟩
        rw [hP] at h
        have h' : Sq w1 w1.heap.size (x :: r) (w1.alloc (rpO v false)) w2 := h.2
        obtain ⟨r1, r2, r3, r4⟩ := end_rp (ts := ts) hb hn (o := some (t, x :: r)) h
        obtain ⟨a1, a2, a3, a4⟩ := fin_res (w := w) NA.zero r2 r3
        obtain ⟨u, hu, hs⟩ := (h'.alloc (.cells es 50)).1.blk
        obtain ⟨a, c, rfl⟩ := hs.slice
        exact ⟨es, a, _, c, rfl, r1, (rp_facts hu).2.1, (rp_facts hu).1, by simp, a1, a2, a3⟩)
      clear L hok T hts hall hP
      go_enter Tryz.func56, Tryz.ntmps56
      go_wp2_with (first
        | (go_at_call 91; refine L'.mono ?_; rintro e w1 ⟨a, n, c, rfl, HB, HQ⟩)
        | (refine wpList_build_run rfl 120 _ rfl _ _ (by go_simp) (RP.out _ _ _ _) ?_)
        | (go_at_call 92; refine (C.out _ _ HQ.out HB.out).mono ?_; rintro e w2 ⟨es, a2, n2, c2, rfl, RS1, hno, hsl, hpos, RS, HG, HF⟩)
        | (refine wpList_store_run rfl 50 _ _ rfl _ _ _ rfl rfl RS1.out ?_; clear RS1)
        | (refine wpList_build_run rfl 50 _ rfl _ _ rfl (RB.out _) ?_)
        | (refine wpList_store_run rfl 50 _ _ rfl _ _ _ rfl rfl RS.out ?_; clear RS))
      exact bodyPost_ret (results_ns rfl rfl rfl HG.out rfl) rfl ⟨nd0, rfl, zero_nt _, HF.out⟩
    | nil =>
      have C : Hid (∀ w1 v, QR w1 w1.heap.size ts (w1.alloc (rpO v false)) → Below (w.alloc (.cells nd0 50)).heap.size (w.alloc (.cells nd0 50)) w1 → Calls Tryz.prog 92 #[.pointer (some ⟨w1.heap.size, 0, none⟩), .int .i64 1] (w1.alloc (rpO v false)) fun e w2 => ∃ es a c, e = .returned (.agg es) ∧
          Hid ((Instr.storeAt 50 (.pointer (some ⟨w2.heap.size, 0, none⟩)) (.agg es)).run Tryz.prog (w2.alloc (.cells nd0 50)) = .ok () (w2.alloc (.cells es 50))) ∧ (w2.alloc (.cells es 50)).cell? ⟨w1.heap.size, 1, none⟩ = some (.bool false) ∧ (w2.alloc (.cells es 50)).cell? ⟨w1.heap.size, 0, none⟩ = some (.slice a 0 c) ∧
          Hid ((Instr.loadAt 50 (.pointer (some ⟨w2.heap.size, 0, none⟩))).run Tryz.prog (w2.alloc (.cells es 50)) = .ok (.agg es) (w2.alloc (.cells es 50))) ∧
          Hid (Calls Tryz.prog 33 #[.agg es] (w2.alloc (.cells es 50)) fun e w4 => e = .returned (.int .i64 (dT t : Nat)) ∧ Hid ((Instr.storeAt 50 (.pointer (some ⟨w.heap.size, 0, none⟩)) (.agg nd0)).run Tryz.prog w4 = .ok () (w4.setRow w.heap.size nd0)) ∧ Hid ((w4.setRow w.heap.size nd0).heap[w.heap.size]? = some (.cells nd0 50)) ∧ Hid (Below w.heap.size w (w4.setRow w.heap.size nd0)) ∧
            Hid ((Instr.loadAt 50 (.pointer (some ⟨w2.heap.size, 0, none⟩))).run Tryz.prog w4 = .ok (.agg es) w4) ∧ Hid ((Instr.storeAt 50 (.pointer (some ⟨w.heap.size, 0, none⟩)) (.agg es)).run Tryz.prog w4 = .ok () (w4.setRow w.heap.size es)) ∧ Hid ((w4.setRow w.heap.size es).heap[w.heap.size]? = some (.cells es 50)) ∧ Hid (Below w.heap.size w (w4.setRow w.heap.size es)) ∧ Hid (es.size = 18) ∧ Hid (NT (w4.setRow w.heap.size es) es t))) := fun w1 v hq hb => (rbinary_any (by omega) hq).mono (by
        rintro e w2 ⟨es, rfl, hn, h⟩
        rw [hP] at h
        have h' : Sq w1 w1.heap.size [] (w1.alloc (rpO v false)) w2 := h.2
        have hN : NK (fun i => (w1.alloc (rpO v false)).heap.size ≤ i) w2 es t := h.1
        obtain ⟨r1, r2, r3, r4⟩ := end_rp (ts := ts) hb hn (o := some (t, [])) h
        obtain ⟨u, hu, hs⟩ := (h'.alloc (.cells es 50)).1.blk
        obtain ⟨a, c, rfl⟩ := hs.slice
        have hN3 := hN.below (bel_alloc (Below.refl _ _) (.cells es 50))
        have hz1 : w.heap.size < w1.heap.size := by have := hb.size; simp at this; omega
        refine ⟨es, a, c, rfl, r1, (rp_facts hu).2.1, (rp_facts hu).1, hn.lod r4, (rdepth_any t (by omega) _ es hN3.nt).mono ?_⟩
        rintro e w4 ⟨rfl, h4⟩
        have k2 := (h4.block _ (lt_of r2)).trans r2
        have k4 := (h4.block _ (lt_of r4)).trans r4
        have B4 := bel_step r3 h4
        obtain ⟨a1, a2, a3, a4⟩ := fin_res (w := w) NA.zero k2 B4
        obtain ⟨b1, b2, b3, b4⟩ := fin_res (w := w) hn k2 B4
        refine ⟨rfl, a1, a2, a3, hn.lod k4, b1, b2, b3, b4, ((hN3.below h4).grown (setRow_grown _ _ _) (fun g e hk => ?_)).nt⟩
        cases e
        have hk' : (w1.alloc (rpO v false)).heap.size ≤ w.heap.size := hk
        simp at hk'
        omega)
      by_cases hd : dT t ≤ 24
      · have hall : allF ts = some t := by unfold allF; rw [hP]; simp only; rw [if_pos hd]
        rw [hall]
        have hdi : ¬ (24 : Int) < ((dT t : Nat) : Int) := by omega
        clear L hok T hts hall hP hd
        generalize ((dT t : Nat) : Int) = dd at *
        go_enter Tryz.func56, Tryz.ntmps56
        go_wp2_with (first
          | (go_at_call 91; refine L'.mono ?_; rintro e w1 ⟨a, n, c, rfl, HB, HQ⟩)
          | (refine wpList_build_run rfl 120 _ rfl _ _ (by go_simp) (RP.out _ _ _ _) ?_)
          | (go_at_call 92; refine (C.out _ _ HQ.out HB.out).mono ?_; rintro e w2 ⟨es, a2, c2, rfl, RS1, hno, hsl, RL3, CD⟩)
          | (refine wpList_store_run rfl 50 _ _ rfl _ _ _ rfl rfl RS1.out ?_; clear RS1)
          | (refine wpList_load_g 50 _ rfl _ _ rfl RL3.out (by go_simp) ?_; clear RL3)
          | (go_at_call 33; refine CD.out.mono ?_; rintro e w4 ⟨rfl, RSz, HGz, HFz, RL4, RS, HG, HF, HZ, HNT⟩)
          | (refine wpList_load_run rfl 50 _ rfl _ _ rfl RL4.out ?_; clear RL4)
          | (refine wpList_store_run rfl 50 _ _ rfl _ _ _ rfl rfl RS.out ?_; clear RS))
        exact bodyPost_ret (results_ns rfl rfl rfl HG.out HZ.out) rfl ⟨_, rfl, HNT.out, HF.out⟩
      · have hall : allF ts = none := by unfold allF; rw [hP]; simp only; rw [if_neg hd]
        rw [hall]
        have hdi : (24 : Int) < ((dT t : Nat) : Int) := by omega
        clear L hok T hts hall hP hd
        generalize ((dT t : Nat) : Int) = dd at *
        go_enter Tryz.func56, Tryz.ntmps56
        go_wp2_with (first
          | (go_at_call 91; refine L'.mono ?_; rintro e w1 ⟨a, n, c, rfl, HB, HQ⟩)
          | (refine wpList_build_run rfl 120 _ rfl _ _ (by go_simp) (RP.out _ _ _ _) ?_)
          | (go_at_call 92; refine (C.out _ _ HQ.out HB.out).mono ?_; rintro e w2 ⟨es, a2, c2, rfl, RS1, hno, hsl, RL3, CD⟩)
          | (refine wpList_store_run rfl 50 _ _ rfl _ _ _ rfl rfl RS1.out ?_; clear RS1)
          | (refine wpList_load_g 50 _ rfl _ _ rfl RL3.out (by go_simp) ?_; clear RL3)
          | (go_at_call 33; refine CD.out.mono ?_; rintro e w4 ⟨rfl, RS, HG, HF, RL4, RSe, HGe, HFe, HZ, HNT⟩)
          | (refine wpList_build_run rfl 50 _ rfl _ _ rfl (RB.out _) ?_)
          | (refine wpList_store_run rfl 50 _ _ rfl _ _ _ rfl rfl RS.out ?_; clear RS))
        exact bodyPost_ret (results_ns rfl rfl rfl HG.out rfl) rfl ⟨nd0, rfl, zero_nt _, HF.out⟩
end
theorem fparse_ref (l : List UInt8) (w : World) (T : Tab9 w) : Calls Tryz.prog 56 #[.string (ba l)] w (PB w (parF l)) := by
  have R := rlex_any l (w.alloc (.cells nd0 50))
  unfold parF
  by_cases h : 255 < l.length
  · rw [if_pos h]
    unfold LexB at R
    simp only [if_pos h] at R
    exact rparse_err (by decide) (R.mono (by rintro e w1 ⟨rfl, rfl⟩; exact ⟨rfl, Below.refl _ _⟩))
  · rw [if_neg h]
    unfold LexB at R
    simp only [if_neg h] at R
    cases hx : lexF l with
    | none =>
      rw [hx] at R
      exact rparse_err (by decide) (R.mono (by rintro e w1 ⟨h1, rfl⟩; exact ⟨rfl, h1⟩))
    | some ts =>
      rw [hx] at R
      have hts : ts.length ≤ 255 := lex_le hx (by omega)
      exact rparse_toks T (fun x hxm => ⟨lex_ok hx x hxm, lex_sm (by omega) hx x hxm⟩) hts (R.mono (by
        rintro e w1 ⟨h1, v, rfl, h2, h3⟩
        exact ⟨v, rfl, h2, h1⟩))
end Go.Proofs.YtlndkjcincflpaaGreatDoor

namespace Go.Proofs.YtlndkjcincflpaaGreatDoor
open Go.RowKit Go.Nm Go.Fm
set_option maxRecDepth 100000
set_option maxHeartbeats 8000000 in
theorem rmay_any (x : NM) (hz : ZN x) (w : World) (T : Tab9 w) : Calls Tryz.prog 39 #[nmV x] w fun e w' => e = .returned (.int .i64 (wrN x)) ∧ Below w.heap.size w w' := by
  obtain ⟨s, n, t⟩ := x
  obtain ⟨hzs, hzn⟩ := hz
  have HB0 : Below w.heap.size w (w.alloc (nmO ⟨s, n, t⟩)) := bel_alloc (Below.refl _ _) _
  have hcc := n_cells (heap_alloc_new w (nmO ⟨s, n, t⟩))
  have HX : Hid ((w.alloc (nmO ⟨s, n, t⟩)).heap[w.heap.size]? = some (nmO ⟨s, n, t⟩)) := heap_alloc_new w _
  have hsz : t.size = t.data.toList.length := by rw [Array.length_toList]; rfl
  have ht : t = ba t.data.toList := by cases t; show _ = ByteArray.mk _; rw [Array.toArray_toList]
  have HT : Hid (Tab9 w) := T
  have G1 := rgoodname_any n hzn (w.alloc (nmO ⟨s, n, t⟩))
  have G2 : ∀ u, Below w.heap.size w u → Calls Tryz.prog 55 #[.string s] u fun e w' => e = .returned (.bool (gnF s.data.toList)) ∧ Below u.heap.size u w' := fun u hu => rgoodname_any s hzs u
  have PR : ∀ u, Below w.heap.size w u → Calls Tryz.prog 56 #[.string t] u fun e w' => ∃ es, e = .returned (.tuple #[.agg es, .int .i64 (parF t.data.toList).2]) ∧ Hid ((Instr.storeAt 50 (.pointer (some ⟨w'.heap.size, 0, none⟩)) (.agg es)).run Tryz.prog (w'.alloc (.cells nd0 50)) = .ok () (w'.alloc (.cells es 50))) ∧ Hid (Below w.heap.size w (w'.alloc (.cells es 50))) := fun u hu => by
    have := fparse_ref t.data.toList u (T.below hu)
    rw [← ht] at this
    refine this.mono ?_
    rintro e w1 ⟨es, rfl, hN, hb⟩
    exact ⟨es, rfl, (nbox w1 hN).1, bel_alloc (bel_step hu hb) _⟩
  have HG2 : Hid _ := G2
  have HPR : Hid _ := PR
  have HBh : Hid _ := HB0
  have hE := par_err (l := t.data.toList)
  rw [← hsz] at hE
  unfold wrN nmB
  simp only
  generalize (parF t.data.toList).2 = pe at *
  generalize gnF n.data.toList = gn at *
  generalize gnF s.data.toList = gs at *
  clear G2 PR HB0 T ht hsz hzs hzn HT
  generalize hts : t.size = ts at *
  by_cases hlong : 255 < ts
  · rw [if_pos hlong]
    have hli : (255 : Int) < ts := by omega
    clear hE
    go_enter Tryz.func39, Tryz.ntmps39
    go_wp2
    go_ret
    exact ⟨rfl, HBh.out⟩
  · rw [if_neg hlong]
    have hli : ¬ (255 : Int) < ts := by omega
    have hE := hE hlong
    cases gn with
    | false =>
      rw [Bool.false_and, if_pos rfl]
      go_enter Tryz.func39, Tryz.ntmps39
      go_wp2_with (go_at_call 55; refine G1.mono ?_; rintro e w1 ⟨rfl, hb⟩; have HB1 : Hid _ := bel_step HBh.out hb; clear hb)
      go_ret
      exact ⟨rfl, HB1.out⟩
    | true =>
      by_cases hs0 : s.toList = []
      · have hsb : (s.toList == []) = true := by simpa using hs0
        clear hs0
        rw [hsb, Bool.true_and, Bool.true_or, if_neg (by decide)]
        rcases hE with rfl | rfl
        · rw [if_neg (by decide)]
          go_enter Tryz.func39, Tryz.ntmps39
          go_wp2_with (first
            | (go_at_call 55; refine G1.mono ?_; rintro e w1 ⟨rfl, hb⟩; have HB1 : Hid _ := bel_step HBh.out hb; have hc1 := n_cells ((hb.block _ (lt_of HX.out)).trans HX.out); clear hb)
            | (go_at_call 56; refine (HPR.out _ HB1.out).mono ?_; rintro e w2 ⟨es, rfl, RS, HB2⟩)
            | (refine nl_store rfl 50 _ _ rfl _ _ _ rfl rfl RS.out ?_; clear RS))
          go_ret
          exact ⟨rfl, HB2.out⟩
        · rw [if_pos (by decide)]
          go_enter Tryz.func39, Tryz.ntmps39
          go_wp2_with (first
            | (go_at_call 55; refine G1.mono ?_; rintro e w1 ⟨rfl, hb⟩; have HB1 : Hid _ := bel_step HBh.out hb; have hc1 := n_cells ((hb.block _ (lt_of HX.out)).trans HX.out); clear hb)
            | (go_at_call 56; refine (HPR.out _ HB1.out).mono ?_; rintro e w2 ⟨es, rfl, RS, HB2⟩)
            | (refine nl_store rfl 50 _ _ rfl _ _ _ rfl rfl RS.out ?_; clear RS))
          go_ret
          exact ⟨rfl, HB2.out⟩
      · have hsb := beq_l hs0
        clear hs0
        cases gs with
        | false =>
          rw [hsb, Bool.true_and, Bool.false_or, if_pos rfl]
          go_enter Tryz.func39, Tryz.ntmps39
          go_wp2_with (first
            | (go_at_call_of 55 n; refine G1.mono ?_; rintro e w1 ⟨rfl, hb⟩; have HB1 : Hid _ := bel_step HBh.out hb; have hc1 := n_cells ((hb.block _ (lt_of HX.out)).trans HX.out); clear hb)
            | (go_at_call_of 55 s; refine (HG2.out _ HB1.out).mono ?_; rintro e w2 ⟨rfl, hb⟩; have HB2 : Hid _ := bel_step HB1.out hb; clear hb))
          go_ret
          exact ⟨rfl, HB2.out⟩
        | true =>
          rw [hsb, Bool.true_and, Bool.false_or, if_neg (by decide)]
          rcases hE with rfl | rfl
          · rw [if_neg (by decide)]
            go_enter Tryz.func39, Tryz.ntmps39
            go_wp2_with (first
              | (go_at_call_of 55 n; refine G1.mono ?_; rintro e w1 ⟨rfl, hb⟩; have HB1 : Hid _ := bel_step HBh.out hb; have hx1 : Hid _ := (hb.block _ (lt_of HX.out)).trans HX.out; have hc1 := n_cells hx1.out; clear hb)
              | (go_at_call_of 55 s; refine (HG2.out _ HB1.out).mono ?_; rintro e w2 ⟨rfl, hb⟩; have HB2 : Hid _ := bel_step HB1.out hb; have hc2 := n_cells ((hb.block _ (lt_of hx1.out)).trans hx1.out); clear hb)
              | (go_at_call 56; refine (HPR.out _ HB2.out).mono ?_; rintro e w3 ⟨es, rfl, RS, HB3⟩)
              | (refine nl_store rfl 50 _ _ rfl _ _ _ rfl rfl RS.out ?_; clear RS))
            go_ret
            exact ⟨rfl, HB3.out⟩
          · rw [if_pos (by decide)]
            go_enter Tryz.func39, Tryz.ntmps39
            go_wp2_with (first
              | (go_at_call_of 55 n; refine G1.mono ?_; rintro e w1 ⟨rfl, hb⟩; have HB1 : Hid _ := bel_step HBh.out hb; have hx1 : Hid _ := (hb.block _ (lt_of HX.out)).trans HX.out; have hc1 := n_cells hx1.out; clear hb)
              | (go_at_call_of 55 s; refine (HG2.out _ HB1.out).mono ?_; rintro e w2 ⟨rfl, hb⟩; have HB2 : Hid _ := bel_step HB1.out hb; have hc2 := n_cells ((hb.block _ (lt_of hx1.out)).trans hx1.out); clear hb)
              | (go_at_call 56; refine (HPR.out _ HB2.out).mono ?_; rintro e w3 ⟨es, rfl, RS, HB3⟩)
              | (refine nl_store rfl 50 _ _ rfl _ _ _ rfl rfl RS.out ?_; clear RS))
            go_ret
            exact ⟨rfl, HB3.out⟩
end Go.Proofs.YtlndkjcincflpaaGreatDoor
