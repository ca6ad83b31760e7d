/- RParse, AEq, FAlike. -/
import Derived.Test.YtljfkkpkcjigpaaGreatDoorRDepthq
import Derived.Test.YtljfkkpkcjigpaaGreatDoorFPure2q
import Derived.Test.YtljfkkpkcjigpaaGreatDoorFParseq
import Derived.Test.YtljfkkpkcjigpaaGreatDoorNStrq
import Derived.Test.YtljfkkpkcjigpaaGreatDoorPTokenq
set_option linter.unusedVariables false
set_option linter.unusedSimpArgs false
namespace Go.Proofs.YtljfkkpkcjigpaaGreatDoor
open Go.RowKit Go.Fm
set_option maxRecDepth 100000
theorem results_ns {fn : Func} {p u : Tmp} (h : fn.results = #[.cell p 28, .tmp u]) {tmps : Array Value} {w : World} {g : Nat} {es : Array Value} {x : Value}
    (hp : tmps.getD p undef = .pointer (some ⟨g, 0, none⟩)) (hu : tmps.getD u undef = x) (h2 : w.heap[g]? = some (.cells es 28)) (he : es.size = 18) :
    (results fn tmps).run Tryz.prog w = .ok (.tuple #[.agg es, x]) w := by
  have hp' : tmps[p]?.getD undef = .pointer (some ⟨g, 0, none⟩) := by simpa using hp
  have hu' : tmps[u]?.getD undef = x := by simpa using hu
  have r2 := run_loadVar_row (P := Tryz.prog) w g 28 28 es (0, 0) _ h2 Tryz.underlying28 rfl (by rw [he]; exact inf28)
  simp [results, h, hp', hu', asAddr, r2]
def PB (w : World) (p : T × Int) (e : Ending) (w' : World) : Prop := ∃ es, e = .returned (.tuple #[.agg es, .int .i64 p.2]) ∧ NT w' es p.1 ∧ Below w.heap.size w w'
theorem fin_res {w u : World} {es : Array Value} (hn : NA es) (h : u.heap[w.heap.size]? = some (.cells nd0 28)) (hb : Below w.heap.size w u) : Hid ((Instr.storeAt 28 (.pointer (some ⟨w.heap.size, 0, none⟩)) (.agg es)).run Tryz.prog u = .ok () (u.setRow w.heap.size es)) ∧ Hid ((u.setRow w.heap.size es).heap[w.heap.size]? = some (.cells es 28)) ∧ Hid (Below w.heap.size w (u.setRow w.heap.size es)) ∧ Hid (es.size = 18) :=
  ⟨hn.sto h rfl, setRow_heap _ _ _ _ _ _ h, hb.grown (setRow_grown _ _ _) hb.size (fun j e => by cases e; exact Nat.le_refl _), hn.size⟩
section
variable {w : World} {l : List UInt8}
set_option maxHeartbeats 2000000 in
theorem rparse_err {A : ByteArray} {c : Int} (hc : (c != 0) = true) (L : Calls Tryz.prog 26 #[.string A] (w.alloc (.cells nd0 28)) fun e w1 => e = .returned (.tuple #[.slice none 0 0, .int .i64 c]) ∧ Below (w.alloc (.cells nd0 28)).heap.size (w.alloc (.cells nd0 28)) w1) :
    Calls Tryz.prog 9 #[.string A] w (PB w (zeroT, c)) := by
  have L' : Calls Tryz.prog 26 #[.string A] (w.alloc (.cells nd0 28)) fun e w1 => e = .returned (.tuple #[.slice none 0 0, .int .i64 c]) ∧ Hid ((Instr.storeAt 28 (.pointer (some ⟨w.heap.size, 0, none⟩)) (.agg nd0)).run Tryz.prog w1 = .ok () (w1.setRow w.heap.size nd0)) ∧ Hid ((w1.setRow w.heap.size nd0).heap[w.heap.size]? = some (.cells nd0 28)) ∧ Hid (Below w.heap.size w (w1.setRow w.heap.size nd0)) := L.mono (by
    rintro e w1 ⟨rfl, h⟩
    obtain ⟨a1, a2, a3, a4⟩ := fin_res (w := w) NA.zero ((h.block _ (by simp)).trans (heap_alloc_new w _)) (bel_step (bel_alloc (Below.refl _ _) _) h)
    exact ⟨rfl, a1, a2, a3⟩)
  have RB : Hid (∀ u, (Instr.build 28 #[]).run Tryz.prog u = .ok (.agg nd0) u) := build_none
  clear L
  go_enter Tryz.func9, Tryz.ntmps9
  go_wp2_with (first
    | (go_at_call 26; refine L'.mono ?_; rintro e w1 ⟨rfl, RS, HG, HF⟩)
    | (refine wpList_build_run rfl 28 _ rfl _ _ rfl (RB.out _) ?_)
    | (refine wpList_store_run rfl 28 _ _ rfl _ _ _ rfl rfl RS.out ?_; clear RS))
  exact bodyPost_ret (results_ns rfl rfl rfl HG.out rfl) rfl ⟨nd0, rfl, zero_nt _, HF.out⟩
theorem begin_rp {w w1 : World} {v : Value} {ts : List Tk.Tok} (T : Tab9 w1) (ho : OwnT 75 (w.alloc (.cells nd0 28)).heap.size w1 v (ts.map tk)) (hok : OkL ts) : QR w1 w1.heap.size ts (w1.alloc (rpO v false)) :=
  ⟨T, bel_alloc (Below.refl _ _) _, Nat.le_refl _, hok, v, heap_alloc_new _ _, TS.of ho⟩
theorem build_p (u : World) (a : Option Addr) (n c : Nat) : (Instr.build 57 #[(0, .slice a n c)]).run Tryz.prog u = .ok (.agg #[.slice a n c, .bool false]) u := by kernel_rfl
theorem end_rp {w w1 w2 : World} {v : Value} {ts : List Tk.Tok} {o : Option (T × List Tk.Tok)} {es : Array Value} (hb : Below (w.alloc (.cells nd0 28)).heap.size (w.alloc (.cells nd0 28)) w1) (hn : NA es) (h : RA w1 w1.heap.size (w1.alloc (rpO v false)) o es w2) :
    Hid ((Instr.storeAt 28 (.pointer (some ⟨w2.heap.size, 0, none⟩)) (.agg es)).run Tryz.prog (w2.alloc (.cells nd0 28)) = .ok () (w2.alloc (.cells es 28))) ∧ (w2.alloc (.cells es 28)).heap[w.heap.size]? = some (.cells nd0 28) ∧ Below w.heap.size w (w2.alloc (.cells es 28)) ∧ (w2.alloc (.cells es 28)).heap[w2.heap.size]? = some (.cells es 28) := by
  have hg := h.grow
  have hz1 : w.heap.size < w1.heap.size := by have := hb.size; simp at this; omega
  have B1 : Below w.heap.size w (w1.alloc (rpO v false)) := bel_alloc (bel_step (bel_alloc (Below.refl _ _) _) hb) _
  have B2 : Below w.heap.size w w2 := B1.grown hg B1.size (fun k e => by cases e; omega)
  have k0 : (w1.alloc (rpO v false)).heap[w.heap.size]? = some (.cells nd0 28) := (Below.heap_alloc _ _ _ hz1).trans ((hb.block _ (by simp)).trans (heap_alloc_new w _))
  have k2 : w2.heap[w.heap.size]? = some (.cells nd0 28) := h.kept k0 (by omega)
  exact ⟨run_storeAt_new w2 28 nd0 _ (by rw [hn.size]; exact inf28) (by rw [hn.size]; rfl) hn.one, (Below.heap_alloc _ _ _ (lt_of k2)).trans k2, bel_alloc B2 _, heap_alloc_new _ _⟩
set_option maxHeartbeats 8000000 in
theorem rparse_toks {A : ByteArray} {ts : List Tk.Tok} (T : Tab9 w) (hok : OkL ts) (hts : ts.length ≤ 255) (L : Calls Tryz.prog 26 #[.string A] (w.alloc (.cells nd0 28)) fun e w1 => ∃ v, e = .returned (.tuple #[v, .int .i64 0]) ∧ OwnT 75 (w.alloc (.cells nd0 28)).heap.size w1 v (ts.map tk) ∧ Below (w.alloc (.cells nd0 28)).heap.size (w.alloc (.cells nd0 28)) w1) :
    Calls Tryz.prog 9 #[.string A] w (PB w (match allF ts with
      | none => (zeroT, 10)
      | some t => (t, 0))) := by
  have L' : Calls Tryz.prog 26 #[.string A] (w.alloc (.cells nd0 28)) fun e w1 => ∃ a n c, e = .returned (.tuple #[.slice a n c, .int .i64 0]) ∧ Hid (Below (w.alloc (.cells nd0 28)).heap.size (w.alloc (.cells nd0 28)) w1) ∧ Hid (QR w1 w1.heap.size ts (w1.alloc (rpO (.slice a n c) false))) := L.mono (by
    rintro e w1 ⟨v, rfl, ho, hb⟩
    obtain ⟨a, c, rfl⟩ := ho.slice
    exact ⟨a, _, c, rfl, hb, begin_rp ((T.below (bel_alloc (Below.refl _ _) _)).below hb) ho hok⟩)
  have RB : Hid (∀ u, (Instr.build 28 #[]).run Tryz.prog u = .ok (.agg nd0) u) := build_none
  have RP : Hid (∀ u a n c, (Instr.build 57 #[(0, .slice a n c)]).run Tryz.prog u = .ok (.agg #[.slice a n c, .bool false]) u) := build_p
  cases hP : PP 1 ts with
  | none =>
    have hall : allF ts = none := by unfold allF; rw [hP]
    rw [hall]
    have C : Hid (∀ w1 v, QR w1 w1.heap.size ts (w1.alloc (rpO v false)) → Below (w.alloc (.cells nd0 28)).heap.size (w.alloc (.cells nd0 28)) w1 → Calls Tryz.prog 27 #[.pointer (some ⟨w1.heap.size, 0, none⟩), .int .i64 1] (w1.alloc (rpO v false)) fun e w2 => ∃ es, e = .returned (.agg es) ∧
        Hid ((Instr.storeAt 28 (.pointer (some ⟨w2.heap.size, 0, none⟩)) (.agg es)).run Tryz.prog (w2.alloc (.cells nd0 28)) = .ok () (w2.alloc (.cells es 28))) ∧ (w2.alloc (.cells es 28)).cell? ⟨w1.heap.size, 1, none⟩ = some (.bool true) ∧
        Hid ((Instr.storeAt 28 (.pointer (some ⟨w.heap.size, 0, none⟩)) (.agg nd0)).run Tryz.prog (w2.alloc (.cells es 28)) = .ok () ((w2.alloc (.cells es 28)).setRow w.heap.size nd0)) ∧ Hid (((w2.alloc (.cells es 28)).setRow w.heap.size nd0).heap[w.heap.size]? = some (.cells nd0 28)) ∧ Hid (Below w.heap.size w ((w2.alloc (.cells es 28)).setRow w.heap.size nd0))) := fun w1 v hq hb => (rbinary_any (by omega) hq).mono (by
      rintro e w2 ⟨es, rfl, hn, h⟩
      rw [hP] at h
      have h' : Sw w1 w1.heap.size (w1.alloc (rpO v false)) w2 := h
      obtain ⟨r1, r2, r3, r4⟩ := end_rp (ts := ts) hb hn (o := none) h
      obtain ⟨a1, a2, a3, a4⟩ := fin_res (w := w) NA.zero r2 r3
      exact ⟨es, rfl, r1, (h'.alloc (.cells es 28)).1.yes, a1, a2, a3⟩)
    clear L hok T hts hall hP
    go_enter Tryz.func9, Tryz.ntmps9
    go_wp2_with (first
      | (go_at_call 26; refine L'.mono ?_; rintro e w1 ⟨a, n, c, rfl, HB, HQ⟩)
      | (refine wpList_build_run rfl 57 _ rfl _ _ (by go_simp) (RP.out _ _ _ _) ?_)
      | (go_at_call 27; refine (C.out _ _ HQ.out HB.out).mono ?_; rintro e w2 ⟨es, rfl, RS1, hyes, RS, HG, HF⟩)
      | (refine wpList_store_run rfl 28 _ _ rfl _ _ _ rfl rfl RS1.out ?_; clear RS1)
      | (refine wpList_build_run rfl 28 _ rfl _ _ rfl (RB.out _) ?_)
      | (refine wpList_store_run rfl 28 _ _ rfl _ _ _ rfl rfl RS.out ?_; clear RS))
    exact bodyPost_ret (results_ns rfl rfl rfl HG.out rfl) rfl ⟨nd0, rfl, zero_nt _, HF.out⟩
  | some p =>
    obtain ⟨t, r⟩ := p
    have hlt := ps_lt upF trF (by omega) _ t r hP
    have hzt : zT t + r.length ≤ ts.length := ps_few upF trF (Nat.le_refl _) _ _ _ hP
    cases r with
    | cons x r =>
      have hall : allF ts = none := by unfold allF; rw [hP]
      rw [hall]
      have C : Hid (∀ w1 v, QR w1 w1.heap.size ts (w1.alloc (rpO v false)) → Below (w.alloc (.cells nd0 28)).heap.size (w.alloc (.cells nd0 28)) w1 → Calls Tryz.prog 27 #[.pointer (some ⟨w1.heap.size, 0, none⟩), .int .i64 1] (w1.alloc (rpO v false)) fun e w2 => ∃ es a n c, e = .returned (.agg es) ∧
          Hid ((Instr.storeAt 28 (.pointer (some ⟨w2.heap.size, 0, none⟩)) (.agg es)).run Tryz.prog (w2.alloc (.cells nd0 28)) = .ok () (w2.alloc (.cells es 28))) ∧ (w2.alloc (.cells es 28)).cell? ⟨w1.heap.size, 1, none⟩ = some (.bool false) ∧ (w2.alloc (.cells es 28)).cell? ⟨w1.heap.size, 0, none⟩ = some (.slice a n c) ∧ (0 : Int) < (n : Int) ∧
          Hid ((Instr.storeAt 28 (.pointer (some ⟨w.heap.size, 0, none⟩)) (.agg nd0)).run Tryz.prog (w2.alloc (.cells es 28)) = .ok () ((w2.alloc (.cells es 28)).setRow w.heap.size nd0)) ∧ Hid (((w2.alloc (.cells es 28)).setRow w.heap.size nd0).heap[w.heap.size]? = some (.cells nd0 28)) ∧ Hid (Below w.heap.size w ((w2.alloc (.cells es 28)).setRow w.heap.size nd0))) := fun w1 v hq hb => (rbinary_any (by omega) hq).mono (by
        rintro e w2 ⟨es, rfl, hn, h⟩
        rw [hP] at h
        have h' : Sq w1 w1.heap.size (x :: r) (w1.alloc (rpO v false)) w2 := h.2
        obtain ⟨r1, r2, r3, r4⟩ := end_rp (ts := ts) hb hn (o := some (t, x :: r)) h
        obtain ⟨a1, a2, a3, a4⟩ := fin_res (w := w) NA.zero r2 r3
        obtain ⟨u, hu, hs⟩ := (h'.alloc (.cells es 28)).1.blk
        obtain ⟨a, c, rfl⟩ := hs.slice
        exact ⟨es, a, _, c, rfl, r1, (rp_facts hu).2.1, (rp_facts hu).1, by simp, a1, a2, a3⟩)
      clear L hok T hts hall hP
      go_enter Tryz.func9, Tryz.ntmps9
      go_wp2_with (first
        | (go_at_call 26; refine L'.mono ?_; rintro e w1 ⟨a, n, c, rfl, HB, HQ⟩)
        | (refine wpList_build_run rfl 57 _ rfl _ _ (by go_simp) (RP.out _ _ _ _) ?_)
        | (go_at_call 27; refine (C.out _ _ HQ.out HB.out).mono ?_; rintro e w2 ⟨es, a2, n2, c2, rfl, RS1, hno, hsl, hpos, RS, HG, HF⟩)
        | (refine wpList_store_run rfl 28 _ _ rfl _ _ _ rfl rfl RS1.out ?_; clear RS1)
        | (refine wpList_build_run rfl 28 _ rfl _ _ rfl (RB.out _) ?_)
        | (refine wpList_store_run rfl 28 _ _ rfl _ _ _ rfl rfl RS.out ?_; clear RS))
      exact bodyPost_ret (results_ns rfl rfl rfl HG.out rfl) rfl ⟨nd0, rfl, zero_nt _, HF.out⟩
    | nil =>
      have C : Hid (∀ w1 v, QR w1 w1.heap.size ts (w1.alloc (rpO v false)) → Below (w.alloc (.cells nd0 28)).heap.size (w.alloc (.cells nd0 28)) w1 → Calls Tryz.prog 27 #[.pointer (some ⟨w1.heap.size, 0, none⟩), .int .i64 1] (w1.alloc (rpO v false)) fun e w2 => ∃ es a c, e = .returned (.agg es) ∧
          Hid ((Instr.storeAt 28 (.pointer (some ⟨w2.heap.size, 0, none⟩)) (.agg es)).run Tryz.prog (w2.alloc (.cells nd0 28)) = .ok () (w2.alloc (.cells es 28))) ∧ (w2.alloc (.cells es 28)).cell? ⟨w1.heap.size, 1, none⟩ = some (.bool false) ∧ (w2.alloc (.cells es 28)).cell? ⟨w1.heap.size, 0, none⟩ = some (.slice a 0 c) ∧
          Hid ((Instr.loadAt 28 (.pointer (some ⟨w2.heap.size, 0, none⟩))).run Tryz.prog (w2.alloc (.cells es 28)) = .ok (.agg es) (w2.alloc (.cells es 28))) ∧
          Hid (Calls Tryz.prog 21 #[.agg es] (w2.alloc (.cells es 28)) fun e w4 => e = .returned (.int .i64 (dT t : Nat)) ∧ Hid ((Instr.storeAt 28 (.pointer (some ⟨w.heap.size, 0, none⟩)) (.agg nd0)).run Tryz.prog w4 = .ok () (w4.setRow w.heap.size nd0)) ∧ Hid ((w4.setRow w.heap.size nd0).heap[w.heap.size]? = some (.cells nd0 28)) ∧ Hid (Below w.heap.size w (w4.setRow w.heap.size nd0)) ∧
            Hid ((Instr.loadAt 28 (.pointer (some ⟨w2.heap.size, 0, none⟩))).run Tryz.prog w4 = .ok (.agg es) w4) ∧ Hid ((Instr.storeAt 28 (.pointer (some ⟨w.heap.size, 0, none⟩)) (.agg es)).run Tryz.prog w4 = .ok () (w4.setRow w.heap.size es)) ∧ Hid ((w4.setRow w.heap.size es).heap[w.heap.size]? = some (.cells es 28)) ∧ Hid (Below w.heap.size w (w4.setRow w.heap.size es)) ∧ Hid (es.size = 18) ∧ Hid (NT (w4.setRow w.heap.size es) es t))) := fun w1 v hq hb => (rbinary_any (by omega) hq).mono (by
        rintro e w2 ⟨es, rfl, hn, h⟩
        rw [hP] at h
        have h' : Sq w1 w1.heap.size [] (w1.alloc (rpO v false)) w2 := h.2
        have hN : NK (fun i => (w1.alloc (rpO v false)).heap.size ≤ i) w2 es t := h.1
        obtain ⟨r1, r2, r3, r4⟩ := end_rp (ts := ts) hb hn (o := some (t, [])) h
        obtain ⟨u, hu, hs⟩ := (h'.alloc (.cells es 28)).1.blk
        obtain ⟨a, c, rfl⟩ := hs.slice
        have hN3 := hN.below (bel_alloc (Below.refl _ _) (.cells es 28))
        have hz1 : w.heap.size < w1.heap.size := by have := hb.size; simp at this; omega
        refine ⟨es, a, c, rfl, r1, (rp_facts hu).2.1, (rp_facts hu).1, hn.lod r4, (rdepth_any t (by omega) _ es hN3.nt).mono ?_⟩
        rintro e w4 ⟨rfl, h4⟩
        have k2 := (h4.block _ (lt_of r2)).trans r2
        have k4 := (h4.block _ (lt_of r4)).trans r4
        have B4 := bel_step r3 h4
        obtain ⟨a1, a2, a3, a4⟩ := fin_res (w := w) NA.zero k2 B4
        obtain ⟨b1, b2, b3, b4⟩ := fin_res (w := w) hn k2 B4
        refine ⟨rfl, a1, a2, a3, hn.lod k4, b1, b2, b3, b4, ((hN3.below h4).grown (setRow_grown _ _ _) (fun g e hk => ?_)).nt⟩
        cases e
        have hk' : (w1.alloc (rpO v false)).heap.size ≤ w.heap.size := hk
        simp at hk'
        omega)
      by_cases hd : dT t ≤ 24
      · have hall : allF ts = some t := by unfold allF; rw [hP]; simp only; rw [if_pos hd]
        rw [hall]
        have hdi : ¬ (24 : Int) < ((dT t : Nat) : Int) := by omega
        clear L hok T hts hall hP hd
        generalize ((dT t : Nat) : Int) = dd at *
        go_enter Tryz.func9, Tryz.ntmps9
        go_wp2_with (first
          | (go_at_call 26; refine L'.mono ?_; rintro e w1 ⟨a, n, c, rfl, HB, HQ⟩)
          | (refine wpList_build_run rfl 57 _ rfl _ _ (by go_simp) (RP.out _ _ _ _) ?_)
          | (go_at_call 27; refine (C.out _ _ HQ.out HB.out).mono ?_; rintro e w2 ⟨es, a2, c2, rfl, RS1, hno, hsl, RL3, CD⟩)
          | (refine wpList_store_run rfl 28 _ _ rfl _ _ _ rfl rfl RS1.out ?_; clear RS1)
          | (refine wpList_load_g 28 _ rfl _ _ rfl RL3.out (by go_simp) ?_; clear RL3)
          | (go_at_call 21; refine CD.out.mono ?_; rintro e w4 ⟨rfl, RSz, HGz, HFz, RL4, RS, HG, HF, HZ, HNT⟩)
          | (refine wpList_load_run rfl 28 _ rfl _ _ rfl RL4.out ?_; clear RL4)
          | (refine wpList_store_run rfl 28 _ _ rfl _ _ _ rfl rfl RS.out ?_; clear RS))
        exact bodyPost_ret (results_ns rfl rfl rfl HG.out HZ.out) rfl ⟨_, rfl, HNT.out, HF.out⟩
      · have hall : allF ts = none := by unfold allF; rw [hP]; simp only; rw [if_neg hd]
        rw [hall]
        have hdi : (24 : Int) < ((dT t : Nat) : Int) := by omega
        clear L hok T hts hall hP hd
        generalize ((dT t : Nat) : Int) = dd at *
        go_enter Tryz.func9, Tryz.ntmps9
        go_wp2_with (first
          | (go_at_call 26; refine L'.mono ?_; rintro e w1 ⟨a, n, c, rfl, HB, HQ⟩)
          | (refine wpList_build_run rfl 57 _ rfl _ _ (by go_simp) (RP.out _ _ _ _) ?_)
          | (go_at_call 27; refine (C.out _ _ HQ.out HB.out).mono ?_; rintro e w2 ⟨es, a2, c2, rfl, RS1, hno, hsl, RL3, CD⟩)
          | (refine wpList_store_run rfl 28 _ _ rfl _ _ _ rfl rfl RS1.out ?_; clear RS1)
          | (refine wpList_load_g 28 _ rfl _ _ rfl RL3.out (by go_simp) ?_; clear RL3)
          | (go_at_call 21; refine CD.out.mono ?_; rintro e w4 ⟨rfl, RS, HG, HF, RL4, RSe, HGe, HFe, HZ, HNT⟩)
          | (refine wpList_build_run rfl 28 _ rfl _ _ rfl (RB.out _) ?_)
          | (refine wpList_store_run rfl 28 _ _ rfl _ _ _ rfl rfl RS.out ?_; clear RS))
        exact bodyPost_ret (results_ns rfl rfl rfl HG.out rfl) rfl ⟨nd0, rfl, zero_nt _, HF.out⟩
end
theorem fparse_ref (l : List UInt8) (w : World) (T : Tab9 w) : Calls Tryz.prog 9 #[.string (ba l)] w (PB w (parF l)) := by
  have R := rlex_any l (w.alloc (.cells nd0 28))
  unfold parF
  by_cases h : 255 < l.length
  · rw [if_pos h]
    unfold LexB at R
    simp only [if_pos h] at R
    exact rparse_err (by decide) (R.mono (by rintro e w1 ⟨rfl, rfl⟩; exact ⟨rfl, Below.refl _ _⟩))
  · rw [if_neg h]
    unfold LexB at R
    simp only [if_neg h] at R
    cases hx : lexF l with
    | none =>
      rw [hx] at R
      exact rparse_err (by decide) (R.mono (by rintro e w1 ⟨h1, rfl⟩; exact ⟨rfl, h1⟩))
    | some ts =>
      rw [hx] at R
      have hts : ts.length ≤ 255 := lex_le hx (by omega)
      exact rparse_toks T (fun x hxm => ⟨lex_ok hx x hxm, lex_sm (by omega) hx x hxm⟩) hts (R.mono (by
        rintro e w1 ⟨h1, v, rfl, h2, h3⟩
        exact ⟨v, rfl, h2, h1⟩))
end Go.Proofs.YtljfkkpkcjigpaaGreatDoor

namespace Go.Proofs.YtljfkkpkcjigpaaGreatDoor
open Go.RowKit
set_option maxRecDepth 100000
theorem guard25 : Tryz.prog.eqGuardType Tryz.prog.depth 25 = false := by kernel_rfl
theorem held25 : Tryz.prog.stoodInHeld 25 = false := by kernel_rfl
theorem str25 : Tryz.prog.underlying 25 = some (.struct (Tryz.prog.fieldsOf 25)) := by kernel_rfl
abbrev rf0 : Field := { name := "Book", type := 9, offset := 0, embedded := false, tag := "", pkgPath := "", byteOffset := 0 }
abbrev rf1 : Field := { name := "Sheet", type := 9, offset := 1, embedded := false, tag := "", pkgPath := "", byteOffset := 16 }
abbrev rf2 : Field := { name := "Row", type := 3, offset := 2, embedded := false, tag := "", pkgPath := "", byteOffset := 32 }
abbrev rf3 : Field := { name := "Col", type := 3, offset := 3, embedded := false, tag := "", pkgPath := "", byteOffset := 40 }
abbrev rf4 : Field := { name := "FixRow", type := 4, offset := 4, embedded := false, tag := "", pkgPath := "", byteOffset := 48 }
abbrev rf5 : Field := { name := "FixCol", type := 4, offset := 5, embedded := false, tag := "", pkgPath := "", byteOffset := 49 }
theorem fields25 : (Tryz.prog.fieldsOf 25).toList = [rf0, rf1, rf2, rf3, rf4, rf5] := by kernel_rfl
section
variable (b s : ByteArray) (r c : Int) (fr fc : Bool) (b' s' : ByteArray) (r' c' : Int) (fr' fc' : Bool) (W : World)
theorem eqn_ref : (Op.equalIn 10000 25 (refV b s r c fr fc) (refV b s r c fr fc)).run Tryz.prog W = .ok true W := by
  rw [run_equalIn_struct W 9999 25 _ _ str25 held25, fields25]
  have h9 := Tryz.underlying9
  have h3 := Tryz.underlying3
  have h4 := Tryz.underlying4
  have a9 := Tryz.isAgg9
  have a3 := Tryz.isAgg3
  have a4 := Tryz.isAgg4
  have z9 := Tryz.sizeOf9
  have z3 := Tryz.sizeOf3
  have z4 := Tryz.sizeOf4
  simp only [Op.eqFields]
  go_simp
theorem nen_b (hb : (b.toList == b'.toList) = false) : (Op.equalIn 10000 25 (refV b s r c fr fc) (refV b' s' r' c' fr' fc')).run Tryz.prog W = .ok false W := by
  rw [run_equalIn_struct W 9999 25 _ _ str25 held25, fields25]
  have h9 := Tryz.underlying9
  have h3 := Tryz.underlying3
  have h4 := Tryz.underlying4
  have a9 := Tryz.isAgg9
  have a3 := Tryz.isAgg3
  have a4 := Tryz.isAgg4
  have z9 := Tryz.sizeOf9
  have z3 := Tryz.sizeOf3
  have z4 := Tryz.sizeOf4
  simp only [Op.eqFields]
  go_simp
theorem nen_s (hb : (b.toList == b'.toList) = true) (hs : (s.toList == s'.toList) = false) : (Op.equalIn 10000 25 (refV b s r c fr fc) (refV b' s' r' c' fr' fc')).run Tryz.prog W = .ok false W := by
  rw [run_equalIn_struct W 9999 25 _ _ str25 held25, fields25]
  have h9 := Tryz.underlying9
  have h3 := Tryz.underlying3
  have h4 := Tryz.underlying4
  have a9 := Tryz.isAgg9
  have a3 := Tryz.isAgg3
  have a4 := Tryz.isAgg4
  have z9 := Tryz.sizeOf9
  have z3 := Tryz.sizeOf3
  have z4 := Tryz.sizeOf4
  simp only [Op.eqFields]
  go_simp
theorem run_ne_ref : (binOp .neq 25 (refV b s r c fr fc) (refV b s r c fr fc)).run Tryz.prog W = .ok (.bool false) W := by
  rw [run_neq_struct, eqn_ref]
  rfl
theorem run_ne_other (h : (b.toList == b'.toList) = false ∨ (s.toList == s'.toList) = false) : (binOp .neq 25 (refV b s r c fr fc) (refV b' s' r' c' fr' fc')).run Tryz.prog W = .ok (.bool true) W := by
  rw [run_neq_struct]
  cases hb : (b.toList == b'.toList)
  · rw [nen_b _ _ _ _ _ _ _ _ _ _ _ _ _ hb]; rfl
  · rw [hb] at h
    rw [nen_s _ _ _ _ _ _ _ _ _ _ _ _ _ hb (h.resolve_left (by decide))]; rfl
end
end Go.Proofs.YtljfkkpkcjigpaaGreatDoor

namespace Go.Proofs.YtljfkkpkcjigpaaGreatDoor
open Go.RowKit Go.Fm
set_option maxRecDepth 100000
theorem held23 : Tryz.prog.stoodInHeld 23 = false := by kernel_rfl
theorem guard23 : Tryz.prog.eqGuardType Tryz.prog.depth 23 = false := by kernel_rfl
theorem str23 : Tryz.prog.underlying 23 = some (.struct (Tryz.prog.fieldsOf 23)) := by kernel_rfl
abbrev vf0 : Field := { name := "Kind", type := 3, offset := 0, embedded := false, tag := "", pkgPath := "", byteOffset := 0 }
abbrev vf1 : Field := { name := "N", type := 3, offset := 1, embedded := false, tag := "", pkgPath := "", byteOffset := 8 }
abbrev vf2 : Field := { name := "S", type := 9, offset := 2, embedded := false, tag := "", pkgPath := "", byteOffset := 16 }
theorem fields23 : (Tryz.prog.fieldsOf 23).toList = [vf0, vf1, vf2] := by kernel_rfl
def veB (k n : Int) (s : ByteArray) (k' n' : Int) (s' : ByteArray) : Bool := (k == k') && ((n == n') && (s.toList == s'.toList))
def reB (b s : ByteArray) (r c : Int) (fr fc : Bool) (b' s' : ByteArray) (r' c' : Int) (fr' fc' : Bool) : Bool := (b.toList == b'.toList) && ((s.toList == s'.toList) && ((r == r') && ((c == c') && ((fr == fr') && (fc == fc')))))
theorem bytes_eq {a b : ByteArray} (h : (a.toList == b.toList) = true) : a = b := by
  rw [ByteArray.toList_eq, ByteArray.toList_eq] at h
  have h2 : a.data.toList = b.data.toList := by simpa using h
  have h3 : a.data = b.data := Array.toList_inj.1 h2
  obtain ⟨x⟩ := a
  obtain ⟨y⟩ := b
  exact congrArg ByteArray.mk h3
section
variable (W : World)
theorem eqn_val (k n : Int) (s : ByteArray) (k' n' : Int) (s' : ByteArray) : (Op.equalIn 10000 23 (val k n s) (val k' n' s')).run Tryz.prog W = .ok (veB k n s k' n' s') W := by
  rw [run_equalIn_struct W 9999 23 _ _ str23 held23, fields23]
  have h9 := Tryz.underlying9
  have h3 := Tryz.underlying3
  have a9 := Tryz.isAgg9
  have a3 := Tryz.isAgg3
  have z9 := Tryz.sizeOf9
  have z3 := Tryz.sizeOf3
  unfold veB
  simp only [Op.eqFields]
  cases e1 : (k == k') <;> cases e2 : (n == n') <;> cases e3 : (s.toList == s'.toList) <;> go_simp
theorem eqn_refB (b s : ByteArray) (r c : Int) (fr fc : Bool) (b' s' : ByteArray) (r' c' : Int) (fr' fc' : Bool) : (Op.equalIn 10000 25 (refV b s r c fr fc) (refV b' s' r' c' fr' fc')).run Tryz.prog W = .ok (reB b s r c fr fc b' s' r' c' fr' fc') W := by
  rw [run_equalIn_struct W 9999 25 _ _ str25 held25, fields25]
  have h9 := Tryz.underlying9
  have h3 := Tryz.underlying3
  have h4 := Tryz.underlying4
  have a9 := Tryz.isAgg9
  have a3 := Tryz.isAgg3
  have a4 := Tryz.isAgg4
  have z9 := Tryz.sizeOf9
  have z3 := Tryz.sizeOf3
  have z4 := Tryz.sizeOf4
  unfold reB
  simp only [Op.eqFields]
  cases e1 : (b.toList == b'.toList)
  · go_simp
  cases e2 : (s.toList == s'.toList)
  · go_simp
  cases e3 : (r == r')
  · go_simp
  cases e4 : (c == c')
  · go_simp
  cases e5 : (fr == fr')
  · go_simp
  cases e6 : (fc == fc')
  · go_simp
  go_simp
end
def labB (a b : Lab) : Bool := (a.k == b.k) && ((a.s.toList == b.s.toList) && (veB a.vk a.vn a.vs b.vk b.vn b.vs && (reB a.b1 a.h1 a.r1 a.c1 a.fr1 a.fc1 b.b1 b.h1 b.r1 b.c1 b.fr1 b.fc1 && reB a.b2 a.h2 a.r2 a.c2 a.fr2 a.fc2 b.b2 b.h2 b.r2 b.c2 b.fr2 b.fc2)))
theorem labB_refl (a : Lab) : labB a a = true := by unfold labB veB reB; simp
theorem labB_eq {a b : Lab} (h : labB a b = true) : a = b := by
  unfold labB veB reB at h
  simp only [Bool.and_eq_true] at h
  obtain ⟨h1, h2, ⟨h3, h4, h5⟩, ⟨h6, h7, h8, h9, h10, h11⟩, h12, h13, h14, h15, h16, h17⟩ := h
  obtain ⟨k, s, vk, vn, vs, b1, x1, r1, c1, f1, g1, b2, x2, r2, c2, f2, g2⟩ := a
  obtain ⟨k', s', vk', vn', vs', b1', x1', r1', c1', f1', g1', b2', x2', r2', c2', f2', g2'⟩ := b
  simp only at *
  simp only [beq_iff_eq] at h1 h3 h4 h8 h9 h10 h11 h14 h15 h16 h17
  rw [h1, bytes_eq h2, h3, h4, bytes_eq h5, bytes_eq h6, bytes_eq h7, h8, h9, h10, h11, bytes_eq h12, bytes_eq h13, h14, h15, h16, h17]
theorem box_all {u : World} {g : Nat} {a : Lab} {sl : Value} {z : Nat × Nat} (h : u.heap[g]? = some (.cells (lcs a sl) 28 z)) :
    u.cell? ⟨g, 0, none⟩ = some (.int .i64 a.k) ∧ u.cell? ⟨g, 1, none⟩ = some (.string a.s) ∧ (Instr.loadAt 23 (.pointer (some ⟨g, 2, none⟩))).run Tryz.prog u = .ok (val a.vk a.vn a.vs) u ∧ (Instr.loadAt 25 (.pointer (some ⟨g, 5, none⟩))).run Tryz.prog u = .ok (refV a.b1 a.h1 a.r1 a.c1 a.fr1 a.fc1) u ∧ (Instr.loadAt 25 (.pointer (some ⟨g, 11, none⟩))).run Tryz.prog u = .ok (refV a.b2 a.h2 a.r2 a.c2 a.fr2 a.fc2) u := by
  have hc : ∀ j v, (lcs a sl)[j]? = some v → u.cell? ⟨g, j, none⟩ = some v := fun j v hj => by rw [cell_of_row u g j _ 28 z h]; exact hj
  have hadd : ∀ o j, (⟨g, o, none⟩ : Addr).add j = ⟨g, o + j, none⟩ := fun o j => by unfold Addr.add; split <;> simp_all
  refine ⟨hc 0 _ rfl, hc 1 _ rfl, ?_, ?_, ?_⟩
  · exact run_loadVar_any u ⟨g, 2, none⟩ 23 [.int .i64 a.vk, .int .i64 a.vn, .string a.vs] _ (fun j v hj => by
      rw [hadd]
      refine hc _ _ ?_
      match j, hj with
      | 0, hj => exact hj
      | 1, hj => exact hj
      | 2, hj => exact hj) Tryz.underlying23 rfl (by kernel_rfl)
  · exact run_loadVar_any u ⟨g, 5, none⟩ 25 [.string a.b1, .string a.h1, .int .i64 a.r1, .int .i64 a.c1, .bool a.fr1, .bool a.fc1] _ (fun j v hj => by
      rw [hadd]
      refine hc _ _ ?_
      match j, hj with
      | 0, hj => exact hj
      | 1, hj => exact hj
      | 2, hj => exact hj
      | 3, hj => exact hj
      | 4, hj => exact hj
      | 5, hj => exact hj) Tryz.underlying25 rfl (by kernel_rfl)
  · exact run_loadVar_any u ⟨g, 11, none⟩ 25 [.string a.b2, .string a.h2, .int .i64 a.r2, .int .i64 a.c2, .bool a.fr2, .bool a.fc2] _ (fun j v hj => by
      rw [hadd]
      refine hc _ _ ?_
      match j, hj with
      | 0, hj => exact hj
      | 1, hj => exact hj
      | 2, hj => exact hj
      | 3, hj => exact hj
      | 4, hj => exact hj
      | 5, hj => exact hj) Tryz.underlying25 rfl (by kernel_rfl)
theorem run_eql_val (W : World) (k n : Int) (s : ByteArray) (k' n' : Int) (s' : ByteArray) : (binOp .eql 23 (val k n s) (val k' n' s')).run Tryz.prog W = .ok (.bool (veB k n s k' n' s')) W := by
  rw [run_eql_struct, eqn_val]; rfl
theorem run_neq_val (W : World) (k n : Int) (s : ByteArray) (k' n' : Int) (s' : ByteArray) : (binOp .neq 23 (val k n s) (val k' n' s')).run Tryz.prog W = .ok (.bool (!veB k n s k' n' s')) W := by
  rw [run_neq_struct, eqn_val]; rfl
theorem run_eql_refB (W : World) (b s : ByteArray) (r c : Int) (fr fc : Bool) (b' s' : ByteArray) (r' c' : Int) (fr' fc' : Bool) : (binOp .eql 25 (refV b s r c fr fc) (refV b' s' r' c' fr' fc')).run Tryz.prog W = .ok (.bool (reB b s r c fr fc b' s' r' c' fr' fc')) W := by
  rw [run_eql_struct, eqn_refB]; rfl
theorem run_neq_refB (W : World) (b s : ByteArray) (r c : Int) (fr fc : Bool) (b' s' : ByteArray) (r' c' : Int) (fr' fc' : Bool) : (binOp .neq 25 (refV b s r c fr fc) (refV b' s' r' c' fr' fc')).run Tryz.prog W = .ok (.bool (!reB b s r c fr fc b' s' r' c' fr' fc')) W := by
  rw [run_neq_struct, eqn_refB]; rfl
end Go.Proofs.YtljfkkpkcjigpaaGreatDoor
