/- RPar3b, RPar4. -/
import Derived.Test.YtlndkjcincflpaaGreatDoorRPar2X
set_option linter.unusedVariables false
set_option linter.unusedSimpArgs false
namespace Go.Proofs.YtlndkjcincflpaaGreatDoor
open Go.RowKit Go.Fm
set_option maxRecDepth 100000
set_option maxHeartbeats 2000000 in
theorem rbin_six {W w : World} {b : Nat} {o : Option (T × List Tk.Tok)} (hb : b < w.heap.size) (C : Calls Tryz.prog 124 #[.pointer (some ⟨b, 0, none⟩)] (w.alloc (.cells nd0 50)) (RO W b (w.alloc (.cells nd0 50)) o)) :
    Calls Tryz.prog 92 #[.pointer (some ⟨b, 0, none⟩), .int .i64 6] w (RO W b w o) := by
  have C' : Calls Tryz.prog 124 #[.pointer (some ⟨b, 0, none⟩)] (w.alloc (.cells nd0 50)) fun e w1 => ∃ es, e = .returned (.agg es) ∧ Hid ((Instr.storeAt 50 (.pointer (some ⟨w.heap.size, 0, none⟩)) (.agg es)).run Tryz.prog w1 = .ok () (w1.setRow w.heap.size es)) ∧ Hid (w1.heap[w.heap.size]? = some (.cells nd0 50)) ∧ Hid (es.size = 18) ∧ Hid (NA es) ∧ Hid (RA W b w o es (w1.setRow w.heap.size es)) := C.mono (by
    rintro e w1 ⟨es, rfl, hn, h⟩
    obtain ⟨a1, a2, a3, a4⟩ := RA.fin hb hn h
    exact ⟨es, rfl, a1, a2, a3, hn, a4⟩)
  clear C
  go_enter Tryz.func92, Tryz.ntmps92
  go_wp2_with (first
    | (go_at_call 124; refine C'.mono ?_; rintro e w1 ⟨es, rfl, RS, HG, HZ, HN, HF⟩)
    | (refine wpList_store_run rfl 50 _ _ rfl _ _ _ rfl rfl RS.out ?_))
  exact bodyPost_ret (nd_res HG.out HZ.out rfl rfl) rfl ⟨es, rfl, HN.out, HF.out⟩
theorem two_na {u : World} {es es2 : Array Value} (h : NA es) (h2 : NA es2) : (Instr.buildSlice 48 2 #[(0, .agg es), (1, .agg es2)]).run Tryz.prog u = .ok (.slice (some ⟨u.heap.size, 0, none⟩) 2 2) (u.alloc (.cells (es.toList ++ es2.toList).toArray 50)) := by
  obtain ⟨a, p, n, c, rfl⟩ := h
  obtain ⟨a', p', n', c', rfl⟩ := h2
  exact slice_two u _ _ _ _ _ _ _ _
structure BI (W : World) (b : Nat) (w : World) (g : Nat) (cur : Option (T × List Tk.Tok)) (es : Array Value) (u : World) : Prop where
  box : u.heap[g]? = some (.cells es 50)
  res : u.heap[w.heap.size]? = some (.cells nd0 50)
  na : NA es
  st : match cur with
    | none => Sw W b w u
    | some p => NK (fun i => w.heap.size < i ∧ i ≠ g) u es p.1 ∧ Sq W b p.2 w u
theorem BI.begin {W w w1 : World} {b : Nat} {o : Option (T × List Tk.Tok)} {es : Array Value} (hb : b < w.heap.size) (hn : NA es) (h : RA W b (w.alloc (.cells nd0 50)) o es w1) :
    Hid ((Instr.storeAt 50 (.pointer (some ⟨w1.heap.size, 0, none⟩)) (.agg es)).run Tryz.prog (w1.alloc (.cells nd0 50)) = .ok () (w1.alloc (.cells es 50))) ∧ Hid (BI W b w w1.heap.size o es (w1.alloc (.cells es 50))) ∧ Hid (w.heap.size < w1.heap.size) := by
  have hlt : w.heap.size < w1.heap.size := by have := h.grow.size; simp at this; omega
  refine ⟨run_storeAt_new w1 50 nd0 _ (by rw [hn.size]; exact inf50) (by rw [hn.size]; rfl) hn.one, ⟨heap_alloc_new _ _, (Below.heap_alloc _ _ _ hlt).trans (h.kept (heap_alloc_new w _) (by omega)), hn, ?_⟩, hlt⟩
  cases o with
  | none => exact (show Sw W b (w.alloc (.cells nd0 50)) w1 from h).unalloc.alloc _
  | some p =>
    obtain ⟨h1, h2⟩ := h
    refine ⟨NK.below (K := fun i => w.heap.size < i ∧ i ≠ w1.heap.size) (h1.mono (fun i hi hl => ?_)) (bel_alloc (Below.refl _ _) (.cells es 50)), h2.unalloc.alloc _⟩
    simp at hi
    exact ⟨by omega, by omega⟩
theorem BI.fin {W w u : World} {b g : Nat} {cur : Option (T × List Tk.Tok)} {es : Array Value} (h : BI W b w g cur es u) (hb : b < w.heap.size) :
    Hid ((Instr.loadAt 50 (.pointer (some ⟨g, 0, none⟩))).run Tryz.prog u = .ok (.agg es) u) ∧ Hid ((Instr.storeAt 50 (.pointer (some ⟨w.heap.size, 0, none⟩)) (.agg es)).run Tryz.prog u = .ok () (u.setRow w.heap.size es)) ∧ Hid (es.size = 18) ∧ Hid (RA W b w cur es (u.setRow w.heap.size es)) := by
  refine ⟨h.na.lod h.box, h.na.sto h.res rfl, h.na.size, ?_⟩
  have hs := h.st
  cases cur with
  | none => exact Sw.grown hs (setRow_grown _ _ _) (Nat.le_refl _) hb
  | some p =>
    obtain ⟨h1, h2⟩ := hs
    exact ⟨(h1.grown (setRow_grown _ _ _) (fun g e hk => by cases e; exact Nat.lt_irrefl _ hk.1)).mono (fun i hi _ => Nat.le_of_lt hi.1), h2.grown (setRow_grown _ _ _) (Nat.le_refl _) hb⟩
theorem QR.left {W w : World} {b : Nat} {L : List Tk.Tok} (h : QR W b L w) : leftP b w = L.length := by
  obtain ⟨v, h1, h2⟩ := h.blk
  obtain ⟨a, c, rfl⟩ := h2.slice
  unfold leftP
  rw [h1]
  simp
theorem QW.left {W w : World} {b : Nat} (h : QW W b w) : leftP b w = 0 := by
  unfold leftP
  rw [h.blk]
  simp
theorem QR.not {W w : World} {b : Nat} {L : List Tk.Tok} (h : QR W b L w) : w.cell? ⟨b, 1, none⟩ = some (.bool false) := by
  obtain ⟨v, h1, h2⟩ := h.blk
  exact (rp_facts h1).2.1
theorem QW.yes {W w : World} {b : Nat} (h : QW W b w) : w.cell? ⟨b, 1, none⟩ = some (.bool true) := (rp_facts h.blk).2.1
theorem BI.two {W w u u2 w3 : World} {b g : Nat} {n : T} {r r' : List Tk.Tok} {es es2 : Array Value} {sg : List UInt8} {o2 : Option (T × List Tk.Tok)} (h : BI W b w g (some (n, r)) es u) (hb : b < w.heap.size) (hg : w.heap.size < g)
    (h2 : Sq W b r' u u2) (hn : NA es2) (h3 : RA W b u2 o2 es2 w3) :
    Hid ((Instr.storeAt 50 (.pointer (some ⟨w3.heap.size, 0, none⟩)) (.agg es2)).run Tryz.prog (w3.alloc (.cells nd0 50)) = .ok () (w3.alloc (.cells es2 50))) ∧
    Hid ((Instr.loadAt 50 (.pointer (some ⟨g, 0, none⟩))).run Tryz.prog (w3.alloc (.cells es2 50)) = .ok (.agg es) (w3.alloc (.cells es2 50))) ∧
    Hid ((Instr.loadAt 50 (.pointer (some ⟨w3.heap.size, 0, none⟩))).run Tryz.prog (w3.alloc (.cells es2 50)) = .ok (.agg es2) (w3.alloc (.cells es2 50))) ∧
    ∃ w5, Hid ((Instr.buildSlice 48 2 #[(0, .agg es), (1, .agg es2)]).run Tryz.prog (w3.alloc (.cells es2 50)) = .ok (.slice (some ⟨w3.heap.size + 1, 0, none⟩) 2 2) w5) ∧
    Hid ((Instr.build 50 #[(0, .int .i64 6), (1, .string (ba sg)), (5, .slice (some ⟨w3.heap.size + 1, 0, none⟩) 2 2)]).run Tryz.prog w5 = .ok (.agg (lcs (lab0 6 (ba sg)) (.slice (some ⟨w3.heap.size + 1, 0, none⟩) 2 2))) w5) ∧
    Hid ((Instr.storeAt 50 (.pointer (some ⟨g, 0, none⟩)) (.agg (lcs (lab0 6 (ba sg)) (.slice (some ⟨w3.heap.size + 1, 0, none⟩) 2 2)))).run Tryz.prog w5 = .ok () (w5.setRow g (lcs (lab0 6 (ba sg)) (.slice (some ⟨w3.heap.size + 1, 0, none⟩) 2 2)))) ∧
    Hid (BI W b w g (o2.map fun p => (binT sg n p.1, p.2)) (lcs (lab0 6 (ba sg)) (.slice (some ⟨w3.heap.size + 1, 0, none⟩) 2 2)) (w5.setRow g (lcs (lab0 6 (ba sg)) (.slice (some ⟨w3.heap.size + 1, 0, none⟩) 2 2)))) := by
  have hgl : g < u.heap.size := lt_of h.box
  have hgu2 := h2.2.size
  have hgw3 := h3.grow.size
  have B2 : u2.heap[g]? = some (.cells es 50) := h2.kept h.box (by omega)
  have B3 : w3.heap[g]? = some (.cells es 50) := h3.kept B2 (by omega)
  have R2 : u2.heap[w.heap.size]? = some (.cells nd0 50) := h2.kept h.res (by omega)
  have R3 : w3.heap[w.heap.size]? = some (.cells nd0 50) := h3.kept R2 (by omega)
  have B4 : (w3.alloc (.cells es2 50)).heap[g]? = some (.cells es 50) := (Below.heap_alloc _ _ _ (by omega)).trans B3
  have R4 : (w3.alloc (.cells es2 50)).heap[w.heap.size]? = some (.cells nd0 50) := (Below.heap_alloc _ _ _ (by omega)).trans R3
  have hz4 : (w3.alloc (.cells es2 50)).heap.size = w3.heap.size + 1 := by simp
  refine ⟨run_storeAt_new w3 50 nd0 _ (by rw [hn.size]; exact inf50) (by rw [hn.size]; rfl) hn.one, h.na.lod B4, hn.lod (heap_alloc_new _ _), (w3.alloc (.cells es2 50)).alloc (.cells (es.toList ++ es2.toList).toArray 50), by have := two_na (u := w3.alloc (.cells es2 50)) h.na hn; rw [hz4] at this; exact this, build_lab _ _ _ _ _ _, ?_⟩
  obtain ⟨w5, hw5⟩ : ∃ w5, (w3.alloc (.cells es2 50)).alloc (.cells (es.toList ++ es2.toList).toArray 50) = w5 := ⟨_, rfl⟩
  rw [hw5]
  have B5 : w5.heap[g]? = some (.cells es 50) := by rw [← hw5]; exact (Below.heap_alloc _ _ _ (by omega)).trans B4
  have R5 : w5.heap[w.heap.size]? = some (.cells nd0 50) := by rw [← hw5]; exact (Below.heap_alloc _ _ _ (by omega)).trans R4
  have N5 : w5.heap[w3.heap.size + 1]? = some (.cells (es.toList ++ es2.toList).toArray 50) := by
    rw [← hw5]
    have := heap_alloc_new (w3.alloc (.cells es2 50)) (.cells (es.toList ++ es2.toList).toArray 50)
    rw [hz4] at this; exact this
  have hz5 : w5.heap.size = w3.heap.size + 2 := by rw [← hw5]; simp
  have L5 : Below w3.heap.size w3 w5 := by rw [← hw5]; exact bel_alloc (bel_alloc (Below.refl _ _) _) _
  refine ⟨nd_sto B5 h.na.size _ _ _ _, ?_⟩
  generalize hfs : lcs (lab0 6 (ba sg)) (.slice (some ⟨w3.heap.size + 1, 0, none⟩) 2 2) = fs
  have G6 := setRow_grown w5 g fs
  refine ⟨setRow_heap _ _ _ _ _ _ B5, (G6.block _ (by omega) (by intro e; have := Option.some.inj e; omega)).trans R5, ⟨_, _, _, _, hfs.symm⟩, ?_⟩
  obtain ⟨hN, hS⟩ := h.st
  cases o2 with
  | none =>
    have h3' : Sw W b u2 w3 := h3
    show Sw W b w _
    exact (((hS.step h2).bad h3').bel L5).grown G6 (by omega) hb
  | some p =>
    obtain ⟨m, r2⟩ := p
    obtain ⟨hM, hS3⟩ := h3
    show NK _ _ _ (binT sg n m) ∧ Sq W b r2 w _
    have K6 : ∀ k, (some g : Option Nat) = some k → ¬ (fun i => w.heap.size < i ∧ i ≠ g) k := fun k e hk => by cases e; exact hk.2 rfl
    have K1 : ∀ i, (fun i => w.heap.size < i ∧ i ≠ g) i → i ≠ b := fun i hi e => by have := hi.1; omega
    have HA : NK (fun i => w.heap.size < i ∧ i ≠ g) (w5.setRow g fs) es n := (((hN.grown h2.2 (fun k e hk => by cases e; exact K1 _ hk rfl)).grown hS3.2 (fun k e hk => by cases e; exact K1 _ hk rfl)).below L5).grown G6 K6
    have HB : NK (fun i => w.heap.size < i ∧ i ≠ g) (w5.setRow g fs) es2 m := ((hM.mono (K' := fun i => w.heap.size < i ∧ i ≠ g) (fun i hi _ => by
      have hi' : u2.heap.size ≤ i := hi
      exact ⟨by omega, by omega⟩)).below L5).grown G6 K6
    refine ⟨?_, (((hS.step h2).step hS3).bel L5).grown G6 (by omega) hb⟩
    rw [← hfs] at HA HB ⊢
    refine NK.newAt (g := w3.heap.size + 1) ⟨by omega, by omega⟩ (k := 6) (s := ba sg) [(es, n), (es2, m)] (fun x hx => ?_) (es := (es.toList ++ es2.toList).toArray) (z := (0, 0)) (o := 0) (((setRow_grown w5 g _).block _ (by omega) (by intro e; have := Option.some.inj e; omega)).trans N5) (fun j v hj => by simpa using hj) 2
    simp only [List.mem_cons, List.not_mem_nil, or_false] at hx
    rcases hx with rfl | rfl
    · exact HA
    · exact HB
end Go.Proofs.YtlndkjcincflpaaGreatDoor

namespace Go.Proofs.YtlndkjcincflpaaGreatDoor
open Go.RowKit Go.Fm
set_option maxRecDepth 100000
theorem one_na {u : World} {es : Array Value} (h : NA es) : (Instr.buildSlice 48 1 #[(0, .agg es)]).run Tryz.prog u = .ok (.slice (some ⟨u.heap.size, 0, none⟩) 1 1) (u.alloc (.cells es 50)) := by
  obtain ⟨a, p, n, c, rfl⟩ := h
  exact slice_one u _ _ _ _
theorem un_node {K K' : Nat → Prop} {u : World} {es : Array Value} {n : T} {sg : List UInt8} {g : Nat} (h : NK K u es n) (hK : ∀ i, K i → i < u.heap.size → K' i) (hn : K' u.heap.size) (hg : ¬ K' g) :
    NK K' ((u.alloc (.cells es 50)).setRow g (lcs (lab0 5 (ba sg)) (.slice (some ⟨u.heap.size, 0, none⟩) 1 1))) (lcs (lab0 5 (ba sg)) (.slice (some ⟨u.heap.size, 0, none⟩) 1 1)) (unT sg n) := by
  generalize hfs : lcs (lab0 5 (ba sg)) (.slice (some ⟨u.heap.size, 0, none⟩) 1 1) = fs
  have G6 := setRow_grown (u.alloc (.cells es 50)) g fs
  have HA : NK K' ((u.alloc (.cells es 50)).setRow g fs) es n := ((h.mono hK).below (bel_alloc (Below.refl _ _) _)).grown G6 (fun k e hk => by cases e; exact hg hk)
  rw [← hfs] at HA ⊢
  refine NK.newAt (g := u.heap.size) hn (k := 5) (s := ba sg) [(es, n)] (fun x hx => ?_) (es := es) (z := (0, 0)) (o := 0) (((setRow_grown _ g _).block _ (by simp) (by intro e; exact hg (Option.some.inj e ▸ hn))).trans (heap_alloc_new _ _)) (fun j v hj => by simpa using hj) 1
  simp only [List.mem_cons, List.not_mem_nil, or_false] at hx
  subst hx; exact HA
theorem un_end {W w u2 w3 : World} {b : Nat} {r' : List Tk.Tok} {es2 : Array Value} {o2 : Option (T × List Tk.Tok)} (hb : b < w.heap.size) (h2 : Sq W b r' (w.alloc (.cells nd0 50)) u2) (hn : NA es2) (h3 : RA W b u2 o2 es2 w3) :
    Hid ((Instr.storeAt 50 (.pointer (some ⟨w3.heap.size, 0, none⟩)) (.agg es2)).run Tryz.prog (w3.alloc (.cells nd0 50)) = .ok () (w3.alloc (.cells es2 50))) ∧
    Hid ((Instr.loadAt 50 (.pointer (some ⟨w3.heap.size, 0, none⟩))).run Tryz.prog (w3.alloc (.cells es2 50)) = .ok (.agg es2) (w3.alloc (.cells es2 50))) ∧
    ∃ w5, Hid ((Instr.buildSlice 48 1 #[(0, .agg es2)]).run Tryz.prog (w3.alloc (.cells es2 50)) = .ok (.slice (some ⟨w3.heap.size + 1, 0, none⟩) 1 1) w5) ∧
    Hid ((Instr.build 50 #[(0, .int .i64 5), (1, .string ⟨#[45]⟩), (5, .slice (some ⟨w3.heap.size + 1, 0, none⟩) 1 1)]).run Tryz.prog w5 = .ok (.agg (lcs (lab0 5 ⟨#[45]⟩) (.slice (some ⟨w3.heap.size + 1, 0, none⟩) 1 1))) w5) ∧
    Hid ((Instr.storeAt 50 (.pointer (some ⟨w.heap.size, 0, none⟩)) (.agg (lcs (lab0 5 ⟨#[45]⟩) (.slice (some ⟨w3.heap.size + 1, 0, none⟩) 1 1)))).run Tryz.prog w5 = .ok () (w5.setRow w.heap.size (lcs (lab0 5 ⟨#[45]⟩) (.slice (some ⟨w3.heap.size + 1, 0, none⟩) 1 1)))) ∧
    Hid (w5.heap[w.heap.size]? = some (.cells nd0 50)) ∧ Hid ((lcs (lab0 5 ⟨#[45]⟩) (.slice (some ⟨w3.heap.size + 1, 0, none⟩) 1 1)).size = 18) ∧ Hid (NA (lcs (lab0 5 ⟨#[45]⟩) (.slice (some ⟨w3.heap.size + 1, 0, none⟩) 1 1))) ∧
    Hid (RA W b w (o2.map fun p => (unT [45] p.1, p.2)) (lcs (lab0 5 ⟨#[45]⟩) (.slice (some ⟨w3.heap.size + 1, 0, none⟩) 1 1)) (w5.setRow w.heap.size (lcs (lab0 5 ⟨#[45]⟩) (.slice (some ⟨w3.heap.size + 1, 0, none⟩) 1 1)))) := by
  have hs2 := h2.2.size
  have hs3 := h3.grow.size
  simp at hs2
  have R2 : u2.heap[w.heap.size]? = some (.cells nd0 50) := h2.kept (heap_alloc_new w _) (by omega)
  have R3 : w3.heap[w.heap.size]? = some (.cells nd0 50) := h3.kept R2 (by omega)
  have R4 : (w3.alloc (.cells es2 50)).heap[w.heap.size]? = some (.cells nd0 50) := (Below.heap_alloc _ _ _ (by omega)).trans R3
  have hz4 : (w3.alloc (.cells es2 50)).heap.size = w3.heap.size + 1 := by simp
  have R5 : ((w3.alloc (.cells es2 50)).alloc (.cells es2 50)).heap[w.heap.size]? = some (.cells nd0 50) := (Below.heap_alloc _ _ _ (by omega)).trans R4
  refine ⟨run_storeAt_new w3 50 nd0 _ (by rw [hn.size]; exact inf50) (by rw [hn.size]; rfl) hn.one, hn.lod (heap_alloc_new _ _), (w3.alloc (.cells es2 50)).alloc (.cells es2 50), by have := one_na (u := w3.alloc (.cells es2 50)) hn; rw [hz4] at this; exact this, build_lab _ _ _ _ _ _, nd_sto R5 rfl _ _ _ _, R5, rfl, ⟨_, _, _, _, rfl⟩, ?_⟩
  have L5 : Below w3.heap.size w3 ((w3.alloc (.cells es2 50)).alloc (.cells es2 50)) := bel_alloc (bel_alloc (Below.refl _ _) _) _
  cases o2 with
  | none => exact (((h2.bad (show Sw W b u2 w3 from h3)).unalloc).bel L5).grown (setRow_grown _ _ _) (Nat.le_refl _) hb
  | some p =>
    obtain ⟨hM, hS3⟩ := h3
    refine ⟨?_, (((h2.step hS3).unalloc).bel L5).grown (setRow_grown _ _ _) (Nat.le_refl _) hb⟩
    have hM4 : NK (fun i => u2.heap.size ≤ i) (w3.alloc (.cells es2 50)) es2 p.1 := hM.below (bel_alloc (Below.refl _ _) _)
    have := un_node (K' := fun i => w.heap.size < i) (sg := [45]) (g := w.heap.size) hM4 (fun i hi _ => by have hi' : u2.heap.size ≤ i := hi; omega) (by omega) (Nat.lt_irrefl _)
    rw [hz4] at this
    exact this.mono (fun i hi _ => Nat.le_of_lt hi)
theorem BI.pct {W w u u2 : World} {b g : Nat} {n : T} {r r' : List Tk.Tok} {es : Array Value} (h : BI W b w g (some (n, r)) es u) (hb : b < w.heap.size) (hg : w.heap.size < g) (h2 : Sq W b r' u u2) :
    Hid ((Instr.loadAt 50 (.pointer (some ⟨g, 0, none⟩))).run Tryz.prog u2 = .ok (.agg es) u2) ∧
    Hid ((Instr.buildSlice 48 1 #[(0, .agg es)]).run Tryz.prog u2 = .ok (.slice (some ⟨u2.heap.size, 0, none⟩) 1 1) (u2.alloc (.cells es 50))) ∧
    Hid ((Instr.build 50 #[(0, .int .i64 5), (1, .string ⟨#[37]⟩), (5, .slice (some ⟨u2.heap.size, 0, none⟩) 1 1)]).run Tryz.prog (u2.alloc (.cells es 50)) = .ok (.agg (lcs (lab0 5 ⟨#[37]⟩) (.slice (some ⟨u2.heap.size, 0, none⟩) 1 1))) (u2.alloc (.cells es 50))) ∧
    Hid ((Instr.storeAt 50 (.pointer (some ⟨g, 0, none⟩)) (.agg (lcs (lab0 5 ⟨#[37]⟩) (.slice (some ⟨u2.heap.size, 0, none⟩) 1 1)))).run Tryz.prog (u2.alloc (.cells es 50)) = .ok () ((u2.alloc (.cells es 50)).setRow g (lcs (lab0 5 ⟨#[37]⟩) (.slice (some ⟨u2.heap.size, 0, none⟩) 1 1)))) ∧
    Hid (BI W b w g (some (unT [37] n, r')) (lcs (lab0 5 ⟨#[37]⟩) (.slice (some ⟨u2.heap.size, 0, none⟩) 1 1)) ((u2.alloc (.cells es 50)).setRow g (lcs (lab0 5 ⟨#[37]⟩) (.slice (some ⟨u2.heap.size, 0, none⟩) 1 1)))) := by
  have hgl : g < u.heap.size := lt_of h.box
  have hs2 := h2.2.size
  have B2 : u2.heap[g]? = some (.cells es 50) := h2.kept h.box (by omega)
  have R2 : u2.heap[w.heap.size]? = some (.cells nd0 50) := h2.kept h.res (by omega)
  have B3 : (u2.alloc (.cells es 50)).heap[g]? = some (.cells es 50) := (Below.heap_alloc _ _ _ (by omega)).trans B2
  have R3 : (u2.alloc (.cells es 50)).heap[w.heap.size]? = some (.cells nd0 50) := (Below.heap_alloc _ _ _ (by omega)).trans R2
  have G6 := setRow_grown (u2.alloc (.cells es 50)) g (lcs (lab0 5 ⟨#[37]⟩) (.slice (some ⟨u2.heap.size, 0, none⟩) 1 1))
  obtain ⟨hN, hS⟩ := h.st
  refine ⟨h.na.lod B2, one_na h.na, build_lab _ _ _ _ _ _, nd_sto B3 h.na.size _ _ _ _, setRow_heap _ _ _ _ _ _ B3, (G6.block _ (lt_of R3) (by intro e; have := Option.some.inj e; omega)).trans R3, ⟨_, _, _, _, rfl⟩, ?_⟩
  show NK _ _ _ (unT [37] n) ∧ Sq W b r' w _
  refine ⟨?_, ((hS.step h2).alloc _).grown G6 (by omega) hb⟩
  have hN2 : NK (fun i => w.heap.size < i ∧ i ≠ g) u2 es n := hN.grown h2.2 (fun k e hk => by cases e; have := hk.1; omega)
  exact un_node (K' := fun i => w.heap.size < i ∧ i ≠ g) (sg := [37]) (g := g) hN2 (fun i hi _ => hi) ⟨by omega, by omega⟩ (fun hk => hk.2 rfl)
theorem rpct_yes {n : T} {r : List Tk.Tok} (h : opOf r = [37]) : pctF r.length n r = pctF r.tail.length (unT [37] n) r.tail := by
  have h2 := (op_tail (ts := r) h (by decide)).1
  rw [← h2]
  conv => lhs; unfold pctF
  rw [if_pos h]
theorem rpct_no {n : T} {r : List Tk.Tok} (h : opOf r ≠ [37]) (k : Nat) : pctF k n r = (n, r) := by
  cases k with
  | zero => rfl
  | succ k => unfold pctF; rw [if_neg h]
set_option maxHeartbeats 4000000 in
theorem run_neg {W : World} {b : Nat} {ts : List Tk.Tok} (hn : ts.length ≤ 256) (h : opOf ts = [45]) (C : ∀ u, QR W b ts.tail u → Calls Tryz.prog 124 #[.pointer (some ⟨b, 0, none⟩)] u (RO W b u (PP 6 ts.tail))) {w : World} (X : QR W b ts w) :
    Calls Tryz.prog 124 #[.pointer (some ⟨b, 0, none⟩)] w (RO W b w ((PP 6 ts.tail).map fun p => (unT [45] p.1, p.2))) := by
  have hb := X.lt
  have OP := rop_any (X.alloc (.cells nd0 50)) hn
  rw [h] at OP
  have OP' : Calls Tryz.prog 125 #[.pointer (some ⟨b, 0, none⟩)] (w.alloc (.cells nd0 50)) fun e w' => e = .returned (.string ⟨#[45]⟩) ∧ w' = w.alloc (.cells nd0 50) := OP
  have TK : Calls Tryz.prog 126 #[.pointer (some ⟨b, 0, none⟩), .string ⟨#[45]⟩] (w.alloc (.cells nd0 50)) fun e w' => e = .returned (.tuple #[]) ∧ Sq W b ts.tail (w.alloc (.cells nd0 50)) w' := rtake_yes (s := [45]) (X.alloc (.cells nd0 50)) hn (by decide) h
  have C1 : Hid (∀ u2, Sq W b ts.tail (w.alloc (.cells nd0 50)) u2 → Calls Tryz.prog 124 #[.pointer (some ⟨b, 0, none⟩)] u2 fun e w3 => ∃ es2, e = .returned (.agg es2) ∧ NA es2 ∧ RA W b u2 (PP 6 ts.tail) es2 w3) := fun u2 h2 => C u2 h2.1
  clear C X OP h
  generalize PP 6 ts.tail = o2 at *
  go_enter Tryz.func124, Tryz.ntmps124
  go_wp2_with (first
    | (go_at_call 125; refine OP'.mono ?_; rintro e w' ⟨rfl, hw⟩; obtain rfl := hw.symm; clear hw)
    | (go_at_call 126; refine TK.mono ?_; rintro e w2 ⟨rfl, hw⟩; have HS2 : Hid (Sq W b ts.tail (w.alloc (.cells nd0 50)) w2) := hw; clear hw TK)
    | (go_at_call 124; refine (C1.out _ HS2.out).mono ?_; rintro e w3 ⟨es2, rfl, hn2, h3⟩; obtain ⟨R1, R2, w5, R4, R5, R6, HG, HZ, HNA, HF⟩ := un_end hb HS2.out hn2 h3; clear hn2 h3)
    | (refine wpList_store_run rfl 50 _ _ rfl _ _ _ rfl rfl R1.out ?_; clear R1)
    | (refine wpList_load_run rfl 50 _ rfl _ _ rfl R2.out ?_; clear R2)
    | (refine wpList_bslice_run rfl 48 1 _ rfl _ _ _ (by go_simp) R4.out ?_; clear R4)
    | (refine wpList_build_run rfl 50 _ rfl _ _ (by go_simp) R5.out ?_; clear R5)
    | (refine wpList_store_run rfl 50 _ _ rfl _ _ _ rfl rfl R6.out ?_; clear R6))
  exact bodyPost_ret (nd_res HG.out HZ.out rfl rfl) rfl ⟨_, rfl, HNA.out, HF.out⟩
set_option maxHeartbeats 8000000 in
theorem run_pct {W : World} {b : Nat} {ts : List Tk.Tok} (hn : ts.length ≤ 256) (h : opOf ts ≠ [45]) (C : ∀ u, QR W b ts u → Calls Tryz.prog 167 #[.pointer (some ⟨b, 0, none⟩)] u (RO W b u (PP 8 ts))) {w : World} (X : QR W b ts w) :
    Calls Tryz.prog 124 #[.pointer (some ⟨b, 0, none⟩)] w (RO W b w ((PP 8 ts).map fun p => pctF p.2.length p.1 p.2)) := by
  have hb := X.lt
  have hlen : ∀ p, PP 8 ts = some p → p.2.length ≤ 256 := fun p hp => Nat.le_trans (Nat.le_of_lt (ps_lt upF trF (by omega) _ p.1 p.2 hp)) hn
  have OP := rop_any (X.alloc (.cells nd0 50)) hn
  have hne : ((ba (opOf ts)).toList == [45]) = false := ne_list h
  have C0 : Calls Tryz.prog 167 #[.pointer (some ⟨b, 0, none⟩)] (w.alloc (.cells nd0 50)) fun e w1 => ∃ es, e = .returned (.agg es) ∧ Hid ((Instr.storeAt 50 (.pointer (some ⟨w1.heap.size, 0, none⟩)) (.agg es)).run Tryz.prog (w1.alloc (.cells nd0 50)) = .ok () (w1.alloc (.cells es 50))) ∧ Hid (BI W b w w1.heap.size (PP 8 ts) es (w1.alloc (.cells es 50))) ∧ Hid (w.heap.size < w1.heap.size) := (C _ (X.alloc _)).mono (by
    rintro e w1 ⟨es, rfl, hn, h⟩
    exact ⟨es, rfl, BI.begin hb hn h⟩)
  generalize ho : ((PP 8 ts).map fun p => pctF p.2.length p.1 p.2) = o
  have HO : Hid (((PP 8 ts).map fun p => pctF p.2.length p.1 p.2) = o) := ho
  have HLE : Hid (∀ p, PP 8 ts = some p → p.2.length ≤ 256) := hlen
  clear ho C hlen X h
  generalize PP 8 ts = o1 at C0 HO HLE
  generalize ba (opOf ts) = A at *
  go_enter Tryz.func124, Tryz.ntmps124
  go_wp2_with (first
    | (go_at_call 125; refine OP.mono ?_; rintro e w' ⟨rfl, hw⟩; obtain rfl := hw.symm; clear hw)
    | (go_at_call 167; refine C0.mono ?_; rintro e w1 ⟨es0, rfl, RS0, HB0, HLT⟩)
    | (refine wpList_store_run rfl 50 _ _ rfl _ _ _ rfl rfl RS0.out ?_; clear RS0))
  clear C0 OP hne
  try simp only [Act.put, List.setIfInBounds_toArray, List.set_cons_zero, List.set_cons_succ]
  generalize hg7 : w1.heap.size = g7 at *
  clear hg7
  go_loopw [] (fun wr => ∃ (cur : Option (T × List Tk.Tok)) (es : Array Value), Hid ((cur.map fun p => pctF p.2.length p.1 p.2) = o) ∧ Hid (BI W b w g7 cur es wr) ∧ Hid (∀ p, cur = some p → p.2.length ≤ 256)) (fun wr => leftP b wr)
  case atStart => exact ⟨o1, es0, HO, HB0, HLE⟩
  case round =>
    obtain ⟨cur, es, HL, HB, HR⟩ := hrel
    clear HO HB0 HLE
    cases cur with
    | none =>
      obtain ⟨RL, RS, HZ, HF⟩ := HB.out.fin hb
      have hyes : wr.cell? ⟨b, 1, none⟩ = some (.bool true) := (show Sw W b w wr from HB.out.st).1.yes
      have HQ : Hid (none = o) := HL.out
      have HNA : Hid (NA es) := HB.out.na
      have HG : Hid (wr.heap[w.heap.size]? = some (.cells nd0 50)) := HB.out.res
      clear HL HB HR
      go_wp2_with (first
        | (refine wpList_load_run rfl 50 _ rfl _ _ rfl RL.out ?_; clear RL)
        | (refine wpList_store_run rfl 50 _ _ rfl _ _ _ rfl rfl RS.out ?_; clear RS))
      refine bodyPost_ret (nd_res HG.out HZ.out rfl rfl) rfl ?_
      rw [← HQ.out]
      exact ⟨es, rfl, HNA.out, HF.out⟩
    | some p =>
      obtain ⟨n, r⟩ := p
      have hr : r.length ≤ 256 := HR.out _ rfl
      have hS : Sq W b r w wr := (HB.out.st).2
      have hnot : wr.cell? ⟨b, 1, none⟩ = some (.bool false) := hS.1.not
      have OP := rop_any hS.1 hr
      have hleft := hS.1.left
      by_cases hq : opOf r = [37]
      · have hrt := (op_tail (ts := r) hq (by decide)).1
        have HQ : Hid (o = some (pctF r.tail.length (unT [37] n) r.tail)) := by show _ = _; rw [← HL.out]; show some (pctF r.length n r) = _; rw [rpct_yes hq]
        have TK : Calls Tryz.prog 126 #[.pointer (some ⟨b, 0, none⟩), .string ⟨#[37]⟩] wr fun e w' => e = .returned (.tuple #[]) ∧ Sq W b r.tail wr w' := rtake_yes (s := [37]) hS.1 hr (by decide) hq
        rw [hq] at OP
        have OP' : Calls Tryz.prog 125 #[.pointer (some ⟨b, 0, none⟩)] wr fun e w' => e = .returned (.string ⟨#[37]⟩) ∧ w' = wr := OP
        clear HL hq hS OP
        generalize hrr : r.tail = r' at *
        clear hrr
        go_wp2_with (first
          | (go_at_call 125; refine OP'.mono ?_; rintro e w' ⟨rfl, hw⟩; obtain rfl := hw.symm; clear hw)
          | (go_at_call 126; refine TK.mono ?_; rintro e w2 ⟨rfl, hw⟩; have HS2 : Hid (Sq W b r' wr w2) := hw; clear hw TK; obtain ⟨R2, R4, R5, R6, HB6⟩ := BI.pct HB.out hb HLT.out HS2.out)
          | (refine wpList_load_run rfl 50 _ rfl _ _ rfl R2.out ?_; clear R2)
          | (refine wpList_bslice_run rfl 48 1 _ rfl _ _ _ (by go_simp) R4.out ?_; clear R4)
          | (refine wpList_build_run rfl 50 _ rfl _ _ (by go_simp) R5.out ?_; clear R5)
          | (refine wpList_store_run rfl 50 _ _ rfl _ _ _ rfl rfl R6.out ?_; clear R6))
        try simp only [Act.put, List.setIfInBounds_toArray, List.set_cons_zero, List.set_cons_succ]
        go_roundw
        case rel =>
          refine ⟨some (unT [37] n, r'), _, ?_, HB6, ?_⟩
          · show _ = _
            rw [HQ.out]
            rfl
          · show ∀ p, _ → _
            intro p hp
            cases hp
            show r'.length ≤ 256
            omega
        case measure =>
          have hst := HB6.out.st
          rw [(show _ ∧ Sq W b r' w _ from hst).2.1.left, hleft]; omega
      · have HQ : Hid (o = some (n, r)) := by show _ = _; rw [← HL.out]; show some (pctF r.length n r) = _; rw [rpct_no hq]
        have hqi : ((ba (opOf r)).toList == [37]) = false := ne_list hq
        obtain ⟨RL, RS, HZ, HF⟩ := HB.out.fin hb
        have HNA : Hid (NA es) := HB.out.na
        have HG : Hid (wr.heap[w.heap.size]? = some (.cells nd0 50)) := HB.out.res
        generalize ba (opOf r) = A at *
        clear hq HL hleft HB hS
        go_wp2_with (first
          | (go_at_call 125; refine OP.mono ?_; rintro e w' ⟨rfl, hw⟩; obtain rfl := hw.symm; clear hw)
          | (refine wpList_load_run rfl 50 _ rfl _ _ rfl RL.out ?_; clear RL)
          | (refine wpList_store_run rfl 50 _ _ rfl _ _ _ rfl rfl RS.out ?_; clear RS))
        refine bodyPost_ret (nd_res HG.out HZ.out rfl rfl) rfl ?_
        rw [HQ.out]
        exact ⟨es, rfl, HNA.out, HF.out⟩
theorem run_any {W : World} {b : Nat} {ts : List Tk.Tok} (hn : ts.length ≤ 256) (C : ∀ u, opOf ts = [45] → QR W b ts.tail u → Calls Tryz.prog 124 #[.pointer (some ⟨b, 0, none⟩)] u (RO W b u (PP 6 ts.tail))) (D : ∀ u, QR W b ts u → Calls Tryz.prog 167 #[.pointer (some ⟨b, 0, none⟩)] u (RO W b u (PP 8 ts))) {w : World} (X : QR W b ts w) :
    Calls Tryz.prog 124 #[.pointer (some ⟨b, 0, none⟩)] w (RO W b w (PP 6 ts)) := by
  have e : PP 6 ts = if opOf ts = [45] then (PP 6 ts.tail).map fun p => (unT [45] p.1, p.2) else PP 7 ts := ps_neg upF trF ts
  have e7 : PP 7 ts = (PP 8 ts).map fun p => pctF p.2.length p.1 p.2 := ps_pct upF trF ts
  rw [e]
  by_cases h : opOf ts = [45]
  · rw [if_pos h]; exact run_neg hn h (fun u hu => C u h hu) X
  · rw [if_neg h, e7]; exact run_pct hn h D X
end Go.Proofs.YtlndkjcincflpaaGreatDoor
