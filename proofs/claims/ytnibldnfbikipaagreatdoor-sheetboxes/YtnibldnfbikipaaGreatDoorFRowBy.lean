/- FPar3, FStr, FPar4, FRow. -/
import Derived.Test.YtnibldnfbikipaaGreatDoorFPar2By
set_option linter.unusedVariables false
set_option linter.unusedSimpArgs false
set_option maxHeartbeats 16000000
set_option maxRecDepth 100000
namespace Go.Proofs.YtnibldnfbikipaaGreatDoor
open Go.RowKit Go.Fm
theorem build_lab (w : World) (k : Int) (s : ByteArray) (p : Option Addr) (n c : Nat) : (Instr.build 67 #[(0, .int .i64 k), (1, .string s), (5, .slice p n c)]).run Tryz.prog w = .ok (.agg (lcs (lab0 k s) (.slice p n c))) w := by kernel_rfl
theorem build_val (w : World) (k n : Int) (s : ByteArray) : (Instr.build 67 #[(0, .int .i64 1), (2, .agg #[.int .i64 k, .int .i64 n, .string s])]).run Tryz.prog w = .ok (.agg (lcs (labV k n s) (.slice none 0 0))) w := by kernel_rfl
theorem slice_one (w : World) (a : Lab) (p : Option Addr) (n c : Nat) : (Instr.buildSlice 65 1 #[(0, .agg (lcs a (.slice p n c)))]).run Tryz.prog w = .ok (.slice (some ⟨w.heap.size, 0, none⟩) 1 1) (w.alloc (.cells (lcs a (.slice p n c)) 67)) := by kernel_rfl
theorem slice_two (w : World) (a a' : Lab) (p p' : Option Addr) (n c n' c' : Nat) : (Instr.buildSlice 65 2 #[(0, .agg (lcs a (.slice p n c))), (1, .agg (lcs a' (.slice p' n' c')))]).run Tryz.prog w = .ok (.slice (some ⟨w.heap.size, 0, none⟩) 2 2) (w.alloc (.cells (lcl a (.slice p n c) ++ lcl a' (.slice p' n' c')).toArray 67)) := by kernel_rfl
theorem wpList_build_run {P : Program} {ops : Array Oper} {rest : List Oper} {o : Oper} {a : Act} {w : World} {Q : Exit → Act → World → Prop} (hgd : o.guard = none) (ty : TypeId) (xs : Array (Nat × Operand)) (ho : o.op = .build ty xs)
  (ps : Array (Nat × Value)) (v : Value) (hx : (xs.map fun (i, x) => (i, a.eval x)) = ps) (hrun : (Instr.build ty ps).run P w = .ok v w) (h : wpList P ops Q rest (a.put o.dst v) w) : wpList P ops Q (o :: rest) a w := by
 refine wpList_plain hgd fun K hK => ?_
 unfold Oper.wp execOp
 simp only [ho, hx, Sem.run_bind, Sem.run_pure, hrun, Result.andThen_ok]
 exact hK _ _ h
theorem wpList_bslice_run {P : Program} {ops : Array Oper} {rest : List Oper} {o : Oper} {a : Act} {w : World} {Q : Exit → Act → World → Prop} (hgd : o.guard = none) (ty : TypeId) (len : Nat) (xs : Array (Nat × Operand)) (ho : o.op = .buildSlice ty len xs)
  (ps : Array (Nat × Value)) (v : Value) (w' : World) (hx : (xs.map fun (i, x) => (i, a.eval x)) = ps) (hrun : (Instr.buildSlice ty len ps).run P w = .ok v w') (h : wpList P ops Q rest (a.put o.dst v) w') : wpList P ops Q (o :: rest) a w := by
 refine wpList_plain hgd fun K hK => ?_
 unfold Oper.wp execOp
 simp only [ho, hx, Sem.run_bind, Sem.run_pure, hrun, Result.andThen_ok]
 exact hK _ _ h
theorem nd_sto {u : World} {g : Nat} {zs : Array Value} (hg : u.heap[g]? = some (.cells zs 67)) (hz : zs.size = 18) (a : Lab) (p : Option Addr) (n c : Nat) :
  Hid ((Instr.storeAt 67 (.pointer (some ⟨g, 0, none⟩)) (.agg (lcs a (.slice p n c)))).run Tryz.prog u = .ok () (u.setRow g (lcs a (.slice p n c)))) :=
 sto hg (by rw [lcs_size]; exact inf67) hz (lcs_all _ _ _ _)
theorem nd_res {u : World} {g : Nat} {zs es : Array Value} (hg : u.heap[g]? = some (.cells zs 67)) (he : es.size = 18) {fn : Func} {i : Tmp} (hr : fn.results = #[.cell i 67]) {tmps : Array Value} (hp : tmps.getD i undef = .pointer (some ⟨g, 0, none⟩)) :
  (results fn tmps).run Tryz.prog (u.setRow g es) = .ok (.agg es) (u.setRow g es) :=
 results_cell_row hr _ _ g 67 _ (0, 0) _ hp (setRow_heap _ _ _ _ _ _ hg) Tryz.underlying67 rfl (by rw [he]; exact inf67)
def InK (K : Nat → Prop) (w : World) : Addr → F → Prop
 | _, .nil => True
 | a, .node _ _ l f r => (∃ p n c, K a.block ∧ (∀ j v, (lcl l (.slice p n c))[j]? = some v → w.cell? (a.add j) = some v) ∧ n = (kids f).length ∧ (f = .nil ∨ ∃ a', p = some a' ∧ InK K w a' f)) ∧ InK K w (a.add 18) r
def NK (K : Nat → Prop) (w : World) (es : Array Value) (t : T) : Prop := ∃ p n c, es = lcs t.1 (.slice p n c) ∧ n = (kids t.2).length ∧ (t.2 = .nil ∨ ∃ a, p = some a ∧ InK K w a t.2)
theorem InK.inf {K : Nat → Prop} : ∀ {f : F} {w : World} {a : Addr}, InK K w a f → InF w a f := by
 intro f
 induction f with
 | nil => intro w a _; trivial
 | node b o l f r ihf ihr =>
  intro w a h
  obtain ⟨⟨p, n, c, h0, h1, h2, h3⟩, h4⟩ := h
  exact ⟨⟨p, n, c, h1, h2, h3.imp id fun ⟨a', e, hi⟩ => ⟨a', e, ihf hi⟩⟩, ihr h4⟩
theorem NK.nt {K : Nat → Prop} {w : World} {es : Array Value} {t : T} (h : NK K w es t) : NT w es t := by
 obtain ⟨p, n, c, e, h1, h2⟩ := h
 exact ⟨p, n, c, e, h1, h2.imp id fun ⟨a, e, hi⟩ => ⟨a, e, hi.inf⟩⟩
theorem InK.mono {K K' : Nat → Prop} : ∀ {f : F} {w : World} {a : Addr}, InK K w a f → (∀ i, K i → i < w.heap.size → K' i) → InK K' w a f := by
 intro f
 induction f with
 | nil => intro w a _ _; trivial
 | node b o l f r ihf ihr =>
  intro w a h hK
  obtain ⟨⟨p, n, c, h0, h1, h2, h3⟩, h4⟩ := h
  have hlt : a.block < w.heap.size := by
   have := World.block_lt_of_cell? w (a.add 0) (h1 0 _ rfl)
   rwa [show (a.add 0).block = a.block by unfold Addr.add; split <;> rfl] at this
  exact ⟨⟨p, n, c, hK _ h0 hlt, h1, h2, h3.imp id fun ⟨a', e, hi⟩ => ⟨a', e, ihf hi hK⟩⟩, ihr h4 hK⟩
theorem NK.mono {K K' : Nat → Prop} {w : World} {es : Array Value} {t : T} (h : NK K w es t) (hK : ∀ i, K i → i < w.heap.size → K' i) : NK K' w es t := by
 obtain ⟨p, n, c, e, h1, h2⟩ := h
 exact ⟨p, n, c, e, h1, h2.imp id fun ⟨a, e, hi⟩ => ⟨a, e, hi.mono hK⟩⟩
theorem InK.grown {K : Nat → Prop} : ∀ {f : F} {w w' : World} {a : Addr} {row : Option Nat}, InK K w a f → w.grownBy w' row → (∀ g, row = some g → ¬ K g) → InK K w' a f := by
 intro f
 induction f with
 | nil => intro w w' a row _ _ _; trivial
 | node b o l f r ihf ihr =>
  intro w w' a row h hg hr
  obtain ⟨⟨p, n, c, h0, h1, h2, h3⟩, h4⟩ := h
  have hc : ∀ j x, w.cell? (a.add j) = some x → w'.cell? (a.add j) = some x := fun j x hx => by
   have hlt := World.block_lt_of_cell? w _ hx
   refine (World.cell?_of_block (hg.block _ hlt ?_)).trans hx
   rw [show (a.add j).block = a.block by unfold Addr.add; split <;> rfl]
   intro e; exact hr _ e.symm h0
  exact ⟨⟨p, n, c, h0, fun j x hj => hc j x (h1 j x hj), h2, h3.imp id fun ⟨a', e, hi⟩ => ⟨a', e, ihf hi hg hr⟩⟩, ihr h4 hg hr⟩
theorem NK.grown {K : Nat → Prop} {w w' : World} {es : Array Value} {t : T} {row : Option Nat} (h : NK K w es t) (hg : w.grownBy w' row) (hr : ∀ g, row = some g → ¬ K g) : NK K w' es t := by
 obtain ⟨p, n, c, e, h1, h2⟩ := h
 exact ⟨p, n, c, e, h1, h2.imp id fun ⟨a, e, hi⟩ => ⟨a, e, hi.grown hg hr⟩⟩
theorem NK.below {K : Nat → Prop} {w w' : World} {es : Array Value} {t : T} (h : NK K w es t) (hb : Below w.heap.size w w') : NK K w' es t := h.grown (grown_below (row := none) hb) (fun g e => by cases e)
theorem InK.row {K : Nat → Prop} {u : World} {g : Nat} (hK : K g) : ∀ (l : List (Array Value × T)) (o : Nat), (∀ x ∈ l, NK K u x.1 x.2) → (∀ j v, (l.flatMap (·.1.toList))[j]? = some v → u.cell? ⟨g, o + j, none⟩ = some v) → InK K u ⟨g, o, none⟩ (mk (l.map (·.2)))
 | [], o, _, _ => trivial
 | x :: l, o, h1, h2 => by
  obtain ⟨p, n, c, e, hs⟩ := h1 x (by simp)
  have hadd : ∀ k, (⟨g, o, none⟩ : Addr).add k = ⟨g, o + k, none⟩ := fun k => by unfold Addr.add; split <;> simp_all
  have hlen : x.1.toList.length = 18 := by rw [e]; rfl
  rw [List.flatMap_cons] at h2
  refine ⟨⟨p, n, c, hK, fun j v hj => ?_, hs.1, hs.2⟩, ?_⟩
  ·rw [hadd]
   refine h2 j v ?_
   have hjl : j < x.1.toList.length := by rw [hlen]; exact (List.getElem?_eq_some_iff.1 hj).1
   rw [List.getElem?_append_left hjl, e]
   exact hj
  ·rw [hadd]
   refine InK.row hK l (o + 18) (fun y hy => h1 y (by simp [hy])) (fun j v hj => ?_)
   have := h2 (18 + j) v (by rw [List.getElem?_append_right (by omega), hlen, Nat.add_sub_cancel_left]; exact hj)
   rw [Nat.add_assoc]; exact this
theorem NK.newAt {K : Nat → Prop} {u : World} {g : Nat} (hK : K g) {k : Int} {s : ByteArray} (l : List (Array Value × T)) (h : ∀ x ∈ l, NK K u x.1 x.2) {es : Array Value} {z : Nat × Nat} (hg : u.heap[g]? = some (.cells es 67 z)) {o : Nat} (he : ∀ j v, (l.flatMap (·.1.toList))[j]? = some v → es[o + j]? = some v) (c : Nat) :
  NK K u (lcs (lab0 k s) (.slice (some ⟨g, o, none⟩) l.length c)) (tree (lab0 k s) (l.map (·.2))) := by
 refine ⟨_, _, _, rfl, ?_, .inr ⟨_, rfl, InK.row hK l o h (fun j v hj => ?_)⟩⟩
 ·show l.length = (kids (mk (l.map (·.2)))).length
  rw [kids_mk, List.length_map]
 ·rw [cell_of_row _ _ _ es 67 z hg]
  exact he j v hj
theorem NK.leaf {K : Nat → Prop} {w : World} {a : Lab} : NK K w (lcs a (.slice none 0 0)) (tree a []) := ⟨_, _, _, rfl, rfl, .inl rfl⟩
theorem NK.size {K : Nat → Prop} {w : World} {es : Array Value} {t : T} (h : NK K w es t) : es.size = 18 := by obtain ⟨p, n, c, e, _⟩ := h; rw [e]; rfl
theorem NK.one {K : Nat → Prop} {w : World} {es : Array Value} {t : T} (h : NK K w es t) : es.all (·.oneCell') = true := by obtain ⟨p, n, c, e, _⟩ := h; rw [e]; exact lcs_all _ _ _ _
theorem NK.sto {K : Nat → Prop} {w u : World} {es : Array Value} {t : T} (h : NK K w es t) {g : Nat} {zs : Array Value} (hg : u.heap[g]? = some (.cells zs 67)) (hz : zs.size = 18) :
  Hid ((Instr.storeAt 67 (.pointer (some ⟨g, 0, none⟩)) (.agg es)).run Tryz.prog u = .ok () (u.setRow g es)) := YtnibldnfbikipaaGreatDoor.sto hg (by rw [h.size]; exact inf67) (by rw [h.size]; exact hz) h.one
theorem NK.lod {K : Nat → Prop} {w u : World} {es : Array Value} {t : T} (h : NK K w es t) {g : Nat} (hg : u.heap[g]? = some (.cells es 67)) :
  Hid ((Instr.loadAt 67 (.pointer (some ⟨g, 0, none⟩))).run Tryz.prog u = .ok (.agg es) u) := YtnibldnfbikipaaGreatDoor.lod (z := (0, 0)) hg rfl Tryz.underlying67 (by rw [h.size]; exact inf67)
theorem const_any (k n : Int) (s : ByteArray) (w : World) : Calls Tryz.prog 323 #[.agg #[.int .i64 k, .int .i64 n, .string s]] w fun e w' => e = .returned (.agg (lcs (labV k n s) (.slice none 0 0))) ∧ Below w.heap.size w w' := by
 obtain ⟨w2, hw2⟩ : ∃ w2, (w.alloc (.cells #[.int .i64 k, .int .i64 n, .string s] 62)).alloc (.cells nd0 67) = w2 := ⟨_, rfl⟩
 have H2 : w2.heap[w.heap.size + 1]? = some (.cells nd0 67) := by
  rw [← hw2]
  have := heap_alloc_new (w.alloc (.cells #[.int .i64 k, .int .i64 n, .string s] 62)) (.cells nd0 67)
  simpa using this
 have H1 : w2.heap[w.heap.size]? = some (.cells #[.int .i64 k, .int .i64 n, .string s] 62) := by
  rw [← hw2]; exact (Below.heap_alloc _ _ _ (by simp)).trans (heap_alloc_new w _)
 have HB : Hid (Below w.heap.size w w2) := by show Below _ _ _; rw [← hw2]; exact bel_alloc (bel_alloc (Below.refl _ _) _) _
 have RL : Hid ((Instr.loadAt 62 (.pointer (some ⟨w.heap.size, 0, none⟩))).run Tryz.prog w2 = .ok (.agg #[.int .i64 k, .int .i64 n, .string s]) w2) := lod H1 rfl Tryz.underlying62 (by kernel_rfl)
 have RB : Hid _ := build_val w2 k n s
 have RS := nd_sto H2 rfl (labV k n s) none 0 0
 have HR : Hid (w2.heap[w.heap.size + 1]? = some (.cells nd0 67)) := H2
 have HF : Hid (Below w.heap.size w (w2.setRow (w.heap.size + 1) (lcs (labV k n s) (.slice none 0 0)))) := HB.out.grown (setRow_grown _ _ _) HB.out.size (fun j e => by cases e; omega)
 clear H1 H2 HB
 have hes := lcs_size (labV k n s) (.slice none 0 0)
 go_enter Tryz.func323, Tryz.ntmps323
 go_wp2_with (first
  | (refine wpList_load_run rfl 62 _ rfl _ _ rfl RL.out ?_)
  | (refine wpList_build_run rfl 67 _ rfl _ _ rfl RB.out ?_)
  | (refine wpList_store_run rfl 67 _ _ rfl _ _ _ rfl rfl RS.out ?_))
 exact bodyPost_ret (nd_res HR.out hes rfl rfl) rfl ⟨rfl, HF.out⟩
theorem ne_list {s x : List UInt8} (h : s ≠ x) : ((ba s).toList == x) = false := by
  rw [ByteArray.toList_eq]
  simpa using h
theorem strn_cases (s : List UInt8) : (s = [61] ∨ s = [60, 62] ∨ s = [60] ∨ s = [60, 61] ∨ s = [62] ∨ s = [62, 61] ∨ s = [38] ∨ s = [43] ∨ s = [45] ∨ s = [42] ∨ s = [47] ∨ s = [94]) ∨
    (strn s = 0 ∧ s ≠ [61] ∧ s ≠ [60, 62] ∧ s ≠ [60] ∧ s ≠ [60, 61] ∧ s ≠ [62] ∧ s ≠ [62, 61] ∧ s ≠ [38] ∧ s ≠ [43] ∧ s ≠ [45] ∧ s ≠ [42] ∧ s ≠ [47] ∧ s ≠ [94]) := by
  by_cases h : s = [61] ∨ s = [60, 62] ∨ s = [60] ∨ s = [60, 61] ∨ s = [62] ∨ s = [62, 61] ∨ s = [38] ∨ s = [43] ∨ s = [45] ∨ s = [42] ∨ s = [47] ∨ s = [94]
  · exact .inl h
  · simp only [not_or] at h
    obtain ⟨h1, h2, h3, h4, h5, h6, h7, h8, h9, h10, h11, h12⟩ := h
    refine .inr ⟨?_, h1, h2, h3, h4, h5, h6, h7, h8, h9, h10, h11, h12⟩
    unfold strn
    simp [h1, h2, h3, h4, h5, h6, h7, h8, h9, h10, h11, h12]
theorem strength_any (s : List UInt8) (w : World) : Calls Tryz.prog 169 #[.string (ba s)] w fun e w' => e = .returned (.int .i64 (strn s : Nat)) ∧ w' = w := by
  rcases strn_cases s with h | ⟨h0, h1, h2, h3, h4, h5, h6, h7, h8, h9, h10, h11, h12⟩
  · rcases h with rfl | rfl | rfl | rfl | rfl | rfl | rfl | rfl | rfl | rfl | rfl | rfl <;>
      (go_enter Tryz.func169, Tryz.ntmps169
       go_wp2
       go_ret
       exact ⟨rfl, rfl⟩)
  · rw [h0]
    have k1 := ne_list h1
    have k2 := ne_list h2
    have k3 := ne_list h3
    have k4 := ne_list h4
    have k5 := ne_list h5
    have k6 := ne_list h6
    have k7 := ne_list h7
    have k8 := ne_list h8
    have k9 := ne_list h9
    have k10 := ne_list h10
    have k11 := ne_list h11
    have k12 := ne_list h12
    clear h0 h1 h2 h3 h4 h5 h6 h7 h8 h9 h10 h11 h12
    generalize ba s = S at *
    go_enter Tryz.func169, Tryz.ntmps169
    go_wp2
    go_ret
    exact ⟨rfl, rfl⟩
theorem unary_any (s : List UInt8) {w : World} {K : Nat → Prop} {es : Array Value} {t : T} (h : NK K w es t) : Calls Tryz.prog 312 #[.string (ba s), .agg es] w fun e w' => ∃ fs, e = .returned (.agg fs) ∧ NK (fun i => K i ∨ w.heap.size ≤ i) w' fs (unT s t) ∧ Below w.heap.size w w' := by
 obtain ⟨w2, hw2⟩ : ∃ w2, (w.alloc (.cells es 67)).alloc (.cells nd0 67) = w2 := ⟨_, rfl⟩
 have H2 : w2.heap[w.heap.size + 1]? = some (.cells nd0 67) := by
  rw [← hw2]
  have := heap_alloc_new (w.alloc (.cells es 67)) (.cells nd0 67)
  simpa using this
 have H1 : w2.heap[w.heap.size]? = some (.cells es 67) := by
  rw [← hw2]; exact (Below.heap_alloc _ _ _ (by simp)).trans (heap_alloc_new w _)
 have hz : w2.heap.size = w.heap.size + 2 := by rw [← hw2]; simp
 have HB : Below w.heap.size w w2 := by rw [← hw2]; exact bel_alloc (bel_alloc (Below.refl _ _) _) _
 have hes : es.size = 18 := by obtain ⟨p, n, c, e, _⟩ := h; rw [e]; rfl
 have RL : Hid ((Instr.loadAt 67 (.pointer (some ⟨w.heap.size, 0, none⟩))).run Tryz.prog w2 = .ok (.agg es) w2) := lod H1 rfl Tryz.underlying67 (by rw [hes]; exact inf67)
 have RC : Hid ((Instr.buildSlice 65 1 #[(0, .agg es)]).run Tryz.prog w2 = .ok (.slice (some ⟨w.heap.size + 2, 0, none⟩) 1 1) (w2.alloc (.cells es 67))) := by
  obtain ⟨p, n, c, e, _⟩ := h
  show _ = _
  rw [e, slice_one, hz]
 have H3 : (w2.alloc (.cells es 67)).heap[w.heap.size + 1]? = some (.cells nd0 67) := (Below.heap_alloc _ _ _ (by omega)).trans H2
 have RS := nd_sto H3 rfl (lab0 5 (ba s)) (some ⟨w.heap.size + 2, 0, none⟩) 1 1
 have HR : Hid ((w2.alloc (.cells es 67)).heap[w.heap.size + 1]? = some (.cells nd0 67)) := H3
 have HB3 : Below w.heap.size w (w2.alloc (.cells es 67)) := bel_alloc HB _
 have HF : Hid (Below w.heap.size w ((w2.alloc (.cells es 67)).setRow (w.heap.size + 1) (lcs (lab0 5 (ba s)) (.slice (some ⟨w.heap.size + 2, 0, none⟩) 1 1)))) := HB3.grown (setRow_grown _ _ _) HB3.size (fun j e => by cases e; omega)
 have HN : Hid (NK (fun i => K i ∨ w.heap.size ≤ i) ((w2.alloc (.cells es 67)).setRow (w.heap.size + 1) (lcs (lab0 5 (ba s)) (.slice (some ⟨w.heap.size + 2, 0, none⟩) 1 1))) (lcs (lab0 5 (ba s)) (.slice (some ⟨w.heap.size + 2, 0, none⟩) 1 1)) (unT s t)) := by
  refine NK.newAt (.inr (by omega)) (k := 5) (s := ba s) [(es, t)] (fun x hx => ?_) (g := w.heap.size + 2) (es := es) (z := (0, 0)) (o := 0) ?_ (fun j v hj => by simpa using hj) 1
  ·simp only [List.mem_cons, List.not_mem_nil, or_false] at hx
   subst hx; exact (h.below HF.out).mono (fun i hi _ => .inl hi)
  ·refine ((setRow_grown _ _ _).block _ (by simp [hz]) (by simp)).trans ?_
   have := heap_alloc_new w2 (.cells es 67)
   rw [hz] at this; exact this
 have RB : Hid _ := build_lab (w2.alloc (.cells es 67)) 5 (ba s) (some ⟨w.heap.size + 2, 0, none⟩) 1 1
 have hfs := lcs_size (lab0 5 (ba s)) (.slice (some ⟨w.heap.size + 2, 0, none⟩) 1 1)
 clear H1 H2 HB h H3 HB3
 go_enter Tryz.func312, Tryz.ntmps312
 go_wp2_with (first
  | (refine wpList_load_run rfl 67 _ rfl _ _ rfl RL.out ?_)
  | (refine wpList_bslice_run rfl 65 1 _ rfl _ _ _ (by go_simp) RC.out ?_)
  | (refine wpList_build_run rfl 67 _ rfl _ _ (by go_simp) RB.out ?_)
  | (refine wpList_store_run rfl 67 _ _ rfl _ _ _ rfl rfl RS.out ?_))
 exact bodyPost_ret (nd_res HR.out hfs rfl rfl) rfl ⟨_, rfl, HN.out, HF.out⟩
def upF (l : List UInt8) : List UInt8 := szF 97 65 l
def trF (s : List UInt8) : Option Int := if (truF (ba s)).2 = true then some (if (truF (ba s)).1 = true then 1 else 0) else none
def PP (lv : Nat) (ts : List Tk.Tok) : Option (T × List Tk.Tok) := ps upF trF lv ts
def PO (W : World) (b : Nat) (w : World) (o : Option (T × List Tk.Tok)) (e : Ending) (w' : World) : Prop :=
 match o with
 | none => e = .panicked formP ∧ w.grownBy w' (some b)
 | some p => ∃ es, e = .returned (.agg es) ∧ NK (fun i => w.heap.size ≤ i) w' es p.1 ∧ Sp W b p.2 w w'
def leftP (b : Nat) (w : World) : Nat := match w.heap[b]? with
 | some (.cells cs _ _) => (match (cs[0]? : Option Value) with
  | some (.slice _ n _) => n
  | _ => 0)
 | _ => 0
theorem PR.left {W w : World} {b : Nat} {L : List Tk.Tok} (h : PR W b L w) : leftP b w = L.length := by
 obtain ⟨v, h1, h2⟩ := h.blk
 obtain ⟨a, c, rfl⟩ := h2.slice
 unfold leftP
 rw [h1]
 simp
theorem loop_no {part : Part} {lv : Nat} {n : T} {r : List Tk.Tok} (h : strn (opOf r) ≠ lv) (k : Nat) : loopF part lv k n r = some (n, r) := by
 cases k with
 | zero => rfl
 | succ k => unfold loopF; rw [if_neg h]
theorem loop_yes {lv : Nat} (h1 : 1 ≤ lv) {n : T} {r : List Tk.Tok} (h : strn (opOf r) = lv) : loopF (PP (lv + 1)) lv r.length n r = (PP (lv + 1) r.tail).bind fun p => loopF (PP (lv + 1)) lv p.2.length (binT (opOf r) n p.1) p.2 := by
 have h2 := (op_tail (ts := r) rfl (strn_ne (by omega))).1
 rw [← h2]
 conv => lhs; unfold loopF
 rw [if_pos h]
 cases hq : PP (lv + 1) r.tail with
 | none => rfl
 | some p =>
  simp only [Option.bind_some]
  have h3 := ps_lt upF trF (by omega) _ p.1 p.2 hq
  exact loop_fuel (by omega) (ps_lt upF trF (by omega)) _ _ _ _ (by omega) (Nat.le_refl _)
theorem fld2 (W : World) (k n : Int) (s b h : ByteArray) (r c : Int) (fr fc : Bool) : (Instr.field 156 (.agg (tcs k n s b h r c fr fc)) 2).run Tryz.prog W = .ok (.string s) W := by kernel_rfl
theorem row_none {W : World} {b : Nat} {lv pf : Nat} (hE : ∀ args u, (callFunc pf args).run Tryz.prog u = .ok (.enter pf args) u) {w : World} (hb : b < w.heap.size)
  (C : Calls Tryz.prog pf #[.pointer (some ⟨b, 0, none⟩)] (w.alloc (.cells nd0 67)) fun e w' => e = .panicked formP ∧ (w.alloc (.cells nd0 67)).grownBy w' (some b)) :
  Calls Tryz.prog 196 #[.pointer (some ⟨b, 0, none⟩), .int .i64 (lv : Nat), .func (.func pf) #[] #[]] w fun e w' => e = .panicked formP ∧ w.grownBy w' (some b) := by
 go_enter Tryz.func196, Tryz.ntmps196
 go_wp2_with (go_at_fn pf; refine C.mono ?_; rintro e w1 ⟨rfl, hg⟩)
 exact ⟨rfl, rfl, grown_trans (World.grownBy_alloc _ _ _) hg⟩
section
variable {P : Program} {o : Oper} {a : Act} {w w' : World} {K : Act → World → Prop} {Q : Exit → Act → World → Prop}
theorem wp_build_run (d : Option Tmp) (hd : o.dst = d) (ty : TypeId) (xs : Array (Nat × Operand)) (ho : o.op = .build ty xs) (ps : Array (Nat × Value)) (v : Value) (hx : (xs.map fun (i, x) => (i, a.eval x)) = ps) (hrun : (Instr.build ty ps).run P w = .ok v w) (h : K (a.put d v) w) : Oper.wp P o a w K Q := by
 subst hd
 unfold Oper.wp execOp
 simp only [ho, hx, Sem.run_bind, Sem.run_pure, hrun, Result.andThen_ok]
 exact h
theorem wp_bslice_run (d : Option Tmp) (hd : o.dst = d) (ty : TypeId) (len : Nat) (xs : Array (Nat × Operand)) (ho : o.op = .buildSlice ty len xs) (ps : Array (Nat × Value)) (v : Value) (hx : (xs.map fun (i, x) => (i, a.eval x)) = ps) (hrun : (Instr.buildSlice ty len ps).run P w = .ok v w') (h : K (a.put d v) w') : Oper.wp P o a w K Q := by
 subst hd
 unfold Oper.wp execOp
 simp only [ho, hx, Sem.run_bind, Sem.run_pure, hrun, Result.andThen_ok]
 exact h
theorem wp_store_run (d : Option Tmp) (hd : o.dst = d) (ty : TypeId) (x y : Operand) (ho : o.op = .store ty x y) (p v : Value) (hx : a.eval x = p) (hy : a.eval y = v) (hrun : (Instr.storeAt ty p v).run P w = .ok () w') (h : K (a.put d undef) w') : Oper.wp P o a w K Q := by
 subst hd
 unfold Oper.wp execOp
 simp only [ho, hx, hy, Sem.run_bind, Sem.run_pure, hrun, Result.andThen_ok]
 exact h
end
theorem two_slice {K K' : Nat → Prop} {w w1 u : World} {es es2 : Array Value} {t t2 : T} (h : NK K w es t) (h2 : NK K' w1 es2 t2) : (Instr.buildSlice 65 2 #[(0, .agg es), (1, .agg es2)]).run Tryz.prog u = .ok (.slice (some ⟨u.heap.size, 0, none⟩) 2 2) (u.alloc (.cells (es.toList ++ es2.toList).toArray 67)) := by
 obtain ⟨p, n, c, rfl, _⟩ := h
 obtain ⟨p', n', c', rfl, _⟩ := h2
 exact slice_two u _ _ _ _ _ _ _ _
theorem row_some {W : World} {b : Nat} {lv pf : Nat} (h1 : 1 ≤ lv) (h5 : lv ≤ 5) (hE : ∀ args u, (callFunc pf args).run Tryz.prog u = .ok (.enter pf args) u) {n0 : T} {r0 : List Tk.Tok} (hn : r0.length ≤ 256)
  (C : ∀ ts' u, ts'.length ≤ r0.length → PR W b ts' u → Calls Tryz.prog pf #[.pointer (some ⟨b, 0, none⟩)] u (PO W b u (PP (lv + 1) ts'))) {w : World} (hb : b < w.heap.size)
  (C0 : Calls Tryz.prog pf #[.pointer (some ⟨b, 0, none⟩)] (w.alloc (.cells nd0 67)) fun e w' => ∃ es, e = .returned (.agg es) ∧ NK (fun i => (w.alloc (.cells nd0 67)).heap.size ≤ i) w' es n0 ∧ Sp W b r0 (w.alloc (.cells nd0 67)) w') :
  Calls Tryz.prog 196 #[.pointer (some ⟨b, 0, none⟩), .int .i64 (lv : Nat), .func (.func pf) #[] #[]] w (PO W b w (loopF (PP (lv + 1)) lv r0.length n0 r0)) := by
 have C0' : Calls Tryz.prog pf #[.pointer (some ⟨b, 0, none⟩)] (w.alloc (.cells nd0 67)) fun e w1 => ∃ es, e = .returned (.agg es) ∧
   Hid ((Instr.storeAt 67 (.pointer (some ⟨w1.heap.size, 0, none⟩)) (.agg es)).run Tryz.prog (w1.alloc (.cells nd0 67)) = .ok () (w1.alloc (.cells es 67))) ∧ Hid (NK (fun i => w.heap.size < i ∧ i ≠ w1.heap.size) (w1.alloc (.cells es 67)) es n0) ∧ Hid (Sp W b r0 w (w1.alloc (.cells es 67))) ∧
   Hid ((w1.alloc (.cells es 67)).heap[w.heap.size]? = some (.cells nd0 67)) ∧ Hid ((w1.alloc (.cells es 67)).heap[w1.heap.size]? = some (.cells es 67)) ∧ Hid (w.heap.size < w1.heap.size) := by
  refine C0.mono ?_
  rintro e w1 ⟨es, rfl, h1, h2⟩
  have hlt : w.heap.size < w1.heap.size := by have := h2.2.size; simp at this; omega
  refine ⟨es, rfl, (nbox w1 h1.nt).1, ?_, h2.unalloc.alloc _, ?_, heap_alloc_new _ _, hlt⟩
  ·have := h1.below (bel_alloc (Below.refl _ _) (.cells es 67))
   refine NK.below (K := fun i => w.heap.size < i ∧ i ≠ w1.heap.size) (h1.mono (fun i hi hl => ?_)) (bel_alloc (Below.refl _ _) (.cells es 67))
   simp at hi
   exact ⟨by omega, by omega⟩
  ·exact (Below.heap_alloc _ _ _ hlt).trans (h2.kept (heap_alloc_new w _) (by omega))
 clear C0
 generalize ho : loopF (PP (lv + 1)) lv r0.length n0 r0 = o
 have HO : Hid (loopF (PP (lv + 1)) lv r0.length n0 r0 = o) := ho
 have HC : Hid (∀ ts' u, ts'.length ≤ r0.length → PR W b ts' u → Calls Tryz.prog pf #[.pointer (some ⟨b, 0, none⟩)] u (PO W b u (PP (lv + 1) ts'))) := C
 clear ho C
 go_enter Tryz.func196, Tryz.ntmps196
 go_wp2_with (first
  | (go_at_fn pf; refine C0'.mono ?_; rintro e w1 ⟨es0, rfl, RS0, HN0, HS0, HG0, HG7, HLT⟩)
  | (refine wpList_store_run rfl 67 _ _ rfl _ _ _ rfl rfl RS0.out ?_))
 clear C0'
 try simp only [Act.put, List.setIfInBounds_toArray, List.set_cons_zero, List.set_cons_succ]
 generalize hg7 : w1.heap.size = g7 at *
 clear hg7
 go_loopw [8] (fun _ wr => ∃ (nT : T) (r : List Tk.Tok) (es : Array Value), Hid (loopF (PP (lv + 1)) lv r.length nT r = o) ∧ r.length ≤ r0.length ∧ Hid (wr.heap[g7]? = some (.cells es 67)) ∧ Hid (NK (fun i => w.heap.size < i ∧ i ≠ g7) wr es nT) ∧ Hid (Sp W b r w wr) ∧ Hid (wr.heap[w.heap.size]? = some (.cells nd0 67))) (fun _ wr => leftP b wr)
 case atStart => exact ⟨n0, r0, es0, HO, Nat.le_refl _, HG7, HN0, HS0, HG0⟩
 case round =>
  obtain ⟨nT, r, es, HL, hr, H7, HN, HS, H0⟩ := hrel
  clear HO HG7 HN0 HS0 HG0 RS0
  have OP := op_any HS.out.1 (by omega)
  have ST := fun u => strength_any (opOf r) u
  have hleft := HS.out.1.left
  by_cases hq : strn (opOf r) = lv
  ·have hne := strn_ne (s := opOf r) (by omega)
   obtain ⟨hrt, hrc⟩ := op_tail (ts := r) rfl hne
   have HQ : Hid (o = (PP (lv + 1) r.tail).bind fun p => loopF (PP (lv + 1)) lv p.2.length (binT (opOf r) nT p.1) p.2) := by show _ = _; rw [← HL.out]; exact loop_yes h1 hq
   have TK : Calls Tryz.prog 236 #[.pointer (some ⟨b, 0, none⟩)] wr fun e w' => e = .returned (.agg (tcs 5 0 (ba (opOf r)) noB noB 0 0 false false)) ∧ Sp W b r.tail wr w' := by
    have X := HS.out.1
    rw [hrc] at X
    exact take_cons X (by omega)
   have hqi : (((strn (opOf r) : Nat) : Int) == ((lv : Nat) : Int)) = true := by simp [hq]
   have hlt7 : g7 < wr.heap.size := lt_of H7.out
   have hltr : r.tail.length < r.length := by omega
   have FL := fun u => fld2 u 5 0 (ba (opOf r)) noB noB 0 0 false false
   clear HL hq hrc
   generalize hrr : r.tail = r' at *
   generalize strn (opOf r) = sv at *
   generalize hss : opOf r = sg at *
   clear hrr hss
   go_wp2_with (first
    | (go_at_call 235; refine OP.mono ?_; rintro e w' ⟨rfl, hw⟩; obtain rfl := hw.symm; clear hw)
    | (go_at_call 169; refine (ST _).mono ?_; rintro e w' ⟨rfl, hw⟩; obtain rfl := hw.symm; clear hw)
    | (go_at_call 236; refine TK.mono ?_; rintro e w2 ⟨rfl, hw⟩; have HS2 : Hid (Sp W b r' wr w2) := hw; clear hw TK))
   have H72 : w2.heap[g7]? = some (.cells es 67) := HS2.out.kept H7.out (by have := HLT.out; omega)
   have H02 : w2.heap[w.heap.size]? = some (.cells nd0 67) := HS2.out.kept H0.out (by omega)
   have hz2 : wr.heap.size ≤ w2.heap.size := HS2.out.2.size
   have C1 := HC.out r' w2.drew (by omega) HS2.out.1.drew
   have RLS : Hid ((Instr.loadAt 67 (.pointer (some ⟨g7, 0, none⟩))).run Tryz.prog w2.drew = .ok (.agg es) w2.drew) := HN.out.lod (u := w2.drew) H72
   have K1 : ∀ i, (fun i => w.heap.size < i ∧ i ≠ g7) i → i ≠ b := fun i hi e => by have := hi.1; omega
   have HN2 : Hid (NK (fun i => w.heap.size < i ∧ i ≠ g7) w2.drew es nT) := (HN.out.grown HS2.out.2 (fun g e hk => by cases e; exact K1 _ hk rfl)).below (Below.refl _ _).drew
   cases hP : PP (lv + 1) r' with
   | none =>
    rw [hP] at C1 HQ
    have HQ2 : Hid (o = none) := HQ.out
    have C1' : Calls Tryz.prog pf #[.pointer (some ⟨b, 0, none⟩)] w2.drew fun e w' => e = .panicked formP ∧ w2.drew.grownBy w' (some b) := C1
    clear C1 HQ
    refine wp_region_d (fun u => (Instr.loadAt 67 (.pointer (some ⟨g7, 0, none⟩))).run Tryz.prog u = .ok (.agg es) u) (fun j => j == 7) (by kernel_rfl) ?_
    refine dwp 0 (.string (ba sg)) (h := ?_)
    refine dwl 1 (.agg es) (hS := RLS.out) (hy := (fun u hSu => exec_load_run rfl rfl hSu)) (h := ?_)
    refine dwp 2 (.func (.func pf) #[] #[]) (h := ?_)
    refine dwp 3 (.pointer (some ⟨b, 0, none⟩)) (h := ?_)
    refine wpAnyD_one (i := 4) (by kernel_rfl) rfl ?_
    intro K hK
    go_simp
    refine C1'.mono ?_
    rintro e w3 ⟨rfl, hg3⟩
    refine ⟨rfl, ?_⟩
    rw [HQ2.out]
    exact ⟨rfl, grown_trans HS.out.2 (grown_trans HS2.out.2 (grown_trans (grown_below (Below.refl _ _).drew) hg3))⟩
   | some p =>
    obtain ⟨m, r2⟩ := p
    have hr2 := ps_lt upF trF (by omega) _ m r2 hP
    rw [hP] at C1 HQ
    have HQ2 : Hid (loopF (PP (lv + 1)) lv r2.length (binT sg nT m) r2 = o) := HQ.out.symm
    have C1' : Calls Tryz.prog pf #[.pointer (some ⟨b, 0, none⟩)] w2.drew fun e w3 => ∃ es2, e = .returned (.agg es2) ∧ Hid (Sp W b r2 w2.drew w3) ∧ Hid (NK (fun i => w2.drew.heap.size ≤ i) w3 es2 m) ∧
      Hid ((Instr.buildSlice 65 2 #[(0, .agg es), (1, .agg es2)]).run Tryz.prog w3 = .ok (.slice (some ⟨w3.heap.size, 0, none⟩) 2 2) (w3.alloc (.cells (es.toList ++ es2.toList).toArray 67))) := C1.mono (by
     rintro e w3 ⟨es2, rfl, h1, h2⟩
     exact ⟨es2, rfl, h2, h1, two_slice HN.out h1⟩)
    clear C1 HQ hP
    refine wp_region_d (fun u => (Instr.loadAt 67 (.pointer (some ⟨g7, 0, none⟩))).run Tryz.prog u = .ok (.agg es) u) (fun j => j == 7) (by kernel_rfl) ?_
    refine dwp 0 (.string (ba sg)) (h := ?_)
    refine dwl 1 (.agg es) (hS := RLS.out) (hy := (fun u hSu => exec_load_run rfl rfl hSu)) (h := ?_)
    refine dwp 2 (.func (.func pf) #[] #[]) (h := ?_)
    refine dwp 3 (.pointer (some ⟨b, 0, none⟩)) (h := ?_)
    refine wpAnyD_one (i := 4) (by kernel_rfl) rfl ?_
    intro K hK
    go_simp
    refine C1'.mono ?_
    rintro e w3 ⟨es2, rfl, HS3, HM, RC⟩
    have H73 : w3.heap[g7]? = some (.cells es 67) := HS3.out.kept (w := w2.drew) H72 (by have := HLT.out; omega)
    have H03 : w3.heap[w.heap.size]? = some (.cells nd0 67) := HS3.out.kept (w := w2.drew) H02 (by omega)
    have hz3 : w2.heap.size ≤ w3.heap.size := HS3.out.2.size
    have RL3 : Hid ((Instr.loadAt 67 (.pointer (some ⟨g7, 0, none⟩))).run Tryz.prog w3 = .ok (.agg es) w3) := HN.out.lod H73
    refine hK _ _ (.inr fun _ => RL3.out) ?_
    clear hK C1'
    try simp only [Act.put, List.setIfInBounds_toArray, List.set_cons_zero, List.set_cons_succ]
    obtain ⟨w4, hw4⟩ : ∃ w4, w3.alloc (.cells (es.toList ++ es2.toList).toArray 67) = w4 := ⟨_, rfl⟩
    rw [hw4] at RC
    have H74 : w4.heap[g7]? = some (.cells es 67) := by rw [← hw4]; exact (Below.heap_alloc _ _ _ (lt_of H73)).trans H73
    have H04 : w4.heap[w.heap.size]? = some (.cells nd0 67) := by rw [← hw4]; exact (Below.heap_alloc _ _ _ (lt_of H03)).trans H03
    have H4 : w4.heap[w3.heap.size]? = some (.cells (es.toList ++ es2.toList).toArray 67) := by rw [← hw4]; exact heap_alloc_new _ _
    have hz4 : w4.heap.size = w3.heap.size + 1 := by rw [← hw4]; simp
    have B4 : Below w3.heap.size w3 w4 := by rw [← hw4]; exact bel_alloc (Below.refl _ _) _
    have RL4 : Hid ((Instr.loadAt 67 (.pointer (some ⟨g7, 0, none⟩))).run Tryz.prog w4 = .ok (.agg es) w4) := HN.out.lod H74
    have RB := build_lab w4 6 (ba sg) (some ⟨w3.heap.size, 0, none⟩) 2 2
    have RS := nd_sto H74 HN.out.size (lab0 6 (ba sg)) (some ⟨w3.heap.size, 0, none⟩) 2 2
    generalize hfs : lcs (lab0 6 (ba sg)) (.slice (some ⟨w3.heap.size, 0, none⟩) 2 2) = fs at *
    have G5 := setRow_grown w4 g7 fs
    have K4 : ∀ g, (some g7 : Option Nat) = some g → ¬ (fun i => w.heap.size < i ∧ i ≠ g7) g := fun g e hk => by cases e; exact hk.2 rfl
    have HA : NK (fun i => w.heap.size < i ∧ i ≠ g7) (w4.setRow g7 fs) es nT := (((HN2.out.grown HS3.out.2 (fun g e hk => by cases e; exact K1 _ hk rfl)).below B4).grown G5 K4)
    have HBm : NK (fun i => w.heap.size < i ∧ i ≠ g7) (w4.setRow g7 fs) es2 m := ((HM.out.mono (K' := fun i => w.heap.size < i ∧ i ≠ g7) (fun i hi _ => by
     have hi' : w2.heap.size ≤ i := hi
     have := HLT.out
     exact ⟨by omega, by omega⟩)).below B4).grown G5 K4
    have HN5 : Hid (NK (fun i => w.heap.size < i ∧ i ≠ g7) (w4.setRow g7 fs) fs (binT sg nT m)) := by
     have := HLT.out
     rw [← hfs] at HA HBm ⊢
     refine NK.newAt (g := w3.heap.size) ⟨by omega, by omega⟩ (k := 6) (s := ba sg) [(es, nT), (es2, m)] (fun x hx => ?_) (es := (es.toList ++ es2.toList).toArray) (z := (0, 0)) (o := 0) (((setRow_grown w4 g7 _).block _ (by omega) (by intro e; have := Option.some.inj e; omega)).trans H4) (fun j v hj => by simpa using hj) 2
     simp only [List.mem_cons, List.not_mem_nil, or_false] at hx
     rcases hx with rfl | rfl
     ·exact HA
     ·exact HBm
    have hzfs : fs.size = 18 := by rw [← hfs]; rfl
    have H75 : Hid ((w4.setRow g7 fs).heap[g7]? = some (.cells fs 67)) := setRow_heap _ _ _ _ _ _ H74
    have H05 : Hid ((w4.setRow g7 fs).heap[w.heap.size]? = some (.cells nd0 67)) := (G5.block _ (lt_of H04) (by intro e; have := Option.some.inj e; have := HLT.out; omega)).trans H04
    have HS5 : Hid (Sp W b r2 w (w4.setRow g7 fs)) := by
     have s1 : Sp W b r2 wr w3 := ⟨HS3.out.1, grown_trans HS2.out.2 (grown_trans (grown_below (Below.refl _ _).drew) HS3.out.2)⟩
     exact ((HS.out.step s1).bel B4).grown G5 (by have := HLT.out; omega) hb
    clear HA HBm G5 K4 hfs
    refine wpAnyD_one (i := 5) (by kernel_rfl) rfl ?_
    intro K hK
    rw [if_pos (by go_simp)]
    refine wp_bslice_run (some 25) rfl 65 2 _ rfl _ _ (by go_simp) RC.out (hK _ _ (.inr fun _ => RL4.out) ?_)
    clear hK
    try simp only [Act.put, List.setIfInBounds_toArray, List.set_cons_zero, List.set_cons_succ]
    refine wpAnyD_one (i := 6) (by kernel_rfl) rfl ?_
    intro K hK
    rw [if_pos (by go_simp)]
    refine wp_build_run (some 26) rfl 67 _ rfl _ _ (by go_simp) RB (hK _ _ (.inr id) ?_)
    clear hK
    try simp only [Act.put, List.setIfInBounds_toArray, List.set_cons_zero, List.set_cons_succ]
    refine wpAnyD_one (i := 7) (by kernel_rfl) rfl ?_
    intro K hK
    rw [if_pos (by go_simp)]
    refine wp_store_run none rfl 67 _ _ rfl _ _ rfl rfl RS.out (hK _ _ (.inl rfl) ?_)
    clear hK
    try simp only [Act.put, List.setIfInBounds_toArray, List.set_cons_zero, List.set_cons_succ]
    refine wpAnyD_done (by kernel_rfl) ?_ _
    go_wp2
    go_roundw
    case rel => exact ⟨binT sg nT m, r2, fs, HQ2, by omega, H75, HN5, HS5, H05⟩
    case measure => rw [HS5.out.1.left, hleft]; omega
  ·have HQ : Hid (o = some (nT, r)) := by show _ = _; rw [← HL.out]; exact loop_no hq _
   have hqi : (((strn (opOf r) : Nat) : Int) == ((lv : Nat) : Int)) = false := by simp; omega
   generalize strn (opOf r) = sv at *
   generalize ba (opOf r) = A at *
   have RL := HN.out.lod H7.out
   have RS := HN.out.sto H0.out rfl
   have HF : Hid (Sp W b r w (wr.setRow w.heap.size es)) := HS.out.grown (setRow_grown _ _ _) (Nat.le_refl _) hb
   have HNF : Hid (NK (fun i => w.heap.size ≤ i) (wr.setRow w.heap.size es) es nT) := (HN.out.grown (setRow_grown _ _ _) (fun g e hk => by cases e; have := hk.1; omega)).mono (fun i hi _ => by have := hi.1; omega)
   have hes := HN.out.size
   clear hq HL hleft
   go_wp2_with (first
    | (go_at_call 235; refine OP.mono ?_; rintro e w' ⟨rfl, hw⟩; obtain rfl := hw.symm; clear hw)
    | (go_at_call 169; refine (ST _).mono ?_; rintro e w' ⟨rfl, hw⟩; obtain rfl := hw.symm; clear hw)
    | (refine wpList_load_run rfl 67 _ rfl _ _ rfl RL.out ?_)
    | (refine wpList_store_run rfl 67 _ _ rfl _ _ _ rfl rfl RS.out ?_))
   refine bodyPost_ret (nd_res H0.out hes rfl rfl) rfl ?_
   rw [HQ.out]
   exact ⟨es, rfl, HNF.out, HF.out⟩
end Go.Proofs.YtnibldnfbikipaaGreatDoor
