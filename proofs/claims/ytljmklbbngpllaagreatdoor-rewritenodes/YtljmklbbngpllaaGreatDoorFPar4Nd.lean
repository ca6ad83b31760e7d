/- FPar2, FPar3, FStr, FPar4. -/
import Derived.Test.YtljmklbbngpllaaGreatDoorFPar1Nd
set_option linter.unusedVariables false
set_option linter.unusedSimpArgs false
set_option maxHeartbeats 16000000
set_option maxRecDepth 100000
namespace Go.Proofs.YtljmklbbngpllaaGreatDoor
open Go.RowKit Go.Fm
theorem take_nil {W w : World} {b : Nat} (X : PR W b [] w) : Calls Tryz.prog 157 #[.pointer (some ⟨b, 0, none⟩)] w fun e w' => e = .panicked bQ ∧ w.grownBy w' (some b) := by
 obtain ⟨v, hv, hs⟩ := X.blk
 obtain ⟨a, c, rfl⟩ := hs.slice
 have hc : (w.alloc (.cells tk0 123)).cell? ⟨b, 0, none⟩ = some (.slice a 0 c) := by rw [cell_of_row _ b 0 _ 99 (0, 0) ((Below.heap_alloc _ _ _ X.lt).trans hv)]; rfl
 go_enter Tryz.func157, Tryz.ntmps157
 go_wp2
 exact ⟨rfl, rfl, World.grownBy_alloc _ _ _⟩
theorem take_cons {W w : World} {b : Nat} {t : Tk.Tok} {L : List Tk.Tok} (X : PR W b (t :: L) w) (hn : L.length ≤ 255) : Calls Tryz.prog 157 #[.pointer (some ⟨b, 0, none⟩)] w fun e w' => e = .returned (.agg (tk t).cs) ∧ Sp W b L w w' := by
 obtain ⟨v, hv, hs⟩ := X.blk
 rw [List.map_cons] at hs
 obtain ⟨g, o, c, rfl, hlc, hcs, hts⟩ := hs.cons
 rw [List.length_map] at hv hlc hts
 have hb := X.lt
 have hc : ∀ u, Below w.heap.size w u → u.cell? ⟨b, 0, none⟩ = some (.slice (some ⟨g, o, none⟩) (L.length + 1) c) := fun u hu => by rw [cell_of_row u b 0 _ 99 (0, 0) ((hu.block _ hb).trans hv)]; rfl
 have hf : ∀ u, Below w.heap.size w u → u.frozen? ⟨b, 0, none⟩ = false := fun u hu => by unfold World.frozen?; rw [(hu.block _ hb).trans hv]; rfl
 have B1 : Below w.heap.size w (w.alloc (.cells tk0 123)) := aA (Below.refl _ _) _
 have RL : Hid ((Instr.loadAt 123 (.pointer (some ⟨g, o, none⟩))).run Tryz.prog (w.alloc (.cells tk0 123)) = .ok (.agg (tk t).cs) (w.alloc (.cells tk0 123))) :=
  run_loadAt_mid (P := Tryz.prog) _ g o 123 (tk t).cl _ (fun j x hx => bM (aG X.bel B1) (hcs j x hx)) Tryz.underlying123 rfl dI
 have hl : (((L.length : Int) + 1) == 0) = false := by simp; omega
 generalize htt : (tk t).cs = es at *
 have hes : es.size = 9 := by rw [← htt]; rfl
 have hone : es.all (·.oneCell') = true := by rw [← htt]; exact fF _ _ _ _ _ _ _ _ _
 obtain ⟨k, n, s, bk, h, r, cc, fr, fc, hE⟩ : ∃ k n s bk h r cc fr fc, es = tcs k n s bk h r cc fr fc := ⟨_, _, _, _, _, _, _, _, _, htt.symm⟩
 have B2 : Below w.heap.size w ((w.alloc (.cells tk0 123)).alloc (.cells (tcs k n s bk h r cc fr fc) 123)) := aA B1 _
 have hc1 := hc _ B1
 have hc2 := hc _ B2
 have hf2 := hf _ B2
 obtain ⟨A, hA⟩ : ∃ A, (if c = 1 then some (⟨g, o, none⟩ : Addr) else some ⟨g, o + 9, none⟩) = A := ⟨_, rfl⟩
 rw [hA] at hts
 obtain ⟨w3, hw3⟩ : ∃ w3, ((w.alloc (.cells tk0 123)).alloc (.cells (tcs k n s bk h r cc fr fc) 123)).setCell ⟨b, 0, none⟩ (.slice A L.length (c - 1)) = w3 := ⟨_, rfl⟩
 have G3 : ((w.alloc (.cells tk0 123)).alloc (.cells (tcs k n s bk h r cc fr fc) 123)).grownBy w3 (some b) := by rw [← hw3]; exact Lib.grownBy_setCell _ _ _ _
 have H3a : w3.heap[w.heap.size]? = some (.cells tk0 123) := (G3.block _ (by simp; omega) (by intro e; have := Option.some.inj e; omega)).trans ((Below.heap_alloc _ _ _ (by simp)).trans (heap_alloc_new w _))
 have H3b : w3.heap[w.heap.size + 1]? = some (.cells (tcs k n s bk h r cc fr fc) 123) := (G3.block _ (by simp) (by intro e; have := Option.some.inj e; omega)).trans (by
  have := heap_alloc_new (w.alloc (.cells tk0 123)) (.cells (tcs k n s bk h r cc fr fc) 123)
  simpa using this)
 have P3 : PR W b L w3 := by
  refine ⟨X.tab, ?_, X.lo, fun x hx => X.ok x (List.mem_cons_of_mem _ hx), _, ?_, hts⟩
  ·rw [← hw3]; exact (aG X.bel B2).setCell X.lo _
  ·rw [← hw3]
   have : ((w.alloc (.cells tk0 123)).alloc (.cells (tcs k n s bk h r cc fr fc) 123)).heap[b]? = some (aFl (.slice (some ⟨g, o, none⟩) (L.length + 1) c)) := (B2.block _ hb).trans hv
   simp [World.setCell, Array.getElem?_modify, this]
 have RL3 : Hid ((Instr.loadAt 123 (.pointer (some ⟨w.heap.size + 1, 0, none⟩))).run Tryz.prog w3 = .ok (.agg (tcs k n s bk h r cc fr fc)) w3) := lod H3b rfl Tryz.underlying123 dI
 have RS3 : Hid ((Instr.storeAt 123 (.pointer (some ⟨w.heap.size, 0, none⟩)) (.agg (tcs k n s bk h r cc fr fc))).run Tryz.prog w3 = .ok () (w3.setRow w.heap.size (tcs k n s bk h r cc fr fc))) := sto H3a dI rfl (fF k n s bk h r cc fr fc)
 have S3 : Sp W b L w w3 := ⟨P3, aM (aM (World.grownBy_alloc _ _ _) (World.grownBy_alloc _ _ _)) G3⟩
 have HF : Hid (Sp W b L w (w3.setRow w.heap.size (tcs k n s bk h r cc fr fc))) := S3.grown (aC _ _ _) (Nat.le_refl _) hb
 have HR : Hid ((w3.setRow w.heap.size (tcs k n s bk h r cc fr fc)).heap[w.heap.size]? = some (.cells (tcs k n s bk h r cc fr fc) 123)) := setRow_heap _ _ _ _ _ _ H3a
 rw [hE] at RL ⊢
 clear hE hone hes htt S3 P3 H3a H3b G3 hts hv hs hcs hc hf X B1 B2
 have hcl : L.length + 1 ≤ c := hlc
 have hci : (L.length : Int) + 1 ≤ c := by omega
 go_enter Tryz.func157, Tryz.ntmps157
 go_wp2_with (first
  | (refine aB rfl 123 _ rfl _ _ rfl RL.out ?_)
  | (refine aB rfl 123 _ rfl _ _ rfl RL3.out ?_)
  | (refine aD rfl 123 _ _ rfl _ _ _ rfl rfl RS3.out ?_))
 exact bodyPost_ret (results_cell_row rfl _ _ w.heap.size 123 _ (0, 0) _ rfl HR.out Tryz.underlying123 rfl dI) rfl ⟨rfl, HF.out⟩
theorem fH {W w : World} {b : Nat} {L : List Tk.Tok} (X : PR W b L w) (hn : L.length ≤ 256) (s : List UInt8) (h : bE L ≠ s) : Calls Tryz.prog 257 #[.pointer (some ⟨b, 0, none⟩), .string (ba s)] w fun e w' => e = .returned (.bool false) ∧ w' = w := by
 have O := aA3 X hn
 have hne : ((ba (bE L)).toList == (ba s).toList) = false := by
  rw [ByteArray.toList_eq, ByteArray.toList_eq]
  simpa using h
 generalize ba (bE L) = A at *
 generalize ba s = S at *
 clear h X
 go_enter Tryz.func257, Tryz.ntmps257
 go_wp2_with (go_at_call 156; refine O.mono ?_; rintro e w' ⟨rfl, hw⟩; obtain rfl := hw.symm; clear hw)
 go_ret
 exact ⟨rfl, rfl⟩
theorem dR {W w : World} {b : Nat} {L : List Tk.Tok} (X : PR W b L w) (hn : L.length ≤ 256) (s : List UInt8) (hs : s ≠ []) (h : bE L = s) : Calls Tryz.prog 257 #[.pointer (some ⟨b, 0, none⟩), .string (ba s)] w fun e w' => e = .returned (.bool true) ∧ Sp W b L.tail w w' := by
 have O := aA3 X hn
 obtain ⟨h1, h2⟩ := bA (ts := L) h hs
 have TK : Calls Tryz.prog 157 #[.pointer (some ⟨b, 0, none⟩)] w fun e w' => e = .returned (.agg (tk (Tk.Tok.op s)).cs) ∧ Sp W b L.tail w w' := by
  rw [h2] at X
  exact take_cons X (by omega)
 rw [h] at O
 generalize (tk (Tk.Tok.op s)).cs = es at *
 generalize ba s = S at *
 clear h h2 X h1
 go_enter Tryz.func257, Tryz.ntmps257
 go_wp2_with (first
  | (go_at_call 156; refine O.mono ?_; rintro e w' ⟨rfl, hw⟩; obtain rfl := hw.symm; clear hw)
  | (go_at_call 157; refine TK.mono ?_; rintro e w1 ⟨rfl, hw⟩; have HS : Hid (Sp W b L.tail w w1) := hw; clear hw))
 go_ret
 exact ⟨rfl, HS.out⟩
theorem aB9 {W w : World} {b : Nat} {L : List Tk.Tok} (X : PR W b L w) (hn : L.length ≤ 256) (s : List UInt8) (h : bE L ≠ s) : Calls Tryz.prog 277 #[.pointer (some ⟨b, 0, none⟩), .string (ba s)] w fun e w' => e = .panicked bQ ∧ w' = w := by
 have O := fH X hn s h
 generalize ba s = S at *
 clear h X
 go_enter Tryz.func277, Tryz.ntmps277
 go_wp2_with (go_at_call 257; refine O.mono ?_; rintro e w' ⟨rfl, hw⟩; obtain rfl := hw.symm; clear hw)
 exact ⟨rfl, rfl, rfl⟩
theorem zP {W w : World} {b : Nat} {L : List Tk.Tok} (X : PR W b L w) (hn : L.length ≤ 256) (s : List UInt8) (hs : s ≠ []) (h : bE L = s) : Calls Tryz.prog 277 #[.pointer (some ⟨b, 0, none⟩), .string (ba s)] w fun e w' => e = .returned (.tuple #[]) ∧ Sp W b L.tail w w' := by
 have O := dR X hn s hs h
 generalize ba s = S at *
 clear h X
 go_enter Tryz.func277, Tryz.ntmps277
 go_wp2_with (go_at_call 257; refine O.mono ?_; rintro e w1 ⟨rfl, hw⟩; have HS : Hid (Sp W b L.tail w w1) := hw; clear hw)
 go_end0
 exact ⟨rfl, HS.out⟩
theorem uM (w : World) (k : Int) (s : ByteArray) (p : Option Addr) (n c : Nat) : (Instr.build 28 #[(0, .int .i64 k), (1, .string s), (5, .slice p n c)]).run Tryz.prog w = .ok (.agg (lcs (eF k s) (.slice p n c))) w := by kernel_rfl
theorem aC5 (w : World) (k n : Int) (s : ByteArray) : (Instr.build 28 #[(0, .int .i64 1), (2, .agg #[.int .i64 k, .int .i64 n, .string s])]).run Tryz.prog w = .ok (.agg (lcs (iH k n s) (.slice none 0 0))) w := by kernel_rfl
theorem iO (w : World) (a : Lab) (p : Option Addr) (n c : Nat) : (Instr.buildSlice 26 1 #[(0, .agg (lcs a (.slice p n c)))]).run Tryz.prog w = .ok (.slice (some ⟨w.heap.size, 0, none⟩) 1 1) (w.alloc (.cells (lcs a (.slice p n c)) 28)) := by kernel_rfl
theorem aC6 (w : World) (a a' : Lab) (p p' : Option Addr) (n c n' c' : Nat) : (Instr.buildSlice 26 2 #[(0, .agg (lcs a (.slice p n c))), (1, .agg (lcs a' (.slice p' n' c')))]).run Tryz.prog w = .ok (.slice (some ⟨w.heap.size, 0, none⟩) 2 2) (w.alloc (.cells (lcl a (.slice p n c) ++ lcl a' (.slice p' n' c')).toArray 28)) := by kernel_rfl
theorem aX {P : Program} {ops : Array Oper} {rest : List Oper} {o : Oper} {a : Act} {w : World} {Q : Exit → Act → World → Prop} (hgd : o.guard = none) (ty : TypeId) (xs : Array (Nat × Operand)) (ho : o.op = .build ty xs)
  (ps : Array (Nat × Value)) (v : Value) (hx : (xs.map fun (i, x) => (i, a.eval x)) = ps) (hrun : (Instr.build ty ps).run P w = .ok v w) (h : wpList P ops Q rest (a.put o.dst v) w) : wpList P ops Q (o :: rest) a w := by
 refine wpList_plain hgd fun K hK => ?_
 unfold Oper.wp execOp
 simp only [ho, hx, Sem.run_bind, Sem.run_pure, hrun, Result.andThen_ok]
 exact hK _ _ h
theorem aT {P : Program} {ops : Array Oper} {rest : List Oper} {o : Oper} {a : Act} {w : World} {Q : Exit → Act → World → Prop} (hgd : o.guard = none) (ty : TypeId) (len : Nat) (xs : Array (Nat × Operand)) (ho : o.op = .buildSlice ty len xs)
  (ps : Array (Nat × Value)) (v : Value) (w' : World) (hx : (xs.map fun (i, x) => (i, a.eval x)) = ps) (hrun : (Instr.buildSlice ty len ps).run P w = .ok v w') (h : wpList P ops Q rest (a.put o.dst v) w') : wpList P ops Q (o :: rest) a w := by
 refine wpList_plain hgd fun K hK => ?_
 unfold Oper.wp execOp
 simp only [ho, hx, Sem.run_bind, Sem.run_pure, hrun, Result.andThen_ok]
 exact hK _ _ h
theorem jC {u : World} {g : Nat} {zs : Array Value} (hg : u.heap[g]? = some (.cells zs 28)) (hz : zs.size = 18) (a : Lab) (p : Option Addr) (n c : Nat) :
  Hid ((Instr.storeAt 28 (.pointer (some ⟨g, 0, none⟩)) (.agg (lcs a (.slice p n c)))).run Tryz.prog u = .ok () (u.setRow g (lcs a (.slice p n c)))) :=
 sto hg (by rw [aV]; exact bS) hz (iC _ _ _ _)
theorem bP {u : World} {g : Nat} {zs es : Array Value} (hg : u.heap[g]? = some (.cells zs 28)) (he : es.size = 18) {fn : Func} {i : Tmp} (hr : fn.results = #[.cell i 28]) {tmps : Array Value} (hp : tmps.getD i undef = .pointer (some ⟨g, 0, none⟩)) :
  (results fn tmps).run Tryz.prog (u.setRow g es) = .ok (.agg es) (u.setRow g es) :=
 results_cell_row hr _ _ g 28 _ (0, 0) _ hp (setRow_heap _ _ _ _ _ _ hg) Tryz.underlying28 rfl (by rw [he]; exact bS)
def InK (K : Nat → Prop) (w : World) : Addr → F → Prop
 | _, .nil => True
 | a, .node _ _ l f r => (∃ p n c, K a.block ∧ (∀ j v, (lcl l (.slice p n c))[j]? = some v → w.cell? (a.add j) = some v) ∧ n = (kids f).length ∧ (f = .nil ∨ ∃ a', p = some a' ∧ InK K w a' f)) ∧ InK K w (a.add 18) r
def NK (K : Nat → Prop) (w : World) (es : Array Value) (t : T) : Prop := ∃ p n c, es = lcs t.1 (.slice p n c) ∧ n = (kids t.2).length ∧ (t.2 = .nil ∨ ∃ a, p = some a ∧ InK K w a t.2)
theorem InK.inf {K : Nat → Prop} : ∀ {f : F} {w : World} {a : Addr}, InK K w a f → InF w a f := by
 intro f
 induction f with
 | nil => intro w a _; trivial
 | node b o l f r ihf ihr =>
  intro w a h
  obtain ⟨⟨p, n, c, h0, h1, h2, h3⟩, h4⟩ := h
  exact ⟨⟨p, n, c, h1, h2, h3.imp id fun ⟨a', e, hi⟩ => ⟨a', e, ihf hi⟩⟩, ihr h4⟩
theorem NK.nt {K : Nat → Prop} {w : World} {es : Array Value} {t : T} (h : NK K w es t) : NT w es t := by
 obtain ⟨p, n, c, e, h1, h2⟩ := h
 exact ⟨p, n, c, e, h1, h2.imp id fun ⟨a, e, hi⟩ => ⟨a, e, hi.inf⟩⟩
theorem InK.mono {K K' : Nat → Prop} : ∀ {f : F} {w : World} {a : Addr}, InK K w a f → (∀ i, K i → i < w.heap.size → K' i) → InK K' w a f := by
 intro f
 induction f with
 | nil => intro w a _ _; trivial
 | node b o l f r ihf ihr =>
  intro w a h hK
  obtain ⟨⟨p, n, c, h0, h1, h2, h3⟩, h4⟩ := h
  have hlt : a.block < w.heap.size := by
   have := World.block_lt_of_cell? w (a.add 0) (h1 0 _ rfl)
   rwa [show (a.add 0).block = a.block by unfold Addr.add; split <;> rfl] at this
  exact ⟨⟨p, n, c, hK _ h0 hlt, h1, h2, h3.imp id fun ⟨a', e, hi⟩ => ⟨a', e, ihf hi hK⟩⟩, ihr h4 hK⟩
theorem NK.mono {K K' : Nat → Prop} {w : World} {es : Array Value} {t : T} (h : NK K w es t) (hK : ∀ i, K i → i < w.heap.size → K' i) : NK K' w es t := by
 obtain ⟨p, n, c, e, h1, h2⟩ := h
 exact ⟨p, n, c, e, h1, h2.imp id fun ⟨a, e, hi⟩ => ⟨a, e, hi.mono hK⟩⟩
theorem InK.grown {K : Nat → Prop} : ∀ {f : F} {w w' : World} {a : Addr} {row : Option Nat}, InK K w a f → w.grownBy w' row → (∀ g, row = some g → ¬ K g) → InK K w' a f := by
 intro f
 induction f with
 | nil => intro w w' a row _ _ _; trivial
 | node b o l f r ihf ihr =>
  intro w w' a row h hg hr
  obtain ⟨⟨p, n, c, h0, h1, h2, h3⟩, h4⟩ := h
  have hc : ∀ j x, w.cell? (a.add j) = some x → w'.cell? (a.add j) = some x := fun j x hx => by
   have hlt := World.block_lt_of_cell? w _ hx
   refine (World.cell?_of_block (hg.block _ hlt ?_)).trans hx
   rw [show (a.add j).block = a.block by unfold Addr.add; split <;> rfl]
   intro e; exact hr _ e.symm h0
  exact ⟨⟨p, n, c, h0, fun j x hj => hc j x (h1 j x hj), h2, h3.imp id fun ⟨a', e, hi⟩ => ⟨a', e, ihf hi hg hr⟩⟩, ihr h4 hg hr⟩
theorem NK.grown {K : Nat → Prop} {w w' : World} {es : Array Value} {t : T} {row : Option Nat} (h : NK K w es t) (hg : w.grownBy w' row) (hr : ∀ g, row = some g → ¬ K g) : NK K w' es t := by
 obtain ⟨p, n, c, e, h1, h2⟩ := h
 exact ⟨p, n, c, e, h1, h2.imp id fun ⟨a, e, hi⟩ => ⟨a, e, hi.grown hg hr⟩⟩
theorem NK.below {K : Nat → Prop} {w w' : World} {es : Array Value} {t : T} (h : NK K w es t) (hb : Below w.heap.size w w') : NK K w' es t := h.grown (aZ (row := none) hb) (fun g e => by cases e)
theorem InK.row {K : Nat → Prop} {u : World} {g : Nat} (hK : K g) : ∀ (l : List (Array Value × T)) (o : Nat), (∀ x ∈ l, NK K u x.1 x.2) → (∀ j v, (l.flatMap (·.1.toList))[j]? = some v → u.cell? ⟨g, o + j, none⟩ = some v) → InK K u ⟨g, o, none⟩ (mk (l.map (·.2)))
 | [], o, _, _ => trivial
 | x :: l, o, h1, h2 => by
  obtain ⟨p, n, c, e, hs⟩ := h1 x (by simp)
  have hadd : ∀ k, (⟨g, o, none⟩ : Addr).add k = ⟨g, o + k, none⟩ := fun k => by unfold Addr.add; split <;> simp_all
  have hlen : x.1.toList.length = 18 := by rw [e]; rfl
  rw [List.flatMap_cons] at h2
  refine ⟨⟨p, n, c, hK, fun j v hj => ?_, hs.1, hs.2⟩, ?_⟩
  ·rw [hadd]
   refine h2 j v ?_
   have hjl : j < x.1.toList.length := by rw [hlen]; exact (List.getElem?_eq_some_iff.1 hj).1
   rw [List.getElem?_append_left hjl, e]
   exact hj
  ·rw [hadd]
   refine InK.row hK l (o + 18) (fun y hy => h1 y (by simp [hy])) (fun j v hj => ?_)
   have := h2 (18 + j) v (by rw [List.getElem?_append_right (by omega), hlen, Nat.add_sub_cancel_left]; exact hj)
   rw [Nat.add_assoc]; exact this
theorem NK.newAt {K : Nat → Prop} {u : World} {g : Nat} (hK : K g) {k : Int} {s : ByteArray} (l : List (Array Value × T)) (h : ∀ x ∈ l, NK K u x.1 x.2) {es : Array Value} {z : Nat × Nat} (hg : u.heap[g]? = some (.cells es 28 z)) {o : Nat} (he : ∀ j v, (l.flatMap (·.1.toList))[j]? = some v → es[o + j]? = some v) (c : Nat) :
  NK K u (lcs (eF k s) (.slice (some ⟨g, o, none⟩) l.length c)) (tree (eF k s) (l.map (·.2))) := by
 refine ⟨_, _, _, rfl, ?_, .inr ⟨_, rfl, InK.row hK l o h (fun j v hj => ?_)⟩⟩
 ·show l.length = (kids (mk (l.map (·.2)))).length
  rw [kR, List.length_map]
 ·rw [cell_of_row _ _ _ es 28 z hg]
  exact he j v hj
theorem NK.leaf {K : Nat → Prop} {w : World} {a : Lab} : NK K w (lcs a (.slice none 0 0)) (tree a []) := ⟨_, _, _, rfl, rfl, .inl rfl⟩
theorem NK.size {K : Nat → Prop} {w : World} {es : Array Value} {t : T} (h : NK K w es t) : es.size = 18 := by obtain ⟨p, n, c, e, _⟩ := h; rw [e]; rfl
theorem NK.one {K : Nat → Prop} {w : World} {es : Array Value} {t : T} (h : NK K w es t) : es.all (·.oneCell') = true := by obtain ⟨p, n, c, e, _⟩ := h; rw [e]; exact iC _ _ _ _
theorem NK.sto {K : Nat → Prop} {w u : World} {es : Array Value} {t : T} (h : NK K w es t) {g : Nat} {zs : Array Value} (hg : u.heap[g]? = some (.cells zs 28)) (hz : zs.size = 18) :
  Hid ((Instr.storeAt 28 (.pointer (some ⟨g, 0, none⟩)) (.agg es)).run Tryz.prog u = .ok () (u.setRow g es)) := YtljmklbbngpllaaGreatDoor.sto hg (by rw [h.size]; exact bS) (by rw [h.size]; exact hz) h.one
theorem NK.lod {K : Nat → Prop} {w u : World} {es : Array Value} {t : T} (h : NK K w es t) {g : Nat} (hg : u.heap[g]? = some (.cells es 28)) :
  Hid ((Instr.loadAt 28 (.pointer (some ⟨g, 0, none⟩))).run Tryz.prog u = .ok (.agg es) u) := YtljmklbbngpllaaGreatDoor.lod (z := (0, 0)) hg rfl Tryz.underlying28 (by rw [h.size]; exact bS)
theorem iP (k n : Int) (s : ByteArray) (w : World) : Calls Tryz.prog 278 #[.agg #[.int .i64 k, .int .i64 n, .string s]] w fun e w' => e = .returned (.agg (lcs (iH k n s) (.slice none 0 0))) ∧ Below w.heap.size w w' := by
 obtain ⟨w2, hw2⟩ : ∃ w2, (w.alloc (.cells #[.int .i64 k, .int .i64 n, .string s] 23)).alloc (.cells nd0 28) = w2 := ⟨_, rfl⟩
 have H2 : w2.heap[w.heap.size + 1]? = some (.cells nd0 28) := by
  rw [← hw2]
  have := heap_alloc_new (w.alloc (.cells #[.int .i64 k, .int .i64 n, .string s] 23)) (.cells nd0 28)
  simpa using this
 have H1 : w2.heap[w.heap.size]? = some (.cells #[.int .i64 k, .int .i64 n, .string s] 23) := by
  rw [← hw2]; exact (Below.heap_alloc _ _ _ (by simp)).trans (heap_alloc_new w _)
 have HB : Hid (Below w.heap.size w w2) := by show Below _ _ _; rw [← hw2]; exact aA (aA (Below.refl _ _) _) _
 have RL : Hid ((Instr.loadAt 23 (.pointer (some ⟨w.heap.size, 0, none⟩))).run Tryz.prog w2 = .ok (.agg #[.int .i64 k, .int .i64 n, .string s]) w2) := lod H1 rfl Tryz.underlying23 (by kernel_rfl)
 have RB : Hid _ := aC5 w2 k n s
 have RS := jC H2 rfl (iH k n s) none 0 0
 have HR : Hid (w2.heap[w.heap.size + 1]? = some (.cells nd0 28)) := H2
 have HF : Hid (Below w.heap.size w (w2.setRow (w.heap.size + 1) (lcs (iH k n s) (.slice none 0 0)))) := HB.out.grown (aC _ _ _) HB.out.size (fun j e => by cases e; omega)
 clear H1 H2 HB
 have hes := aV (iH k n s) (.slice none 0 0)
 go_enter Tryz.func278, Tryz.ntmps278
 go_wp2_with (first
  | (refine aB rfl 23 _ rfl _ _ rfl RL.out ?_)
  | (refine aX rfl 28 _ rfl _ _ rfl RB.out ?_)
  | (refine aD rfl 28 _ _ rfl _ _ _ rfl rfl RS.out ?_))
 exact bodyPost_ret (bP HR.out hes rfl rfl) rfl ⟨rfl, HF.out⟩
theorem fB {s x : List UInt8} (h : s ≠ x) : ((ba s).toList == x) = false := by
  rw [ByteArray.toList_eq]
  simpa using h
theorem aA4 (s : List UInt8) : (s = [61] ∨ s = [60, 62] ∨ s = [60] ∨ s = [60, 61] ∨ s = [62] ∨ s = [62, 61] ∨ s = [38] ∨ s = [43] ∨ s = [45] ∨ s = [42] ∨ s = [47] ∨ s = [94]) ∨
    (bY s = 0 ∧ s ≠ [61] ∧ s ≠ [60, 62] ∧ s ≠ [60] ∧ s ≠ [60, 61] ∧ s ≠ [62] ∧ s ≠ [62, 61] ∧ s ≠ [38] ∧ s ≠ [43] ∧ s ≠ [45] ∧ s ≠ [42] ∧ s ≠ [47] ∧ s ≠ [94]) := by
  by_cases h : s = [61] ∨ s = [60, 62] ∨ s = [60] ∨ s = [60, 61] ∨ s = [62] ∨ s = [62, 61] ∨ s = [38] ∨ s = [43] ∨ s = [45] ∨ s = [42] ∨ s = [47] ∨ s = [94]
  · exact .inl h
  · simp only [not_or] at h
    obtain ⟨h1, h2, h3, h4, h5, h6, h7, h8, h9, h10, h11, h12⟩ := h
    refine .inr ⟨?_, h1, h2, h3, h4, h5, h6, h7, h8, h9, h10, h11, h12⟩
    unfold bY
    simp [h1, h2, h3, h4, h5, h6, h7, h8, h9, h10, h11, h12]
theorem nH (s : List UInt8) (w : World) : Calls Tryz.prog 127 #[.string (ba s)] w fun e w' => e = .returned (.int .i64 (bY s : Nat)) ∧ w' = w := by
  rcases aA4 s with h | ⟨h0, h1, h2, h3, h4, h5, h6, h7, h8, h9, h10, h11, h12⟩
  · rcases h with rfl | rfl | rfl | rfl | rfl | rfl | rfl | rfl | rfl | rfl | rfl | rfl <;>
      (go_enter Tryz.func127, Tryz.ntmps127
       go_wp2
       go_ret
       exact ⟨rfl, rfl⟩)
  · rw [h0]
    have k1 := fB h1
    have k2 := fB h2
    have k3 := fB h3
    have k4 := fB h4
    have k5 := fB h5
    have k6 := fB h6
    have k7 := fB h7
    have k8 := fB h8
    have k9 := fB h9
    have k10 := fB h10
    have k11 := fB h11
    have k12 := fB h12
    clear h0 h1 h2 h3 h4 h5 h6 h7 h8 h9 h10 h11 h12
    generalize ba s = S at *
    go_enter Tryz.func127, Tryz.ntmps127
    go_wp2
    go_ret
    exact ⟨rfl, rfl⟩
theorem uN (s : List UInt8) {w : World} {K : Nat → Prop} {es : Array Value} {t : T} (h : NK K w es t) : Calls Tryz.prog 258 #[.string (ba s), .agg es] w fun e w' => ∃ fs, e = .returned (.agg fs) ∧ NK (fun i => K i ∨ w.heap.size ≤ i) w' fs (unT s t) ∧ Below w.heap.size w w' := by
 obtain ⟨w2, hw2⟩ : ∃ w2, (w.alloc (.cells es 28)).alloc (.cells nd0 28) = w2 := ⟨_, rfl⟩
 have H2 : w2.heap[w.heap.size + 1]? = some (.cells nd0 28) := by
  rw [← hw2]
  have := heap_alloc_new (w.alloc (.cells es 28)) (.cells nd0 28)
  simpa using this
 have H1 : w2.heap[w.heap.size]? = some (.cells es 28) := by
  rw [← hw2]; exact (Below.heap_alloc _ _ _ (by simp)).trans (heap_alloc_new w _)
 have hz : w2.heap.size = w.heap.size + 2 := by rw [← hw2]; simp
 have HB : Below w.heap.size w w2 := by rw [← hw2]; exact aA (aA (Below.refl _ _) _) _
 have hes : es.size = 18 := by obtain ⟨p, n, c, e, _⟩ := h; rw [e]; rfl
 have RL : Hid ((Instr.loadAt 28 (.pointer (some ⟨w.heap.size, 0, none⟩))).run Tryz.prog w2 = .ok (.agg es) w2) := lod H1 rfl Tryz.underlying28 (by rw [hes]; exact bS)
 have RC : Hid ((Instr.buildSlice 26 1 #[(0, .agg es)]).run Tryz.prog w2 = .ok (.slice (some ⟨w.heap.size + 2, 0, none⟩) 1 1) (w2.alloc (.cells es 28))) := by
  obtain ⟨p, n, c, e, _⟩ := h
  show _ = _
  rw [e, iO, hz]
 have H3 : (w2.alloc (.cells es 28)).heap[w.heap.size + 1]? = some (.cells nd0 28) := (Below.heap_alloc _ _ _ (by omega)).trans H2
 have RS := jC H3 rfl (eF 5 (ba s)) (some ⟨w.heap.size + 2, 0, none⟩) 1 1
 have HR : Hid ((w2.alloc (.cells es 28)).heap[w.heap.size + 1]? = some (.cells nd0 28)) := H3
 have HB3 : Below w.heap.size w (w2.alloc (.cells es 28)) := aA HB _
 have HF : Hid (Below w.heap.size w ((w2.alloc (.cells es 28)).setRow (w.heap.size + 1) (lcs (eF 5 (ba s)) (.slice (some ⟨w.heap.size + 2, 0, none⟩) 1 1)))) := HB3.grown (aC _ _ _) HB3.size (fun j e => by cases e; omega)
 have HN : Hid (NK (fun i => K i ∨ w.heap.size ≤ i) ((w2.alloc (.cells es 28)).setRow (w.heap.size + 1) (lcs (eF 5 (ba s)) (.slice (some ⟨w.heap.size + 2, 0, none⟩) 1 1))) (lcs (eF 5 (ba s)) (.slice (some ⟨w.heap.size + 2, 0, none⟩) 1 1)) (unT s t)) := by
  refine NK.newAt (.inr (by omega)) (k := 5) (s := ba s) [(es, t)] (fun x hx => ?_) (g := w.heap.size + 2) (es := es) (z := (0, 0)) (o := 0) ?_ (fun j v hj => by simpa using hj) 1
  ·simp only [List.mem_cons, List.not_mem_nil, or_false] at hx
   subst hx; exact (h.below HF.out).mono (fun i hi _ => .inl hi)
  ·refine ((aC _ _ _).block _ (by simp [hz]) (by simp)).trans ?_
   have := heap_alloc_new w2 (.cells es 28)
   rw [hz] at this; exact this
 have RB : Hid _ := uM (w2.alloc (.cells es 28)) 5 (ba s) (some ⟨w.heap.size + 2, 0, none⟩) 1 1
 have hfs := aV (eF 5 (ba s)) (.slice (some ⟨w.heap.size + 2, 0, none⟩) 1 1)
 clear H1 H2 HB h H3 HB3
 go_enter Tryz.func258, Tryz.ntmps258
 go_wp2_with (first
  | (refine aB rfl 28 _ rfl _ _ rfl RL.out ?_)
  | (refine aT rfl 26 1 _ rfl _ _ _ (by go_simp) RC.out ?_)
  | (refine aX rfl 28 _ rfl _ _ (by go_simp) RB.out ?_)
  | (refine aD rfl 28 _ _ rfl _ _ _ rfl rfl RS.out ?_))
 exact bodyPost_ret (bP HR.out hfs rfl rfl) rfl ⟨_, rfl, HN.out, HF.out⟩
end Go.Proofs.YtljmklbbngpllaaGreatDoor
