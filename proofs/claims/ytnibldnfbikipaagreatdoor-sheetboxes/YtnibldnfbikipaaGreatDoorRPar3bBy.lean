/- RPar1, RPar2, RPar3b. -/
import Derived.Test.YtnibldnfbikipaaGreatDoorFAllBy
set_option linter.unusedVariables false
set_option linter.unusedSimpArgs false
set_option maxHeartbeats 16000000
set_option maxRecDepth 100000
namespace Go.Proofs.YtnibldnfbikipaaGreatDoor
open Go.RowKit Go.Fm
abbrev rpO (v : Value) (x : Bool) : Obj := .cells #[v, .bool x] 145
structure QR (W : World) (b : Nat) (L : List Tk.Tok) (w : World) : Prop where
 tab : Tab9 W
 bel : Below W.heap.size W w
 lo : W.heap.size ≤ b
 ok : OkL L
 blk : ∃ v, w.heap[b]? = some (rpO v false) ∧ TS W v (L.map tk)
structure QW (W : World) (b : Nat) (w : World) : Prop where
 tab : Tab9 W
 bel : Below W.heap.size W w
 lo : W.heap.size ≤ b
 blk : w.heap[b]? = some (rpO (.slice none 0 0) true)
structure QB (W : World) (b : Nat) (w : World) : Prop where
 tab : Tab9 W
 bel : Below W.heap.size W w
 lo : W.heap.size ≤ b
 blk : ∃ v x, w.heap[b]? = some (rpO v x)
theorem QR.b {W w : World} {b : Nat} {L : List Tk.Tok} (h : QR W b L w) : QB W b w := by obtain ⟨v, h1, _⟩ := h.blk; exact ⟨h.tab, h.bel, h.lo, _, _, h1⟩
theorem QW.b {W w : World} {b : Nat} (h : QW W b w) : QB W b w := ⟨h.tab, h.bel, h.lo, _, _, h.blk⟩
theorem QB.lt {W w : World} {b : Nat} (h : QB W b w) : b < w.heap.size := by obtain ⟨v, x, h1⟩ := h.blk; exact lt_of h1
theorem QR.lt {W w : World} {b : Nat} {L : List Tk.Tok} (h : QR W b L w) : b < w.heap.size := h.b.lt
theorem QW.lt {W w : World} {b : Nat} (h : QW W b w) : b < w.heap.size := h.b.lt
theorem QR.grown {W w w' : World} {b : Nat} {L : List Tk.Tok} (h : QR W b L w) {row : Option Nat} (hg : w.grownBy w' row) (hr : ∀ k, row = some k → W.heap.size ≤ k ∧ k ≠ b) : QR W b L w' := by
 obtain ⟨v, h1, h2⟩ := h.blk
 exact ⟨h.tab, h.bel.grown hg h.bel.size (fun k hk => (hr k hk).1), h.lo, h.ok, v, (hg.block b h.lt (fun e => (hr b e.symm).2 rfl)).trans h1, h2⟩
theorem QW.grown {W w w' : World} {b : Nat} (h : QW W b w) {row : Option Nat} (hg : w.grownBy w' row) (hr : ∀ k, row = some k → W.heap.size ≤ k ∧ k ≠ b) : QW W b w' :=
 ⟨h.tab, h.bel.grown hg h.bel.size (fun k hk => (hr k hk).1), h.lo, (hg.block b h.lt (fun e => (hr b e.symm).2 rfl)).trans h.blk⟩
theorem QR.below {W w w' : World} {b : Nat} {L : List Tk.Tok} (h : QR W b L w) (hb : Below w.heap.size w w') : QR W b L w' := h.grown (grown_below (row := none) hb) (fun k e => by cases e)
theorem QW.below {W w w' : World} {b : Nat} (h : QW W b w) (hb : Below w.heap.size w w') : QW W b w' := h.grown (grown_below (row := none) hb) (fun k e => by cases e)
theorem QR.alloc {W w : World} {b : Nat} {L : List Tk.Tok} (h : QR W b L w) (o : Obj) : QR W b L (w.alloc o) := h.below (bel_alloc (Below.refl _ _) o)
theorem QR.drew {W w : World} {b : Nat} {L : List Tk.Tok} (h : QR W b L w) : QR W b L w.drew := h.below (Below.refl _ _).drew
def Sq (W : World) (b : Nat) (L : List Tk.Tok) (w w' : World) : Prop := QR W b L w' ∧ w.grownBy w' (some b)
def Sw (W : World) (b : Nat) (w w' : World) : Prop := QW W b w' ∧ w.grownBy w' (some b)
theorem Sq.step {W w w1 w2 : World} {b : Nat} {L M : List Tk.Tok} (h : Sq W b L w w1) (k : Sq W b M w1 w2) : Sq W b M w w2 := ⟨k.1, grown_trans h.2 k.2⟩
theorem Sq.bad {W w w1 w2 : World} {b : Nat} {L : List Tk.Tok} (h : Sq W b L w w1) (k : Sw W b w1 w2) : Sw W b w w2 := ⟨k.1, grown_trans h.2 k.2⟩
theorem Sw.step {W w w1 w2 : World} {b : Nat} (h : Sw W b w w1) (k : Sw W b w1 w2) : Sw W b w w2 := ⟨k.1, grown_trans h.2 k.2⟩
theorem Sq.refl {W w : World} {b : Nat} {L : List Tk.Tok} (h : QR W b L w) : Sq W b L w w := ⟨h, World.grownBy.refl _ _⟩
theorem Sq.bel {W w w1 w2 : World} {b : Nat} {L : List Tk.Tok} (h : Sq W b L w w1) (hb : Below w1.heap.size w1 w2) : Sq W b L w w2 := ⟨h.1.below hb, grown_trans h.2 (grown_below hb)⟩
theorem Sw.bel {W w w1 w2 : World} {b : Nat} (h : Sw W b w w1) (hb : Below w1.heap.size w1 w2) : Sw W b w w2 := ⟨h.1.below hb, grown_trans h.2 (grown_below hb)⟩
theorem Sq.alloc {W w w1 : World} {b : Nat} {L : List Tk.Tok} (h : Sq W b L w w1) (o : Obj) : Sq W b L w (w1.alloc o) := h.bel (bel_alloc (Below.refl _ _) o)
theorem Sw.alloc {W w w1 : World} {b : Nat} (h : Sw W b w w1) (o : Obj) : Sw W b w (w1.alloc o) := h.bel (bel_alloc (Below.refl _ _) o)
theorem Sq.unalloc {W w w1 : World} {b : Nat} {L : List Tk.Tok} {o : Obj} (h : Sq W b L (w.alloc o) w1) : Sq W b L w w1 := ⟨h.1, grown_trans (World.grownBy_alloc w o _) h.2⟩
theorem Sw.unalloc {W w w1 : World} {b : Nat} {o : Obj} (h : Sw W b (w.alloc o) w1) : Sw W b w w1 := ⟨h.1, grown_trans (World.grownBy_alloc w o _) h.2⟩
theorem Sq.kept {W w w1 : World} {b : Nat} {L : List Tk.Tok} (h : Sq W b L w w1) {i : Nat} {o : Obj} (hi : w.heap[i]? = some o) (hb : i ≠ b) : w1.heap[i]? = some o :=
 (h.2.block i (lt_of hi) (fun e => hb (Option.some.inj e))).trans hi
theorem Sw.kept {W w w1 : World} {b : Nat} (h : Sw W b w w1) {i : Nat} {o : Obj} (hi : w.heap[i]? = some o) (hb : i ≠ b) : w1.heap[i]? = some o :=
 (h.2.block i (lt_of hi) (fun e => hb (Option.some.inj e))).trans hi
theorem Sq.grown {W w w1 w2 : World} {b g : Nat} {L : List Tk.Tok} (h : Sq W b L w w1) (hg : w1.grownBy w2 (some g)) (h1 : w.heap.size ≤ g) (h2 : b < w.heap.size) : Sq W b L w w2 :=
 ⟨h.1.grown hg (fun k hk => by cases hk; exact ⟨by have := h.1.lo; omega, by omega⟩), World.grownBy.andThen h.2 hg (fun j hj => by cases hj; exact .inl h1)⟩
theorem Sw.grown {W w w1 w2 : World} {b g : Nat} (h : Sw W b w w1) (hg : w1.grownBy w2 (some g)) (h1 : w.heap.size ≤ g) (h2 : b < w.heap.size) : Sw W b w w2 :=
 ⟨h.1.grown hg (fun k hk => by cases hk; exact ⟨by have := h.1.lo; omega, by omega⟩), World.grownBy.andThen h.2 hg (fun j hj => by cases hj; exact .inl h1)⟩
def NA (es : Array Value) : Prop := ∃ a p n c, es = lcs a (.slice p n c)
theorem NA.size {es : Array Value} (h : NA es) : es.size = 18 := by obtain ⟨a, p, n, c, e⟩ := h; rw [e]; rfl
theorem NA.one {es : Array Value} (h : NA es) : es.all (·.oneCell') = true := by obtain ⟨a, p, n, c, e⟩ := h; rw [e]; exact lcs_all _ _ _ _
theorem NA.sto {u : World} {es : Array Value} (h : NA es) {g : Nat} {zs : Array Value} (hg : u.heap[g]? = some (.cells zs 67)) (hz : zs.size = 18) :
  Hid ((Instr.storeAt 67 (.pointer (some ⟨g, 0, none⟩)) (.agg es)).run Tryz.prog u = .ok () (u.setRow g es)) := YtnibldnfbikipaaGreatDoor.sto hg (by rw [h.size]; exact inf67) (by rw [h.size]; exact hz) h.one
theorem NA.lod {u : World} {es : Array Value} (h : NA es) {g : Nat} (hg : u.heap[g]? = some (.cells es 67)) :
  Hid ((Instr.loadAt 67 (.pointer (some ⟨g, 0, none⟩))).run Tryz.prog u = .ok (.agg es) u) := YtnibldnfbikipaaGreatDoor.lod (z := (0, 0)) hg rfl Tryz.underlying67 (by rw [h.size]; exact inf67)
theorem NA.zero : NA nd0 := ⟨lab0 0 nb, none, 0, 0, rfl⟩
def RA (W : World) (b : Nat) (w : World) (o : Option (T × List Tk.Tok)) (es : Array Value) (w' : World) : Prop :=
 match o with
 | none => Sw W b w w'
 | some p => NK (fun i => w.heap.size ≤ i) w' es p.1 ∧ Sq W b p.2 w w'
def RO (W : World) (b : Nat) (w : World) (o : Option (T × List Tk.Tok)) (e : Ending) (w' : World) : Prop := ∃ es, e = .returned (.agg es) ∧ NA es ∧ RA W b w o es w'
theorem RA.grow {W w w' : World} {b : Nat} {o : Option (T × List Tk.Tok)} {es : Array Value} (h : RA W b w o es w') : w.grownBy w' (some b) := by
 cases o with
 | none => exact h.2
 | some p => exact h.2.2
theorem RA.kept {W w w' : World} {b : Nat} {o : Option (T × List Tk.Tok)} {es : Array Value} (h : RA W b w o es w') {i : Nat} {x : Obj} (hi : w.heap[i]? = some x) (hb : i ≠ b) : w'.heap[i]? = some x :=
 (h.grow.block i (lt_of hi) (fun e => hb (Option.some.inj e))).trans hi
theorem RA.fin {W w w1 : World} {b : Nat} {o : Option (T × List Tk.Tok)} {es : Array Value} (hb : b < w.heap.size) (hn : NA es) (h : RA W b (w.alloc (.cells nd0 67)) o es w1) :
  Hid ((Instr.storeAt 67 (.pointer (some ⟨w.heap.size, 0, none⟩)) (.agg es)).run Tryz.prog w1 = .ok () (w1.setRow w.heap.size es)) ∧ Hid (w1.heap[w.heap.size]? = some (.cells nd0 67)) ∧ Hid (es.size = 18) ∧
  Hid (RA W b w o es (w1.setRow w.heap.size es)) := by
 have hg := h.kept (heap_alloc_new w _) (by omega)
 refine ⟨hn.sto hg rfl, hg, hn.size, ?_⟩
 cases o with
 | none =>
  have h' : Sw W b (w.alloc (.cells nd0 67)) w1 := h
  show Sw W b w _
  exact h'.unalloc.grown (setRow_grown _ _ _) (Nat.le_refl _) hb
 | some p =>
  obtain ⟨h1, h2⟩ := h
  show NK _ _ _ _ ∧ Sq _ _ _ _ _
  exact ⟨((new_gt h1).grown (setRow_grown _ _ _) (fun g e hk => by cases e; exact Nat.lt_irrefl _ hk)).mono (fun i hi _ => Nat.le_of_lt hi), h2.unalloc.grown (setRow_grown _ _ _) (Nat.le_refl _) hb⟩
theorem rop_none {w : World} {b : Nat} {a : Option Addr} {c : Nat} {x : Bool} (hv : w.heap[b]? = some (rpO (.slice a 0 c) x)) : Calls Tryz.prog 156 #[.pointer (some ⟨b, 0, none⟩)] w fun e w' => e = .returned (.string noB) ∧ w' = w := by
 have hc : w.cell? ⟨b, 0, none⟩ = some (.slice a 0 c) := by rw [cell_of_row w b 0 _ 145 (0, 0) hv]; rfl
 go_enter Tryz.func156, Tryz.ntmps156
 go_wp2
 go_ret
 exact ⟨rfl, rfl⟩
theorem rop_bad {W w : World} {b : Nat} (X : QW W b w) : Calls Tryz.prog 156 #[.pointer (some ⟨b, 0, none⟩)] w fun e w' => e = .returned (.string noB) ∧ w' = w := rop_none X.blk
theorem rop_nil {W w : World} {b : Nat} (X : QR W b [] w) : Calls Tryz.prog 156 #[.pointer (some ⟨b, 0, none⟩)] w fun e w' => e = .returned (.string noB) ∧ w' = w := by
 obtain ⟨v, hv, hs⟩ := X.blk
 obtain ⟨a, c, rfl⟩ := hs.slice
 exact rop_none hv
theorem rop_cons {W w : World} {b : Nat} {t : Tk.Tok} {L : List Tk.Tok} (X : QR W b (t :: L) w) (hn : L.length ≤ 255) : Calls Tryz.prog 156 #[.pointer (some ⟨b, 0, none⟩)] w fun e w' => e = .returned (.string (if (tk t).k = 5 then (tk t).s else noB)) ∧ w' = w := by
 obtain ⟨v, hv, hs⟩ := X.blk
 rw [List.map_cons] at hs
 obtain ⟨g, o, c, rfl, hlc, hcs, _⟩ := hs.cons
 rw [List.length_map] at hv hlc
 have hc : w.cell? ⟨b, 0, none⟩ = some (.slice (some ⟨g, o, none⟩) (L.length + 1) c) := by rw [cell_of_row w b 0 _ 145 (0, 0) hv]; rfl
 have h0 : w.cell? ⟨g, o, none⟩ = some (.int .i64 (tk t).k) := cell_bel X.bel (hcs 0 _ rfl)
 have h2 : w.cell? ⟨g, o + 2, none⟩ = some (.string (tk t).s) := cell_bel X.bel (hcs 2 _ rfl)
 have hl : (0 : Int) < (L.length : Int) + 1 := by omega
 generalize (tk t).k = k at *
 generalize (tk t).s = s at *
 generalize L.length = n at *
 clear hs hcs X hv
 by_cases h5 : k = 5
 ·subst h5
  rw [if_pos rfl]
  go_enter Tryz.func156, Tryz.ntmps156
  go_wp2
  all_goals (go_ret; exact ⟨rfl, rfl⟩)
 ·rw [if_neg h5]
  have h5b : (k == 5) = false := by simpa using h5
  go_enter Tryz.func156, Tryz.ntmps156
  go_wp2
  all_goals (go_ret; exact ⟨rfl, rfl⟩)
theorem rop_any {W w : World} {b : Nat} {L : List Tk.Tok} (X : QR W b L w) (hn : L.length ≤ 256) : Calls Tryz.prog 156 #[.pointer (some ⟨b, 0, none⟩)] w fun e w' => e = .returned (.string (ba (opOf L))) ∧ w' = w := by
 rw [← op_val L]
 cases L with
 | nil => exact rop_nil X
 | cons t L => exact rop_cons X (by simpa using hn)
theorem rp_facts {u : World} {b : Nat} {v : Value} {x : Bool} (h : u.heap[b]? = some (rpO v x)) : u.cell? ⟨b, 0, none⟩ = some v ∧ u.cell? ⟨b, 1, none⟩ = some (.bool x) ∧ u.frozen? ⟨b, 0, none⟩ = false ∧ u.frozen? ⟨b, 1, none⟩ = false ∧
  (∀ y, (u.setCell ⟨b, 1, none⟩ (.bool y)).heap[b]? = some (rpO v y)) ∧ ∀ y, (u.setCell ⟨b, 0, none⟩ y).heap[b]? = some (rpO y x) := by
 refine ⟨by rw [cell_of_row u b 0 _ 145 (0, 0) h]; rfl, by rw [cell_of_row u b 1 _ 145 (0, 0) h]; rfl, by unfold World.frozen?; rw [h]; rfl, by unfold World.frozen?; rw [h]; rfl, fun y => ?_, fun y => ?_⟩
 ·simp [World.setCell, Array.getElem?_modify, h]
 ·simp [World.setCell, Array.getElem?_modify, h]
abbrev wrongW (u : World) (b : Nat) : World := (u.setCell ⟨b, 1, none⟩ (.bool true)).setCell ⟨b, 0, none⟩ (.slice none 0 0)
theorem wrong_sw {W w u : World} {b : Nat} (X : QB W b w) (hg : ∀ row, w.grownBy u row) : Sw W b w (wrongW u b) ∧ ∃ v, (u.setCell ⟨b, 1, none⟩ (.bool true)).heap[b]? = some (rpO v true) := by
 obtain ⟨v, x, hv⟩ := X.blk
 have hu : u.heap[b]? = some (rpO v x) := ((hg none).block b (lt_of hv) (by simp)).trans hv
 have f1 := (rp_facts hu).2.2.2.2.1 true
 have f2 := (rp_facts f1).2.2.2.2.2 (.slice none 0 0)
 have hB : Below W.heap.size W u := X.bel.grown (hg none) X.bel.size (fun k hk => by cases hk)
 refine ⟨⟨⟨X.tab, (hB.setCell X.lo _).setCell X.lo _, X.lo, f2⟩, ?_⟩, v, f1⟩
 exact grown_trans (grown_trans (hg _) (Lib.grownBy_setCell _ _ _ _)) (Lib.grownBy_setCell _ _ _ _)
theorem qb_rp {W w : World} {b : Nat} (X : QB W b w) {u : World} (hg : ∀ row, w.grownBy u row) : ∃ v x, u.heap[b]? = some (rpO v x) := by
 obtain ⟨v, x, hv⟩ := X.blk
 exact ⟨v, x, ((hg none).block b (lt_of hv) (by simp)).trans hv⟩
theorem rtake_core {W w : World} {b : Nat} {S A : ByteArray} (X : QB W b w) (O : Calls Tryz.prog 156 #[.pointer (some ⟨b, 0, none⟩)] w fun e w' => e = .returned (.string A) ∧ w' = w) (hne : (A.toList == S.toList) = false) :
  Calls Tryz.prog 157 #[.pointer (some ⟨b, 0, none⟩), .string S] w fun e w' => e = .returned (.tuple #[]) ∧ Sw W b w w' := by
 obtain ⟨h1, v1, h2⟩ := wrong_sw (u := w) X (fun _ => World.grownBy.refl _ _)
 obtain ⟨v, x, h0⟩ := X.blk
 obtain ⟨c0, c1, f0, f1, _⟩ := rp_facts h0
 obtain ⟨d0, d1, g0, g1, _⟩ := rp_facts h2
 have HF : Hid (Sw W b w (wrongW w b)) := h1
 clear h1 h2 h0 X
 go_enter Tryz.func157, Tryz.ntmps157
 go_wp2_with (go_at_call 156; refine O.mono ?_; rintro e w' ⟨rfl, hw⟩; obtain rfl := hw.symm; clear hw)
 exact bodyPost_ret (results_none rfl _ _ _) rfl ⟨rfl, HF.out⟩
theorem ne_toL {l m : List UInt8} (h : l ≠ m) : ((ba l).toList == (ba m).toList) = false := by
 rw [ByteArray.toList_eq, ByteArray.toList_eq]
 simpa using h
theorem eq_toL (l : List UInt8) : ((ba l).toList == (ba l).toList) = true := by simp
theorem rtake_no {W w : World} {b : Nat} {L : List Tk.Tok} (X : QR W b L w) (hn : L.length ≤ 256) {s : List UInt8} (h : opOf L ≠ s) : Calls Tryz.prog 157 #[.pointer (some ⟨b, 0, none⟩), .string (ba s)] w fun e w' => e = .returned (.tuple #[]) ∧ Sw W b w w' :=
 rtake_core X.b (rop_any X hn) (ne_toL h)
theorem rtake_bad {W w : World} {b : Nat} (X : QW W b w) {s : List UInt8} (h : s ≠ []) : Calls Tryz.prog 157 #[.pointer (some ⟨b, 0, none⟩), .string (ba s)] w fun e w' => e = .returned (.tuple #[]) ∧ Sw W b w w' :=
 rtake_core X.b (rop_bad X) (ne_toL (l := []) (Ne.symm h))
theorem rtake_yes {W w : World} {b : Nat} {L : List Tk.Tok} (X : QR W b L w) (hn : L.length ≤ 256) {s : List UInt8} (hs : s ≠ []) (h : opOf L = s) : Calls Tryz.prog 157 #[.pointer (some ⟨b, 0, none⟩), .string (ba s)] w fun e w' => e = .returned (.tuple #[]) ∧ Sq W b L.tail w w' := by
 have O := rop_any X hn
 rw [h] at O
 have heq := eq_toL s
 obtain ⟨h1, h2⟩ := op_tail (ts := L) h hs
 obtain ⟨v, hv, ht⟩ := X.blk
 rw [h2, List.map_cons] at ht
 obtain ⟨g, o, c, rfl, hlc, hcs, hts⟩ := ht.cons
 rw [List.length_map] at hv hlc hts
 obtain ⟨c0, c1, f0, f1, _, hset⟩ := rp_facts hv
 obtain ⟨A, hA⟩ : ∃ A, (if c = 1 then some (⟨g, o, none⟩ : Addr) else some ⟨g, o + 9, none⟩) = A := ⟨_, rfl⟩
 rw [hA] at hts
 have HF : Hid (Sq W b L.tail w (w.setCell ⟨b, 0, none⟩ (.slice A L.tail.length (c - 1)))) :=
  ⟨⟨X.tab, X.bel.setCell X.lo _, X.lo, fun x hx => X.ok x (List.mem_of_mem_tail hx), _, hset _, hts⟩, Lib.grownBy_setCell _ _ _ _⟩
 generalize L.tail.length = n at *
 generalize ba s = S at *
 clear hts hv ht hcs X h h1 h2 hset
 go_enter Tryz.func157, Tryz.ntmps157
 go_wp2_with (go_at_call 156; refine O.mono ?_; rintro e w' ⟨rfl, hw⟩; obtain rfl := hw.symm; clear hw)
 go_end0
 exact ⟨rfl, HF.out⟩
theorem build_none (u : World) : (Instr.build 67 #[]).run Tryz.prog u = .ok (.agg nd0) u := by kernel_rfl
theorem rfail_any {W w : World} {b : Nat} (X : QB W b w) : Calls Tryz.prog 244 #[.pointer (some ⟨b, 0, none⟩)] w fun e w' => e = .returned (.agg nd0) ∧ Sw W b w w' := by
 have hg : ∀ row, w.grownBy (w.alloc (.cells nd0 67)) row := fun _ => World.grownBy_alloc _ _ _
 have hb := X.lt
 obtain ⟨h1, v1, h2⟩ := wrong_sw (u := w.alloc (.cells nd0 67)) X hg
 obtain ⟨v, x, h0⟩ := qb_rp X hg
 obtain ⟨c0, c1, f0, f1, _⟩ := rp_facts h0
 obtain ⟨d0, d1, g0, g1, _⟩ := rp_facts h2
 have G1 := Lib.grownBy_setCell (w.alloc (.cells nd0 67)) b 1 (.bool true)
 have H1 := (G1.block w.heap.size (by simp) (by intro e; have := Option.some.inj e; omega)).trans (heap_alloc_new w (.cells nd0 67))
 obtain ⟨w2, hw2⟩ : ∃ w2, (w.alloc (.cells nd0 67)).setCell ⟨b, 1, none⟩ (.bool true) = w2 := ⟨_, rfl⟩
 have h1' : Sw W b w (w2.setCell ⟨b, 0, none⟩ (.slice none 0 0)) := by rw [← hw2]; exact h1
 rw [hw2] at H1 d0 d1 g0 g1
 have G2 := Lib.grownBy_setCell w2 b 0 (.slice none 0 0)
 have H2 := (G2.block w.heap.size (lt_of H1) (by intro e; have := Option.some.inj e; omega)).trans H1
 obtain ⟨w3, hw3⟩ : ∃ w3, w2.setCell ⟨b, 0, none⟩ (.slice none 0 0) = w3 := ⟨_, rfl⟩
 rw [hw3] at H2 h1'
 have RB : Hid _ := build_none w3
 have RS := NA.zero.sto H2 rfl
 have HF : Hid (Sw W b w (w3.setRow w.heap.size nd0)) := h1'.grown (setRow_grown _ _ _) (Nat.le_refl _) hb
 have HR : Hid (w3.heap[w.heap.size]? = some (.cells nd0 67)) := H2
 clear H1 H2 h1 h1' h2 h0 X hg G1 G2
 go_enter Tryz.func244, Tryz.ntmps244
 go_wp2_with (first
  | (refine wpList_build_run rfl 67 _ rfl _ _ rfl RB.out ?_)
  | (refine wpList_store_run rfl 67 _ _ rfl _ _ _ rfl rfl RS.out ?_))
 exact bodyPost_ret (nd_res HR.out rfl rfl rfl) rfl ⟨rfl, HF.out⟩
theorem rbin_six {W w : World} {b : Nat} {o : Option (T × List Tk.Tok)} (hb : b < w.heap.size) (C : Calls Tryz.prog 155 #[.pointer (some ⟨b, 0, none⟩)] (w.alloc (.cells nd0 67)) (RO W b (w.alloc (.cells nd0 67)) o)) :
  Calls Tryz.prog 109 #[.pointer (some ⟨b, 0, none⟩), .int .i64 6] w (RO W b w o) := by
 have C' : Calls Tryz.prog 155 #[.pointer (some ⟨b, 0, none⟩)] (w.alloc (.cells nd0 67)) fun e w1 => ∃ es, e = .returned (.agg es) ∧ Hid ((Instr.storeAt 67 (.pointer (some ⟨w.heap.size, 0, none⟩)) (.agg es)).run Tryz.prog w1 = .ok () (w1.setRow w.heap.size es)) ∧ Hid (w1.heap[w.heap.size]? = some (.cells nd0 67)) ∧ Hid (es.size = 18) ∧ Hid (NA es) ∧ Hid (RA W b w o es (w1.setRow w.heap.size es)) := C.mono (by
  rintro e w1 ⟨es, rfl, hn, h⟩
  obtain ⟨a1, a2, a3, a4⟩ := RA.fin hb hn h
  exact ⟨es, rfl, a1, a2, a3, hn, a4⟩)
 clear C
 go_enter Tryz.func109, Tryz.ntmps109
 go_wp2_with (first
  | (go_at_call 155; refine C'.mono ?_; rintro e w1 ⟨es, rfl, RS, HG, HZ, HN, HF⟩)
  | (refine wpList_store_run rfl 67 _ _ rfl _ _ _ rfl rfl RS.out ?_))
 exact bodyPost_ret (nd_res HG.out HZ.out rfl rfl) rfl ⟨es, rfl, HN.out, HF.out⟩
theorem two_na {u : World} {es es2 : Array Value} (h : NA es) (h2 : NA es2) : (Instr.buildSlice 65 2 #[(0, .agg es), (1, .agg es2)]).run Tryz.prog u = .ok (.slice (some ⟨u.heap.size, 0, none⟩) 2 2) (u.alloc (.cells (es.toList ++ es2.toList).toArray 67)) := by
 obtain ⟨a, p, n, c, rfl⟩ := h
 obtain ⟨a', p', n', c', rfl⟩ := h2
 exact slice_two u _ _ _ _ _ _ _ _
structure BI (W : World) (b : Nat) (w : World) (g : Nat) (cur : Option (T × List Tk.Tok)) (es : Array Value) (u : World) : Prop where
 box : u.heap[g]? = some (.cells es 67)
 res : u.heap[w.heap.size]? = some (.cells nd0 67)
 na : NA es
 st : match cur with
  | none => Sw W b w u
  | some p => NK (fun i => w.heap.size < i ∧ i ≠ g) u es p.1 ∧ Sq W b p.2 w u
theorem BI.begin {W w w1 : World} {b : Nat} {o : Option (T × List Tk.Tok)} {es : Array Value} (hb : b < w.heap.size) (hn : NA es) (h : RA W b (w.alloc (.cells nd0 67)) o es w1) :
  Hid ((Instr.storeAt 67 (.pointer (some ⟨w1.heap.size, 0, none⟩)) (.agg es)).run Tryz.prog (w1.alloc (.cells nd0 67)) = .ok () (w1.alloc (.cells es 67))) ∧ Hid (BI W b w w1.heap.size o es (w1.alloc (.cells es 67))) ∧ Hid (w.heap.size < w1.heap.size) := by
 have hlt : w.heap.size < w1.heap.size := by have := h.grow.size; simp at this; omega
 refine ⟨run_storeAt_new w1 67 nd0 _ (by rw [hn.size]; exact inf67) (by rw [hn.size]; rfl) hn.one, ⟨heap_alloc_new _ _, (Below.heap_alloc _ _ _ hlt).trans (h.kept (heap_alloc_new w _) (by omega)), hn, ?_⟩, hlt⟩
 cases o with
 | none => exact (show Sw W b (w.alloc (.cells nd0 67)) w1 from h).unalloc.alloc _
 | some p =>
  obtain ⟨h1, h2⟩ := h
  refine ⟨NK.below (K := fun i => w.heap.size < i ∧ i ≠ w1.heap.size) (h1.mono (fun i hi hl => ?_)) (bel_alloc (Below.refl _ _) (.cells es 67)), h2.unalloc.alloc _⟩
  simp at hi
  exact ⟨by omega, by omega⟩
theorem BI.fin {W w u : World} {b g : Nat} {cur : Option (T × List Tk.Tok)} {es : Array Value} (h : BI W b w g cur es u) (hb : b < w.heap.size) :
  Hid ((Instr.loadAt 67 (.pointer (some ⟨g, 0, none⟩))).run Tryz.prog u = .ok (.agg es) u) ∧ Hid ((Instr.storeAt 67 (.pointer (some ⟨w.heap.size, 0, none⟩)) (.agg es)).run Tryz.prog u = .ok () (u.setRow w.heap.size es)) ∧ Hid (es.size = 18) ∧ Hid (RA W b w cur es (u.setRow w.heap.size es)) := by
 refine ⟨h.na.lod h.box, h.na.sto h.res rfl, h.na.size, ?_⟩
 have hs := h.st
 cases cur with
 | none => exact Sw.grown hs (setRow_grown _ _ _) (Nat.le_refl _) hb
 | some p =>
  obtain ⟨h1, h2⟩ := hs
  exact ⟨(h1.grown (setRow_grown _ _ _) (fun g e hk => by cases e; exact Nat.lt_irrefl _ hk.1)).mono (fun i hi _ => Nat.le_of_lt hi.1), h2.grown (setRow_grown _ _ _) (Nat.le_refl _) hb⟩
theorem QR.left {W w : World} {b : Nat} {L : List Tk.Tok} (h : QR W b L w) : leftP b w = L.length := by
 obtain ⟨v, h1, h2⟩ := h.blk
 obtain ⟨a, c, rfl⟩ := h2.slice
 unfold leftP
 rw [h1]
 simp
theorem QW.left {W w : World} {b : Nat} (h : QW W b w) : leftP b w = 0 := by
 unfold leftP
 rw [h.blk]
 simp
theorem QR.not {W w : World} {b : Nat} {L : List Tk.Tok} (h : QR W b L w) : w.cell? ⟨b, 1, none⟩ = some (.bool false) := by
 obtain ⟨v, h1, h2⟩ := h.blk
 exact (rp_facts h1).2.1
theorem QW.yes {W w : World} {b : Nat} (h : QW W b w) : w.cell? ⟨b, 1, none⟩ = some (.bool true) := (rp_facts h.blk).2.1
theorem BI.two {W w u u2 w3 : World} {b g : Nat} {n : T} {r r' : List Tk.Tok} {es es2 : Array Value} {sg : List UInt8} {o2 : Option (T × List Tk.Tok)} (h : BI W b w g (some (n, r)) es u) (hb : b < w.heap.size) (hg : w.heap.size < g)
  (h2 : Sq W b r' u u2) (hn : NA es2) (h3 : RA W b u2 o2 es2 w3) :
  Hid ((Instr.storeAt 67 (.pointer (some ⟨w3.heap.size, 0, none⟩)) (.agg es2)).run Tryz.prog (w3.alloc (.cells nd0 67)) = .ok () (w3.alloc (.cells es2 67))) ∧
  Hid ((Instr.loadAt 67 (.pointer (some ⟨g, 0, none⟩))).run Tryz.prog (w3.alloc (.cells es2 67)) = .ok (.agg es) (w3.alloc (.cells es2 67))) ∧
  Hid ((Instr.loadAt 67 (.pointer (some ⟨w3.heap.size, 0, none⟩))).run Tryz.prog (w3.alloc (.cells es2 67)) = .ok (.agg es2) (w3.alloc (.cells es2 67))) ∧
  ∃ w5, Hid ((Instr.buildSlice 65 2 #[(0, .agg es), (1, .agg es2)]).run Tryz.prog (w3.alloc (.cells es2 67)) = .ok (.slice (some ⟨w3.heap.size + 1, 0, none⟩) 2 2) w5) ∧
  Hid ((Instr.build 67 #[(0, .int .i64 6), (1, .string (ba sg)), (5, .slice (some ⟨w3.heap.size + 1, 0, none⟩) 2 2)]).run Tryz.prog w5 = .ok (.agg (lcs (lab0 6 (ba sg)) (.slice (some ⟨w3.heap.size + 1, 0, none⟩) 2 2))) w5) ∧
  Hid ((Instr.storeAt 67 (.pointer (some ⟨g, 0, none⟩)) (.agg (lcs (lab0 6 (ba sg)) (.slice (some ⟨w3.heap.size + 1, 0, none⟩) 2 2)))).run Tryz.prog w5 = .ok () (w5.setRow g (lcs (lab0 6 (ba sg)) (.slice (some ⟨w3.heap.size + 1, 0, none⟩) 2 2)))) ∧
  Hid (BI W b w g (o2.map fun p => (binT sg n p.1, p.2)) (lcs (lab0 6 (ba sg)) (.slice (some ⟨w3.heap.size + 1, 0, none⟩) 2 2)) (w5.setRow g (lcs (lab0 6 (ba sg)) (.slice (some ⟨w3.heap.size + 1, 0, none⟩) 2 2)))) := by
 have hgl : g < u.heap.size := lt_of h.box
 have hgu2 := h2.2.size
 have hgw3 := h3.grow.size
 have B2 : u2.heap[g]? = some (.cells es 67) := h2.kept h.box (by omega)
 have B3 : w3.heap[g]? = some (.cells es 67) := h3.kept B2 (by omega)
 have R2 : u2.heap[w.heap.size]? = some (.cells nd0 67) := h2.kept h.res (by omega)
 have R3 : w3.heap[w.heap.size]? = some (.cells nd0 67) := h3.kept R2 (by omega)
 have B4 : (w3.alloc (.cells es2 67)).heap[g]? = some (.cells es 67) := (Below.heap_alloc _ _ _ (by omega)).trans B3
 have R4 : (w3.alloc (.cells es2 67)).heap[w.heap.size]? = some (.cells nd0 67) := (Below.heap_alloc _ _ _ (by omega)).trans R3
 have hz4 : (w3.alloc (.cells es2 67)).heap.size = w3.heap.size + 1 := by simp
 refine ⟨run_storeAt_new w3 67 nd0 _ (by rw [hn.size]; exact inf67) (by rw [hn.size]; rfl) hn.one, h.na.lod B4, hn.lod (heap_alloc_new _ _), (w3.alloc (.cells es2 67)).alloc (.cells (es.toList ++ es2.toList).toArray 67), by have := two_na (u := w3.alloc (.cells es2 67)) h.na hn; rw [hz4] at this; exact this, build_lab _ _ _ _ _ _, ?_⟩
 obtain ⟨w5, hw5⟩ : ∃ w5, (w3.alloc (.cells es2 67)).alloc (.cells (es.toList ++ es2.toList).toArray 67) = w5 := ⟨_, rfl⟩
 rw [hw5]
 have B5 : w5.heap[g]? = some (.cells es 67) := by rw [← hw5]; exact (Below.heap_alloc _ _ _ (by omega)).trans B4
 have R5 : w5.heap[w.heap.size]? = some (.cells nd0 67) := by rw [← hw5]; exact (Below.heap_alloc _ _ _ (by omega)).trans R4
 have N5 : w5.heap[w3.heap.size + 1]? = some (.cells (es.toList ++ es2.toList).toArray 67) := by
  rw [← hw5]
  have := heap_alloc_new (w3.alloc (.cells es2 67)) (.cells (es.toList ++ es2.toList).toArray 67)
  rw [hz4] at this; exact this
 have hz5 : w5.heap.size = w3.heap.size + 2 := by rw [← hw5]; simp
 have L5 : Below w3.heap.size w3 w5 := by rw [← hw5]; exact bel_alloc (bel_alloc (Below.refl _ _) _) _
 refine ⟨nd_sto B5 h.na.size _ _ _ _, ?_⟩
 generalize hfs : lcs (lab0 6 (ba sg)) (.slice (some ⟨w3.heap.size + 1, 0, none⟩) 2 2) = fs
 have G6 := setRow_grown w5 g fs
 refine ⟨setRow_heap _ _ _ _ _ _ B5, (G6.block _ (by omega) (by intro e; have := Option.some.inj e; omega)).trans R5, ⟨_, _, _, _, hfs.symm⟩, ?_⟩
 obtain ⟨hN, hS⟩ := h.st
 cases o2 with
 | none =>
  have h3' : Sw W b u2 w3 := h3
  show Sw W b w _
  exact (((hS.step h2).bad h3').bel L5).grown G6 (by omega) hb
 | some p =>
  obtain ⟨m, r2⟩ := p
  obtain ⟨hM, hS3⟩ := h3
  show NK _ _ _ (binT sg n m) ∧ Sq W b r2 w _
  have K6 : ∀ k, (some g : Option Nat) = some k → ¬ (fun i => w.heap.size < i ∧ i ≠ g) k := fun k e hk => by cases e; exact hk.2 rfl
  have K1 : ∀ i, (fun i => w.heap.size < i ∧ i ≠ g) i → i ≠ b := fun i hi e => by have := hi.1; omega
  have HA : NK (fun i => w.heap.size < i ∧ i ≠ g) (w5.setRow g fs) es n := (((hN.grown h2.2 (fun k e hk => by cases e; exact K1 _ hk rfl)).grown hS3.2 (fun k e hk => by cases e; exact K1 _ hk rfl)).below L5).grown G6 K6
  have HB : NK (fun i => w.heap.size < i ∧ i ≠ g) (w5.setRow g fs) es2 m := ((hM.mono (K' := fun i => w.heap.size < i ∧ i ≠ g) (fun i hi _ => by
   have hi' : u2.heap.size ≤ i := hi
   exact ⟨by omega, by omega⟩)).below L5).grown G6 K6
  refine ⟨?_, (((hS.step h2).step hS3).bel L5).grown G6 (by omega) hb⟩
  rw [← hfs] at HA HB ⊢
  refine NK.newAt (g := w3.heap.size + 1) ⟨by omega, by omega⟩ (k := 6) (s := ba sg) [(es, n), (es2, m)] (fun x hx => ?_) (es := (es.toList ++ es2.toList).toArray) (z := (0, 0)) (o := 0) (((setRow_grown w5 g _).block _ (by omega) (by intro e; have := Option.some.inj e; omega)).trans N5) (fun j v hj => by simpa using hj) 2
  simp only [List.mem_cons, List.not_mem_nil, or_false] at hx
  rcases hx with rfl | rfl
  ·exact HA
  ·exact HB
end Go.Proofs.YtnibldnfbikipaaGreatDoor
