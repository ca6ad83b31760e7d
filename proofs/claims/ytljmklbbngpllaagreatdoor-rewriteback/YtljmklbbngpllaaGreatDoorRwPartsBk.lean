/- RwMvR, RwRef1, RwFol, RwParts. -/
import Derived.Test.YtljmklbbngpllaaGreatDoorRwMvBk
import Derived.Test.YtljmklbbngpllaaGreatDoorRwRPBk
set_option linter.unusedVariables false
set_option linter.unusedSimpArgs false
set_option maxHeartbeats 16000000
set_option maxRecDepth 100000
namespace Go.Proofs.YtljmklbbngpllaaGreatDoor.Rw
open Go.RowKit Go.Fm
abbrev aJj (C : Chg) (g : Nat) : Value := if C.dr = true then .func (.func 41) #[] #[] else .func (.func 67) #[] #[.pointer (some ⟨g, 0, none⟩), .pointer (some ⟨g + 1, 0, none⟩)]
abbrev aGA (C : Chg) (g : Nat) : Value := if C.dr = true then .func (.func 42) #[] #[] else .func (.func 68) #[] #[.pointer (some ⟨g, 0, none⟩), .pointer (some ⟨g + 1, 0, none⟩)]
abbrev fP (C : Chg) (H : Hm) (g : Nat) : Array Value := jZ C.bk C.sh H.hb H.hs H.hr H.hc (aJj C g) (aGA C g)
def nD (u : World) (g : Nat) (C : Chg) : Prop := C.dr = true ∨ Fol u g C
theorem nD.below {u u' : World} {g : Nat} {C : Chg} (h : nD u g C) (hb : Below u.heap.size u u') : nD u' g C := h.imp id fun h => h.below hb
theorem aGB {C : Chg} {g : Nat} {w : World} (h : Fol w g C) (x : Rf) :
  Calls Tryz.prog 67 #[rfV x, .pointer (some ⟨g, 0, none⟩), .pointer (some ⟨g + 1, 0, none⟩)] w fun e w' => e = .returned (.tuple #[rfV (bH C x (Hs.iB C.a C.n C.m (ln C x))), .bool (Hs.posB C.a C.n C.m (ln C x))]) ∧ Below w.heap.size w w' := by
 obtain ⟨bk, sh, dr, co, a, n, m⟩ := C
 cases co
 ·exact aGy h x
 ·exact aGx h x
theorem aD8 {C : Chg} {g : Nat} {w : World} (h : Fol w g C) (x y : Rf) :
  Calls Tryz.prog 68 #[rfV x, rfV y, .pointer (some ⟨g, 0, none⟩), .pointer (some ⟨g + 1, 0, none⟩)] w fun e w' => e = .returned (.tuple #[rfV (bH C x (Hs.spL C.a C.n C.m (ln C x) (ln C y))), rfV (bH C y (Hs.spH C.a C.n C.m (ln C x) (ln C y))), .bool (Hs.spB C.a C.n C.m (ln C x) (ln C y))]) ∧ Below w.heap.size w w' := by
 obtain ⟨bk, sh, dr, co, a, n, m⟩ := C
 cases co
 ·exact aD7 h x y
 ·exact aD6 h x y
theorem aLS (x y : Rf) (u : World) : (binOp .neq 25 (rfV x) (rfV y)).run Tryz.prog u = .ok (.bool (!eqR x y)) u := bE u _ _ _ _ _ _ _ _ _ _ _ _
theorem iQ {P : Program} {ev : Operand → Value} {o : Oper} {ty : TypeId} {xs : Array (Nat × Operand)} {ps : Array (Nat × Value)} {v : Value} {u : World} (ho : o.op = .build ty xs) (hx : (xs.map fun (i, x) => (i, ev x)) = ps) (hrun : (Instr.build ty ps).run P u = .ok v u) : (execOp ev o).run P u = .ok (.value v) u := by
 unfold execOp
 simp only [ho, hx, Sem.run_bind, Sem.run_pure, hrun, Result.andThen_ok]
theorem kD {ev : Operand → Value} {o : Oper} {ty2 : TypeId} {x y : Operand} {a b : Rf} {u : World} (ho : o.op = .binOp .neq 25 x y ty2) (hx : ev x = rfV a) (hy : ev y = rfV b) : (execOp ev o).run Tryz.prog u = .ok (.value (.bool (!eqR a b))) u := by
 unfold execOp
 simp only [ho, hx, hy]
 have hg : (eqGuard .neq 25 x y (rfV a) (rfV b)).run Tryz.prog u = .ok () u := by
  unfold eqGuard
  simp [Sem.run_bind, Sem.run_pure, dO, go_sem]
 simp only [Sem.run_bind, Sem.run_pure, hg, aLS, Result.andThen_ok]
theorem aD9 {bk sh hb hs : ByteArray} {hr hc : Int} {af : Value} (x : Rf) (w : World) :
  Calls Tryz.prog 48 #[.agg (jZ bk sh hb hs hr hc (.func (.func 41) #[] #[]) af), rfV x] w fun e w' => e = .returned (.tuple #[.agg gl, .bool true]) ∧ Below w.heap.size w w' := by
 have HA := fun u => aAF x u
 have HG := fun u => mE u
 obtain ⟨W, hW⟩ : ∃ W, W = ((w.alloc (.cells (jZ bk sh hb hs hr hc (.func (.func 41) #[] #[]) af) 64)).alloc (rfO x)).alloc (.cells nd0 28) := ⟨_, rfl⟩
 have HB0 : Below w.heap.size w W := by rw [hW]; exact aC (aC (aC (Below.refl _ _) _) _) _
 have HN : Hid (∀ u, Below W.heap.size W u → u.heap[w.heap.size + 2]? = some (.cells nd0 28) ∧ Below w.heap.size w u) := fun u hu => by
  have hu0 := hu
  rw [hW] at hu
  have q := new1 hu
  simp only [World.size_alloc] at q
  exact ⟨q, aJ HB0 hu0⟩
 have HW : Hid (Below W.heap.size W W) := Below.refl _ _
 clear HB0
 subst hW
 go_enter Tryz.func48, Tryz.ntmps48
 go_wp2_with (first
  | (go_at_call 41; refine (HA _).mono ?_; clear HA; rintro e w2 ⟨rfl, hb⟩; have HB2 : Hid _ := aC hb (rfO z0); clear hb)
  | (go_at_call 72; refine (HG _).mono ?_; clear HG; rintro e w3 ⟨rfl, hb⟩; have HB3 := aJ HB2.out hb; obtain ⟨n0, n1⟩ := HN.out _ HB3; have RS : Hid _ := uM gone n0; have HR : Hid _ := uN gone n0; have HZ : Hid (Below w.heap.size w (w3.setRow (w.heap.size + 2) gl)) := n1.grown (aD _ _ _) n1.size (fun g e => by cases e; omega); clear hb HB3 n0 n1)
  | ((with_reducible show wpList _ _ _ ({ dst := _, op := Op.store 28 _ _, type := _, pos := _, after := _, guard := none } :: _) _ _); refine aB rfl 28 _ _ rfl _ _ _ rfl rfl RS.out ?_; clear RS))
 exact bodyPost_ret (kK rfl rfl HR.out rfl) rfl ⟨rfl, HZ.out⟩
theorem aEa {bk sh hb hs : ByteArray} {hr hc : Int} {af : Value} {g : Nat} {x y : Rf} {b : Bool} {w : World} (h : ∀ u, Below w.heap.size w u → Calls Tryz.prog 67 #[rfV x, .pointer (some ⟨g, 0, none⟩), .pointer (some ⟨g + 1, 0, none⟩)] u fun e w' => e = .returned (.tuple #[rfV y, .bool b]) ∧ Below u.heap.size u w') :
  Calls Tryz.prog 48 #[.agg (jZ bk sh hb hs hr hc (.func (.func 67) #[] #[.pointer (some ⟨g, 0, none⟩), .pointer (some ⟨g + 1, 0, none⟩)]) af), rfV x] w fun e w' => e = .returned (.tuple #[.agg (lcs (if b = true then jH y else gone) (.slice none 0 0)), .bool (if b = true then !eqR y x else true)]) ∧ Below w.heap.size w w' := by
 have HG := fun u => mE u
 obtain ⟨W, hW⟩ : ∃ W, W = ((w.alloc (.cells (jZ bk sh hb hs hr hc (.func (.func 67) #[] #[.pointer (some ⟨g, 0, none⟩), .pointer (some ⟨g + 1, 0, none⟩)]) af) 64)).alloc (rfO x)).alloc (.cells nd0 28) := ⟨_, rfl⟩
 have HB0 : Below w.heap.size w W := by rw [hW]; exact aC (aC (aC (Below.refl _ _) _) _) _
 have HN : Hid (∀ u, Below W.heap.size W u → u.heap[w.heap.size + 2]? = some (.cells nd0 28) ∧ u.heap[w.heap.size + 1]? = some (rfO x) ∧ Below w.heap.size w u) := fun u hu => by
  have hu0 := hu
  rw [hW] at hu
  have q := new1 hu
  have q1 := new1 (aS hu)
  simp only [World.size_alloc] at q q1
  exact ⟨q, q1, aJ HB0 hu0⟩
 have HA := h W HB0
 have HBy : Hid (∀ w2, Below W.heap.size W w2 → w2.heap.size + 1 = (w2.alloc (rfO y)).heap.size) := fun w2 _ => by simp
 clear HB0 h
 subst hW
 cases b
 ·simp only [Bool.false_eq_true, if_false]
  go_enter Tryz.func48, Tryz.ntmps48
  go_wp2_with (first
   | (go_at_call 67; refine HA.mono ?_; clear HA; rintro e w2 ⟨rfl, hb⟩; have HB2 : Hid _ := aC hb (rfO y); clear hb)
   | (go_at_call 72; refine (HG _).mono ?_; clear HG; rintro e w3 ⟨rfl, hb⟩; have HB3 := aJ HB2.out hb; obtain ⟨n0, _, n1⟩ := HN.out _ HB3; have RS : Hid _ := uM gone n0; have HR : Hid _ := uN gone n0; have HZ : Hid (Below w.heap.size w (w3.setRow (w.heap.size + 2) gl)) := n1.grown (aD _ _ _) n1.size (fun g e => by cases e; omega); clear hb HB3 n0 n1)
   | ((with_reducible show wpList _ _ _ ({ dst := _, op := Op.store 28 _ _, type := _, pos := _, after := _, guard := none } :: _) _ _); refine aB rfl 28 _ _ rfl _ _ _ rfl rfl RS.out ?_; clear RS))
  exact bodyPost_ret (kK rfl rfl HR.out rfl) rfl ⟨rfl, HZ.out⟩
 ·simp only [if_true]
  go_enter Tryz.func48, Tryz.ntmps48
  go_wp2_with (first
   | (go_at_call 67; refine HA.mono ?_; clear HA; rintro e w2 ⟨rfl, hb⟩; have HB2 : Hid _ := aC hb (rfO y); have HX2 : Hid _ := heap_alloc_new w2 (rfO y); have hsz : w.heap.size + 3 ≤ w2.heap.size := (by have hz := hb.size; simp only [World.size_alloc] at hz; omega); clear hb))
  obtain ⟨n0, n1, n2⟩ := HN.out _ HB2.out
  have n0 : (w2.alloc (rfO y)).drew.heap[w.heap.size + 2]? = some (.cells nd0 28) := n0
  have n1 : (w2.alloc (rfO y)).drew.heap[w.heap.size + 1]? = some (rfO x) := n1
  have nx : (w2.alloc (rfO y)).drew.heap[w2.heap.size]? = some (rfO y) := HX2.out
  have n2 := n2.drew
  clear HN HBy HB2 HX2 HG
  have RS : Hid _ := uM (jH y) n0
  have HR : Hid _ := uN (jH y) n0
  have HZ : Hid (Below w.heap.size w ((w2.alloc (rfO y)).drew.setRow (w.heap.size + 2) (lcs (jH y) (.slice none 0 0)))) := n2.grown (aD _ _ _) n2.size (fun g e => by cases e; omega)
  have HS : Hid (_ ∧ _) := ⟨eD nx, eD n1⟩
  have HS2 : Hid (_ ∧ _) := ⟨eD (x := y) ((setRow_other (w2.alloc (rfO y)).drew (w.heap.size + 2) w2.heap.size (lcs (jH y) (.slice none 0 0)) (by omega)).trans nx), eD (x := x) ((setRow_other (w2.alloc (rfO y)).drew (w.heap.size + 2) (w.heap.size + 1) (lcs (jH y) (.slice none 0 0)) (by omega)).trans n1)⟩
  clear n0 n1 nx n2
  refine aM (fun u => (Instr.loadAt 25 (.pointer (some ⟨w2.heap.size, 0, none⟩))).run Tryz.prog u = .ok (rfV y) u ∧ (Instr.loadAt 25 (.pointer (some ⟨w.heap.size + 1, 0, none⟩))).run Tryz.prog u = .ok (rfV x) u) (fun j => false) (by kernel_rfl) ?_
  refine dwl 0 (rfV y) ?_ (hS := HS.out) (hy := (fun u hSu => aG rfl rfl hSu.1))
  refine dwp 1 (.agg (lcs (jH y) (.slice none 0 0))) ?_ (hy := (fun u => iQ rfl (by go_simp) (aGz u y)))
  refine dwl 2 (rfV y) ?_ (hS := HS.out) (hy := (fun u hSu => aG rfl rfl hSu.1))
  refine dwl 3 (rfV x) ?_ (hS := HS.out) (hy := (fun u hSu => aG rfl rfl hSu.2))
  refine dwp 4 (.bool (!eqR y x)) ?_ (hy := (fun u => kD rfl rfl rfl))
  refine aF (i := 5) (by kernel_rfl) rfl ?_
  intro K' hK'
  rw [if_pos (by go_simp)]
  refine aH none rfl 28 _ _ rfl _ _ rfl rfl RS.out (hK' _ _ (.inr fun _ => HS2.out) ?_)
  clear hK'
  try simp only [Act.put, List.setIfInBounds_toArray, List.set_cons_zero, List.set_cons_succ]
  refine dwp 6 (.bool (!eqR y x)) ?_
  refine aK (by kernel_rfl) ?_ _
  go_wp2
  exact bodyPost_ret (kK rfl rfl HR.out rfl) rfl ⟨rfl, HZ.out⟩
abbrev bT (C : Chg) : Array Value := #[.string C.bk, .string C.sh, .bool C.dr, .bool C.co, .int .i64 C.a, .int .i64 C.n, .int .i64 C.m]
theorem qD (a n m : Int) (k : Nat) (w : World) : Calls Tryz.prog 43 #[Hs.shV a n m, .func (.func k) #[] #[]] w fun e w' => e = .returned (.tuple #[.func (.func 67) #[] #[.pointer (some ⟨w.heap.size, 0, none⟩), .pointer (some ⟨w.heap.size + 1, 0, none⟩)], .func (.func 68) #[] #[.pointer (some ⟨w.heap.size, 0, none⟩), .pointer (some ⟨w.heap.size + 1, 0, none⟩)]]) ∧ w' = (w.alloc (Hs.shO a n m 32)).alloc (.cells #[.func (.func k) #[] #[]] 88) := by
 go_enter Tryz.func43, Tryz.ntmps43
 go_wp2
 refine bodyPost_ret (v := .tuple #[.func (.func 67) #[] #[.pointer (some ⟨w.heap.size, 0, none⟩), .pointer (some ⟨w.heap.size + 1, 0, none⟩)], .func (.func 68) #[] #[.pointer (some ⟨w.heap.size, 0, none⟩), .pointer (some ⟨w.heap.size + 1, 0, none⟩)]]) (by simp [results, Tryz.results43, go_sem]) rfl ⟨rfl, rfl⟩
theorem aEb (u : World) (a b c d : ByteArray) (r l : Int) : (Instr.build 64 #[(0, .string a), (1, .string b), (2, aC3 c d r l)]).run Tryz.prog u = .ok (.agg (jZ a b c d r l .nilFunc .nilFunc)) u := by kernel_rfl
theorem aBP (C : Chg) (H : Hm) (w : World) : Calls Tryz.prog 24 #[.agg (bT C), hmV H] w fun e w' => ∃ g, e = .returned (.agg (fP C H g)) ∧ nD w' g C ∧ Below w.heap.size w w' := by
 obtain ⟨bk, sh, dr, co, a, n, m⟩ := C
 obtain ⟨hb, hs, hr, hc⟩ := H
 have RB := fun u => aEb u bk sh hb hs hr hc
 cases dr
 ·cases co
  ·have HL := fun u => qD a n m 45 u
   go_enter Tryz.func24, Tryz.ntmps24
   go_wp2_with (first
    | ((with_reducible show wpList _ _ _ ({ dst := _, op := Op.build 64 _, type := _, pos := _, after := _, guard := none } :: _) _ _); refine bP rfl 64 _ rfl _ _ rfl (RB _) ?_)
    | (go_at_call 43; refine (HL _).mono ?_; clear HL; rintro e w2 ⟨rfl, hw⟩; obtain rfl := hw.symm; clear hw))
   have hB := Below.refl ((((((w.alloc (.cells (bT ⟨bk, sh, false, false, a, n, m⟩) 34)).alloc (bK hb hs hr hc)).alloc (.cells (fP ⟨bk, sh, false, false, a, n, m⟩ ⟨hb, hs, hr, hc⟩ (w.heap.size + 4)) 64)).alloc (.cells (fP ⟨bk, sh, false, false, a, n, m⟩ ⟨hb, hs, hr, hc⟩ (w.heap.size + 4)) 64)).alloc (Hs.shO a n m 32)).alloc (.cells #[.func (.func 45) #[] #[]] 88)).heap.size ((((((w.alloc (.cells (bT ⟨bk, sh, false, false, a, n, m⟩) 34)).alloc (bK hb hs hr hc)).alloc (.cells (fP ⟨bk, sh, false, false, a, n, m⟩ ⟨hb, hs, hr, hc⟩ (w.heap.size + 4)) 64)).alloc (.cells (fP ⟨bk, sh, false, false, a, n, m⟩ ⟨hb, hs, hr, hc⟩ (w.heap.size + 4)) 64)).alloc (Hs.shO a n m 32)).alloc (.cells #[.func (.func 45) #[] #[]] 88))
   have h5 := new1 hB
   have h4 := new1 (aS hB)
   have h2 := new1 (aS (aS (aS hB)))
   simp only [World.size_alloc] at h5 h4 h2
   exact bodyPost_ret (results_cell_row rfl _ _ (w.heap.size + 2) 64 _ (0, 0) _ rfl h2 Tryz.underlying64 rfl (by kernel_rfl)) rfl ⟨w.heap.size + 4, rfl, .inr ⟨h4, h5⟩, aC (aC (aC (aC (aC (aC (Below.refl _ _) _) _) _) _) _) _⟩
  ·have HL := fun u => qD a n m 44 u
   go_enter Tryz.func24, Tryz.ntmps24
   go_wp2_with (first
    | ((with_reducible show wpList _ _ _ ({ dst := _, op := Op.build 64 _, type := _, pos := _, after := _, guard := none } :: _) _ _); refine bP rfl 64 _ rfl _ _ rfl (RB _) ?_)
    | (go_at_call 43; refine (HL _).mono ?_; clear HL; rintro e w2 ⟨rfl, hw⟩; obtain rfl := hw.symm; clear hw))
   have hB := Below.refl ((((((w.alloc (.cells (bT ⟨bk, sh, false, true, a, n, m⟩) 34)).alloc (bK hb hs hr hc)).alloc (.cells (fP ⟨bk, sh, false, true, a, n, m⟩ ⟨hb, hs, hr, hc⟩ (w.heap.size + 4)) 64)).alloc (.cells (fP ⟨bk, sh, false, true, a, n, m⟩ ⟨hb, hs, hr, hc⟩ (w.heap.size + 4)) 64)).alloc (Hs.shO a n m 32)).alloc (.cells #[.func (.func 44) #[] #[]] 88)).heap.size ((((((w.alloc (.cells (bT ⟨bk, sh, false, true, a, n, m⟩) 34)).alloc (bK hb hs hr hc)).alloc (.cells (fP ⟨bk, sh, false, true, a, n, m⟩ ⟨hb, hs, hr, hc⟩ (w.heap.size + 4)) 64)).alloc (.cells (fP ⟨bk, sh, false, true, a, n, m⟩ ⟨hb, hs, hr, hc⟩ (w.heap.size + 4)) 64)).alloc (Hs.shO a n m 32)).alloc (.cells #[.func (.func 44) #[] #[]] 88))
   have h5 := new1 hB
   have h4 := new1 (aS hB)
   have h2 := new1 (aS (aS (aS hB)))
   simp only [World.size_alloc] at h5 h4 h2
   exact bodyPost_ret (results_cell_row rfl _ _ (w.heap.size + 2) 64 _ (0, 0) _ rfl h2 Tryz.underlying64 rfl (by kernel_rfl)) rfl ⟨w.heap.size + 4, rfl, .inr ⟨h4, h5⟩, aC (aC (aC (aC (aC (aC (Below.refl _ _) _) _) _) _) _) _⟩
 ·go_enter Tryz.func24, Tryz.ntmps24
  go_wp2_with (first
   | ((with_reducible show wpList _ _ _ ({ dst := _, op := Op.build 64 _, type := _, pos := _, after := _, guard := none } :: _) _ _); refine bP rfl 64 _ rfl _ _ rfl (RB _) ?_))
  have hB := Below.refl ((((w.alloc (.cells (bT ⟨bk, sh, true, co, a, n, m⟩) 34)).alloc (bK hb hs hr hc)).alloc (.cells (fP ⟨bk, sh, true, co, a, n, m⟩ ⟨hb, hs, hr, hc⟩ 0) 64)).alloc (.cells (fP ⟨bk, sh, true, co, a, n, m⟩ ⟨hb, hs, hr, hc⟩ 0) 64)).heap.size ((((w.alloc (.cells (bT ⟨bk, sh, true, co, a, n, m⟩) 34)).alloc (bK hb hs hr hc)).alloc (.cells (fP ⟨bk, sh, true, co, a, n, m⟩ ⟨hb, hs, hr, hc⟩ 0) 64)).alloc (.cells (fP ⟨bk, sh, true, co, a, n, m⟩ ⟨hb, hs, hr, hc⟩ 0) 64))
  have h2 := new1 (aS hB)
  simp only [World.size_alloc] at h2
  exact bodyPost_ret (results_cell_row rfl _ _ (w.heap.size + 2) 64 _ (0, 0) _ rfl h2 Tryz.underlying64 rfl (by kernel_rfl)) rfl ⟨0, rfl, .inl rfl, aC (aC (aC (aC (Below.refl _ _) _) _) _) _⟩
theorem aKU {u : World} {g : Nat} {fv : Array Value} (h : u.heap[g]? = some (.cells fv 64)) (hs : fv.size = 8) : (Instr.loadAt 64 (.pointer (some ⟨g, 0, none⟩))).run Tryz.prog u = .ok (.agg fv) u :=
 lod h rfl Tryz.underlying64 (by rw [hs]; kernel_rfl)
def aJk (C : Chg) (H : Hm) (g : Nat) (t : T) : Prop := ∀ (K : Nat → Prop) (w : World) (es : Array Value), NK K w es t → (∀ i, K i → i < w.heap.size) → nD w g C → Calls Tryz.prog 25 #[.agg (fP C H g), .agg es] w fun e w' => ∃ es', e = .returned (.tuple #[.agg es', .bool (rwB C H t)]) ∧ NK (fun i => w.heap.size ≤ i) w' es' (rwT C H t) ∧ Below w.heap.size w w'
def pK (C : Chg) (H : Hm) (t : T) (k : Nat) : Bool := ((kids t.2).take k).any (rwB C H)
theorem aEc {C : Chg} {H : Hm} {t s : T} {k : Nat} (h : (kids t.2)[k]? = some s) : pK C H t (k + 1) = (pK C H t k || rwB C H s) := by
 unfold pK
 rw [List.take_add_one, h]
 simp
theorem aGC (C : Chg) (H : Hm) (t : T) (k : Nat) (h : k = (kids t.2).length) : pK C H t k = rwA C H t.2 := by
 unfold pK
 rw [h, List.take_length, aJ1]
theorem lX {C : Chg} {H : Hm} {g : Nat} {t : T} (hz : zT t ≤ 900) (ih : ∀ s ∈ kids t.2, aJk C H g s) (K : Nat → Prop) (w : World) (es : Array Value) (h : NK K w es t) (hK : ∀ i, K i → i < w.heap.size) (hF : nD w g C) :
  Calls Tryz.prog 47 #[.agg (fP C H g), .agg es] w fun e w' => ∃ es', e = .returned (.tuple #[.agg es', .bool (rwA C H t.2)]) ∧ NK (fun i => w.heap.size ≤ i) w' es' (t.1, rwF C H t.2) ∧ Below w.heap.size w w' := by
 have hkl := lW t
 obtain ⟨p, n, c, rfl, hs⟩ := h
 have aJh : n ≤ 900 := by have := hs.1; omega
 have HKk : Hid (∀ s ∈ kids t.2, ∀ (K : Nat → Prop) (w : World) (es : Array Value), NK K w es s → (∀ i, K i → i < w.heap.size) → nD w g C → Calls Tryz.prog 25 #[.agg (fP C H g), .agg es] w fun e w' => ∃ es', e = .returned (.tuple #[.agg es', .bool (rwB C H s)]) ∧ NK (fun i => w.heap.size ≤ i) w' es' (rwT C H s) ∧ Below w.heap.size w w') := ih
 have HFS : (fP C H g).size = 8 := rfl
 have HFM : Hid (nD w g C) := hF
 generalize fP C H g = fv at *
 obtain ⟨w1, hw1⟩ : ∃ w1, w1 = w.alloc (.cells fv 64) := ⟨_, rfl⟩
 have hs1 : w1.heap.size = w.heap.size + 1 := by rw [hw1]; simp
 have aJ5 : Below w.heap.size w w1 := by rw [hw1]; exact aC (Below.refl _ _) _
 have hF1 : w1.heap[w.heap.size]? = some (.cells fv 64) := by rw [hw1]; exact heap_alloc_new w _
 have hK1 : ∀ i, K i → i < w1.heap.size := fun i hi => by have := hK i hi; omega
 have hs' : SK K w1 p n t.2 := (show SK K w p n t.2 from hs).grown (bD (row := none) aJ5) (fun g e => by cases e)
 have C0 := CP.clone (c := c) aJh hK1 hs'
 have H0 := heap_alloc_new w1 (.cells (lcs t.1 (.slice p n c)) 28)
 have c17 := aU H0
 have R17 : Hid ((Instr.loadAt 26 (.pointer (some ⟨w1.heap.size, 17, none⟩))).run Tryz.prog ((w1.alloc (.cells (lcs t.1 (.slice p n c)) 28)).alloc (.cells nd0 28)) = .ok (.slice p n c) ((w1.alloc (.cells (lcs t.1 (.slice p n c)) 28)).alloc (.cells nd0 28))) := jI (bS (aC (Below.refl _ _) _) c17)
 have HW1 : Hid (w1 = w.alloc (.cells fv 64)) := hw1
 have HNn : Hid (n = (kids t.2).length) := hs.1
 have HKK : Hid (∀ i, K i → i < w1.heap.size) := hK1
 have aKV : Hid (Below w.heap.size w w1) := aJ5
 have HF1 : Hid (w1.heap[w.heap.size]? = some (.cells fv 64)) := hF1
 have HS1 : Hid (w1.heap.size = w.heap.size + 1) := hs1
 rw [hs1] at C0 R17
 rw [hw1] at R17
 clear ih hs hs' hK hz hkl c17 H0 hF hw1 aJ5 hF1 hK1 hs1
 generalize lcs t.1 (.slice p n c) = bx at C0 R17 ⊢
 go_enter Tryz.func47, Tryz.ntmps47
 go_wp2_with (first
  | ((with_reducible show wpList _ _ _ ({ dst := _, op := Op.load 26 _, type := _, pos := _, after := _, guard := none } :: _) _ _); refine aA rfl 26 _ rfl _ _ rfl R17.out ?_; clear R17)
  | (go_at_call 71; rw [← HW1.out]; refine C0.mono ?_; rintro e w2 ⟨q, cq, L0, rfl, c1, f1, HP0⟩; clear C0))
 clear c1 f1
 have HP0 : Hid (RP (rwT C H) K w1 t q n cq 0 _ L0) := RP.of HP0.out
 generalize w2.setCell ⟨w.heap.size + 1, 17, none⟩ (.slice q n cq) = u0 at *
 go_loopw [6, 18] (fun o i wr => ∃ (k : Nat) (L : List (Array Value × T)), k ≤ n ∧ i = .int .i64 (k : Nat) ∧ o = .bool (pK C H t k) ∧ Hid (RP (rwT C H) K w1 t q n cq k wr L)) (fun _ i _ => n - (intOf i).toNat)
 case atStart => exact ⟨0, L0, Nat.zero_le _, rfl, rfl, HP0⟩
 case round =>
  obtain ⟨k, L, hk, rfl, rfl, HP⟩ := hrel
  clear HP0
  by_cases hlt : k < n
  ·have hki : (k : Int) < n := by omega
   obtain ⟨a, x, HX, HQ, RL, hN⟩ : ∃ a x, Hid (L[k]? = some x) ∧ q = some a ∧ Hid ((Instr.loadAt 28 (.pointer (some (a.add (k * 18))))).run Tryz.prog wr = .ok (.agg x.1) wr) ∧ NK K wr x.1 x.2 := by
    rcases HP.out.row with h0 | ⟨g, rfl, hg, aL7, hr, hf, hxx⟩
    ·omega
    ·have hl : k < L.length := by rw [HP.out.len, ← HNn.out]; omega
     have hx := (hxx k _ (List.getElem?_eq_getElem hl)).2 (Nat.le_refl _)
     refine ⟨_, _, List.getElem?_eq_getElem hl, rfl, ?_, hx⟩
     have := hr.load (List.getElem?_eq_getElem hl) hx.size
     rw [Addr.add_mid, Nat.zero_add]
     exact this
   have HSi : Hid ((kids t.2)[k]? = some x.2) := HP.out.old k x HX.out (Nat.le_refl _)
   have HA : Hid (pK C H t (k + 1) = (pK C H t k || rwB C H x.2)) := aEc HSi.out
   have HSm : Hid (x.2 ∈ kids t.2) := List.mem_of_getElem? HSi.out
   obtain ⟨b1, b2⟩ := mY wr hN.nt
   have RS : Hid _ := b1
   have HB2 : Below wr.heap.size wr (wr.alloc (.cells x.1 28)) := aC (Below.refl _ _) _
   have hww : Below w.heap.size w wr := aJ aKV.out (by have := HP.out.bel; exact this)
   have RF : Hid _ := aKU (u := wr.alloc (.cells x.1 28)) (((aC HP.out.bel (.cells x.1 28)).block _ (by rw [HS1.out]; omega)).trans HF1.out) HFS
   have RLx : Hid _ := b2 _ (heap_alloc_new wr _)
   have C31 := HKk.out x.2 HSm.out K (wr.alloc (.cells x.1 28)) x.1 (hN.below HB2) (fun i hi => by have := HKK.out i hi; have := HP.out.bel.size; simp; omega) (HFM.out.below (aJ hww HB2))
   have CC : Calls Tryz.prog 25 #[.agg fv, .agg x.1] (wr.alloc (.cells x.1 28)) fun e w3 => ∃ es2 w5 L', e = .returned (.tuple #[.agg es2, .bool (rwB C H x.2)]) ∧ Hid ((Instr.storeAt 28 (.pointer (some ⟨w3.heap.size, 0, none⟩)) (.agg es2)).run Tryz.prog (w3.alloc (.cells nd0 28)) = .ok () (w3.alloc (.cells es2 28))) ∧ Hid ((Instr.loadAt 26 (.pointer (some ⟨w.heap.size + 1, 17, none⟩))).run Tryz.prog (w3.alloc (.cells es2 28)) = .ok (.slice q n cq) (w3.alloc (.cells es2 28))) ∧ Hid ((Instr.loadAt 28 (.pointer (some ⟨w3.heap.size, 0, none⟩))).run Tryz.prog (w3.alloc (.cells es2 28)) = .ok (.agg es2) (w3.alloc (.cells es2 28))) ∧ Hid ((Instr.storeAt 28 (.pointer (some (a.add (k * 18)))) (.agg es2)).run Tryz.prog (w3.alloc (.cells es2 28)) = .ok () w5) ∧ Hid (RP (rwT C H) K w1 t q n cq (k + 1) w5 L') := C31.mono (by
    rintro e w3 ⟨es2, rfl, hn2, hb3⟩
    have hB3 : Below wr.heap.size wr w3 := aJ HB2 hb3
    have hB4 : Below wr.heap.size wr (w3.alloc (.cells es2 28)) := aC hB3 _
    have hg : ∃ g, q = some ⟨g, 0, none⟩ := by
     rcases HP.out.row with h0 | ⟨g, e, _⟩
     ·omega
     ·exact ⟨g, e⟩
    obtain ⟨g', hg⟩ := hg
    have ha : a = ⟨g', 0, none⟩ := by rw [HQ] at hg; exact Option.some.inj hg
    obtain ⟨n1, n2⟩ := mY w3 hn2.nt
    obtain ⟨r1, r2⟩ := RP.step HKK.out HP.out hg hlt HNn.out hB4 HX.out ((hn2.below (aC (Below.refl _ _) (.cells es2 28))).mono (fun i hi _ => Nat.le_trans HB2.size hi))
    refine ⟨es2, _, _, rfl, n1, ?_, n2 _ (heap_alloc_new w3 _), ?_, r2⟩
    ·show _ = _
     rw [← HS1.out]
     exact jI (aU ((hB4.block _ (aW HP.out.box)).trans HP.out.box))
    ·show _ = _
     rw [ha, Addr.add_mid, Nat.zero_add]
     exact r1)
   clear C31 hN b1 b2 HP HX HSi HSm HB2 hww
   subst HQ
   have hAx := HA.out
   clear HA
   generalize hA1 : pK C H t (k + 1) = A1 at hAx
   have HA1 : Hid (pK C H t (k + 1) = A1) := hA1
   clear hA1
   generalize rwB C H x.2 = rb at *
   cases ho : pK C H t k
   all_goals
    rw [ho] at hAx
    go_wp2_with (first
     | ((with_reducible show wpList _ _ _ ({ dst := _, op := Op.load 28 _, type := _, pos := _, after := _, guard := none } :: _) _ _); refine aA rfl 28 _ rfl _ _ rfl RL.out ?_; clear RL)
     | ((with_reducible show wpList _ _ _ ({ dst := _, op := Op.store 28 _ _, type := _, pos := _, after := _, guard := none } :: _) _ _); refine aB rfl 28 _ _ rfl _ _ _ rfl rfl RS.out ?_; clear RS)
     | ((with_reducible show wpList _ _ _ ({ dst := _, op := Op.load 64 _, type := _, pos := _, after := _, guard := none } :: _) _ _); refine aA rfl 64 _ rfl _ _ rfl RF.out ?_; clear RF)
     | ((with_reducible show wpList _ _ _ ({ dst := _, op := Op.load 28 _, type := _, pos := _, after := _, guard := none } :: _) _ _); refine aA rfl 28 _ rfl _ _ rfl RLx.out ?_; clear RLx)
     | (go_at_call 25; refine CC.mono ?_; clear CC; rintro e w3 ⟨es2, w5, L', rfl, RS2, RL2, RL3, RS3, HP4⟩)
     | ((with_reducible show wpList _ _ _ ({ dst := _, op := Op.store 28 _ _, type := _, pos := _, after := _, guard := none } :: _) _ _); refine aB rfl 28 _ _ rfl _ _ _ rfl rfl RS2.out ?_; clear RS2)
     | ((with_reducible show wpList _ _ _ ({ dst := _, op := Op.load 26 _, type := _, pos := _, after := _, guard := none } :: _) _ _); refine aA rfl 26 _ rfl _ _ rfl RL2.out ?_; clear RL2)
     | ((with_reducible show wpList _ _ _ ({ dst := _, op := Op.load 28 _, type := _, pos := _, after := _, guard := none } :: _) _ _); refine aA rfl 28 _ rfl _ _ rfl RL3.out ?_; clear RL3)
     | ((with_reducible show wpList _ _ _ ({ dst := _, op := Op.store 28 _ _, type := _, pos := _, after := _, guard := none } :: _) _ _); refine aB rfl 28 _ _ rfl _ _ _ rfl rfl RS3.out ?_; clear RS3))
    go_roundw
    case rel => exact ⟨k + 1, L', by omega, by go_num, by rw [HA1.out, hAx]; first | rfl | simp, HP4⟩
    case measure => simp [intOf]; omega
  ·have hki : ¬ (k : Int) < n := by omega
   obtain rfl : k = n := by omega
   have hD := HP.out.done HNn.out (F2 := rwF C H t.2) (aIu C H t.2)
   have RLb : Hid _ := hD.lod HP.out.box
   have RSb : Hid _ := hD.sto (g := w1.heap.size + 1) HP.out.res rfl
   have HG : wr.grownBy (wr.setRow (w1.heap.size + 1) (lcs t.1 (.slice q k cq))) (some (w1.heap.size + 1)) := aD _ _ _
   have HD : Hid (NK (fun i => w.heap.size ≤ i) (wr.setRow (w1.heap.size + 1) (lcs t.1 (.slice q k cq))) (lcs t.1 (.slice q k cq)) (t.1, rwF C H t.2)) := (hD.grown HG (fun g e h => by cases e; omega)).mono (fun i h _ => by have := HS1.out; omega)
   have HB : Hid (Below w.heap.size w (wr.setRow (w1.heap.size + 1) (lcs t.1 (.slice q k cq)))) := aJ aKV.out (HP.out.bel.grown HG HP.out.bel.size (fun g e => by cases e; omega))
   have HR : Hid _ := setRow_heap wr (w1.heap.size + 1) nd0 (lcs t.1 (.slice q k cq)) 28 (0, 0) HP.out.res
   have HAl : Hid (pK C H t k = rwA C H t.2) := aGC C H t k HNn.out
   rw [HS1.out] at RLb RSb HR HD HB
   clear HG hD HP
   generalize pK C H t k = ob at *
   go_wp2_with (first
    | ((with_reducible show wpList _ _ _ ({ dst := _, op := Op.load 28 _, type := _, pos := _, after := _, guard := none } :: _) _ _); refine aA rfl 28 _ rfl _ _ rfl RLb.out ?_; clear RLb)
    | ((with_reducible show wpList _ _ _ ({ dst := _, op := Op.store 28 _ _, type := _, pos := _, after := _, guard := none } :: _) _ _); refine aB rfl 28 _ _ rfl _ _ _ rfl rfl RSb.out ?_; clear RSb))
   exact bodyPost_ret (kK rfl rfl HR.out rfl) rfl ⟨lcs t.1 (.slice q k cq), (by rw [← HAl.out]; first | done | rfl), HD.out, HB.out⟩
end Go.Proofs.YtljmklbbngpllaaGreatDoor.Rw
