/- RwMvR, HRef, HRSpan, RwRef1, RwFol, RwParts. -/
import Derived.Test.YtljmklbbngpllaaGreatDoorRwMvOt
set_option linter.unusedVariables false
set_option linter.unusedSimpArgs false
set_option maxHeartbeats 16000000
set_option maxRecDepth 100000
namespace Go.Proofs.YtljmklbbngpllaaGreatDoor.Rw
open Go.RowKit Go.Fm
abbrev refFn (C : Chg) (g : Nat) : Value := if C.dr = true then .func (.func 41) #[] #[] else .func (.func 67) #[] #[.pointer (some ⟨g, 0, none⟩), .pointer (some ⟨g + 1, 0, none⟩)]
abbrev areaFn (C : Chg) (g : Nat) : Value := if C.dr = true then .func (.func 42) #[] #[] else .func (.func 68) #[] #[.pointer (some ⟨g, 0, none⟩), .pointer (some ⟨g + 1, 0, none⟩)]
abbrev folV (C : Chg) (H : Hm) (g : Nat) : Array Value := folA C.bk C.sh H.hb H.hs H.hr H.hc (refFn C g) (areaFn C g)
def FolM (u : World) (g : Nat) (C : Chg) : Prop := C.dr = true ∨ Fol u g C
theorem FolM.below {u u' : World} {g : Nat} {C : Chg} (h : FolM u g C) (hb : Below u.heap.size u u') : FolM u' g C := h.imp id fun h => h.below hb
theorem ref1_any {C : Chg} {g : Nat} {w : World} (h : Fol w g C) (x : Rf) :
  Calls Tryz.prog 67 #[rfV x, .pointer (some ⟨g, 0, none⟩), .pointer (some ⟨g + 1, 0, none⟩)] w fun e w' => e = .returned (.tuple #[rfV (setLn C x (Hs.posF C.a C.n C.m (ln C x))), .bool (Hs.posB C.a C.n C.m (ln C x))]) ∧ Below w.heap.size w w' := by
 obtain ⟨bk, sh, dr, co, a, n, m⟩ := C
 cases co
 ·exact ref1_row h x
 ·exact ref1_col h x
theorem area1_any {C : Chg} {g : Nat} {w : World} (h : Fol w g C) (x y : Rf) :
  Calls Tryz.prog 68 #[rfV x, rfV y, .pointer (some ⟨g, 0, none⟩), .pointer (some ⟨g + 1, 0, none⟩)] w fun e w' => e = .returned (.tuple #[rfV (setLn C x (Hs.spL C.a C.n C.m (ln C x) (ln C y))), rfV (setLn C y (Hs.spH C.a C.n C.m (ln C x) (ln C y))), .bool (Hs.spB C.a C.n C.m (ln C x) (ln C y))]) ∧ Below w.heap.size w w' := by
 obtain ⟨bk, sh, dr, co, a, n, m⟩ := C
 cases co
 ·exact area1_row h x y
 ·exact area1_col h x y
theorem eqRV (x y : Rf) (u : World) : (binOp .neq 25 (rfV x) (rfV y)).run Tryz.prog u = .ok (.bool (!eqR x y)) u := run_neq_refB u _ _ _ _ _ _ _ _ _ _ _ _
theorem exec_build {P : Program} {ev : Operand → Value} {o : Oper} {ty : TypeId} {xs : Array (Nat × Operand)} {ps : Array (Nat × Value)} {v : Value} {u : World} (ho : o.op = .build ty xs) (hx : (xs.map fun (i, x) => (i, ev x)) = ps) (hrun : (Instr.build ty ps).run P u = .ok v u) : (execOp ev o).run P u = .ok (.value v) u := by
 unfold execOp
 simp only [ho, hx, Sem.run_bind, Sem.run_pure, hrun, Result.andThen_ok]
theorem exec_ne {ev : Operand → Value} {o : Oper} {ty2 : TypeId} {x y : Operand} {a b : Rf} {u : World} (ho : o.op = .binOp .neq 25 x y ty2) (hx : ev x = rfV a) (hy : ev y = rfV b) : (execOp ev o).run Tryz.prog u = .ok (.value (.bool (!eqR a b))) u := by
 unfold execOp
 simp only [ho, hx, hy]
 have hg : (eqGuard .neq 25 x y (rfV a) (rfV b)).run Tryz.prog u = .ok () u := by
  unfold eqGuard
  simp [Sem.run_bind, Sem.run_pure, guard25, go_sem]
 simp only [Sem.run_bind, Sem.run_pure, hg, eqRV, Result.andThen_ok]
theorem mref_drop {bk sh hb hs : ByteArray} {hr hc : Int} {af : Value} (x : Rf) (w : World) :
  Calls Tryz.prog 48 #[.agg (folA bk sh hb hs hr hc (.func (.func 41) #[] #[]) af), rfV x] w fun e w' => e = .returned (.tuple #[.agg gl, .bool true]) ∧ Below w.heap.size w w' := by
 have HA := fun u => goneRef_any x u
 have HG := fun u => noRef_any u
 obtain ⟨W, hW⟩ : ∃ W, W = ((w.alloc (.cells (folA bk sh hb hs hr hc (.func (.func 41) #[] #[]) af) 64)).alloc (rfO x)).alloc (.cells nd0 28) := ⟨_, rfl⟩
 have HB0 : Below w.heap.size w W := by rw [hW]; exact bel_alloc (bel_alloc (bel_alloc (Below.refl _ _) _) _) _
 have HN : Hid (∀ u, Below W.heap.size W u → u.heap[w.heap.size + 2]? = some (.cells nd0 28) ∧ Below w.heap.size w u) := fun u hu => by
  have hu0 := hu
  rw [hW] at hu
  have q := new1 hu
  simp only [World.size_alloc] at q
  exact ⟨q, bel_step HB0 hu0⟩
 have HW : Hid (Below W.heap.size W W) := Below.refl _ _
 clear HB0
 subst hW
 go_enter Tryz.func48, Tryz.ntmps48
 go_wp2_with (first
  | (go_at_call 41; refine (HA _).mono ?_; clear HA; rintro e w2 ⟨rfl, hb⟩; have HB2 : Hid _ := bel_alloc hb (rfO z0); clear hb)
  | (go_at_call 72; refine (HG _).mono ?_; clear HG; rintro e w3 ⟨rfl, hb⟩; have HB3 := bel_step HB2.out hb; obtain ⟨n0, n1⟩ := HN.out _ HB3; have RS : Hid _ := nsto gone n0; have HR : Hid _ := nres gone n0; have HZ : Hid (Below w.heap.size w (w3.setRow (w.heap.size + 2) gl)) := n1.grown (setRow_grown _ _ _) n1.size (fun g e => by cases e; omega); clear hb HB3 n0 n1)
  | ((with_reducible show wpList _ _ _ ({ dst := _, op := Op.store 28 _ _, type := _, pos := _, after := _, guard := none } :: _) _ _); refine wpList_store_run rfl 28 _ _ rfl _ _ _ rfl rfl RS.out ?_; clear RS))
 exact bodyPost_ret (nres2 rfl rfl HR.out rfl) rfl ⟨rfl, HZ.out⟩
theorem mref_move {bk sh hb hs : ByteArray} {hr hc : Int} {af : Value} {g : Nat} {x y : Rf} {b : Bool} {w : World} (h : ∀ u, Below w.heap.size w u → Calls Tryz.prog 67 #[rfV x, .pointer (some ⟨g, 0, none⟩), .pointer (some ⟨g + 1, 0, none⟩)] u fun e w' => e = .returned (.tuple #[rfV y, .bool b]) ∧ Below u.heap.size u w') :
  Calls Tryz.prog 48 #[.agg (folA bk sh hb hs hr hc (.func (.func 67) #[] #[.pointer (some ⟨g, 0, none⟩), .pointer (some ⟨g + 1, 0, none⟩)]) af), rfV x] w fun e w' => e = .returned (.tuple #[.agg (lcs (if b = true then labRf y else gone) (.slice none 0 0)), .bool (if b = true then !eqR y x else true)]) ∧ Below w.heap.size w w' := by
 have HG := fun u => noRef_any u
 obtain ⟨W, hW⟩ : ∃ W, W = ((w.alloc (.cells (folA bk sh hb hs hr hc (.func (.func 67) #[] #[.pointer (some ⟨g, 0, none⟩), .pointer (some ⟨g + 1, 0, none⟩)]) af) 64)).alloc (rfO x)).alloc (.cells nd0 28) := ⟨_, rfl⟩
 have HB0 : Below w.heap.size w W := by rw [hW]; exact bel_alloc (bel_alloc (bel_alloc (Below.refl _ _) _) _) _
 have HN : Hid (∀ u, Below W.heap.size W u → u.heap[w.heap.size + 2]? = some (.cells nd0 28) ∧ u.heap[w.heap.size + 1]? = some (rfO x) ∧ Below w.heap.size w u) := fun u hu => by
  have hu0 := hu
  rw [hW] at hu
  have q := new1 hu
  have q1 := new1 (bel1 hu)
  simp only [World.size_alloc] at q q1
  exact ⟨q, q1, bel_step HB0 hu0⟩
 have HA := h W HB0
 have HBy : Hid (∀ w2, Below W.heap.size W w2 → w2.heap.size + 1 = (w2.alloc (rfO y)).heap.size) := fun w2 _ => by simp
 clear HB0 h
 subst hW
 cases b
 ·simp only [Bool.false_eq_true, if_false]
  go_enter Tryz.func48, Tryz.ntmps48
  go_wp2_with (first
   | (go_at_call 67; refine HA.mono ?_; clear HA; rintro e w2 ⟨rfl, hb⟩; have HB2 : Hid _ := bel_alloc hb (rfO y); clear hb)
   | (go_at_call 72; refine (HG _).mono ?_; clear HG; rintro e w3 ⟨rfl, hb⟩; have HB3 := bel_step HB2.out hb; obtain ⟨n0, _, n1⟩ := HN.out _ HB3; have RS : Hid _ := nsto gone n0; have HR : Hid _ := nres gone n0; have HZ : Hid (Below w.heap.size w (w3.setRow (w.heap.size + 2) gl)) := n1.grown (setRow_grown _ _ _) n1.size (fun g e => by cases e; omega); clear hb HB3 n0 n1)
   | ((with_reducible show wpList _ _ _ ({ dst := _, op := Op.store 28 _ _, type := _, pos := _, after := _, guard := none } :: _) _ _); refine wpList_store_run rfl 28 _ _ rfl _ _ _ rfl rfl RS.out ?_; clear RS))
  exact bodyPost_ret (nres2 rfl rfl HR.out rfl) rfl ⟨rfl, HZ.out⟩
 ·simp only [if_true]
  go_enter Tryz.func48, Tryz.ntmps48
  go_wp2_with (first
   | (go_at_call 67; refine HA.mono ?_; clear HA; rintro e w2 ⟨rfl, hb⟩; have HB2 : Hid _ := bel_alloc hb (rfO y); have HX2 : Hid _ := heap_alloc_new w2 (rfO y); have hsz : w.heap.size + 3 ≤ w2.heap.size := (by have hz := hb.size; simp only [World.size_alloc] at hz; omega); clear hb))
  obtain ⟨n0, n1, n2⟩ := HN.out _ HB2.out
  have n0 : (w2.alloc (rfO y)).drew.heap[w.heap.size + 2]? = some (.cells nd0 28) := n0
  have n1 : (w2.alloc (rfO y)).drew.heap[w.heap.size + 1]? = some (rfO x) := n1
  have nx : (w2.alloc (rfO y)).drew.heap[w2.heap.size]? = some (rfO y) := HX2.out
  have n2 := n2.drew
  clear HN HBy HB2 HX2 HG
  have RS : Hid _ := nsto (labRf y) n0
  have HR : Hid _ := nres (labRf y) n0
  have HZ : Hid (Below w.heap.size w ((w2.alloc (rfO y)).drew.setRow (w.heap.size + 2) (lcs (labRf y) (.slice none 0 0)))) := n2.grown (setRow_grown _ _ _) n2.size (fun g e => by cases e; omega)
  have HS : Hid (_ ∧ _) := ⟨rlod nx, rlod n1⟩
  have HS2 : Hid (_ ∧ _) := ⟨rlod (x := y) ((setRow_other (w2.alloc (rfO y)).drew (w.heap.size + 2) w2.heap.size (lcs (labRf y) (.slice none 0 0)) (by omega)).trans nx), rlod (x := x) ((setRow_other (w2.alloc (rfO y)).drew (w.heap.size + 2) (w.heap.size + 1) (lcs (labRf y) (.slice none 0 0)) (by omega)).trans n1)⟩
  clear n0 n1 nx n2
  refine wp_region_d (fun u => (Instr.loadAt 25 (.pointer (some ⟨w2.heap.size, 0, none⟩))).run Tryz.prog u = .ok (rfV y) u ∧ (Instr.loadAt 25 (.pointer (some ⟨w.heap.size + 1, 0, none⟩))).run Tryz.prog u = .ok (rfV x) u) (fun j => false) (by kernel_rfl) ?_
  refine dwl 0 (rfV y) ?_ (hS := HS.out) (hy := (fun u hSu => exec_load_run rfl rfl hSu.1))
  refine dwp 1 (.agg (lcs (labRf y) (.slice none 0 0))) ?_ (hy := (fun u => exec_build rfl (by go_simp) (build_rf u y)))
  refine dwl 2 (rfV y) ?_ (hS := HS.out) (hy := (fun u hSu => exec_load_run rfl rfl hSu.1))
  refine dwl 3 (rfV x) ?_ (hS := HS.out) (hy := (fun u hSu => exec_load_run rfl rfl hSu.2))
  refine dwp 4 (.bool (!eqR y x)) ?_ (hy := (fun u => exec_ne rfl rfl rfl))
  refine wpAnyD_one (i := 5) (by kernel_rfl) rfl ?_
  intro K' hK'
  rw [if_pos (by go_simp)]
  refine wp_store_run none rfl 28 _ _ rfl _ _ rfl rfl RS.out (hK' _ _ (.inr fun _ => HS2.out) ?_)
  clear hK'
  try simp only [Act.put, List.setIfInBounds_toArray, List.set_cons_zero, List.set_cons_succ]
  refine dwp 6 (.bool (!eqR y x)) ?_
  refine wpAnyD_done (by kernel_rfl) ?_ _
  go_wp2
  exact bodyPost_ret (nres2 rfl rfl HR.out rfl) rfl ⟨rfl, HZ.out⟩
end Go.Proofs.YtljmklbbngpllaaGreatDoor.Rw
namespace Go.Proofs.YtljmklbbngpllaaGreatDoor.Hs
open Go.RowKit
theorem set3 {w w1 : World} {g : Nat} {a b c : Value} (hg : w.heap.size ≤ g) (h : Below w.heap.size w w1) : Below w.heap.size w (((w1.setCell ⟨g, 0, none⟩ a).setCell ⟨g, 1, none⟩ b).setCell ⟨g, 2, none⟩ c) :=
 ((h.setCell hg _).setCell hg _).setCell hg _
theorem sp_true {a n m lo hi : Int} (h : spB a n m lo hi = true) : spL a n m lo hi = loF a n lo ∧ spH a n m lo hi = hiF a n m hi := by
 unfold spL spH; rw [h]; exact ⟨rfl, rfl⟩
end Go.Proofs.YtljmklbbngpllaaGreatDoor.Hs
namespace Go.Proofs.YtljmklbbngpllaaGreatDoor.Rw
open Go.RowKit Go.Fm
abbrev chgC (C : Chg) : Array Value := #[.string C.bk, .string C.sh, .bool C.dr, .bool C.co, .int .i64 C.a, .int .i64 C.n, .int .i64 C.m]
theorem byLines_any (a n m : Int) (k : Nat) (w : World) : Calls Tryz.prog 43 #[Hs.shV a n m, .func (.func k) #[] #[]] w fun e w' => e = .returned (.tuple #[.func (.func 67) #[] #[.pointer (some ⟨w.heap.size, 0, none⟩), .pointer (some ⟨w.heap.size + 1, 0, none⟩)], .func (.func 68) #[] #[.pointer (some ⟨w.heap.size, 0, none⟩), .pointer (some ⟨w.heap.size + 1, 0, none⟩)]]) ∧ w' = (w.alloc (Hs.shO a n m 32)).alloc (.cells #[.func (.func k) #[] #[]] 88) := by
 go_enter Tryz.func43, Tryz.ntmps43
 go_wp2
 refine bodyPost_ret (v := .tuple #[.func (.func 67) #[] #[.pointer (some ⟨w.heap.size, 0, none⟩), .pointer (some ⟨w.heap.size + 1, 0, none⟩)], .func (.func 68) #[] #[.pointer (some ⟨w.heap.size, 0, none⟩), .pointer (some ⟨w.heap.size + 1, 0, none⟩)]]) (by simp [results, Tryz.results43, go_sem]) rfl ⟨rfl, rfl⟩
theorem build_fol (u : World) (a b c d : ByteArray) (r l : Int) : (Instr.build 64 #[(0, .string a), (1, .string b), (2, plcV c d r l)]).run Tryz.prog u = .ok (.agg (folA a b c d r l .nilFunc .nilFunc)) u := by kernel_rfl
theorem follow_any (C : Chg) (H : Hm) (w : World) : Calls Tryz.prog 24 #[.agg (chgC C), hmV H] w fun e w' => ∃ g, e = .returned (.agg (folV C H g)) ∧ FolM w' g C ∧ Below w.heap.size w w' := by
 obtain ⟨bk, sh, dr, co, a, n, m⟩ := C
 obtain ⟨hb, hs, hr, hc⟩ := H
 have RB := fun u => build_fol u bk sh hb hs hr hc
 cases dr
 ·cases co
  ·have HL := fun u => byLines_any a n m 45 u
   go_enter Tryz.func24, Tryz.ntmps24
   go_wp2_with (first
    | ((with_reducible show wpList _ _ _ ({ dst := _, op := Op.build 64 _, type := _, pos := _, after := _, guard := none } :: _) _ _); refine wpList_build_run rfl 64 _ rfl _ _ rfl (RB _) ?_)
    | (go_at_call 43; refine (HL _).mono ?_; clear HL; rintro e w2 ⟨rfl, hw⟩; obtain rfl := hw.symm; clear hw))
   have hB := Below.refl ((((((w.alloc (.cells (chgC ⟨bk, sh, false, false, a, n, m⟩) 34)).alloc (plcO hb hs hr hc)).alloc (.cells (folV ⟨bk, sh, false, false, a, n, m⟩ ⟨hb, hs, hr, hc⟩ (w.heap.size + 4)) 64)).alloc (.cells (folV ⟨bk, sh, false, false, a, n, m⟩ ⟨hb, hs, hr, hc⟩ (w.heap.size + 4)) 64)).alloc (Hs.shO a n m 32)).alloc (.cells #[.func (.func 45) #[] #[]] 88)).heap.size ((((((w.alloc (.cells (chgC ⟨bk, sh, false, false, a, n, m⟩) 34)).alloc (plcO hb hs hr hc)).alloc (.cells (folV ⟨bk, sh, false, false, a, n, m⟩ ⟨hb, hs, hr, hc⟩ (w.heap.size + 4)) 64)).alloc (.cells (folV ⟨bk, sh, false, false, a, n, m⟩ ⟨hb, hs, hr, hc⟩ (w.heap.size + 4)) 64)).alloc (Hs.shO a n m 32)).alloc (.cells #[.func (.func 45) #[] #[]] 88))
   have h5 := new1 hB
   have h4 := new1 (bel1 hB)
   have h2 := new1 (bel1 (bel1 (bel1 hB)))
   simp only [World.size_alloc] at h5 h4 h2
   exact bodyPost_ret (results_cell_row rfl _ _ (w.heap.size + 2) 64 _ (0, 0) _ rfl h2 Tryz.underlying64 rfl (by kernel_rfl)) rfl ⟨w.heap.size + 4, rfl, .inr ⟨h4, h5⟩, bel_alloc (bel_alloc (bel_alloc (bel_alloc (bel_alloc (bel_alloc (Below.refl _ _) _) _) _) _) _) _⟩
  ·have HL := fun u => byLines_any a n m 44 u
   go_enter Tryz.func24, Tryz.ntmps24
   go_wp2_with (first
    | ((with_reducible show wpList _ _ _ ({ dst := _, op := Op.build 64 _, type := _, pos := _, after := _, guard := none } :: _) _ _); refine wpList_build_run rfl 64 _ rfl _ _ rfl (RB _) ?_)
    | (go_at_call 43; refine (HL _).mono ?_; clear HL; rintro e w2 ⟨rfl, hw⟩; obtain rfl := hw.symm; clear hw))
   have hB := Below.refl ((((((w.alloc (.cells (chgC ⟨bk, sh, false, true, a, n, m⟩) 34)).alloc (plcO hb hs hr hc)).alloc (.cells (folV ⟨bk, sh, false, true, a, n, m⟩ ⟨hb, hs, hr, hc⟩ (w.heap.size + 4)) 64)).alloc (.cells (folV ⟨bk, sh, false, true, a, n, m⟩ ⟨hb, hs, hr, hc⟩ (w.heap.size + 4)) 64)).alloc (Hs.shO a n m 32)).alloc (.cells #[.func (.func 44) #[] #[]] 88)).heap.size ((((((w.alloc (.cells (chgC ⟨bk, sh, false, true, a, n, m⟩) 34)).alloc (plcO hb hs hr hc)).alloc (.cells (folV ⟨bk, sh, false, true, a, n, m⟩ ⟨hb, hs, hr, hc⟩ (w.heap.size + 4)) 64)).alloc (.cells (folV ⟨bk, sh, false, true, a, n, m⟩ ⟨hb, hs, hr, hc⟩ (w.heap.size + 4)) 64)).alloc (Hs.shO a n m 32)).alloc (.cells #[.func (.func 44) #[] #[]] 88))
   have h5 := new1 hB
   have h4 := new1 (bel1 hB)
   have h2 := new1 (bel1 (bel1 (bel1 hB)))
   simp only [World.size_alloc] at h5 h4 h2
   exact bodyPost_ret (results_cell_row rfl _ _ (w.heap.size + 2) 64 _ (0, 0) _ rfl h2 Tryz.underlying64 rfl (by kernel_rfl)) rfl ⟨w.heap.size + 4, rfl, .inr ⟨h4, h5⟩, bel_alloc (bel_alloc (bel_alloc (bel_alloc (bel_alloc (bel_alloc (Below.refl _ _) _) _) _) _) _) _⟩
 ·go_enter Tryz.func24, Tryz.ntmps24
  go_wp2_with (first
   | ((with_reducible show wpList _ _ _ ({ dst := _, op := Op.build 64 _, type := _, pos := _, after := _, guard := none } :: _) _ _); refine wpList_build_run rfl 64 _ rfl _ _ rfl (RB _) ?_))
  have hB := Below.refl ((((w.alloc (.cells (chgC ⟨bk, sh, true, co, a, n, m⟩) 34)).alloc (plcO hb hs hr hc)).alloc (.cells (folV ⟨bk, sh, true, co, a, n, m⟩ ⟨hb, hs, hr, hc⟩ 0) 64)).alloc (.cells (folV ⟨bk, sh, true, co, a, n, m⟩ ⟨hb, hs, hr, hc⟩ 0) 64)).heap.size ((((w.alloc (.cells (chgC ⟨bk, sh, true, co, a, n, m⟩) 34)).alloc (plcO hb hs hr hc)).alloc (.cells (folV ⟨bk, sh, true, co, a, n, m⟩ ⟨hb, hs, hr, hc⟩ 0) 64)).alloc (.cells (folV ⟨bk, sh, true, co, a, n, m⟩ ⟨hb, hs, hr, hc⟩ 0) 64))
  have h2 := new1 (bel1 hB)
  simp only [World.size_alloc] at h2
  exact bodyPost_ret (results_cell_row rfl _ _ (w.heap.size + 2) 64 _ (0, 0) _ rfl h2 Tryz.underlying64 rfl (by kernel_rfl)) rfl ⟨0, rfl, .inl rfl, bel_alloc (bel_alloc (bel_alloc (bel_alloc (Below.refl _ _) _) _) _) _⟩
theorem flod {u : World} {g : Nat} {fv : Array Value} (h : u.heap[g]? = some (.cells fv 64)) (hs : fv.size = 8) : (Instr.loadAt 64 (.pointer (some ⟨g, 0, none⟩))).run Tryz.prog u = .ok (.agg fv) u :=
 lod h rfl Tryz.underlying64 (by rw [hs]; kernel_rfl)
def NodeC (C : Chg) (H : Hm) (g : Nat) (t : T) : Prop := ∀ (K : Nat → Prop) (w : World) (es : Array Value), NK K w es t → (∀ i, K i → i < w.heap.size) → FolM w g C → Calls Tryz.prog 25 #[.agg (folV C H g), .agg es] w fun e w' => ∃ es', e = .returned (.tuple #[.agg es', .bool (rwB C H t)]) ∧ NK (fun i => w.heap.size ≤ i) w' es' (rwT C H t) ∧ Below w.heap.size w w'
def anyK (C : Chg) (H : Hm) (t : T) (k : Nat) : Bool := ((kids t.2).take k).any (rwB C H)
theorem anyK_succ {C : Chg} {H : Hm} {t s : T} {k : Nat} (h : (kids t.2)[k]? = some s) : anyK C H t (k + 1) = (anyK C H t k || rwB C H s) := by
 unfold anyK
 rw [List.take_add_one, h]
 simp
theorem anyK_all (C : Chg) (H : Hm) (t : T) (k : Nat) (h : k = (kids t.2).length) : anyK C H t k = rwA C H t.2 := by
 unfold anyK
 rw [h, List.take_length, any_rw]
theorem parts_any {C : Chg} {H : Hm} {g : Nat} {t : T} (hz : zT t ≤ 900) (ih : ∀ s ∈ kids t.2, NodeC C H g s) (K : Nat → Prop) (w : World) (es : Array Value) (h : NK K w es t) (hK : ∀ i, K i → i < w.heap.size) (hF : FolM w g C) :
  Calls Tryz.prog 47 #[.agg (folV C H g), .agg es] w fun e w' => ∃ es', e = .returned (.tuple #[.agg es', .bool (rwA C H t.2)]) ∧ NK (fun i => w.heap.size ≤ i) w' es' (t.1, rwF C H t.2) ∧ Below w.heap.size w w' := by
 have hkl := kids_le t
 obtain ⟨p, n, c, rfl, hs⟩ := h
 have hn900 : n ≤ 900 := by have := hs.1; omega
 have HKk : Hid (∀ s ∈ kids t.2, ∀ (K : Nat → Prop) (w : World) (es : Array Value), NK K w es s → (∀ i, K i → i < w.heap.size) → FolM w g C → Calls Tryz.prog 25 #[.agg (folV C H g), .agg es] w fun e w' => ∃ es', e = .returned (.tuple #[.agg es', .bool (rwB C H s)]) ∧ NK (fun i => w.heap.size ≤ i) w' es' (rwT C H s) ∧ Below w.heap.size w w') := ih
 have HFS : (folV C H g).size = 8 := rfl
 have HFM : Hid (FolM w g C) := hF
 generalize folV C H g = fv at *
 obtain ⟨w1, hw1⟩ : ∃ w1, w1 = w.alloc (.cells fv 64) := ⟨_, rfl⟩
 have hs1 : w1.heap.size = w.heap.size + 1 := by rw [hw1]; simp
 have hB01 : Below w.heap.size w w1 := by rw [hw1]; exact bel_alloc (Below.refl _ _) _
 have hF1 : w1.heap[w.heap.size]? = some (.cells fv 64) := by rw [hw1]; exact heap_alloc_new w _
 have hK1 : ∀ i, K i → i < w1.heap.size := fun i hi => by have := hK i hi; omega
 have hs' : SK K w1 p n t.2 := (show SK K w p n t.2 from hs).grown (grown_below (row := none) hB01) (fun g e => by cases e)
 have C0 := CP.clone (c := c) hn900 hK1 hs'
 have H0 := heap_alloc_new w1 (.cells (lcs t.1 (.slice p n c)) 28)
 have c17 := cell17 H0
 have R17 : Hid ((Instr.loadAt 26 (.pointer (some ⟨w1.heap.size, 17, none⟩))).run Tryz.prog ((w1.alloc (.cells (lcs t.1 (.slice p n c)) 28)).alloc (.cells nd0 28)) = .ok (.slice p n c) ((w1.alloc (.cells (lcs t.1 (.slice p n c)) 28)).alloc (.cells nd0 28))) := ld26 (cell_bel (bel_alloc (Below.refl _ _) _) c17)
 have HW1 : Hid (w1 = w.alloc (.cells fv 64)) := hw1
 have HNn : Hid (n = (kids t.2).length) := hs.1
 have HKK : Hid (∀ i, K i → i < w1.heap.size) := hK1
 have HB01 : Hid (Below w.heap.size w w1) := hB01
 have HF1 : Hid (w1.heap[w.heap.size]? = some (.cells fv 64)) := hF1
 have HS1 : Hid (w1.heap.size = w.heap.size + 1) := hs1
 rw [hs1] at C0 R17
 rw [hw1] at R17
 clear ih hs hs' hK hz hkl c17 H0 hF hw1 hB01 hF1 hK1 hs1
 generalize lcs t.1 (.slice p n c) = bx at C0 R17 ⊢
 go_enter Tryz.func47, Tryz.ntmps47
 go_wp2_with (first
  | ((with_reducible show wpList _ _ _ ({ dst := _, op := Op.load 26 _, type := _, pos := _, after := _, guard := none } :: _) _ _); refine wpList_load_run rfl 26 _ rfl _ _ rfl R17.out ?_; clear R17)
  | (go_at_call 71; rw [← HW1.out]; refine C0.mono ?_; rintro e w2 ⟨q, cq, L0, rfl, c1, f1, HP0⟩; clear C0))
 clear c1 f1
 have HP0 : Hid (RP (rwT C H) K w1 t q n cq 0 _ L0) := RP.of HP0.out
 generalize w2.setCell ⟨w.heap.size + 1, 17, none⟩ (.slice q n cq) = u0 at *
 go_loopw [6, 18] (fun o i wr => ∃ (k : Nat) (L : List (Array Value × T)), k ≤ n ∧ i = .int .i64 (k : Nat) ∧ o = .bool (anyK C H t k) ∧ Hid (RP (rwT C H) K w1 t q n cq k wr L)) (fun _ i _ => n - (intOf i).toNat)
 case atStart => exact ⟨0, L0, Nat.zero_le _, rfl, rfl, HP0⟩
 case round =>
  obtain ⟨k, L, hk, rfl, rfl, HP⟩ := hrel
  clear HP0
  by_cases hlt : k < n
  ·have hki : (k : Int) < n := by omega
   obtain ⟨a, x, HX, HQ, RL, hN⟩ : ∃ a x, Hid (L[k]? = some x) ∧ q = some a ∧ Hid ((Instr.loadAt 28 (.pointer (some (a.add (k * 18))))).run Tryz.prog wr = .ok (.agg x.1) wr) ∧ NK K wr x.1 x.2 := by
    rcases HP.out.row with h0 | ⟨g, rfl, hg, hltg, hr, hf, hxx⟩
    ·omega
    ·have hl : k < L.length := by rw [HP.out.len, ← HNn.out]; omega
     have hx := (hxx k _ (List.getElem?_eq_getElem hl)).2 (Nat.le_refl _)
     refine ⟨_, _, List.getElem?_eq_getElem hl, rfl, ?_, hx⟩
     have := hr.load (List.getElem?_eq_getElem hl) hx.size
     rw [Addr.add_mid, Nat.zero_add]
     exact this
   have HSi : Hid ((kids t.2)[k]? = some x.2) := HP.out.old k x HX.out (Nat.le_refl _)
   have HA : Hid (anyK C H t (k + 1) = (anyK C H t k || rwB C H x.2)) := anyK_succ HSi.out
   have HSm : Hid (x.2 ∈ kids t.2) := List.mem_of_getElem? HSi.out
   obtain ⟨b1, b2⟩ := nbox wr hN.nt
   have RS : Hid _ := b1
   have HB2 : Below wr.heap.size wr (wr.alloc (.cells x.1 28)) := bel_alloc (Below.refl _ _) _
   have hww : Below w.heap.size w wr := bel_step HB01.out (by have := HP.out.bel; exact this)
   have RF : Hid _ := flod (u := wr.alloc (.cells x.1 28)) (((bel_alloc HP.out.bel (.cells x.1 28)).block _ (by rw [HS1.out]; omega)).trans HF1.out) HFS
   have RLx : Hid _ := b2 _ (heap_alloc_new wr _)
   have C31 := HKk.out x.2 HSm.out K (wr.alloc (.cells x.1 28)) x.1 (hN.below HB2) (fun i hi => by have := HKK.out i hi; have := HP.out.bel.size; simp; omega) (HFM.out.below (bel_step hww HB2))
   have CC : Calls Tryz.prog 25 #[.agg fv, .agg x.1] (wr.alloc (.cells x.1 28)) fun e w3 => ∃ es2 w5 L', e = .returned (.tuple #[.agg es2, .bool (rwB C H x.2)]) ∧ Hid ((Instr.storeAt 28 (.pointer (some ⟨w3.heap.size, 0, none⟩)) (.agg es2)).run Tryz.prog (w3.alloc (.cells nd0 28)) = .ok () (w3.alloc (.cells es2 28))) ∧ Hid ((Instr.loadAt 26 (.pointer (some ⟨w.heap.size + 1, 17, none⟩))).run Tryz.prog (w3.alloc (.cells es2 28)) = .ok (.slice q n cq) (w3.alloc (.cells es2 28))) ∧ Hid ((Instr.loadAt 28 (.pointer (some ⟨w3.heap.size, 0, none⟩))).run Tryz.prog (w3.alloc (.cells es2 28)) = .ok (.agg es2) (w3.alloc (.cells es2 28))) ∧ Hid ((Instr.storeAt 28 (.pointer (some (a.add (k * 18)))) (.agg es2)).run Tryz.prog (w3.alloc (.cells es2 28)) = .ok () w5) ∧ Hid (RP (rwT C H) K w1 t q n cq (k + 1) w5 L') := C31.mono (by
    rintro e w3 ⟨es2, rfl, hn2, hb3⟩
    have hB3 : Below wr.heap.size wr w3 := bel_step HB2 hb3
    have hB4 : Below wr.heap.size wr (w3.alloc (.cells es2 28)) := bel_alloc hB3 _
    have hg : ∃ g, q = some ⟨g, 0, none⟩ := by
     rcases HP.out.row with h0 | ⟨g, e, _⟩
     ·omega
     ·exact ⟨g, e⟩
    obtain ⟨g', hg⟩ := hg
    have ha : a = ⟨g', 0, none⟩ := by rw [HQ] at hg; exact Option.some.inj hg
    obtain ⟨n1, n2⟩ := nbox w3 hn2.nt
    obtain ⟨r1, r2⟩ := RP.step HKK.out HP.out hg hlt HNn.out hB4 HX.out ((hn2.below (bel_alloc (Below.refl _ _) (.cells es2 28))).mono (fun i hi _ => Nat.le_trans HB2.size hi))
    refine ⟨es2, _, _, rfl, n1, ?_, n2 _ (heap_alloc_new w3 _), ?_, r2⟩
    ·show _ = _
     rw [← HS1.out]
     exact ld26 (cell17 ((hB4.block _ (lt_of HP.out.box)).trans HP.out.box))
    ·show _ = _
     rw [ha, Addr.add_mid, Nat.zero_add]
     exact r1)
   clear C31 hN b1 b2 HP HX HSi HSm HB2 hww
   subst HQ
   have hAx := HA.out
   clear HA
   generalize hA1 : anyK C H t (k + 1) = A1 at hAx
   have HA1 : Hid (anyK C H t (k + 1) = A1) := hA1
   clear hA1
   generalize rwB C H x.2 = rb at *
   cases ho : anyK C H t k
   all_goals
    rw [ho] at hAx
    go_wp2_with (first
     | ((with_reducible show wpList _ _ _ ({ dst := _, op := Op.load 28 _, type := _, pos := _, after := _, guard := none } :: _) _ _); refine wpList_load_run rfl 28 _ rfl _ _ rfl RL.out ?_; clear RL)
     | ((with_reducible show wpList _ _ _ ({ dst := _, op := Op.store 28 _ _, type := _, pos := _, after := _, guard := none } :: _) _ _); refine wpList_store_run rfl 28 _ _ rfl _ _ _ rfl rfl RS.out ?_; clear RS)
     | ((with_reducible show wpList _ _ _ ({ dst := _, op := Op.load 64 _, type := _, pos := _, after := _, guard := none } :: _) _ _); refine wpList_load_run rfl 64 _ rfl _ _ rfl RF.out ?_; clear RF)
     | ((with_reducible show wpList _ _ _ ({ dst := _, op := Op.load 28 _, type := _, pos := _, after := _, guard := none } :: _) _ _); refine wpList_load_run rfl 28 _ rfl _ _ rfl RLx.out ?_; clear RLx)
     | (go_at_call 25; refine CC.mono ?_; clear CC; rintro e w3 ⟨es2, w5, L', rfl, RS2, RL2, RL3, RS3, HP4⟩)
     | ((with_reducible show wpList _ _ _ ({ dst := _, op := Op.store 28 _ _, type := _, pos := _, after := _, guard := none } :: _) _ _); refine wpList_store_run rfl 28 _ _ rfl _ _ _ rfl rfl RS2.out ?_; clear RS2)
     | ((with_reducible show wpList _ _ _ ({ dst := _, op := Op.load 26 _, type := _, pos := _, after := _, guard := none } :: _) _ _); refine wpList_load_run rfl 26 _ rfl _ _ rfl RL2.out ?_; clear RL2)
     | ((with_reducible show wpList _ _ _ ({ dst := _, op := Op.load 28 _, type := _, pos := _, after := _, guard := none } :: _) _ _); refine wpList_load_run rfl 28 _ rfl _ _ rfl RL3.out ?_; clear RL3)
     | ((with_reducible show wpList _ _ _ ({ dst := _, op := Op.store 28 _ _, type := _, pos := _, after := _, guard := none } :: _) _ _); refine wpList_store_run rfl 28 _ _ rfl _ _ _ rfl rfl RS3.out ?_; clear RS3))
    go_roundw
    case rel => exact ⟨k + 1, L', by omega, by go_num, by rw [HA1.out, hAx]; first | rfl | simp, HP4⟩
    case measure => simp [intOf]; omega
  ·have hki : ¬ (k : Int) < n := by omega
   obtain rfl : k = n := by omega
   have hD := HP.out.done HNn.out (F2 := rwF C H t.2) (kids_rw C H t.2)
   have RLb : Hid _ := hD.lod HP.out.box
   have RSb : Hid _ := hD.sto (g := w1.heap.size + 1) HP.out.res rfl
   have HG : wr.grownBy (wr.setRow (w1.heap.size + 1) (lcs t.1 (.slice q k cq))) (some (w1.heap.size + 1)) := setRow_grown _ _ _
   have HD : Hid (NK (fun i => w.heap.size ≤ i) (wr.setRow (w1.heap.size + 1) (lcs t.1 (.slice q k cq))) (lcs t.1 (.slice q k cq)) (t.1, rwF C H t.2)) := (hD.grown HG (fun g e h => by cases e; omega)).mono (fun i h _ => by have := HS1.out; omega)
   have HB : Hid (Below w.heap.size w (wr.setRow (w1.heap.size + 1) (lcs t.1 (.slice q k cq)))) := bel_step HB01.out (HP.out.bel.grown HG HP.out.bel.size (fun g e => by cases e; omega))
   have HR : Hid _ := setRow_heap wr (w1.heap.size + 1) nd0 (lcs t.1 (.slice q k cq)) 28 (0, 0) HP.out.res
   have HAl : Hid (anyK C H t k = rwA C H t.2) := anyK_all C H t k HNn.out
   rw [HS1.out] at RLb RSb HR HD HB
   clear HG hD HP
   generalize anyK C H t k = ob at *
   go_wp2_with (first
    | ((with_reducible show wpList _ _ _ ({ dst := _, op := Op.load 28 _, type := _, pos := _, after := _, guard := none } :: _) _ _); refine wpList_load_run rfl 28 _ rfl _ _ rfl RLb.out ?_; clear RLb)
    | ((with_reducible show wpList _ _ _ ({ dst := _, op := Op.store 28 _ _, type := _, pos := _, after := _, guard := none } :: _) _ _); refine wpList_store_run rfl 28 _ _ rfl _ _ _ rfl rfl RSb.out ?_; clear RSb))
   exact bodyPost_ret (nres2 rfl rfl HR.out rfl) rfl ⟨lcs t.1 (.slice q k cq), (by rw [← HAl.out]; first | done | rfl), HD.out, HB.out⟩
end Go.Proofs.YtljmklbbngpllaaGreatDoor.Rw
