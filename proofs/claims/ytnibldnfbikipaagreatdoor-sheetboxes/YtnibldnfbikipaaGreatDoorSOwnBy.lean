/- FParse, SMay, SChk, SChk2, SOwn. -/
import Derived.Defers
import Derived.Recover
import Derived.Test.YtnibldnfbikipaaGreatDoorTLexBy
set_option linter.unusedVariables false
set_option linter.unusedSimpArgs false
set_option maxHeartbeats 16000000
set_option maxRecDepth 100000
namespace Go.Proofs.YtnibldnfbikipaaGreatDoor
open Go.RowKit Go.Fm
def zeroT : T := tree (lab0 0 nb) []
def parF (l : List UInt8) : T × Int :=
 if 255 < l.length then (zeroT, 3) else match lexF l with
  | none => (zeroT, 10)
  | some ts => match allF ts with
   | none => (zeroT, 10)
   | some t => (t, 0)
theorem eq_form (W : World) : (binOp .eql 20 (.iface 33 (.int .i64 10)) (.iface 33 (.int .i64 10))).run Tryz.prog W = .ok (.bool true) W := by kernel_rfl
theorem eq_nil (W : World) : (binOp .eql 20 .nilIface .nilIface).run Tryz.prog W = .ok (.bool true) W := by kernel_rfl
theorem eq_no (W : World) : (binOp .eql 20 (.iface 33 (.int .i64 10)) .nilIface).run Tryz.prog W = .ok (.bool false) W := by kernel_rfl
theorem catch_idle (p q : Addr) (w : World) : CallsD Tryz.prog 106 #[.pointer (some p), .pointer (some q)] .returning w fun e u' w' => e = .returned (.tuple #[]) ∧ u' = .returning ∧ w' = w := by
 have e1 := eq_nil
 refine callsD_of_wpS Tryz.func106 rfl fun c₀ cs hu => ?_
 apply wpS_seq
 apply wpS_region
 simp [wpOpsS, go_sem, recoverD, hu, Tryz.ntmps106, Exit.thenS, Array.replicate, List.replicate]
 refine wpS_of_wp ?_
 go_wp2
 cases c₀
 simp_all [bodyPostS, results, Tryz.results106]
theorem catch_form {g2 g3 : Nat} {zs : Array Value} {x : Value} (w : World) (h2 : w.heap[g2]? = some (.cells zs 67)) (hz : zs.size = 18) (h3 : w.heap[g3]? = some (.cells #[x] 33)) (hne : g3 ≠ g2) :
  CallsD Tryz.prog 106 #[.pointer (some ⟨g2, 0, none⟩), .pointer (some ⟨g3, 0, none⟩)] (.panicking formP) w fun e u' w' => e = .returned (.tuple #[]) ∧ u' = .panicking [{ v := .iface 33 (.int .i64 10), recovered := true }] ∧ w' = (w.setRow g2 nd0).setCell ⟨g3, 0, none⟩ (.int .i64 10) := by
 have e1 := eq_form
 have e2 := eq_no
 have RS : Hid ((Instr.storeAt 67 (.pointer (some ⟨g2, 0, none⟩)) (.agg nd0)).run Tryz.prog w = .ok () (w.setRow g2 nd0)) := sto h2 inf67 hz (lcs_all (lab0 0 nb) none 0 0)
 have H3 : (w.setRow g2 nd0).heap[g3]? = some (.cells #[x] 33) := ((setRow_grown w g2 nd0).block _ (lt_of h3) (by intro e; exact hne (Option.some.inj e))).trans h3
 have c3 : (w.setRow g2 nd0).cell? ⟨g3, 0, none⟩ = some x := by rw [cell_of_row _ g3 0 _ 33 (0, 0) H3]; rfl
 have f3 : (w.setRow g2 nd0).frozen? ⟨g3, 0, none⟩ = false := by unfold World.frozen?; rw [H3]; rfl
 unfold formP
 refine callsD_of_wpS Tryz.func106 rfl fun c₀ cs hu => ?_
 apply wpS_seq
 apply wpS_region
 simp [wpOpsS, go_sem, recoverD, hu, Tryz.ntmps106, Exit.thenS, Array.replicate, List.replicate]
 refine wpS_of_wp ?_
 go_wp2_with (refine wpList_store_run rfl 67 _ _ rfl _ _ _ rfl rfl RS.out ?_)
 cases c₀
 simp_all [bodyPostS, results, Tryz.results106]
theorem results_ne {fn : Func} {p u : Tmp} (h : fn.results = #[.cell p 67, .cell u 33]) {tmps : Array Value} {w : World} {g2 g3 : Nat} {es : Array Value} {x : Value}
  (hp : tmps.getD p undef = .pointer (some ⟨g2, 0, none⟩)) (hu : tmps.getD u undef = .pointer (some ⟨g3, 0, none⟩)) (h2 : w.heap[g2]? = some (.cells es 67)) (he : es.size = 18) (h3 : w.heap[g3]? = some (.cells #[x] 33)) :
  (results fn tmps).run Tryz.prog w = .ok (.tuple #[.agg es, x]) w := by
 have hp' : tmps[p]?.getD undef = .pointer (some ⟨g2, 0, none⟩) := by simpa using hp
 have hu' : tmps[u]?.getD undef = .pointer (some ⟨g3, 0, none⟩) := by simpa using hu
 have c3 : w.cell? ⟨g3, 0, none⟩ = some x := by rw [cell_of_row _ g3 0 _ 33 (0, 0) h3]; rfl
 have r2 := run_loadVar_row (P := Tryz.prog) w g2 67 67 es (0, 0) _ h2 Tryz.underlying67 rfl (by rw [he]; exact inf67)
 have r3 : (loadVar 33 ⟨g3, 0, none⟩).run Tryz.prog w = .ok x w := by
  have h29 := Tryz.underlying33
  simp [go_sem, c3]
 simp [results, h, hp', hu', asAddr, r2, r3]
def PA (w : World) (p : T × Int) (e : Ending) (w' : World) : Prop := ∃ es, e = .returned (.tuple #[.agg es, .int .i64 p.2]) ∧ NT w' es p.1 ∧ zT p.1 ≤ 256 ∧ Below w.heap.size w w'
abbrev wpa (w : World) : World := (w.alloc (.cells nd0 67)).alloc (.cells #[.int .i64 0] 33)
theorem wpa_heap {w u : World} (h : Below (wpa w).heap.size (wpa w) u) : u.heap[w.heap.size]? = some (.cells nd0 67) ∧ u.heap[w.heap.size + 1]? = some (.cells #[.int .i64 0] 33) ∧ Below w.heap.size w u := by
 have := new2 h
 exact ⟨this.1, this.2, bel2 h⟩
theorem zero_nt (w : World) : NT w nd0 zeroT := ⟨none, 0, 0, rfl, rfl, .inl rfl⟩
theorem set_one {w : World} {g : Nat} {x y : Value} (h : w.heap[g]? = some (.cells #[x] 33)) : (w.setCell ⟨g, 0, none⟩ y).heap[g]? = some (.cells #[y] 33) := by
 simp [World.setCell, Array.getElem?_modify, h]
theorem parse_err {A : ByteArray} {c : Int} (hc : (c == 0) = false) (w : World) (L : Calls Tryz.prog 105 #[.string A] (wpa w) fun e w1 => e = .returned (.tuple #[.slice none 0 0, .int .i64 c]) ∧ Below (wpa w).heap.size (wpa w) w1) :
  Calls Tryz.prog 74 #[.string A] w (PA w (zeroT, c)) := by
 have hcn : (c != 0) = true := by simpa using hc
 have L' : Calls Tryz.prog 105 #[.string A] (wpa w) fun e w1 => e = .returned (.tuple #[.slice none 0 0, .int .i64 c]) ∧ w1.cell? ⟨w.heap.size + 1, 0, none⟩ = some (.int .i64 0) ∧ w1.frozen? ⟨w.heap.size + 1, 0, none⟩ = false ∧ Hid (w1.heap[w.heap.size]? = some (.cells nd0 67) ∧ w1.heap[w.heap.size + 1]? = some (.cells #[.int .i64 0] 33) ∧ Below w.heap.size w w1) := L.mono (by
  rintro e w1 ⟨rfl, h⟩
  have k := wpa_heap h
  exact ⟨rfl, by rw [cell_of_row _ _ 0 _ 33 (0, 0) k.2.1]; rfl, by unfold World.frozen?; rw [k.2.1]; rfl, k⟩)
 clear L
 go_enter Tryz.func74, Tryz.ntmps74
 go_wp2_with (go_at_call 105; refine L'.mono ?_; rintro e w1 ⟨rfl, c1, f1, HK⟩)
 obtain ⟨w2, hw2⟩ : ∃ w2, w1.setCell ⟨w.heap.size + 1, 0, none⟩ (.int .i64 c) = w2 := ⟨_, rfl⟩
 rw [hw2]
 have k2 : w2.heap[w.heap.size]? = some (.cells nd0 67) := by rw [← hw2]; exact ((Lib.grownBy_setCell w1 (w.heap.size + 1) 0 (.int .i64 c)).block _ (lt_of HK.out.1) (by intro e; have := Option.some.inj e; omega)).trans HK.out.1
 have k3 : w2.heap[w.heap.size + 1]? = some (.cells #[.int .i64 c] 33) := by rw [← hw2]; exact set_one HK.out.2.1
 have kb : Below w.heap.size w w2 := by rw [← hw2]; exact HK.out.2.2.setCell (by simp) _
 have ld : ∀ u : World, u.heap[w.heap.size + 1]? = some (.cells #[.int .i64 c] 33) → (Instr.loadAt 33 (.pointer (some ⟨w.heap.size + 1, 0, none⟩))).run Tryz.prog u = .ok (.int .i64 c) u := fun u hu => by
  have c3 : u.cell? ⟨w.heap.size + 1, 0, none⟩ = some (.int .i64 c) := by rw [cell_of_row _ _ 0 _ 33 (0, 0) hu]; rfl
  have h29 := Tryz.underlying33
  simp [go_sem, c3]
 have LD : Hid _ := ld
 have RB : ∀ u : World, (Instr.build 67 #[]).run Tryz.prog u = .ok (.agg nd0) u := fun u => by kernel_rfl
 have RS : Hid ((Instr.storeAt 67 (.pointer (some ⟨w.heap.size, 0, none⟩)) (.agg nd0)).run Tryz.prog w2.drew = .ok () (w2.drew.setRow w.heap.size nd0)) := sto (w := w2.drew) k2 inf67 rfl (lcs_all (lab0 0 nb) none 0 0)
 obtain ⟨w3, hw3⟩ : ∃ w3, w2.drew.setRow w.heap.size nd0 = w3 := ⟨_, rfl⟩
 rw [hw3] at RS
 have j2 : w3.heap[w.heap.size]? = some (.cells nd0 67) := by rw [← hw3]; exact setRow_heap w2.drew _ _ _ _ _ k2
 have j3 : w3.heap[w.heap.size + 1]? = some (.cells #[.int .i64 c] 33) := by rw [← hw3]; exact ((setRow_grown w2.drew w.heap.size nd0).block _ (lt_of (u := w2.drew) k3) (by intro e; have := Option.some.inj e; omega)).trans k3
 have jb : Below w.heap.size w w3 := by rw [← hw3]; exact kb.drew.grown (setRow_grown _ _ _) kb.size (fun k e => by cases e; exact Nat.le_refl _)
 have RS3 : Hid ((Instr.storeAt 33 (.pointer (some ⟨w.heap.size + 1, 0, none⟩)) (.int .i64 c)).run Tryz.prog w3 = .ok () (w3.setCell ⟨w.heap.size + 1, 0, none⟩ (.int .i64 c))) := by
  have c3 : w3.cell? ⟨w.heap.size + 1, 0, none⟩ = some (.int .i64 c) := by rw [cell_of_row _ _ 0 _ 33 (0, 0) j3]; rfl
  have f3 : w3.frozen? ⟨w.heap.size + 1, 0, none⟩ = false := by unfold World.frozen?; rw [j3]; rfl
  have h29 := Tryz.underlying33
  show _ = _
  simp [go_sem, c3, f3]
 have HE : Hid ((w3.setCell ⟨w.heap.size + 1, 0, none⟩ (.int .i64 c)).heap[w.heap.size]? = some (.cells nd0 67) ∧ (w3.setCell ⟨w.heap.size + 1, 0, none⟩ (.int .i64 c)).heap[w.heap.size + 1]? = some (.cells #[.int .i64 c] 33) ∧ Below w.heap.size w (w3.setCell ⟨w.heap.size + 1, 0, none⟩ (.int .i64 c))) :=
  ⟨((Lib.grownBy_setCell w3 (w.heap.size + 1) 0 (.int .i64 c)).block _ (lt_of j2) (by intro e; have := Option.some.inj e; omega)).trans j2, set_one j3, jb.setCell (by simp) _⟩
 have J3 : Hid _ := LD.out w3 j3
 have K3 : Hid _ := LD.out w2.drew k3
 clear ld c1 f1 k2 k3 kb j2 j3 jb hw2 hw3
 refine wp_region_d (fun u => (Instr.loadAt 33 (.pointer (some ⟨w.heap.size + 1, 0, none⟩))).run Tryz.prog u = .ok (.int .i64 c) u) (fun j => j == 3) (by kernel_rfl) ?_
 refine dwp 0 (.agg nd0) (hy := (by intro u; kernel_rfl)) (h := ?_)
 refine dwl 1 (.int .i64 c) (hS := K3.out) (hy := (fun u hSu => exec_load_run rfl rfl hSu)) (h := ?_)
 refine wpAnyD_one (i := 2) (by kernel_rfl) rfl ?_
 intro K hK
 rw [if_pos (by go_simp)]
 refine wp_store_run none rfl 67 _ _ rfl _ _ rfl rfl RS.out (hK _ _ (.inr fun _ => J3.out) ?_)
 clear hK
 try simp only [Act.put, List.setIfInBounds_toArray, List.set_cons_zero, List.set_cons_succ]
 refine wpAnyD_one (i := 3) (by kernel_rfl) rfl ?_
 intro K hK
 rw [if_pos (by go_simp)]
 refine wp_store_run none rfl 33 _ _ rfl _ _ rfl rfl RS3.out (hK _ _ (.inl rfl) ?_)
 clear hK
 try simp only [Act.put, List.setIfInBounds_toArray, List.set_cons_zero, List.set_cons_succ]
 refine wpAnyD_done (by kernel_rfl) ?_ _
 go_wp2
 refine bodyPost_ret (results_ne rfl rfl rfl HE.out.1 rfl HE.out.2.1) rfl ⟨nd0, rfl, zero_nt _, by show zT zeroT ≤ 256; decide, HE.out.2.2⟩
theorem lexN_le : ∀ (k : Nat) (l : List UInt8) (L : List Tk.Tok), Tk.lexN gnF trB pnF k l = some L → L.length ≤ l.length
 | 0, l, L, h => by cases h
 | k + 1, [], L, h => by cases h; exact Nat.le_refl _
 | k + 1, c :: r, L, h => by
  unfold Tk.lexN at h
  split at h
  ·have := lexN_le k r L h; simp; omega
  ·cases ho : Tk.one gnF trB pnF (c :: r) with
   | none => rw [ho] at h; cases h
   | some p =>
    rw [ho] at h
    simp only at h
    have hl := one_len (t := p.1) (m := p.2) ho
    cases hk : Tk.lexN gnF trB pnF k p.2 with
    | none => rw [hk] at h; cases h
    | some M =>
     rw [hk] at h
     cases h
     have := lexN_le k p.2 M hk
     simp only [List.length_cons] at *
     omega
theorem lex_le {l : List UInt8} {L : List Tk.Tok} (h : lexF l = some L) (hl : l.length ≤ 255) : L.length ≤ 255 := Nat.le_trans (lexN_le _ _ _ h) hl
theorem begin_all {w : World} (T : Tab9 w) {l : List UInt8} {ts : List Tk.Tok} (hl : l.length ≤ 255) (hx : lexF l = some ts) {w1 : World} {v : Value} (hB : Below (wpa w).heap.size (wpa w) w1) (ho : OwnT 156 (wpa w).heap.size w1 v (ts.map tk)) :
  ∃ w2, w1.setCell ⟨w.heap.size + 1, 0, none⟩ (.int .i64 0) = w2 ∧ PR w2 w2.heap.size ts (w2.alloc (parO v)) ∧ Below w.heap.size w w2 ∧ w2.heap[w.heap.size]? = some (.cells nd0 67) ∧ w2.heap[w.heap.size + 1]? = some (.cells #[.int .i64 0] 33) ∧ w.heap.size + 2 ≤ w2.heap.size := by
 obtain ⟨k1, k2, k3⟩ := wpa_heap hB
 have hz : w.heap.size + 2 ≤ w1.heap.size := by have := hB.size; simp at this; omega
 have G := Lib.grownBy_setCell w1 (w.heap.size + 1) 0 (.int .i64 0)
 have hb2 : Below w.heap.size w (w1.setCell ⟨w.heap.size + 1, 0, none⟩ (.int .i64 0)) := k3.setCell (by simp) _
 have ho2 : OwnT 156 (wpa w).heap.size (w1.setCell ⟨w.heap.size + 1, 0, none⟩ (.int .i64 0)) v (ts.map tk) := ho.kept G (by
  cases hv : v.ownBlock with
  | none => exact .inl rfl
  | some g =>
   right
   intro e
   have := (World.ownsRow.lt ho g hv).1
   have := Option.some.inj e
   simp at *
   omega)
 have hz2 : w1.heap.size = (w1.setCell ⟨w.heap.size + 1, 0, none⟩ (.int .i64 0)).heap.size := by simp [World.setCell]
 refine ⟨_, rfl, ⟨T.below hb2, bel_alloc (Below.refl _ _) _, Nat.le_refl _, fun t ht => ⟨lex_ok hx t ht, lex_sm hl hx t ht⟩, v, heap_alloc_new _ _, TS.of ho2⟩, hb2, ?_, set_one k2, by omega⟩
 exact (G.block _ (lt_of k1) (by intro e; have := Option.some.inj e; omega)).trans k1
theorem parse_bad {l : List UInt8} {ts : List Tk.Tok} (hl : l.length ≤ 255) (hx : lexF l = some ts) (hts : ts.length ≤ 255) (ha : allF ts = none) (w : World) (T : Tab9 w) : Calls Tryz.prog 74 #[.string (ba l)] w (PA w (zeroT, 10)) := by
 have hmf : ∀ (fn : Fn) (first cap : Array Value) (w : World), (Instr.makeFunc fn first cap).run Tryz.prog w = .ok (.func fn first cap) w := fun _ _ _ _ => rfl
 have L := lex_short l (wpa w) (T.below (bel_alloc (bel_alloc (Below.refl _ _) _) _)) hl
 rw [hx] at L
 have L' : Calls Tryz.prog 105 #[.string (ba l)] (wpa w) fun e w1 => ∃ a c n w2, e = .returned (.tuple #[.slice a n c, .int .i64 0]) ∧ w1.cell? ⟨w.heap.size + 1, 0, none⟩ = some (.int .i64 0) ∧ w1.frozen? ⟨w.heap.size + 1, 0, none⟩ = false ∧ w1.setCell ⟨w.heap.size + 1, 0, none⟩ (.int .i64 0) = w2 ∧ w2.cell? ⟨w.heap.size + 1, 0, none⟩ = some (.int .i64 0) ∧
   (Calls Tryz.prog 107 #[.pointer (some ⟨w2.heap.size, 0, none⟩)] (w2.alloc (parO (.slice a n c))) fun e w4 => e = .panicked formP ∧ Hid (w4.heap[w.heap.size]? = some (.cells nd0 67) ∧ w4.heap[w.heap.size + 1]? = some (.cells #[.int .i64 0] 33) ∧ Below w.heap.size w w4)) := L.mono (by
  rintro e w1 ⟨hB, v, rfl, ho, _⟩
  obtain ⟨w2, e2, X, b2, k2, k3, hz⟩ := begin_all T hl hx hB ho
  obtain ⟨q1, q2, q3⟩ := wpa_heap hB
  obtain ⟨a, c, rfl⟩ := ho.slice
  refine ⟨a, c, _, w2, rfl, by rw [cell_of_row _ _ 0 _ 33 (0, 0) q2]; rfl, by unfold World.frozen?; rw [q2]; rfl, e2, by rw [cell_of_row _ _ 0 _ 33 (0, 0) k3]; rfl, ?_⟩
  have C := whole_any (by omega) X
  rw [ha] at C
  refine C.mono ?_
  rintro e w4 ⟨rfl, hg⟩
  refine ⟨rfl, (hg.block _ (by simp; omega) (by intro e; have := Option.some.inj e; omega)).trans ((Below.heap_alloc _ _ _ (by omega)).trans k2), (hg.block _ (by simp; omega) (by intro e; have := Option.some.inj e; omega)).trans ((Below.heap_alloc _ _ _ (by omega)).trans k3), ?_⟩
  exact (bel_alloc b2 _).grown hg (by simp; omega) (fun k e => by cases e; omega))
 clear L T hx ha
 go_enter_defers Tryz.func74, Tryz.ntmps74
 go_wp2_with (first
  | (go_at_call 105; refine L'.mono ?_; rintro e w1 ⟨a, c, n, w2, rfl, c1, f1, e2, c2, C⟩)
  | (go_at_call 107; refine C.mono ?_; rintro e w4 ⟨rfl, HK⟩))
 refine leaves_cons (f := 106) (args := #[.pointer (some ⟨w.heap.size, 0, none⟩), .pointer (some ⟨w.heap.size + 1, 0, none⟩)]) (by simp) (by simp [go_sem]) ?_
 refine (catch_form _ HK.out.1 rfl HK.out.2.1 (by omega)).mono ?_
 rintro e u' w'' ⟨rfl, rfl, rfl⟩
 have G := setRow_grown w4 w.heap.size nd0
 have h3 : (w4.setRow w.heap.size nd0).heap[w.heap.size + 1]? = some (.cells #[.int .i64 0] 33) := (G.block _ (lt_of HK.out.2.1) (by intro e; have := Option.some.inj e; omega)).trans HK.out.2.1
 have h2 : (w4.setRow w.heap.size nd0).heap[w.heap.size]? = some (.cells nd0 67) := setRow_heap _ _ _ _ _ _ HK.out.1
 have h2' := ((Lib.grownBy_setCell (w4.setRow w.heap.size nd0) (w.heap.size + 1) 0 (.int .i64 10)).block _ (lt_of h2) (by intro e; have := Option.some.inj e; omega)).trans h2
 have hb : Below w.heap.size w (w4.setRow w.heap.size nd0) := HK.out.2.2.grown G HK.out.2.2.size (fun k e => by cases e; exact Nat.le_refl _)
 exact ⟨_, results_ne rfl rfl rfl h2' rfl (set_one h3), nd0, rfl, zero_nt _, by show zT zeroT ≤ 256; decide, hb.setCell (by simp) _⟩
theorem parse_good {l : List UInt8} {ts : List Tk.Tok} {t : T} (hl : l.length ≤ 255) (hx : lexF l = some ts) (hts : ts.length ≤ 255) (ha : allF ts = some t) (w : World) (T : Tab9 w) : Calls Tryz.prog 74 #[.string (ba l)] w (PA w (t, 0)) := by
 have hmf : ∀ (fn : Fn) (first cap : Array Value) (w : World), (Instr.makeFunc fn first cap).run Tryz.prog w = .ok (.func fn first cap) w := fun _ _ _ _ => rfl
 have L := lex_short l (wpa w) (T.below (bel_alloc (bel_alloc (Below.refl _ _) _) _)) hl
 rw [hx] at L
 have L' : Calls Tryz.prog 105 #[.string (ba l)] (wpa w) fun e w1 => ∃ a c n w2, e = .returned (.tuple #[.slice a n c, .int .i64 0]) ∧ w1.cell? ⟨w.heap.size + 1, 0, none⟩ = some (.int .i64 0) ∧ w1.frozen? ⟨w.heap.size + 1, 0, none⟩ = false ∧ w1.setCell ⟨w.heap.size + 1, 0, none⟩ (.int .i64 0) = w2 ∧ w2.cell? ⟨w.heap.size + 1, 0, none⟩ = some (.int .i64 0) ∧
   (Calls Tryz.prog 107 #[.pointer (some ⟨w2.heap.size, 0, none⟩)] (w2.alloc (parO (.slice a n c))) fun e w4 => ∃ es, e = .returned (.agg es) ∧ Hid ((Instr.storeAt 67 (.pointer (some ⟨w.heap.size, 0, none⟩)) (.agg es)).run Tryz.prog w4 = .ok () (w4.setRow w.heap.size es)) ∧ (w4.setRow w.heap.size es).cell? ⟨w.heap.size + 1, 0, none⟩ = some (.int .i64 0) ∧ (w4.setRow w.heap.size es).frozen? ⟨w.heap.size + 1, 0, none⟩ = false ∧
    Hid (((w4.setRow w.heap.size es).setCell ⟨w.heap.size + 1, 0, none⟩ (.int .i64 0)).heap[w.heap.size]? = some (.cells es 67) ∧ ((w4.setRow w.heap.size es).setCell ⟨w.heap.size + 1, 0, none⟩ (.int .i64 0)).heap[w.heap.size + 1]? = some (.cells #[.int .i64 0] 33) ∧ Below w.heap.size w ((w4.setRow w.heap.size es).setCell ⟨w.heap.size + 1, 0, none⟩ (.int .i64 0)) ∧
     NT ((w4.setRow w.heap.size es).setCell ⟨w.heap.size + 1, 0, none⟩ (.int .i64 0)) es t ∧ zT t ≤ 256 ∧ es.size = 18)) := L.mono (by
  rintro e w1 ⟨hB, v, rfl, ho, _⟩
  obtain ⟨w2, e2, X, b2, k2, k3, hz⟩ := begin_all T hl hx hB ho
  obtain ⟨q1, q2, q3⟩ := wpa_heap hB
  obtain ⟨a, c, rfl⟩ := ho.slice
  refine ⟨a, c, _, w2, rfl, by rw [cell_of_row _ _ 0 _ 33 (0, 0) q2]; rfl, by unfold World.frozen?; rw [q2]; rfl, e2, by rw [cell_of_row _ _ 0 _ 33 (0, 0) k3]; rfl, ?_⟩
  have C := whole_any (by omega) X
  rw [ha] at C
  refine C.mono ?_
  rintro e w4 ⟨es, rfl, hN, hg, hzt⟩
  have m2 : w4.heap[w.heap.size]? = some (.cells nd0 67) := (hg.block _ (by simp; omega) (by intro e; have := Option.some.inj e; omega)).trans ((Below.heap_alloc _ _ _ (by omega)).trans k2)
  have m3 : w4.heap[w.heap.size + 1]? = some (.cells #[.int .i64 0] 33) := (hg.block _ (by simp; omega) (by intro e; have := Option.some.inj e; omega)).trans ((Below.heap_alloc _ _ _ (by omega)).trans k3)
  have mb : Below w.heap.size w w4 := (bel_alloc b2 _).grown hg (by simp; omega) (fun k e => by cases e; omega)
  have G := setRow_grown w4 w.heap.size es
  have h3 : (w4.setRow w.heap.size es).heap[w.heap.size + 1]? = some (.cells #[.int .i64 0] 33) := (G.block _ (lt_of m3) (by intro e; have := Option.some.inj e; omega)).trans m3
  have h2 : (w4.setRow w.heap.size es).heap[w.heap.size]? = some (.cells es 67) := setRow_heap _ _ _ _ _ _ m2
  have G2 := Lib.grownBy_setCell (w4.setRow w.heap.size es) (w.heap.size + 1) 0 (.int .i64 0)
  have h2' := (G2.block _ (lt_of h2) (by intro e; have := Option.some.inj e; omega)).trans h2
  have hb : Below w.heap.size w (w4.setRow w.heap.size es) := mb.grown G mb.size (fun k e => by cases e; exact Nat.le_refl _)
  have hn1 : NK (fun i => w.heap.size + 2 ≤ i) w4 es t := hN.mono (fun i hi _ => by simp at hi; omega)
  refine ⟨es, rfl, hN.sto m2 rfl, by rw [cell_of_row _ _ 0 _ 33 (0, 0) h3]; rfl, by unfold World.frozen?; rw [h3]; rfl, h2', set_one h3, hb.setCell (by simp) _, ?_, hzt, hN.size⟩
  exact ((hn1.grown G (fun g e hk => by cases e; omega)).grown G2 (fun g e hk => by cases e; omega)).nt)
 clear L T hx ha
 go_enter_defers Tryz.func74, Tryz.ntmps74
 go_wp2_with (first
  | (go_at_call 105; refine L'.mono ?_; rintro e w1 ⟨a, c, n, w2, rfl, c1, f1, e2, c2, C⟩)
  | (go_at_call 107; refine C.mono ?_; rintro e w4 ⟨es, rfl, RS, c4, f4, HK⟩)
  | (refine wpList_store_run rfl 67 _ _ rfl _ _ _ rfl rfl RS.out ?_))
 refine leaves_cons (f := 106) (args := #[.pointer (some ⟨w.heap.size, 0, none⟩), .pointer (some ⟨w.heap.size + 1, 0, none⟩)]) (by simp) (by simp [go_sem]) ?_
 refine (catch_idle _ _ _).mono ?_
 rintro e u' w'' ⟨rfl, rfl, rfl⟩
 exact ⟨_, results_ne rfl rfl rfl HK.out.1 HK.out.2.2.2.2.2 HK.out.2.1, es, rfl, HK.out.2.2.2.1, HK.out.2.2.2.2.1, HK.out.2.2.1⟩
theorem parseF_any (l : List UInt8) (w : World) (T : Tab9 w) : Calls Tryz.prog 74 #[.string (ba l)] w (PA w (parF l)) := by
 have TW : Tab9 (wpa w) := T.below (bel_alloc (bel_alloc (Below.refl _ _) _) _)
 unfold parF
 by_cases h : 255 < l.length
 ·rw [if_pos h]
  exact parse_err (by decide) w ((lex_long l (wpa w) h).mono (by rintro e w1 ⟨rfl, rfl⟩; exact ⟨rfl, Below.refl _ _⟩))
 ·rw [if_neg h]
  have L := lex_short l (wpa w) TW (by omega)
  cases hx : lexF l with
  | none =>
   rw [hx] at L
   exact parse_err (by decide) w (L.mono (by rintro e w1 ⟨h1, rfl⟩; exact ⟨rfl, h1⟩))
  | some ts =>
   have hts : ts.length ≤ 255 := lex_le hx (by omega)
   cases ha : allF ts with
   | none => simp only [ha]; exact parse_bad (by omega) hx hts ha w T
   | some t => simp only [ha]; exact parse_good (by omega) hx hts ha w T
end Go.Proofs.YtnibldnfbikipaaGreatDoor
namespace Go.Proofs.YtnibldnfbikipaaGreatDoor.Sh
open Go.RowKit Go.Fm
def mayF (s : ByteArray) : Int := if 255 < s.size then 3 else if (Ad.strip 61 s.data.toList).1 = true then (if (parF (Ad.strip 61 s.data.toList).2).2 = 0 then 0 else 10) else 0
theorem may_any (s : ByteArray) (w : World) (T : Tab9 w) : Calls Tryz.prog 26 #[.string s] w fun e w' => e = .returned (.int .i64 (mayF s)) ∧ Below w.heap.size w w' := by
 have hs : s = ⟨s.data.toList.toArray⟩ := by cases s; rfl
 have CP := strip_any 61 s.data.toList w
 rw [← hs] at CP
 have PR := parseF_any (Ad.strip 61 s.data.toList).2 w T
 have P2 : Calls Tryz.prog 74 #[.string ⟨(Ad.strip 61 s.data.toList).2.toArray⟩] w fun e w' => ∃ es, e = .returned (.tuple #[.agg es, .int .i64 (parF (Ad.strip 61 s.data.toList).2).2]) ∧ Hid ((Instr.storeAt 67 (.pointer (some ⟨w'.heap.size, 0, none⟩)) (.agg es)).run Tryz.prog (w'.alloc (.cells nd0 67)) = .ok () (w'.alloc (.cells es 67))) ∧ Hid (Below w.heap.size w (w'.alloc (.cells es 67))) := PR.mono (by
  rintro e w1 ⟨es, rfl, hN, _, hb⟩
  exact ⟨es, rfl, (nbox w1 hN).1, Sh.bel_alloc hb (Nat.le_refl _) _⟩)
 unfold mayF
 generalize (parF (Ad.strip 61 s.data.toList).2).2 = pe at *
 generalize (Ad.strip 61 s.data.toList).2 = rs at *
 generalize (Ad.strip 61 s.data.toList).1 = sb at *
 clear PR hs T
 generalize hz : s.size = n at *
 have HZ : (s.size : Int) = (n : Int) := by omega
 clear hz
 by_cases hlong : 255 < n
 ·rw [if_pos hlong]
  have hli : (255 : Int) < n := by omega
  go_enter Tryz.func26, Tryz.ntmps26
  go_wp2
  go_ret
  exact ⟨rfl, Below.refl _ _⟩
 ·rw [if_neg hlong]
  have hli : ¬ (255 : Int) < n := by omega
  cases sb with
  | false =>
   rw [if_neg (by decide)]
   go_enter Tryz.func26, Tryz.ntmps26
   go_wp2_with (go_at_call 73; refine CP.mono ?_; clear CP; rintro e w1 ⟨rfl, hw⟩; obtain rfl := hw.symm; clear hw)
   go_ret
   exact ⟨rfl, Below.refl _ _⟩
  | true =>
   rw [if_pos rfl]
   by_cases hp : pe = 0
   ·subst hp
    rw [if_pos rfl]
    go_enter Tryz.func26, Tryz.ntmps26
    go_wp2_with (first
     | (go_at_call 73; refine CP.mono ?_; clear CP; rintro e w1 ⟨rfl, hw⟩; obtain rfl := hw.symm; clear hw)
     | (go_at_call 74; refine P2.mono ?_; clear P2; rintro e w1 ⟨es, rfl, RS, HB⟩)
     | (refine wpList_store_run rfl 67 _ _ rfl _ _ _ rfl rfl RS.out ?_; clear RS))
    go_ret
    exact ⟨rfl, HB.out⟩
   ·rw [if_neg hp]
    have hpb : (pe != 0) = true := by simpa using hp
    go_enter Tryz.func26, Tryz.ntmps26
    go_wp2_with (first
     | (go_at_call 73; refine CP.mono ?_; clear CP; rintro e w1 ⟨rfl, hw⟩; obtain rfl := hw.symm; clear hw)
     | (go_at_call 74; refine P2.mono ?_; clear P2; rintro e w1 ⟨es, rfl, RS, HB⟩)
     | (refine wpList_store_run rfl 67 _ _ rfl _ _ _ rfl rfl RS.out ?_; clear RS))
    go_ret
    exact ⟨rfl, HB.out⟩
def textsF : List CellT → Int
 | [] => 0
 | c :: r => if mayF c.text ≠ 0 then mayF c.text else textsF r
theorem stB_zero {L : List CellT} {k : Nat} (hk : k < L.length) (h0 : k = 0) : stB L k = (insB L[k].row L[k].col && !(L[k].text.toList == [])) := by
 subst h0
 unfold stB
 simp only [List.getElem?_eq_getElem hk]
 simp
theorem stB_succ {L : List CellT} {k j : Nat} (hk : k < L.length) (hj : k = j + 1) : stB L k = (insB L[k].row L[k].col && (!(L[k].text.toList == []) && decide (ordC (L[j]'(by omega)) L[k] < 0))) := by
 subst hj
 unfold stB
 simp only [List.getElem?_eq_getElem hk, Nat.add_sub_cancel, List.getElem?_eq_getElem (show j < L.length by omega)]
 simp
def misB (s : SheetT) : Bool := !gnF s.name.data.toList
def mlB (s : SheetT) : Bool := !laidB s.cells
def twAt (L : List SheetT) (i : Nat) : Bool := match L[i]? with
 | none => false
 | some s => !(idxI (idxN L s.name) == (i : Int))
def twB (L : List SheetT) : Bool := (List.range L.length).any (twAt L)
def textsS : List SheetT → Int
 | [] => 0
 | s :: r => if textsF s.cells ≠ 0 then textsF s.cells else textsS r
def checkF (L : List SheetT) : Int :=
 if L.length = 0 ∨ 4 < L.length then 15 else if 0 ≤ idxI (L.findIdx? misB) then 8 else if twB L = true then 7 else if 0 ≤ idxI (L.findIdx? mlB) then 9 else if textsS L ≠ 0 then textsS L else if 200 < cntL L then 5 else 0
def NamesOk (L : List SheetT) : Prop := ∀ s ∈ L, s.name.size ≤ 9223372036854775807
theorem tw_no {L : List SheetT} (h : ∀ i, i < L.length → twAt L i = false) : twB L = false := by
 unfold twB
 rw [List.any_eq_false]
 intro i hi
 simp [h i (List.mem_range.1 hi)]
theorem tw_yes {L : List SheetT} {i : Nat} (hi : i < L.length) (h : twAt L i = true) : twB L = true := by
 unfold twB
 rw [List.any_eq_true]
 exact ⟨i, List.mem_range.2 hi, h⟩
def CellsOk (L : List SheetT) : Prop := ∀ s ∈ L, s.cells.length ≤ 1125899906842624
theorem cnt_four {L : List SheetT} (h : CellsOk L) (hn : L.length ≤ 4) : cntL L ≤ 4503599627370496 := by
 have : ∀ (L : List SheetT), CellsOk L → cntL L ≤ L.length * 1125899906842624 := by
  intro L
  induction L with
  | nil => intro _; simp [cntL]
  | cons s r ih =>
   intro h
   have h1 := h s (by simp)
   have h2 := ih (fun t ht => h t (by simp [ht]))
   unfold cntL at *
   simp only [List.map_cons, List.sum_cons, List.length_cons]
   omega
 have := this L h
 omega
abbrev pairs (L : List SheetT) (cv : Nat → Value) : List (SheetT × Value) := L.mapIdx fun j s => (s, cv j)
abbrev pairC (p : SheetT × Value) : List Value := sheetC p.1 p.2
structure OwnB (base : Nat) (w : World) (sv nv lv : Value) (x : BookT) : Prop where
 sh : ∃ cv, w.ownsRow base 78 2 sv x.sheets.length ((pairs x.sheets cv).flatMap pairC) ∧ ∀ j o, x.sheets[j]? = some o → w.ownsRow base 57 3 (cv j) o.cells.length (o.cells.flatMap cellC)
 nm : w.ownsRow base 89 3 nv x.names.length (x.names.flatMap nameC)
 lk : w.ownsRow base 91 7 lv x.links.length (x.links.flatMap linkC)
theorem owns_rws {α : Type} {enc : α → List Value} {sz base : Nat} {t : TypeId} {w : World} {v : Value} {L : List α} (he : ∀ x, (enc x).length = sz) (h : w.ownsRow base t sz v L.length (L.flatMap enc)) : Rws base w.heap.size sz w v L.length fun j => (L[j]?.map enc).getD [] := by
 rcases h.2 with ⟨rfl, h0⟩ | ⟨g, cap, cur, rfl, hb, hg, hn, hm, hs, hx⟩
 ·exact .inl ⟨rfl, h0⟩
 ·exact (rws_of he hg hx hn hm).mono hb (blk_lt hg)
theorem OwnB.bkm {base : Nat} {w : World} {sv nv lv : Value} {x : BookT} (h : OwnB base w sv nv lv x) : BkM base w.heap.size w sv nv lv x := by
 obtain ⟨cv, h1, h2⟩ := h.sh
 refine ⟨⟨cv, ?_, fun j o hj => owns_rws cellC_len (h2 j o hj)⟩, owns_rws nameC_len h.nm, owns_rws linkC_len h.lk⟩
 have hl : (pairs x.sheets cv).length = x.sheets.length := by simp
 have := owns_rws (enc := pairC) (L := pairs x.sheets cv) pairC_len (by rw [hl]; exact h1)
 rw [hl] at this
 refine this.congr fun j hj => ?_
 simp [sheetsC, List.getElem?_eq_getElem hj]
theorem owns_slice {base : Nat} {t : TypeId} {sz n : Nat} {w : World} {v : Value} {xs : List Value} (h : w.ownsRow base t sz v n xs) : ∃ a c, v = .slice a n c := by
 rcases h.2 with ⟨rfl, rfl⟩ | ⟨g, cap, cur, rfl, _⟩
 ·exact ⟨_, _, rfl⟩
 ·exact ⟨_, _, rfl⟩
theorem owns_keep {base : Nat} {t : TypeId} {sz n : Nat} {w w' : World} {v : Value} {xs : List Value} (h : w.ownsRow base t sz v n xs) (hk : ∀ g cur, w.heap[g]? = some (.cells cur t (0, 0)) → v.ownBlock = some g → w'.heap[g]? = w.heap[g]?) : w'.ownsRow base t sz v n xs := by
 refine ownsRow_of_block h fun g hg => ?_
 rcases h.2 with ⟨rfl, _⟩ | ⟨g', cap, cur, rfl, _, h3, _⟩
 ·cases hg
 ·cases hg
  exact hk _ _ h3 rfl
theorem row_flat {L : List SheetT} {cv : Nat → Value} {cur : Array Value} (hs : cur.size = L.length * 2) (hc : ∀ j (hj : j < L.length), cur[j * 2]? = some (.string L[j].name) ∧ cur[j * 2 + 1]? = some (cv j)) : cur.toList = (pairs L cv).flatMap pairC := by
 have hl : (pairs L cv).length = L.length := by simp
 apply List.ext_getElem?
 intro k
 by_cases hk : k < L.length * 2
 ·have hq : k / 2 < L.length := by omega
  have hd : k / 2 * 2 + k % 2 = k := by omega
  have hf := fl_at (enc := pairC) pairC_len (pairs L cv) (k / 2) (k % 2) (by rw [hl]; exact hq) (by omega)
  rw [hd] at hf
  rw [hf, Array.getElem?_toList]
  have hh := hc (k / 2) hq
  rcases Nat.mod_two_eq_zero_or_one k with e | e
  ·rw [e]
   have h1 := hh.1
   rw [show k / 2 * 2 = k by omega] at h1
   rw [h1]
   simp [sheetC]
  ·rw [e]
   have h1 := hh.2
   rw [show k / 2 * 2 + 1 = k by omega] at h1
   rw [h1]
   simp [sheetC]
 ·rw [List.getElem?_eq_none (by rw [Array.length_toList, hs]; omega), List.getElem?_eq_none (by rw [fl_len (enc := pairC) pairC_len, hl]; omega)]
def putAt (x : BookT) (i : Nat) (t : CellT) : BookT := ⟨x.sheets.modify i fun s => ⟨s.name, putC s.cells t⟩, x.names, x.links⟩
theorem putAt_len (x : BookT) (i : Nat) (t : CellT) : (putAt x i t).sheets.length = x.sheets.length := by simp [putAt]
theorem put_own {base gs gn gl i : Nat} {w1 w2 w3 : World} {x : BookT} {t : CellT} {v : Value} (h : CpB base w1 gs gn gl x) (hz : Small x) (hi : i < x.sheets.length)
  (h2 : w2.ownsRow base 57 3 v (putC x.sheets[i].cells t).length ((putC x.sheets[i].cells t).flatMap cellC)) (hg : w1.grownBy w2 (some (gs + 1 + i))) (hnew : v.ownBlock ≠ some gs)
  (h3 : ∀ cur, w2.heap[gs]? = some (.cells cur 78 (0, 0)) → w3.heap[gs]? = some (.cells (cur.setIfInBounds (i * 2 + 1) v) 78 (0, 0))) (hk : ∀ g cur (t : TypeId), g ≠ gs → t ≠ 26 → w2.heap[g]? = some (.cells cur t (0, 0)) → w3.heap[g]? = w2.heap[g]?) :
  OwnB base w3 (newS gs x.sheets.length) (newS gn x.names.length) (newS gl x.links.length) (putAt x i t) := by
 obtain ⟨cur, r1, r2, r3⟩ := h.row
 have b1 := h.b1
 have b2 := h.b2
 have b3 := h.b3
 have k2 : ∀ g o, w1.heap[g]? = some o → g ≠ gs + 1 + i → w2.heap[g]? = some o := fun g o hgo hne => (hg.block g (blk_lt hgo) (by simpa using hne)).trans hgo
 have k3 : ∀ g cur (t : TypeId), g ≠ gs → t ≠ 26 → w2.heap[g]? = some (.cells cur t (0, 0)) → w3.heap[g]? = some (.cells cur t (0, 0)) := fun g cur t hne ht ho => (hk g cur t hne ht ho).trans ho
 have q1 := h3 _ (k2 _ _ r1 (by omega))
 have hxs : (putAt x i t).sheets.length = x.sheets.length := putAt_len x i t
 have hgx : ∀ j (hj : j < x.sheets.length), (putAt x i t).sheets[j]'(by omega) = if i = j then ⟨x.sheets[j].name, putC x.sheets[j].cells t⟩ else x.sheets[j] := fun j hj => by
  simp only [putAt, List.getElem_modify]
 refine ⟨⟨fun j => if j = i then v else newS (gs + 1 + j) ((x.sheets[j]?.map (·.cells.length)).getD 0), ⟨?_, .inr ⟨gs, x.sheets.length, _, by rw [hxs], b1, q1, by omega, le_maxLen hz.sh, by simpa using r2, ?_⟩⟩, fun j o hj => ?_⟩, ?_, ?_⟩
 ·rw [fl_len (enc := pairC) pairC_len]
  simp
 ·rw [hxs, List.take_of_length_le (by rw [Array.length_toList, Array.size_setIfInBounds]; omega)]
  refine row_flat (by rw [Array.size_setIfInBounds, hxs]; exact r2) fun j hj => ?_
  rw [hxs] at hj
  have hr := r3 j hj
  rw [hgx j hj, Array.getElem?_setIfInBounds_ne (by omega), hr.1]
  refine ⟨by split <;> rfl, ?_⟩
  by_cases e : j = i
  ·subst e
   rw [Array.getElem?_setIfInBounds_self_of_lt (by omega), if_pos rfl]
  ·rw [Array.getElem?_setIfInBounds_ne (by omega), if_neg e, hr.2]
   simp [List.getElem?_eq_getElem hj]
 ·obtain ⟨hjl, ho⟩ := List.getElem?_eq_some_iff.1 hj
  rw [hxs] at hjl
  rw [hgx j hjl] at ho
  by_cases e : j = i
  ·subst e
   rw [if_pos rfl] at ho
   subst ho
   dsimp only
   rw [if_pos rfl]
   refine owns_keep h2 fun g cur' hgc he => hk g cur' 57 (fun eq => hnew (by rw [he, eq])) (by decide) hgc
  ·rw [if_neg (fun eq => e eq.symm)] at ho
   subst ho
   dsimp only
   rw [if_neg e, List.getElem?_eq_getElem hjl]
   have hc := k3 _ _ _ (by omega) (by decide) (k2 _ _ (h.cls j hjl) (by omega))
   exact owns_new hc (by rw [fl_len cellC_len]; rfl) (by omega) (le_maxLen (hz.cl _ (List.getElem_mem hjl)))
 ·exact owns_new (k3 _ _ _ (by omega) (by decide) (k2 _ _ h.nms (by omega))) (by rw [fl_len nameC_len]; rfl) (by omega) (le_maxLen hz.nm)
 ·exact owns_new (k3 _ _ _ (by omega) (by decide) (k2 _ _ h.lks (by omega))) (by rw [fl_len linkC_len]; rfl) (by omega) (le_maxLen hz.lk)
end Go.Proofs.YtnibldnfbikipaaGreatDoor.Sh
