/- FParse, FLives. -/
import Derived.Defers
import Derived.Recover
import Derived.Test.YtljmklbbngpllaaGreatDoorTLexNd
set_option linter.unusedVariables false
set_option linter.unusedSimpArgs false
set_option maxHeartbeats 16000000
set_option maxRecDepth 100000
namespace Go.Proofs.YtljmklbbngpllaaGreatDoor
open Go.RowKit Go.Fm
def pK : T := tree (eF 0 nb) []
def tF (l : List UInt8) : T × Int :=
 if 255 < l.length then (pK, 3) else match gM l with
  | none => (pK, 10)
  | some ts => match aDl ts with
   | none => (pK, 10)
   | some t => (t, 0)
theorem aH7 (W : World) : (binOp .eql 20 (.iface 47 (.int .i64 10)) (.iface 47 (.int .i64 10))).run Tryz.prog W = .ok (.bool true) W := by kernel_rfl
theorem eq_nil (W : World) : (binOp .eql 20 .nilIface .nilIface).run Tryz.prog W = .ok (.bool true) W := by kernel_rfl
theorem aKd (W : World) : (binOp .eql 20 (.iface 47 (.int .i64 10)) .nilIface).run Tryz.prog W = .ok (.bool false) W := by kernel_rfl
theorem aBD (p q : Addr) (w : World) : CallsD Tryz.prog 56 #[.pointer (some p), .pointer (some q)] .returning w fun e u' w' => e = .returned (.tuple #[]) ∧ u' = .returning ∧ w' = w := by
 have e1 := eq_nil
 refine callsD_of_wpS Tryz.func56 rfl fun c₀ cs hu => ?_
 apply wpS_seq
 apply wpS_region
 simp [wpOpsS, go_sem, recoverD, hu, Tryz.ntmps56, Exit.thenS, Array.replicate, List.replicate]
 refine wpS_of_wp ?_
 go_wp2
 cases c₀
 simp_all [bodyPostS, results, Tryz.results56]
theorem aBE {g2 g3 : Nat} {zs : Array Value} {x : Value} (w : World) (h2 : w.heap[g2]? = some (.cells zs 28)) (hz : zs.size = 18) (h3 : w.heap[g3]? = some (.cells #[x] 47)) (hne : g3 ≠ g2) :
  CallsD Tryz.prog 56 #[.pointer (some ⟨g2, 0, none⟩), .pointer (some ⟨g3, 0, none⟩)] (.panicking bQ) w fun e u' w' => e = .returned (.tuple #[]) ∧ u' = .panicking [{ v := .iface 47 (.int .i64 10), recovered := true }] ∧ w' = (w.setRow g2 nd0).setCell ⟨g3, 0, none⟩ (.int .i64 10) := by
 have e1 := aH7
 have e2 := aKd
 have RS : Hid ((Instr.storeAt 28 (.pointer (some ⟨g2, 0, none⟩)) (.agg nd0)).run Tryz.prog w = .ok () (w.setRow g2 nd0)) := sto h2 bS hz (iC (eF 0 nb) none 0 0)
 have H3 : (w.setRow g2 nd0).heap[g3]? = some (.cells #[x] 47) := ((aC w g2 nd0).block _ (aS h3) (by intro e; exact hne (Option.some.inj e))).trans h3
 have c3 : (w.setRow g2 nd0).cell? ⟨g3, 0, none⟩ = some x := by rw [cell_of_row _ g3 0 _ 47 (0, 0) H3]; rfl
 have f3 : (w.setRow g2 nd0).frozen? ⟨g3, 0, none⟩ = false := by unfold World.frozen?; rw [H3]; rfl
 unfold bQ
 refine callsD_of_wpS Tryz.func56 rfl fun c₀ cs hu => ?_
 apply wpS_seq
 apply wpS_region
 simp [wpOpsS, go_sem, recoverD, hu, Tryz.ntmps56, Exit.thenS, Array.replicate, List.replicate]
 refine wpS_of_wp ?_
 go_wp2_with (refine aD rfl 28 _ _ rfl _ _ _ rfl rfl RS.out ?_)
 cases c₀
 simp_all [bodyPostS, results, Tryz.results56]
theorem mI {fn : Func} {p u : Tmp} (h : fn.results = #[.cell p 28, .cell u 47]) {tmps : Array Value} {w : World} {g2 g3 : Nat} {es : Array Value} {x : Value}
  (hp : tmps.getD p undef = .pointer (some ⟨g2, 0, none⟩)) (hu : tmps.getD u undef = .pointer (some ⟨g3, 0, none⟩)) (h2 : w.heap[g2]? = some (.cells es 28)) (he : es.size = 18) (h3 : w.heap[g3]? = some (.cells #[x] 47)) :
  (results fn tmps).run Tryz.prog w = .ok (.tuple #[.agg es, x]) w := by
 have hp' : tmps[p]?.getD undef = .pointer (some ⟨g2, 0, none⟩) := by simpa using hp
 have hu' : tmps[u]?.getD undef = .pointer (some ⟨g3, 0, none⟩) := by simpa using hu
 have c3 : w.cell? ⟨g3, 0, none⟩ = some x := by rw [cell_of_row _ g3 0 _ 47 (0, 0) h3]; rfl
 have r2 := run_loadVar_row (P := Tryz.prog) w g2 28 28 es (0, 0) _ h2 Tryz.underlying28 rfl (by rw [he]; exact bS)
 have r3 : (loadVar 47 ⟨g3, 0, none⟩).run Tryz.prog w = .ok x w := by
  have h29 := Tryz.underlying47
  simp [go_sem, c3]
 simp [results, h, hp', hu', asAddr, r2, r3]
def PA (w : World) (p : T × Int) (e : Ending) (w' : World) : Prop := ∃ es, e = .returned (.tuple #[.agg es, .int .i64 p.2]) ∧ NT w' es p.1 ∧ zT p.1 ≤ 256 ∧ Below w.heap.size w w'
abbrev wpa (w : World) : World := (w.alloc (.cells nd0 28)).alloc (.cells #[.int .i64 0] 47)
theorem nS {w u : World} (h : Below (wpa w).heap.size (wpa w) u) : u.heap[w.heap.size]? = some (.cells nd0 28) ∧ u.heap[w.heap.size + 1]? = some (.cells #[.int .i64 0] 47) ∧ Below w.heap.size w u := by
 have := new2 h
 exact ⟨this.1, this.2, aCw h⟩
theorem aCs (w : World) : NT w nd0 pK := ⟨none, 0, 0, rfl, rfl, .inl rfl⟩
theorem nU {w : World} {g : Nat} {x y : Value} (h : w.heap[g]? = some (.cells #[x] 47)) : (w.setCell ⟨g, 0, none⟩ y).heap[g]? = some (.cells #[y] 47) := by
 simp [World.setCell, Array.getElem?_modify, h]
theorem vC {A : ByteArray} {c : Int} (hc : (c == 0) = false) (w : World) (L : Calls Tryz.prog 55 #[.string A] (wpa w) fun e w1 => e = .returned (.tuple #[.slice none 0 0, .int .i64 c]) ∧ Below (wpa w).heap.size (wpa w) w1) :
  Calls Tryz.prog 34 #[.string A] w (PA w (pK, c)) := by
 have hcn : (c != 0) = true := by simpa using hc
 have L' : Calls Tryz.prog 55 #[.string A] (wpa w) fun e w1 => e = .returned (.tuple #[.slice none 0 0, .int .i64 c]) ∧ w1.cell? ⟨w.heap.size + 1, 0, none⟩ = some (.int .i64 0) ∧ w1.frozen? ⟨w.heap.size + 1, 0, none⟩ = false ∧ Hid (w1.heap[w.heap.size]? = some (.cells nd0 28) ∧ w1.heap[w.heap.size + 1]? = some (.cells #[.int .i64 0] 47) ∧ Below w.heap.size w w1) := L.mono (by
  rintro e w1 ⟨rfl, h⟩
  have k := nS h
  exact ⟨rfl, by rw [cell_of_row _ _ 0 _ 47 (0, 0) k.2.1]; rfl, by unfold World.frozen?; rw [k.2.1]; rfl, k⟩)
 clear L
 go_enter Tryz.func34, Tryz.ntmps34
 go_wp2_with (go_at_call 55; refine L'.mono ?_; rintro e w1 ⟨rfl, c1, f1, HK⟩)
 obtain ⟨w2, hw2⟩ : ∃ w2, w1.setCell ⟨w.heap.size + 1, 0, none⟩ (.int .i64 c) = w2 := ⟨_, rfl⟩
 rw [hw2]
 have k2 : w2.heap[w.heap.size]? = some (.cells nd0 28) := by rw [← hw2]; exact ((Lib.grownBy_setCell w1 (w.heap.size + 1) 0 (.int .i64 c)).block _ (aS HK.out.1) (by intro e; have := Option.some.inj e; omega)).trans HK.out.1
 have k3 : w2.heap[w.heap.size + 1]? = some (.cells #[.int .i64 c] 47) := by rw [← hw2]; exact nU HK.out.2.1
 have kb : Below w.heap.size w w2 := by rw [← hw2]; exact HK.out.2.2.setCell (by simp) _
 have ld : ∀ u : World, u.heap[w.heap.size + 1]? = some (.cells #[.int .i64 c] 47) → (Instr.loadAt 47 (.pointer (some ⟨w.heap.size + 1, 0, none⟩))).run Tryz.prog u = .ok (.int .i64 c) u := fun u hu => by
  have c3 : u.cell? ⟨w.heap.size + 1, 0, none⟩ = some (.int .i64 c) := by rw [cell_of_row _ _ 0 _ 47 (0, 0) hu]; rfl
  have h29 := Tryz.underlying47
  simp [go_sem, c3]
 have LD : Hid _ := ld
 have RB : ∀ u : World, (Instr.build 28 #[]).run Tryz.prog u = .ok (.agg nd0) u := fun u => by kernel_rfl
 have RS : Hid ((Instr.storeAt 28 (.pointer (some ⟨w.heap.size, 0, none⟩)) (.agg nd0)).run Tryz.prog w2.drew = .ok () (w2.drew.setRow w.heap.size nd0)) := sto (w := w2.drew) k2 bS rfl (iC (eF 0 nb) none 0 0)
 obtain ⟨w3, hw3⟩ : ∃ w3, w2.drew.setRow w.heap.size nd0 = w3 := ⟨_, rfl⟩
 rw [hw3] at RS
 have j2 : w3.heap[w.heap.size]? = some (.cells nd0 28) := by rw [← hw3]; exact setRow_heap w2.drew _ _ _ _ _ k2
 have j3 : w3.heap[w.heap.size + 1]? = some (.cells #[.int .i64 c] 47) := by rw [← hw3]; exact ((aC w2.drew w.heap.size nd0).block _ (aS (u := w2.drew) k3) (by intro e; have := Option.some.inj e; omega)).trans k3
 have jb : Below w.heap.size w w3 := by rw [← hw3]; exact kb.drew.grown (aC _ _ _) kb.size (fun k e => by cases e; exact Nat.le_refl _)
 have RS3 : Hid ((Instr.storeAt 47 (.pointer (some ⟨w.heap.size + 1, 0, none⟩)) (.int .i64 c)).run Tryz.prog w3 = .ok () (w3.setCell ⟨w.heap.size + 1, 0, none⟩ (.int .i64 c))) := by
  have c3 : w3.cell? ⟨w.heap.size + 1, 0, none⟩ = some (.int .i64 c) := by rw [cell_of_row _ _ 0 _ 47 (0, 0) j3]; rfl
  have f3 : w3.frozen? ⟨w.heap.size + 1, 0, none⟩ = false := by unfold World.frozen?; rw [j3]; rfl
  have h29 := Tryz.underlying47
  show _ = _
  simp [go_sem, c3, f3]
 have HE : Hid ((w3.setCell ⟨w.heap.size + 1, 0, none⟩ (.int .i64 c)).heap[w.heap.size]? = some (.cells nd0 28) ∧ (w3.setCell ⟨w.heap.size + 1, 0, none⟩ (.int .i64 c)).heap[w.heap.size + 1]? = some (.cells #[.int .i64 c] 47) ∧ Below w.heap.size w (w3.setCell ⟨w.heap.size + 1, 0, none⟩ (.int .i64 c))) :=
  ⟨((Lib.grownBy_setCell w3 (w.heap.size + 1) 0 (.int .i64 c)).block _ (aS j2) (by intro e; have := Option.some.inj e; omega)).trans j2, nU j3, jb.setCell (by simp) _⟩
 have J3 : Hid _ := LD.out w3 j3
 have K3 : Hid _ := LD.out w2.drew k3
 clear ld c1 f1 k2 k3 kb j2 j3 jb hw2 hw3
 refine aQ (fun u => (Instr.loadAt 47 (.pointer (some ⟨w.heap.size + 1, 0, none⟩))).run Tryz.prog u = .ok (.int .i64 c) u) (fun j => j == 3) (by kernel_rfl) ?_
 refine dwp 0 (.agg nd0) ?_ (hy := (by intro u; kernel_rfl))
 refine dwl 1 (.int .i64 c) ?_ (hS := K3.out) (hy := (fun u hSu => aI rfl rfl hSu))
 refine aH (i := 2) (by kernel_rfl) rfl ?_
 intro K hK
 rw [if_pos (by go_simp)]
 refine aJ none rfl 28 _ _ rfl _ _ rfl rfl RS.out (hK _ _ (.inr fun _ => J3.out) ?_)
 clear hK
 try simp only [Act.put, List.setIfInBounds_toArray, List.set_cons_zero, List.set_cons_succ]
 refine aH (i := 3) (by kernel_rfl) rfl ?_
 intro K hK
 rw [if_pos (by go_simp)]
 refine aJ none rfl 47 _ _ rfl _ _ rfl rfl RS3.out (hK _ _ (.inl rfl) ?_)
 clear hK
 try simp only [Act.put, List.setIfInBounds_toArray, List.set_cons_zero, List.set_cons_succ]
 refine aK (by kernel_rfl) ?_ _
 go_wp2
 refine bodyPost_ret (mI rfl rfl rfl HE.out.1 rfl HE.out.2.1) rfl ⟨nd0, rfl, aCs _, by show zT pK ≤ 256; decide, HE.out.2.2⟩
theorem xA : ∀ (k : Nat) (l : List UInt8) (L : List Tk.Tok), Tk.jY gnF trB pnF k l = some L → L.length ≤ l.length
 | 0, l, L, h => by cases h
 | k + 1, [], L, h => by cases h; exact Nat.le_refl _
 | k + 1, c :: r, L, h => by
  unfold Tk.jY at h
  split at h
  ·have := xA k r L h; simp; omega
  ·cases ho : Tk.one gnF trB pnF (c :: r) with
   | none => rw [ho] at h; cases h
   | some p =>
    rw [ho] at h
    simp only at h
    have hl := nE (t := p.1) (m := p.2) ho
    cases hk : Tk.jY gnF trB pnF k p.2 with
    | none => rw [hk] at h; cases h
    | some M =>
     rw [hk] at h
     cases h
     have := xA k p.2 M hk
     simp only [List.length_cons] at *
     omega
theorem aJB {l : List UInt8} {L : List Tk.Tok} (h : gM l = some L) (hl : l.length ≤ 255) : L.length ≤ 255 := Nat.le_trans (xA _ _ _ h) hl
theorem vD {w : World} (T : dB w) {l : List UInt8} {ts : List Tk.Tok} (hl : l.length ≤ 255) (hx : gM l = some ts) {w1 : World} {v : Value} (hB : Below (wpa w).heap.size (wpa w) w1) (ho : cO 123 (wpa w).heap.size w1 v (ts.map tk)) :
  ∃ w2, w1.setCell ⟨w.heap.size + 1, 0, none⟩ (.int .i64 0) = w2 ∧ PR w2 w2.heap.size ts (w2.alloc (aFl v)) ∧ Below w.heap.size w w2 ∧ w2.heap[w.heap.size]? = some (.cells nd0 28) ∧ w2.heap[w.heap.size + 1]? = some (.cells #[.int .i64 0] 47) ∧ w.heap.size + 2 ≤ w2.heap.size := by
 obtain ⟨k1, k2, k3⟩ := nS hB
 have hz : w.heap.size + 2 ≤ w1.heap.size := by have := hB.size; simp at this; omega
 have G := Lib.grownBy_setCell w1 (w.heap.size + 1) 0 (.int .i64 0)
 have hb2 : Below w.heap.size w (w1.setCell ⟨w.heap.size + 1, 0, none⟩ (.int .i64 0)) := k3.setCell (by simp) _
 have ho2 : cO 123 (wpa w).heap.size (w1.setCell ⟨w.heap.size + 1, 0, none⟩ (.int .i64 0)) v (ts.map tk) := ho.kept G (by
  cases hv : v.ownBlock with
  | none => exact .inl rfl
  | some g =>
   right
   intro e
   have := (World.ownsRow.lt ho g hv).1
   have := Option.some.inj e
   simp at *
   omega)
 have hz2 : w1.heap.size = (w1.setCell ⟨w.heap.size + 1, 0, none⟩ (.int .i64 0)).heap.size := by simp [World.setCell]
 refine ⟨_, rfl, ⟨T.below hb2, aA (Below.refl _ _) _, Nat.le_refl _, fun t ht => ⟨aIZ hx t ht, aI1 hl hx t ht⟩, v, heap_alloc_new _ _, TS.of ho2⟩, hb2, ?_, nU k2, by omega⟩
 exact (G.block _ (aS k1) (by intro e; have := Option.some.inj e; omega)).trans k1
theorem aDO {l : List UInt8} {ts : List Tk.Tok} (hl : l.length ≤ 255) (hx : gM l = some ts) (hts : ts.length ≤ 255) (ha : aDl ts = none) (w : World) (T : dB w) : Calls Tryz.prog 34 #[.string (ba l)] w (PA w (pK, 10)) := by
 have hmf : ∀ (fn : Fn) (first cap : Array Value) (w : World), (Instr.makeFunc fn first cap).run Tryz.prog w = .ok (.func fn first cap) w := fun _ _ _ _ => rfl
 have L := oU l (wpa w) (T.below (aA (aA (Below.refl _ _) _) _)) hl
 rw [hx] at L
 have L' : Calls Tryz.prog 55 #[.string (ba l)] (wpa w) fun e w1 => ∃ a c n w2, e = .returned (.tuple #[.slice a n c, .int .i64 0]) ∧ w1.cell? ⟨w.heap.size + 1, 0, none⟩ = some (.int .i64 0) ∧ w1.frozen? ⟨w.heap.size + 1, 0, none⟩ = false ∧ w1.setCell ⟨w.heap.size + 1, 0, none⟩ (.int .i64 0) = w2 ∧ w2.cell? ⟨w.heap.size + 1, 0, none⟩ = some (.int .i64 0) ∧
   (Calls Tryz.prog 57 #[.pointer (some ⟨w2.heap.size, 0, none⟩)] (w2.alloc (aFl (.slice a n c))) fun e w4 => e = .panicked bQ ∧ Hid (w4.heap[w.heap.size]? = some (.cells nd0 28) ∧ w4.heap[w.heap.size + 1]? = some (.cells #[.int .i64 0] 47) ∧ Below w.heap.size w w4)) := L.mono (by
  rintro e w1 ⟨hB, v, rfl, ho, _⟩
  obtain ⟨w2, e2, X, b2, k2, k3, hz⟩ := vD T hl hx hB ho
  obtain ⟨q1, q2, q3⟩ := nS hB
  obtain ⟨a, c, rfl⟩ := ho.slice
  refine ⟨a, c, _, w2, rfl, by rw [cell_of_row _ _ 0 _ 47 (0, 0) q2]; rfl, by unfold World.frozen?; rw [q2]; rfl, e2, by rw [cell_of_row _ _ 0 _ 47 (0, 0) k3]; rfl, ?_⟩
  have C := uO (by omega) X
  rw [ha] at C
  refine C.mono ?_
  rintro e w4 ⟨rfl, hg⟩
  refine ⟨rfl, (hg.block _ (by simp; omega) (by intro e; have := Option.some.inj e; omega)).trans ((Below.heap_alloc _ _ _ (by omega)).trans k2), (hg.block _ (by simp; omega) (by intro e; have := Option.some.inj e; omega)).trans ((Below.heap_alloc _ _ _ (by omega)).trans k3), ?_⟩
  exact (aA b2 _).grown hg (by simp; omega) (fun k e => by cases e; omega))
 clear L T hx ha
 go_enter_defers Tryz.func34, Tryz.ntmps34
 go_wp2_with (first
  | (go_at_call 55; refine L'.mono ?_; rintro e w1 ⟨a, c, n, w2, rfl, c1, f1, e2, c2, C⟩)
  | (go_at_call 57; refine C.mono ?_; rintro e w4 ⟨rfl, HK⟩))
 refine leaves_cons (f := 56) (args := #[.pointer (some ⟨w.heap.size, 0, none⟩), .pointer (some ⟨w.heap.size + 1, 0, none⟩)]) (by simp) (by simp [go_sem]) ?_
 refine (aBE _ HK.out.1 rfl HK.out.2.1 (by omega)).mono ?_
 rintro e u' w'' ⟨rfl, rfl, rfl⟩
 have G := aC w4 w.heap.size nd0
 have h3 : (w4.setRow w.heap.size nd0).heap[w.heap.size + 1]? = some (.cells #[.int .i64 0] 47) := (G.block _ (aS HK.out.2.1) (by intro e; have := Option.some.inj e; omega)).trans HK.out.2.1
 have h2 : (w4.setRow w.heap.size nd0).heap[w.heap.size]? = some (.cells nd0 28) := setRow_heap _ _ _ _ _ _ HK.out.1
 have h2' := ((Lib.grownBy_setCell (w4.setRow w.heap.size nd0) (w.heap.size + 1) 0 (.int .i64 10)).block _ (aS h2) (by intro e; have := Option.some.inj e; omega)).trans h2
 have hb : Below w.heap.size w (w4.setRow w.heap.size nd0) := HK.out.2.2.grown G HK.out.2.2.size (fun k e => by cases e; exact Nat.le_refl _)
 exact ⟨_, mI rfl rfl rfl h2' rfl (nU h3), nd0, rfl, aCs _, by show zT pK ≤ 256; decide, hb.setCell (by simp) _⟩
theorem aBF {l : List UInt8} {ts : List Tk.Tok} {t : T} (hl : l.length ≤ 255) (hx : gM l = some ts) (hts : ts.length ≤ 255) (ha : aDl ts = some t) (w : World) (T : dB w) : Calls Tryz.prog 34 #[.string (ba l)] w (PA w (t, 0)) := by
 have hmf : ∀ (fn : Fn) (first cap : Array Value) (w : World), (Instr.makeFunc fn first cap).run Tryz.prog w = .ok (.func fn first cap) w := fun _ _ _ _ => rfl
 have L := oU l (wpa w) (T.below (aA (aA (Below.refl _ _) _) _)) hl
 rw [hx] at L
 have L' : Calls Tryz.prog 55 #[.string (ba l)] (wpa w) fun e w1 => ∃ a c n w2, e = .returned (.tuple #[.slice a n c, .int .i64 0]) ∧ w1.cell? ⟨w.heap.size + 1, 0, none⟩ = some (.int .i64 0) ∧ w1.frozen? ⟨w.heap.size + 1, 0, none⟩ = false ∧ w1.setCell ⟨w.heap.size + 1, 0, none⟩ (.int .i64 0) = w2 ∧ w2.cell? ⟨w.heap.size + 1, 0, none⟩ = some (.int .i64 0) ∧
   (Calls Tryz.prog 57 #[.pointer (some ⟨w2.heap.size, 0, none⟩)] (w2.alloc (aFl (.slice a n c))) fun e w4 => ∃ es, e = .returned (.agg es) ∧ Hid ((Instr.storeAt 28 (.pointer (some ⟨w.heap.size, 0, none⟩)) (.agg es)).run Tryz.prog w4 = .ok () (w4.setRow w.heap.size es)) ∧ (w4.setRow w.heap.size es).cell? ⟨w.heap.size + 1, 0, none⟩ = some (.int .i64 0) ∧ (w4.setRow w.heap.size es).frozen? ⟨w.heap.size + 1, 0, none⟩ = false ∧
    Hid (((w4.setRow w.heap.size es).setCell ⟨w.heap.size + 1, 0, none⟩ (.int .i64 0)).heap[w.heap.size]? = some (.cells es 28) ∧ ((w4.setRow w.heap.size es).setCell ⟨w.heap.size + 1, 0, none⟩ (.int .i64 0)).heap[w.heap.size + 1]? = some (.cells #[.int .i64 0] 47) ∧ Below w.heap.size w ((w4.setRow w.heap.size es).setCell ⟨w.heap.size + 1, 0, none⟩ (.int .i64 0)) ∧
     NT ((w4.setRow w.heap.size es).setCell ⟨w.heap.size + 1, 0, none⟩ (.int .i64 0)) es t ∧ zT t ≤ 256 ∧ es.size = 18)) := L.mono (by
  rintro e w1 ⟨hB, v, rfl, ho, _⟩
  obtain ⟨w2, e2, X, b2, k2, k3, hz⟩ := vD T hl hx hB ho
  obtain ⟨q1, q2, q3⟩ := nS hB
  obtain ⟨a, c, rfl⟩ := ho.slice
  refine ⟨a, c, _, w2, rfl, by rw [cell_of_row _ _ 0 _ 47 (0, 0) q2]; rfl, by unfold World.frozen?; rw [q2]; rfl, e2, by rw [cell_of_row _ _ 0 _ 47 (0, 0) k3]; rfl, ?_⟩
  have C := uO (by omega) X
  rw [ha] at C
  refine C.mono ?_
  rintro e w4 ⟨es, rfl, hN, hg, hzt⟩
  have m2 : w4.heap[w.heap.size]? = some (.cells nd0 28) := (hg.block _ (by simp; omega) (by intro e; have := Option.some.inj e; omega)).trans ((Below.heap_alloc _ _ _ (by omega)).trans k2)
  have m3 : w4.heap[w.heap.size + 1]? = some (.cells #[.int .i64 0] 47) := (hg.block _ (by simp; omega) (by intro e; have := Option.some.inj e; omega)).trans ((Below.heap_alloc _ _ _ (by omega)).trans k3)
  have mb : Below w.heap.size w w4 := (aA b2 _).grown hg (by simp; omega) (fun k e => by cases e; omega)
  have G := aC w4 w.heap.size es
  have h3 : (w4.setRow w.heap.size es).heap[w.heap.size + 1]? = some (.cells #[.int .i64 0] 47) := (G.block _ (aS m3) (by intro e; have := Option.some.inj e; omega)).trans m3
  have h2 : (w4.setRow w.heap.size es).heap[w.heap.size]? = some (.cells es 28) := setRow_heap _ _ _ _ _ _ m2
  have G2 := Lib.grownBy_setCell (w4.setRow w.heap.size es) (w.heap.size + 1) 0 (.int .i64 0)
  have h2' := (G2.block _ (aS h2) (by intro e; have := Option.some.inj e; omega)).trans h2
  have hb : Below w.heap.size w (w4.setRow w.heap.size es) := mb.grown G mb.size (fun k e => by cases e; exact Nat.le_refl _)
  have hn1 : NK (fun i => w.heap.size + 2 ≤ i) w4 es t := hN.mono (fun i hi _ => by simp at hi; omega)
  refine ⟨es, rfl, hN.sto m2 rfl, by rw [cell_of_row _ _ 0 _ 47 (0, 0) h3]; rfl, by unfold World.frozen?; rw [h3]; rfl, h2', nU h3, hb.setCell (by simp) _, ?_, hzt, hN.size⟩
  exact ((hn1.grown G (fun g e hk => by cases e; omega)).grown G2 (fun g e hk => by cases e; omega)).nt)
 clear L T hx ha
 go_enter_defers Tryz.func34, Tryz.ntmps34
 go_wp2_with (first
  | (go_at_call 55; refine L'.mono ?_; rintro e w1 ⟨a, c, n, w2, rfl, c1, f1, e2, c2, C⟩)
  | (go_at_call 57; refine C.mono ?_; rintro e w4 ⟨es, rfl, RS, c4, f4, HK⟩)
  | (refine aD rfl 28 _ _ rfl _ _ _ rfl rfl RS.out ?_))
 refine leaves_cons (f := 56) (args := #[.pointer (some ⟨w.heap.size, 0, none⟩), .pointer (some ⟨w.heap.size + 1, 0, none⟩)]) (by simp) (by simp [go_sem]) ?_
 refine (aBD _ _ _).mono ?_
 rintro e u' w'' ⟨rfl, rfl, rfl⟩
 exact ⟨_, mI rfl rfl rfl HK.out.1 HK.out.2.2.2.2.2 HK.out.2.1, es, rfl, HK.out.2.2.2.1, HK.out.2.2.2.2.1, HK.out.2.2.1⟩
theorem sS (l : List UInt8) (w : World) (T : dB w) : Calls Tryz.prog 34 #[.string (ba l)] w (PA w (tF l)) := by
 have TW : dB (wpa w) := T.below (aA (aA (Below.refl _ _) _) _)
 unfold tF
 by_cases h : 255 < l.length
 ·rw [if_pos h]
  exact vC (by decide) w ((aGo l (wpa w) h).mono (by rintro e w1 ⟨rfl, rfl⟩; exact ⟨rfl, Below.refl _ _⟩))
 ·rw [if_neg h]
  have L := oU l (wpa w) TW (by omega)
  cases hx : gM l with
  | none =>
   rw [hx] at L
   exact vC (by decide) w (L.mono (by rintro e w1 ⟨h1, rfl⟩; exact ⟨rfl, h1⟩))
  | some ts =>
   have hts : ts.length ≤ 255 := aJB hx (by omega)
   cases ha : aDl ts with
   | none => simp only [ha]; exact aDO (by omega) hx hts ha w T
   | some t => simp only [ha]; exact aBF (by omega) hx hts ha w T
def zB (a : Lab) : Bool := decide (a.s.size ≤ 9) && decide (a.b1.size ≤ 9) && decide (a.h1.size ≤ 9) && decide (a.b2.size ≤ 9) && decide (a.h2.size ≤ 9)
theorem aKe {a : Lab} (h : zB a = true) : nK a := by
 simp only [zB, Bool.and_eq_true, decide_eq_true_eq] at h
 exact ⟨by omega, by omega, by omega, by omega, by omega⟩
end Go.Proofs.YtljmklbbngpllaaGreatDoor
