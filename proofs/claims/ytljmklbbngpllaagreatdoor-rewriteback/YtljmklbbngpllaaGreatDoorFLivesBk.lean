/- TLex, FParse, FLives. -/
import Derived.Defers
import Derived.Recover
import Derived.Test.YtljmklbbngpllaaGreatDoorFPrintBk
set_option linter.unusedVariables false
set_option linter.unusedSimpArgs false
set_option maxHeartbeats 16000000
set_option maxRecDepth 100000
namespace Go.Proofs.YtljmklbbngpllaaGreatDoor
open Go.RowKit
theorem LX.own {W w w' : World} {b : Nat} {l : List UInt8} {v : Value} {L : List TT} (h : LX W b l w) (ho : dK 123 W.heap.size w v L) (hg : w.grownBy w' v.ownBlock) : LX W b l w' :=
 h.grown hg fun k hk => ⟨(World.ownsRow.lt ho k hk).1, fun e => by
  rcases ho.ne h.blk (fun c z => by simp) with h1 | h1
  ·rw [h1] at hk; cases hk
  ·exact h1 (by rw [hk, e])⟩
theorem dK.aK1 {W u u1 : World} {b : Nat} {l m : List UInt8} {v : Value} {L : List TT} (h : dK 123 W.heap.size u v L) (X : LX W b l u) (k : St W b m u u1) : dK 123 W.heap.size u1 v L :=
 h.kept k.2 (h.ne X.blk (fun c z => by simp))
def aL0 (w : World) (o : Option (List Tk.Tok)) (e : Ending) (w' : World) : Prop :=
 Below w.heap.size w w' ∧ match o with
  | none => e = .returned (.tuple #[.slice none 0 0, .int .i64 10])
  | some L => ∃ v, e = .returned (.tuple #[v, .int .i64 0]) ∧ dK 123 w.heap.size w' v (L.map tk) ∧ L.length ≤ 255
theorem aGT {l : List UInt8} {c : UInt8} {r : List UInt8} (h : l.dropWhile Tk.blank = c :: r) : Tk.blank c = false := pF h
theorem aIK {W w2 : World} {b : Nat} {m : List UInt8} {v : Value} {L : List TT} (X : LX W b m w2) (ho : dK 123 W.heap.size w2 v L) (t : TT) (hn : L.length + 1 ≤ 1000000) :
  ∃ v' w4, Hid ((Builtin.append_ #[95, 95] 95 #[v, .slice (some ⟨w2.heap.size + 1, 0, none⟩) 1 1]).run Tryz.prog ((w2.alloc (.cells (tcs t.k t.n t.s t.b t.h t.r t.c t.fr t.fc) 123)).alloc (.cells (tcs t.k t.n t.s t.b t.h t.r t.c t.fr t.fc) 123)) = .ok v' w4) ∧ Hid (dK 123 W.heap.size w4 v' (L ++ [t])) ∧ Hid (LX W b m w4) := by
 have X3 := (X.alloc (.cells (tcs t.k t.n t.s t.b t.h t.r t.c t.fr t.fc) 123)).alloc (.cells (tcs t.k t.n t.s t.b t.h t.r t.c t.fr t.fc) 123)
 have o3 : dK 123 W.heap.size ((w2.alloc (.cells (tcs t.k t.n t.s t.b t.h t.r t.c t.fr t.fc) 123)).alloc (.cells (tcs t.k t.n t.s t.b t.h t.r t.c t.fr t.fc) 123)) v L :=
  (ho.below (aC (Below.refl _ _) _)).below (aC (Below.refl _ _) _)
 obtain ⟨v', w4, R, o4, g4, _⟩ := aFN (t := t) (g := w2.heap.size + 1) (e' := 123) (z := (0, 0)) Tryz.underlying95 aFM o3 (by
  have := heap_alloc_new (w2.alloc (.cells (tcs t.k t.n t.s t.b t.h t.r t.c t.fr t.fc) 123)) (.cells (tcs t.k t.n t.s t.b t.h t.r t.c t.fr t.fc) 123)
  rw [show (w2.alloc (.cells (tcs t.k t.n t.s t.b t.h t.r t.c t.fr t.fc) 123)).heap.size = w2.heap.size + 1 by simp] at this
  exact this) hn X3.bel.size
 exact ⟨v', w4, R, o4, X3.own o3 g4⟩
theorem aGU (l : List UInt8) (w : World) (hl : 255 < l.length) : Calls Tryz.prog 55 #[.string (ba l)] w fun e w' => e = .returned (.tuple #[.slice none 0 0, .int .i64 3]) ∧ w' = w := by
 have hs : (ba l).size = l.length := size_mk l
 have h1 : (255 : Int) < l.length := by omega
 generalize ba l = A at *
 generalize l.length = n at *
 go_enter Tryz.func55, Tryz.ntmps55
 go_wp2
 go_ret2
 exact ⟨rfl, rfl⟩
theorem pR (l : List UInt8) (w : World) (T : cZ w) (hl : l.length ≤ 255) : Calls Tryz.prog 55 #[.string (ba l)] w (aL0 w (gZ l)) := by
 have hs : (ba l).size = l.length := size_mk l
 have h1 : ¬ (255 : Int) < l.length := by omega
 have X0 : Hid (LX w w.heap.size l (w.alloc (aKw l))) := ⟨T, aC (Below.refl _ _) _, Nat.le_refl _, heap_alloc_new w _⟩
 generalize ho : gZ l = o
 have HO : Hid (gZ l = o) := ho
 clear ho T
 go_enter Tryz.func55, Tryz.ntmps55
 go_wp2
 clear hs h1
 go_loopw [4] (fun v wr => ∃ (L : List Tk.Tok) (m : List UInt8), L.length + m.length ≤ 255 ∧ Hid (o = (gZ m).map (L ++ ·)) ∧ Hid (LX w w.heap.size m wr) ∧ Hid (dK 123 w.heap.size wr v (L.map tk))) (fun _ wr => aCG w.heap.size wr)
 case atStart => exact ⟨[], l, by simpa using hl, by show _ = _; rw [← HO.out]; cases gZ l <;> simp, X0, dK.nil _ _ _⟩
 case round =>
  obtain ⟨L, m, hlen, HQ, HX, HW⟩ := hrel
  clear HO X0
  have hm : m.length ≤ 255 := by omega
  have hlm := nX HX.out
  have MO := fun u (Y : LX w w.heap.size m u) => aFo Y hm
  have hdl := Tk.iT Tk.blank m
  cases hD : m.dropWhile Tk.blank with
  | nil =>
   rw [hD] at MO
   have HN : Hid (o = some L) := by
    show _ = _
    rw [HQ.out, ← sG, hD]
    show some (L ++ []) = _
    rw [List.append_nil]
   have MO' : ∀ u, LX w w.heap.size m u → Calls Tryz.prog 77 #[.pointer (some ⟨w.heap.size, 0, none⟩)] u fun e w' => e = .returned (.bool false) ∧ St w w.heap.size [] u w' := MO
   clear MO HQ
   go_wp2_with (go_at_call 77; refine (MO' _ HX.out).mono ?_; rintro e w2 ⟨rfl, hs⟩; have H2 : Hid (St w w.heap.size [] wr w2) := hs; clear hs)
   go_ret2
   rw [HN.out]
   exact ⟨H2.out.1.bel, _, rfl, HW.out.aK1 HX.out H2.out, by omega⟩
  | cons c r =>
   rw [hD] at MO hdl
   have MO' : ∀ u, LX w w.heap.size m u → Calls Tryz.prog 77 #[.pointer (some ⟨w.heap.size, 0, none⟩)] u fun e w' => e = .returned (.bool true) ∧ St w w.heap.size (c :: r) u w' := MO
   have hb := aGT hD
   have NX := fun u (Y : LX w w.heap.size (c :: r) u) => aFK Y (by omega)
   have hlx := aFP (r := r) hb
   rw [← hD, sG] at hlx
   rw [hD] at hlx
   cases h1 : Tk.one gnF trB pnF (c :: r) with
   | none =>
    rw [h1] at NX hlx
    have HN : Hid (o = none) := by
     show _ = _
     rw [HQ.out, hlx]; rfl
    have NX' : ∀ u, LX w w.heap.size (c :: r) u → Calls Tryz.prog 78 #[.pointer (some ⟨w.heap.size, 0, none⟩)] u fun e w' => ∃ (t : TT) (q : List UInt8), e = .returned (.tuple #[.agg (tcs t.k t.n t.s t.b t.h t.r t.c t.fr t.fc), .bool false]) ∧ St w w.heap.size q u w' := fun u Y => (NX u Y).mono (by
     rintro e w' ⟨⟨t, rfl⟩, q, h⟩
     exact ⟨t, q, rfl, h⟩)
    clear MO NX HQ hlx
    go_wp2_with (first
     | (go_at_call 77; refine (MO' _ HX.out).mono ?_; rintro e w2 ⟨rfl, hs⟩; have H2 : Hid (St w w.heap.size (c :: r) wr w2) := hs; clear hs)
     | (go_at_call 78; refine (NX' _ H2.out.1).mono ?_; rintro e w3 ⟨t, q, rfl, hs⟩; have H3 : Hid (St w w.heap.size q wr w3) := H2.out.step hs; clear hs))
    go_ret2
    rw [HN.out]
    exact ⟨((H3.out.alloc _).1).bel, rfl⟩
   | some p =>
    obtain ⟨t, q⟩ := p
    have hql := nY h1
    rw [h1] at NX hlx
    have HN : Hid (o = (gZ q).map ((L ++ [t]) ++ ·)) := by
     show _ = _
     rw [HQ.out, hlx]
     simp only
     cases gZ q <;> simp
    have NX' : ∀ u, LX w w.heap.size (c :: r) u → Calls Tryz.prog 78 #[.pointer (some ⟨w.heap.size, 0, none⟩)] u fun e w' => e = .returned (.tuple #[.agg (tcs (tk t).k (tk t).n (tk t).s (tk t).b (tk t).h (tk t).r (tk t).c (tk t).fr (tk t).fc), .bool true]) ∧ St w w.heap.size q u w' := fun u Y => (NX u Y).mono (by
     rintro e w' ⟨rfl, h⟩
     exact ⟨rfl, h⟩)
    have HL : Hid ((L ++ [t]).length + q.length ≤ 255) := by show _ ≤ _; simp at hql hdl ⊢; omega
    have HM : Hid (q.length < m.length) := by show _ < _; simp at hql hdl ⊢; omega
    have HT : Hid (∀ x, x = tk t → (L ++ [t]).map tk = L.map tk ++ [x]) := fun x e => by rw [e]; simp
    clear MO NX HQ hlx h1 hql
    generalize htt : tk t = tt at *
    have HT2 : Hid ((L ++ [t]).map tk = L.map tk ++ [tt]) := HT.out tt rfl
    clear HT htt
    go_wp2_with (first
     | (go_at_call 77; refine (MO' _ HX.out).mono ?_; rintro e w2 ⟨rfl, hs⟩; have H2 : Hid (St w w.heap.size (c :: r) wr w2) := hs; clear hs)
     | (go_at_call 78; refine (NX' _ H2.out.1).mono ?_; rintro e w3 ⟨rfl, hs⟩; have H3 : Hid (St w w.heap.size q wr w3) := H2.out.step hs; clear hs; obtain ⟨v', w4, RR, HO4, HX4⟩ := aIK H3.out.1 (HW.out.aK1 HX.out H3.out) tt (by have := HL.out; simp at this ⊢; omega))
     | (at_builtin; refine wpList_append_run rfl _ _ 95 rfl _ _ _ _ rfl rfl RR.out ?_))
    go_roundw
    case rel => exact ⟨L ++ [t], q, HL.out, HN, HX4, by show dK _ _ _ _ _; rw [HT2.out]; exact HO4.out⟩
    case measure => rw [nX HX4.out, hlm]; exact HM.out
end Go.Proofs.YtljmklbbngpllaaGreatDoor
namespace Go.Proofs.YtljmklbbngpllaaGreatDoor
open Go.RowKit Go.Fm
def qE : T := tree (aT 0 nb) []
def uO (l : List UInt8) : T × Int :=
 if 255 < l.length then (qE, 3) else match gZ l with
  | none => (qE, 10)
  | some ts => match aDV ts with
   | none => (qE, 10)
   | some t => (t, 0)
theorem aIL (W : World) : (binOp .eql 20 (.iface 47 (.int .i64 10)) (.iface 47 (.int .i64 10))).run Tryz.prog W = .ok (.bool true) W := by kernel_rfl
theorem eq_nil (W : World) : (binOp .eql 20 .nilIface .nilIface).run Tryz.prog W = .ok (.bool true) W := by kernel_rfl
theorem aK2 (W : World) : (binOp .eql 20 (.iface 47 (.int .i64 10)) .nilIface).run Tryz.prog W = .ok (.bool false) W := by kernel_rfl
theorem aB8 (p q : Addr) (w : World) : CallsD Tryz.prog 56 #[.pointer (some p), .pointer (some q)] .returning w fun e u' w' => e = .returned (.tuple #[]) ∧ u' = .returning ∧ w' = w := by
 have e1 := eq_nil
 refine callsD_of_wpS Tryz.func56 rfl fun c₀ cs hu => ?_
 apply wpS_seq
 apply wpS_region
 simp [wpOpsS, go_sem, recoverD, hu, Tryz.ntmps56, Exit.thenS, Array.replicate, List.replicate]
 refine wpS_of_wp ?_
 go_wp2
 cases c₀
 simp_all [bodyPostS, results, Tryz.results56]
theorem aB9 {g2 g3 : Nat} {zs : Array Value} {x : Value} (w : World) (h2 : w.heap[g2]? = some (.cells zs 28)) (hz : zs.size = 18) (h3 : w.heap[g3]? = some (.cells #[x] 47)) (hne : g3 ≠ g2) :
  CallsD Tryz.prog 56 #[.pointer (some ⟨g2, 0, none⟩), .pointer (some ⟨g3, 0, none⟩)] (.panicking bX) w fun e u' w' => e = .returned (.tuple #[]) ∧ u' = .panicking [{ v := .iface 47 (.int .i64 10), recovered := true }] ∧ w' = (w.setRow g2 nd0).setCell ⟨g3, 0, none⟩ (.int .i64 10) := by
 have e1 := aIL
 have e2 := aK2
 have RS : Hid ((Instr.storeAt 28 (.pointer (some ⟨g2, 0, none⟩)) (.agg nd0)).run Tryz.prog w = .ok () (w.setRow g2 nd0)) := sto h2 bV hz (iV (aT 0 nb) none 0 0)
 have H3 : (w.setRow g2 nd0).heap[g3]? = some (.cells #[x] 47) := ((aD w g2 nd0).block _ (aW h3) (by intro e; exact hne (Option.some.inj e))).trans h3
 have c3 : (w.setRow g2 nd0).cell? ⟨g3, 0, none⟩ = some x := by rw [cell_of_row _ g3 0 _ 47 (0, 0) H3]; rfl
 have f3 : (w.setRow g2 nd0).frozen? ⟨g3, 0, none⟩ = false := by unfold World.frozen?; rw [H3]; rfl
 unfold bX
 refine callsD_of_wpS Tryz.func56 rfl fun c₀ cs hu => ?_
 apply wpS_seq
 apply wpS_region
 simp [wpOpsS, go_sem, recoverD, hu, Tryz.ntmps56, Exit.thenS, Array.replicate, List.replicate]
 refine wpS_of_wp ?_
 go_wp2_with (refine aB rfl 28 _ _ rfl _ _ _ rfl rfl RS.out ?_)
 cases c₀
 simp_all [bodyPostS, results, Tryz.results56]
theorem nH {fn : Func} {p u : Tmp} (h : fn.results = #[.cell p 28, .cell u 47]) {tmps : Array Value} {w : World} {g2 g3 : Nat} {es : Array Value} {x : Value}
  (hp : tmps.getD p undef = .pointer (some ⟨g2, 0, none⟩)) (hu : tmps.getD u undef = .pointer (some ⟨g3, 0, none⟩)) (h2 : w.heap[g2]? = some (.cells es 28)) (he : es.size = 18) (h3 : w.heap[g3]? = some (.cells #[x] 47)) :
  (results fn tmps).run Tryz.prog w = .ok (.tuple #[.agg es, x]) w := by
 have hp' : tmps[p]?.getD undef = .pointer (some ⟨g2, 0, none⟩) := by simpa using hp
 have hu' : tmps[u]?.getD undef = .pointer (some ⟨g3, 0, none⟩) := by simpa using hu
 have c3 : w.cell? ⟨g3, 0, none⟩ = some x := by rw [cell_of_row _ g3 0 _ 47 (0, 0) h3]; rfl
 have r2 := run_loadVar_row (P := Tryz.prog) w g2 28 28 es (0, 0) _ h2 Tryz.underlying28 rfl (by rw [he]; exact bV)
 have r3 : (loadVar 47 ⟨g3, 0, none⟩).run Tryz.prog w = .ok x w := by
  have h29 := Tryz.underlying47
  simp [go_sem, c3]
 simp [results, h, hp', hu', asAddr, r2, r3]
def PA (w : World) (p : T × Int) (e : Ending) (w' : World) : Prop := ∃ es, e = .returned (.tuple #[.agg es, .int .i64 p.2]) ∧ NT w' es p.1 ∧ zT p.1 ≤ 256 ∧ Below w.heap.size w w'
abbrev wpa (w : World) : World := (w.alloc (.cells nd0 28)).alloc (.cells #[.int .i64 0] 47)
theorem oK {w u : World} (h : Below (wpa w).heap.size (wpa w) u) : u.heap[w.heap.size]? = some (.cells nd0 28) ∧ u.heap[w.heap.size + 1]? = some (.cells #[.int .i64 0] 47) ∧ Below w.heap.size w u := by
 have := new2 h
 exact ⟨this.1, this.2, yF h⟩
theorem aCZ (w : World) : NT w nd0 qE := ⟨none, 0, 0, rfl, rfl, .inl rfl⟩
theorem oL {w : World} {g : Nat} {x y : Value} (h : w.heap[g]? = some (.cells #[x] 47)) : (w.setCell ⟨g, 0, none⟩ y).heap[g]? = some (.cells #[y] 47) := by
 simp [World.setCell, Array.getElem?_modify, h]
theorem vT {A : ByteArray} {c : Int} (hc : (c == 0) = false) (w : World) (L : Calls Tryz.prog 55 #[.string A] (wpa w) fun e w1 => e = .returned (.tuple #[.slice none 0 0, .int .i64 c]) ∧ Below (wpa w).heap.size (wpa w) w1) :
  Calls Tryz.prog 34 #[.string A] w (PA w (qE, c)) := by
 have hcn : (c != 0) = true := by simpa using hc
 have L' : Calls Tryz.prog 55 #[.string A] (wpa w) fun e w1 => e = .returned (.tuple #[.slice none 0 0, .int .i64 c]) ∧ w1.cell? ⟨w.heap.size + 1, 0, none⟩ = some (.int .i64 0) ∧ w1.frozen? ⟨w.heap.size + 1, 0, none⟩ = false ∧ Hid (w1.heap[w.heap.size]? = some (.cells nd0 28) ∧ w1.heap[w.heap.size + 1]? = some (.cells #[.int .i64 0] 47) ∧ Below w.heap.size w w1) := L.mono (by
  rintro e w1 ⟨rfl, h⟩
  have k := oK h
  exact ⟨rfl, by rw [cell_of_row _ _ 0 _ 47 (0, 0) k.2.1]; rfl, by unfold World.frozen?; rw [k.2.1]; rfl, k⟩)
 clear L
 go_enter Tryz.func34, Tryz.ntmps34
 go_wp2_with (go_at_call 55; refine L'.mono ?_; rintro e w1 ⟨rfl, c1, f1, HK⟩)
 obtain ⟨w2, hw2⟩ : ∃ w2, w1.setCell ⟨w.heap.size + 1, 0, none⟩ (.int .i64 c) = w2 := ⟨_, rfl⟩
 rw [hw2]
 have k2 : w2.heap[w.heap.size]? = some (.cells nd0 28) := by rw [← hw2]; exact ((Lib.grownBy_setCell w1 (w.heap.size + 1) 0 (.int .i64 c)).block _ (aW HK.out.1) (by intro e; have := Option.some.inj e; omega)).trans HK.out.1
 have k3 : w2.heap[w.heap.size + 1]? = some (.cells #[.int .i64 c] 47) := by rw [← hw2]; exact oL HK.out.2.1
 have kb : Below w.heap.size w w2 := by rw [← hw2]; exact HK.out.2.2.setCell (by simp) _
 have ld : ∀ u : World, u.heap[w.heap.size + 1]? = some (.cells #[.int .i64 c] 47) → (Instr.loadAt 47 (.pointer (some ⟨w.heap.size + 1, 0, none⟩))).run Tryz.prog u = .ok (.int .i64 c) u := fun u hu => by
  have c3 : u.cell? ⟨w.heap.size + 1, 0, none⟩ = some (.int .i64 c) := by rw [cell_of_row _ _ 0 _ 47 (0, 0) hu]; rfl
  have h29 := Tryz.underlying47
  simp [go_sem, c3]
 have LD : Hid _ := ld
 have RB : ∀ u : World, (Instr.build 28 #[]).run Tryz.prog u = .ok (.agg nd0) u := fun u => by kernel_rfl
 have RS : Hid ((Instr.storeAt 28 (.pointer (some ⟨w.heap.size, 0, none⟩)) (.agg nd0)).run Tryz.prog w2.drew = .ok () (w2.drew.setRow w.heap.size nd0)) := sto (w := w2.drew) k2 bV rfl (iV (aT 0 nb) none 0 0)
 obtain ⟨w3, hw3⟩ : ∃ w3, w2.drew.setRow w.heap.size nd0 = w3 := ⟨_, rfl⟩
 rw [hw3] at RS
 have j2 : w3.heap[w.heap.size]? = some (.cells nd0 28) := by rw [← hw3]; exact setRow_heap w2.drew _ _ _ _ _ k2
 have j3 : w3.heap[w.heap.size + 1]? = some (.cells #[.int .i64 c] 47) := by rw [← hw3]; exact ((aD w2.drew w.heap.size nd0).block _ (aW (u := w2.drew) k3) (by intro e; have := Option.some.inj e; omega)).trans k3
 have jb : Below w.heap.size w w3 := by rw [← hw3]; exact kb.drew.grown (aD _ _ _) kb.size (fun k e => by cases e; exact Nat.le_refl _)
 have RS3 : Hid ((Instr.storeAt 47 (.pointer (some ⟨w.heap.size + 1, 0, none⟩)) (.int .i64 c)).run Tryz.prog w3 = .ok () (w3.setCell ⟨w.heap.size + 1, 0, none⟩ (.int .i64 c))) := by
  have c3 : w3.cell? ⟨w.heap.size + 1, 0, none⟩ = some (.int .i64 c) := by rw [cell_of_row _ _ 0 _ 47 (0, 0) j3]; rfl
  have f3 : w3.frozen? ⟨w.heap.size + 1, 0, none⟩ = false := by unfold World.frozen?; rw [j3]; rfl
  have h29 := Tryz.underlying47
  show _ = _
  simp [go_sem, c3, f3]
 have HE : Hid ((w3.setCell ⟨w.heap.size + 1, 0, none⟩ (.int .i64 c)).heap[w.heap.size]? = some (.cells nd0 28) ∧ (w3.setCell ⟨w.heap.size + 1, 0, none⟩ (.int .i64 c)).heap[w.heap.size + 1]? = some (.cells #[.int .i64 c] 47) ∧ Below w.heap.size w (w3.setCell ⟨w.heap.size + 1, 0, none⟩ (.int .i64 c))) :=
  ⟨((Lib.grownBy_setCell w3 (w.heap.size + 1) 0 (.int .i64 c)).block _ (aW j2) (by intro e; have := Option.some.inj e; omega)).trans j2, oL j3, jb.setCell (by simp) _⟩
 have J3 : Hid _ := LD.out w3 j3
 have K3 : Hid _ := LD.out w2.drew k3
 clear ld c1 f1 k2 k3 kb j2 j3 jb hw2 hw3
 refine aM (fun u => (Instr.loadAt 47 (.pointer (some ⟨w.heap.size + 1, 0, none⟩))).run Tryz.prog u = .ok (.int .i64 c) u) (fun j => j == 3) (by kernel_rfl) ?_
 refine dwp 0 (.agg nd0) ?_ (hy := (by intro u; kernel_rfl))
 refine dwl 1 (.int .i64 c) ?_ (hS := K3.out) (hy := (fun u hSu => aG rfl rfl hSu))
 refine aF (i := 2) (by kernel_rfl) rfl ?_
 intro K hK
 rw [if_pos (by go_simp)]
 refine aH none rfl 28 _ _ rfl _ _ rfl rfl RS.out (hK _ _ (.inr fun _ => J3.out) ?_)
 clear hK
 try simp only [Act.put, List.setIfInBounds_toArray, List.set_cons_zero, List.set_cons_succ]
 refine aF (i := 3) (by kernel_rfl) rfl ?_
 intro K hK
 rw [if_pos (by go_simp)]
 refine aH none rfl 47 _ _ rfl _ _ rfl rfl RS3.out (hK _ _ (.inl rfl) ?_)
 clear hK
 try simp only [Act.put, List.setIfInBounds_toArray, List.set_cons_zero, List.set_cons_succ]
 refine aK (by kernel_rfl) ?_ _
 go_wp2
 refine bodyPost_ret (nH rfl rfl rfl HE.out.1 rfl HE.out.2.1) rfl ⟨nd0, rfl, aCZ _, by show zT qE ≤ 256; decide, HE.out.2.2⟩
theorem yC : ∀ (k : Nat) (l : List UInt8) (L : List Tk.Tok), Tk.kU gnF trB pnF k l = some L → L.length ≤ l.length
 | 0, l, L, h => by cases h
 | k + 1, [], L, h => by cases h; exact Nat.le_refl _
 | k + 1, c :: r, L, h => by
  unfold Tk.kU at h
  split at h
  ·have := yC k r L h; simp; omega
  ·cases ho : Tk.one gnF trB pnF (c :: r) with
   | none => rw [ho] at h; cases h
   | some p =>
    rw [ho] at h
    simp only at h
    have hl := nY (t := p.1) (m := p.2) ho
    cases hk : Tk.kU gnF trB pnF k p.2 with
    | none => rw [hk] at h; cases h
    | some M =>
     rw [hk] at h
     cases h
     have := yC k p.2 M hk
     simp only [List.length_cons] at *
     omega
theorem aKo {l : List UInt8} {L : List Tk.Tok} (h : gZ l = some L) (hl : l.length ≤ 255) : L.length ≤ 255 := Nat.le_trans (yC _ _ _ h) hl
theorem vU {w : World} (T : cZ w) {l : List UInt8} {ts : List Tk.Tok} (hl : l.length ≤ 255) (hx : gZ l = some ts) {w1 : World} {v : Value} (hB : Below (wpa w).heap.size (wpa w) w1) (ho : dK 123 (wpa w).heap.size w1 v (ts.map tk)) :
  ∃ w2, w1.setCell ⟨w.heap.size + 1, 0, none⟩ (.int .i64 0) = w2 ∧ PR w2 w2.heap.size ts (w2.alloc (aFT v)) ∧ Below w.heap.size w w2 ∧ w2.heap[w.heap.size]? = some (.cells nd0 28) ∧ w2.heap[w.heap.size + 1]? = some (.cells #[.int .i64 0] 47) ∧ w.heap.size + 2 ≤ w2.heap.size := by
 obtain ⟨k1, k2, k3⟩ := oK hB
 have hz : w.heap.size + 2 ≤ w1.heap.size := by have := hB.size; simp at this; omega
 have G := Lib.grownBy_setCell w1 (w.heap.size + 1) 0 (.int .i64 0)
 have hb2 : Below w.heap.size w (w1.setCell ⟨w.heap.size + 1, 0, none⟩ (.int .i64 0)) := k3.setCell (by simp) _
 have ho2 : dK 123 (wpa w).heap.size (w1.setCell ⟨w.heap.size + 1, 0, none⟩ (.int .i64 0)) v (ts.map tk) := ho.kept G (by
  cases hv : v.ownBlock with
  | none => exact .inl rfl
  | some g =>
   right
   intro e
   have := (World.ownsRow.lt ho g hv).1
   have := Option.some.inj e
   simp at *
   omega)
 have hz2 : w1.heap.size = (w1.setCell ⟨w.heap.size + 1, 0, none⟩ (.int .i64 0)).heap.size := by simp [World.setCell]
 refine ⟨_, rfl, ⟨T.below hb2, aC (Below.refl _ _) _, Nat.le_refl _, fun t ht => ⟨aJP hx t ht, aJR hl hx t ht⟩, v, heap_alloc_new _ _, TS.of ho2⟩, hb2, ?_, oL k2, by omega⟩
 exact (G.block _ (aW k1) (by intro e; have := Option.some.inj e; omega)).trans k1
theorem aEo {l : List UInt8} {ts : List Tk.Tok} (hl : l.length ≤ 255) (hx : gZ l = some ts) (hts : ts.length ≤ 255) (ha : aDV ts = none) (w : World) (T : cZ w) : Calls Tryz.prog 34 #[.string (ba l)] w (PA w (qE, 10)) := by
 have hmf : ∀ (fn : Fn) (first cap : Array Value) (w : World), (Instr.makeFunc fn first cap).run Tryz.prog w = .ok (.func fn first cap) w := fun _ _ _ _ => rfl
 have L := pR l (wpa w) (T.below (aC (aC (Below.refl _ _) _) _)) hl
 rw [hx] at L
 have L' : Calls Tryz.prog 55 #[.string (ba l)] (wpa w) fun e w1 => ∃ a c n w2, e = .returned (.tuple #[.slice a n c, .int .i64 0]) ∧ w1.cell? ⟨w.heap.size + 1, 0, none⟩ = some (.int .i64 0) ∧ w1.frozen? ⟨w.heap.size + 1, 0, none⟩ = false ∧ w1.setCell ⟨w.heap.size + 1, 0, none⟩ (.int .i64 0) = w2 ∧ w2.cell? ⟨w.heap.size + 1, 0, none⟩ = some (.int .i64 0) ∧
   (Calls Tryz.prog 57 #[.pointer (some ⟨w2.heap.size, 0, none⟩)] (w2.alloc (aFT (.slice a n c))) fun e w4 => e = .panicked bX ∧ Hid (w4.heap[w.heap.size]? = some (.cells nd0 28) ∧ w4.heap[w.heap.size + 1]? = some (.cells #[.int .i64 0] 47) ∧ Below w.heap.size w w4)) := L.mono (by
  rintro e w1 ⟨hB, v, rfl, ho, _⟩
  obtain ⟨w2, e2, X, b2, k2, k3, hz⟩ := vU T hl hx hB ho
  obtain ⟨q1, q2, q3⟩ := oK hB
  obtain ⟨a, c, rfl⟩ := ho.slice
  refine ⟨a, c, _, w2, rfl, by rw [cell_of_row _ _ 0 _ 47 (0, 0) q2]; rfl, by unfold World.frozen?; rw [q2]; rfl, e2, by rw [cell_of_row _ _ 0 _ 47 (0, 0) k3]; rfl, ?_⟩
  have C := vK (by omega) X
  rw [ha] at C
  refine C.mono ?_
  rintro e w4 ⟨rfl, hg⟩
  refine ⟨rfl, (hg.block _ (by simp; omega) (by intro e; have := Option.some.inj e; omega)).trans ((Below.heap_alloc _ _ _ (by omega)).trans k2), (hg.block _ (by simp; omega) (by intro e; have := Option.some.inj e; omega)).trans ((Below.heap_alloc _ _ _ (by omega)).trans k3), ?_⟩
  exact (aC b2 _).grown hg (by simp; omega) (fun k e => by cases e; omega))
 clear L T hx ha
 go_enter_defers Tryz.func34, Tryz.ntmps34
 go_wp2_with (first
  | (go_at_call 55; refine L'.mono ?_; rintro e w1 ⟨a, c, n, w2, rfl, c1, f1, e2, c2, C⟩)
  | (go_at_call 57; refine C.mono ?_; rintro e w4 ⟨rfl, HK⟩))
 refine leaves_cons (f := 56) (args := #[.pointer (some ⟨w.heap.size, 0, none⟩), .pointer (some ⟨w.heap.size + 1, 0, none⟩)]) (by simp) (by simp [go_sem]) ?_
 refine (aB9 _ HK.out.1 rfl HK.out.2.1 (by omega)).mono ?_
 rintro e u' w'' ⟨rfl, rfl, rfl⟩
 have G := aD w4 w.heap.size nd0
 have h3 : (w4.setRow w.heap.size nd0).heap[w.heap.size + 1]? = some (.cells #[.int .i64 0] 47) := (G.block _ (aW HK.out.2.1) (by intro e; have := Option.some.inj e; omega)).trans HK.out.2.1
 have h2 : (w4.setRow w.heap.size nd0).heap[w.heap.size]? = some (.cells nd0 28) := setRow_heap _ _ _ _ _ _ HK.out.1
 have h2' := ((Lib.grownBy_setCell (w4.setRow w.heap.size nd0) (w.heap.size + 1) 0 (.int .i64 10)).block _ (aW h2) (by intro e; have := Option.some.inj e; omega)).trans h2
 have hb : Below w.heap.size w (w4.setRow w.heap.size nd0) := HK.out.2.2.grown G HK.out.2.2.size (fun k e => by cases e; exact Nat.le_refl _)
 exact ⟨_, nH rfl rfl rfl h2' rfl (oL h3), nd0, rfl, aCZ _, by show zT qE ≤ 256; decide, hb.setCell (by simp) _⟩
theorem aCa {l : List UInt8} {ts : List Tk.Tok} {t : T} (hl : l.length ≤ 255) (hx : gZ l = some ts) (hts : ts.length ≤ 255) (ha : aDV ts = some t) (w : World) (T : cZ w) : Calls Tryz.prog 34 #[.string (ba l)] w (PA w (t, 0)) := by
 have hmf : ∀ (fn : Fn) (first cap : Array Value) (w : World), (Instr.makeFunc fn first cap).run Tryz.prog w = .ok (.func fn first cap) w := fun _ _ _ _ => rfl
 have L := pR l (wpa w) (T.below (aC (aC (Below.refl _ _) _) _)) hl
 rw [hx] at L
 have L' : Calls Tryz.prog 55 #[.string (ba l)] (wpa w) fun e w1 => ∃ a c n w2, e = .returned (.tuple #[.slice a n c, .int .i64 0]) ∧ w1.cell? ⟨w.heap.size + 1, 0, none⟩ = some (.int .i64 0) ∧ w1.frozen? ⟨w.heap.size + 1, 0, none⟩ = false ∧ w1.setCell ⟨w.heap.size + 1, 0, none⟩ (.int .i64 0) = w2 ∧ w2.cell? ⟨w.heap.size + 1, 0, none⟩ = some (.int .i64 0) ∧
   (Calls Tryz.prog 57 #[.pointer (some ⟨w2.heap.size, 0, none⟩)] (w2.alloc (aFT (.slice a n c))) fun e w4 => ∃ es, e = .returned (.agg es) ∧ Hid ((Instr.storeAt 28 (.pointer (some ⟨w.heap.size, 0, none⟩)) (.agg es)).run Tryz.prog w4 = .ok () (w4.setRow w.heap.size es)) ∧ (w4.setRow w.heap.size es).cell? ⟨w.heap.size + 1, 0, none⟩ = some (.int .i64 0) ∧ (w4.setRow w.heap.size es).frozen? ⟨w.heap.size + 1, 0, none⟩ = false ∧
    Hid (((w4.setRow w.heap.size es).setCell ⟨w.heap.size + 1, 0, none⟩ (.int .i64 0)).heap[w.heap.size]? = some (.cells es 28) ∧ ((w4.setRow w.heap.size es).setCell ⟨w.heap.size + 1, 0, none⟩ (.int .i64 0)).heap[w.heap.size + 1]? = some (.cells #[.int .i64 0] 47) ∧ Below w.heap.size w ((w4.setRow w.heap.size es).setCell ⟨w.heap.size + 1, 0, none⟩ (.int .i64 0)) ∧
     NT ((w4.setRow w.heap.size es).setCell ⟨w.heap.size + 1, 0, none⟩ (.int .i64 0)) es t ∧ zT t ≤ 256 ∧ es.size = 18)) := L.mono (by
  rintro e w1 ⟨hB, v, rfl, ho, _⟩
  obtain ⟨w2, e2, X, b2, k2, k3, hz⟩ := vU T hl hx hB ho
  obtain ⟨q1, q2, q3⟩ := oK hB
  obtain ⟨a, c, rfl⟩ := ho.slice
  refine ⟨a, c, _, w2, rfl, by rw [cell_of_row _ _ 0 _ 47 (0, 0) q2]; rfl, by unfold World.frozen?; rw [q2]; rfl, e2, by rw [cell_of_row _ _ 0 _ 47 (0, 0) k3]; rfl, ?_⟩
  have C := vK (by omega) X
  rw [ha] at C
  refine C.mono ?_
  rintro e w4 ⟨es, rfl, hN, hg, hzt⟩
  have m2 : w4.heap[w.heap.size]? = some (.cells nd0 28) := (hg.block _ (by simp; omega) (by intro e; have := Option.some.inj e; omega)).trans ((Below.heap_alloc _ _ _ (by omega)).trans k2)
  have m3 : w4.heap[w.heap.size + 1]? = some (.cells #[.int .i64 0] 47) := (hg.block _ (by simp; omega) (by intro e; have := Option.some.inj e; omega)).trans ((Below.heap_alloc _ _ _ (by omega)).trans k3)
  have mb : Below w.heap.size w w4 := (aC b2 _).grown hg (by simp; omega) (fun k e => by cases e; omega)
  have G := aD w4 w.heap.size es
  have h3 : (w4.setRow w.heap.size es).heap[w.heap.size + 1]? = some (.cells #[.int .i64 0] 47) := (G.block _ (aW m3) (by intro e; have := Option.some.inj e; omega)).trans m3
  have h2 : (w4.setRow w.heap.size es).heap[w.heap.size]? = some (.cells es 28) := setRow_heap _ _ _ _ _ _ m2
  have G2 := Lib.grownBy_setCell (w4.setRow w.heap.size es) (w.heap.size + 1) 0 (.int .i64 0)
  have h2' := (G2.block _ (aW h2) (by intro e; have := Option.some.inj e; omega)).trans h2
  have hb : Below w.heap.size w (w4.setRow w.heap.size es) := mb.grown G mb.size (fun k e => by cases e; exact Nat.le_refl _)
  have hn1 : NK (fun i => w.heap.size + 2 ≤ i) w4 es t := hN.mono (fun i hi _ => by simp at hi; omega)
  refine ⟨es, rfl, hN.sto m2 rfl, by rw [cell_of_row _ _ 0 _ 47 (0, 0) h3]; rfl, by unfold World.frozen?; rw [h3]; rfl, h2', oL h3, hb.setCell (by simp) _, ?_, hzt, hN.size⟩
  exact ((hn1.grown G (fun g e hk => by cases e; omega)).grown G2 (fun g e hk => by cases e; omega)).nt)
 clear L T hx ha
 go_enter_defers Tryz.func34, Tryz.ntmps34
 go_wp2_with (first
  | (go_at_call 55; refine L'.mono ?_; rintro e w1 ⟨a, c, n, w2, rfl, c1, f1, e2, c2, C⟩)
  | (go_at_call 57; refine C.mono ?_; rintro e w4 ⟨es, rfl, RS, c4, f4, HK⟩)
  | (refine aB rfl 28 _ _ rfl _ _ _ rfl rfl RS.out ?_))
 refine leaves_cons (f := 56) (args := #[.pointer (some ⟨w.heap.size, 0, none⟩), .pointer (some ⟨w.heap.size + 1, 0, none⟩)]) (by simp) (by simp [go_sem]) ?_
 refine (aB8 _ _ _).mono ?_
 rintro e u' w'' ⟨rfl, rfl, rfl⟩
 exact ⟨_, nH rfl rfl rfl HK.out.1 HK.out.2.2.2.2.2 HK.out.2.1, es, rfl, HK.out.2.2.2.1, HK.out.2.2.2.2.1, HK.out.2.2.1⟩
theorem tV (l : List UInt8) (w : World) (T : cZ w) : Calls Tryz.prog 34 #[.string (ba l)] w (PA w (uO l)) := by
 have TW : cZ (wpa w) := T.below (aC (aC (Below.refl _ _) _) _)
 unfold uO
 by_cases h : 255 < l.length
 ·rw [if_pos h]
  exact vT (by decide) w ((aGU l (wpa w) h).mono (by rintro e w1 ⟨rfl, rfl⟩; exact ⟨rfl, Below.refl _ _⟩))
 ·rw [if_neg h]
  have L := pR l (wpa w) TW (by omega)
  cases hx : gZ l with
  | none =>
   rw [hx] at L
   exact vT (by decide) w (L.mono (by rintro e w1 ⟨h1, rfl⟩; exact ⟨rfl, h1⟩))
  | some ts =>
   have hts : ts.length ≤ 255 := aKo hx (by omega)
   cases ha : aDV ts with
   | none => simp only [ha]; exact aEo (by omega) hx hts ha w T
   | some t => simp only [ha]; exact aCa (by omega) hx hts ha w T
def zB (a : Lab) : Bool := decide (a.s.size ≤ 9) && decide (a.b1.size ≤ 9) && decide (a.h1.size ≤ 9) && decide (a.b2.size ≤ 9) && decide (a.h2.size ≤ 9)
theorem aK3 {a : Lab} (h : zB a = true) : jW a := by
 simp only [zB, Bool.and_eq_true, decide_eq_true_eq] at h
 exact ⟨by omega, by omega, by omega, by omega, by omega⟩
end Go.Proofs.YtljmklbbngpllaaGreatDoor
