/- RDepth, PrW0, PrW1, PrW2. -/
import Derived.Test.YtnibldnfbikipaaGreatDoorRPrintFp
set_option linter.unusedVariables false
set_option linter.unusedSimpArgs false
set_option maxHeartbeats 16000000
set_option maxRecDepth 100000
namespace Go.Proofs.YtnibldnfbikipaaGreatDoor
open Go.RowKit Go.Fm
theorem rdepth_any : ∀ t : T, zT t ≤ 1000000 → ∀ (w : World) (es : Array Value), NT w es t → Calls Tryz.prog 45 #[.agg es] w fun e w' => e = .returned (.int .i64 (dT t : Nat)) ∧ Below w.heap.size w w' := by
 refine ind ?_
 intro t ih hz w es h
 obtain ⟨p, n, c, rfl, hs⟩ := h
 have HK : Hid (∀ s ∈ kids t.2, ∀ (w : World) (es : Array Value), NT w es s → Calls Tryz.prog 45 #[.agg es] w fun e w' => e = .returned (.int .i64 (dT s : Nat)) ∧ Below w.heap.size w w') := fun s hs => ih s hs (by have := zT_kid hs; omega)
 have HD : Hid (∀ s ∈ kids t.2, dT s ≤ 1000000) := fun s hs => by have := dT_le s; have := zT_kid hs; omega
 clear ih
 have hd1 : dT t ≤ 1000000 := by have := dT_le t; omega
 have hdd : dT t = depth t.2 + 1 := rfl
 have h17 := cell17 (u := w.alloc (.cells (lcs t.1 (.slice p n c)) 67)) (heap_alloc_new w _)
 have HB0 : Hid (Below w.heap.size w (w.alloc (.cells (lcs t.1 (.slice p n c)) 67))) := bel_alloc (Below.refl _ _) _
 have HS : Hid (SF w p n t.2) := hs
 have hn : n ≤ 1000000 := by
  have e := hs.1
  have : (kids t.2).length ≤ size t.2 := by
   rw [← pre_len, pre_kids]
   have : ∀ l : List T, l.length ≤ (l.flatMap preT).length := by
    intro l
    induction l with
    | nil => exact Nat.zero_le _
    | cons a l ih => rw [List.flatMap_cons, List.length_append, List.length_cons, preT, List.length_cons]; omega
   exact this _
  unfold zT at hz
  omega
 have HN : Hid (n = (kids t.2).length) := hs.1
 clear hs hz
 generalize lcs t.1 (.slice p n c) = bx at *
 go_enter Tryz.func45, Tryz.ntmps45
 go_wp2
 go_loopw [3, 10] (fun d i wr => ∃ k : Nat, k ≤ n ∧ i = .int .i64 (k : Nat) ∧ d = .int .i64 (dpK t.2 k : Nat) ∧ Hid (Below w.heap.size w wr)) (fun _ i _ => n - (intOf i).toNat)
 case atStart => exact ⟨0, Nat.zero_le _, rfl, rfl, HB0⟩
 case round =>
  obtain ⟨k, hk, rfl, rfl, HB⟩ := hrel
  have hle := dpK_le t.2 k
  by_cases hlt : k < n
  ·have hki : (k : Int) < n := by omega
   obtain ⟨a', es, s, rfl, RL, HI, RS, RL2, HNT, HM⟩ := HS.out.step HB.out hlt
   have C := HK.out s HM.out _ _ HNT.out
   have HDP : Hid (dpK t.2 (k + 1) = max (dpK t.2 k) (dT s)) := dpK_succ HI.out
   have hds := HD.out s HM.out
   generalize dpK t.2 k = D0 at *
   generalize dT s = E at *
   by_cases hgt : D0 < E
   ·have hgi : (D0 : Int) < (E : Int) := by omega
    have HX : Hid (dpK t.2 (k + 1) = E) := by show _ = _; rw [HDP.out]; omega
    go_wp2_with (first
     | (refine wpList_load_run rfl 67 _ rfl _ _ rfl RL.out ?_; clear RL)
     | (refine wpList_store_run rfl 67 _ _ rfl _ _ _ rfl rfl RS.out ?_; clear RS)
     | (refine wpList_load_run rfl 67 _ rfl _ _ rfl RL2.out ?_; clear RL2)
     | (go_at_call 45; refine C.mono ?_; rintro e w2 ⟨rfl, hs⟩; have HU2 : Hid (Below w.heap.size w w2) := bel_step (bel_alloc HB.out _) hs; clear hs))
    go_roundw
    case rel => exact ⟨k + 1, by omega, by go_num, by rw [HX.out], HU2⟩
    case measure => simp [intOf]; omega
   ·have hgi : ¬ (D0 : Int) < (E : Int) := by omega
    have HX : Hid (dpK t.2 (k + 1) = D0) := by show _ = _; rw [HDP.out]; omega
    go_wp2_with (first
     | (refine wpList_load_run rfl 67 _ rfl _ _ rfl RL.out ?_; clear RL)
     | (refine wpList_store_run rfl 67 _ _ rfl _ _ _ rfl rfl RS.out ?_; clear RS)
     | (refine wpList_load_run rfl 67 _ rfl _ _ rfl RL2.out ?_; clear RL2)
     | (go_at_call 45; refine C.mono ?_; rintro e w2 ⟨rfl, hs⟩; have HU2 : Hid (Below w.heap.size w w2) := bel_step (bel_alloc HB.out _) hs; clear hs))
    go_roundw
    case rel => exact ⟨k + 1, by omega, by go_num, by rw [HX.out], HU2⟩
    case measure => simp [intOf]; omega
  ·have hki : ¬ (k : Int) < n := by omega
   have HE : Hid (dpK t.2 k = depth t.2) := dpK_all _ (by have := HN.out; omega)
   go_wp2
   go_ret
   exact ⟨by rw [HE.out]; rfl, HB.out⟩
end Go.Proofs.YtnibldnfbikipaaGreatDoor
namespace Go.Proofs.YtnibldnfbikipaaGreatDoor
open Go.RowKit Go.Shelf Go.Fm
attribute [local go_sem] Oper.semAt_some
structure PY (w : World) (es : Array Value) (t : T) (b3 g cq Bk : Nat) (es' : Array Value) (L : List (Array Value × T)) (m : Nat) (u : World) : Prop where
 b : u.heap[w.heap.size]? = some (.cells es 67)
 r : u.heap[w.heap.size + 1]? = some (.cells #[.bool false] 4)
 l3 : u.heap[b3]? = some (.cells #[.slice (some ⟨g, 0, none⟩) (zT t) cq] 65)
 row : RowC u g L
 nk : ∀ x ∈ L, NK (fun i => i < m) u x.1 x.2
 k : u.heap[Bk]? = some (.cells es' 67)
 kn : NK (fun i => i < m) u es' t
 lt : w.heap.size + 1 < m ∧ b3 < m ∧ g < m ∧ Bk < m ∧ m ≤ u.heap.size
 bel : Below w.heap.size w u
theorem PY.below {w : World} {es : Array Value} {t : T} {b3 g cq Bk : Nat} {es' : Array Value} {L : List (Array Value × T)} {m : Nat} {u u' : World} (h : PY w es t b3 g cq Bk es' L m u) (hb : Below u.heap.size u u') : PY w es t b3 g cq Bk es' L m u' :=
 ⟨(hb.block _ (lt_of h.b)).trans h.b, (hb.block _ (lt_of h.r)).trans h.r, (hb.block _ (lt_of h.l3)).trans h.l3, h.row.grown (grown_below (row := none) hb) (by simp), fun x hx => (h.nk x hx).below hb, (hb.block _ (lt_of h.k)).trans h.k, h.kn.below hb, ⟨h.lt.1, h.lt.2.1, h.lt.2.2.1, h.lt.2.2.2.1, Nat.le_trans h.lt.2.2.2.2 hb.size⟩, bel_step h.bel hb⟩
theorem ld3 {u : World} {b : Nat} {v : Value} (h : u.heap[b]? = some (.cells #[v] 65)) : (Instr.loadAt 65 (.pointer (some ⟨b, 0, none⟩))).run Tryz.prog u = .ok v u := by
 have hc : u.cell? ⟨b, 0, none⟩ = some v := by rw [cell_of_row u b 0 #[v] 65 (0, 0) h]; rfl
 go_simp
 try simp [hc]
theorem res4 {u : World} {g : Nat} {v : Value} {fn : Func} {i : Tmp} (hr : fn.results = #[.cell i 4]) {tmps : Array Value} (hp : tmps.getD i undef = .pointer (some ⟨g, 0, none⟩)) (hc : u.cell? ⟨g, 0, none⟩ = some v) : (results fn tmps).run Tryz.prog u = .ok v u := by
 simp only [results, hr]
 have h2 : (loadVar 4 ⟨g, 0, none⟩).run Tryz.prog u = .ok v u := by
  go_simp
  try simp [hc]
 have hp' : tmps[i]?.getD undef = .pointer (some ⟨g, 0, none⟩) := by simpa using hp
 simp [asAddr, hp', h2]
theorem wp_norm {P : Program} {c : Code} {Q : Exit → Act → World → Prop} {a : Act} {w : World} (h : c.wp P (fun e a u => e = .normal ∧ Q e a u) a w) : c.wp P Q a w := wp_mono h (fun _ _ _ h => h.2)
theorem nil46 {b : Nat} (u : World) : (binOp .eql 71 (.func (.func 84) #[] #[.pointer (some ⟨b, 0, none⟩)]) .nilFunc).run Tryz.prog u = .ok (.bool false) u := by
 kernel_rfl
section
variable {t : T} {w : World} {es : Array Value}
theorem prints_big (hb : 400 ≤ zT t) (h : NT w es t) (T : Tab9 w) : Calls Tryz.prog 7 #[.agg es] w fun e w' => e = .returned (.bool true) ∧ Below w.heap.size w w' := by
 have HB0 : Hid (Below w.heap.size w ((w.alloc (.cells es 67)).alloc (.cells #[.bool false] 4))) := bel_alloc (bel_alloc (Below.refl _ _) _) _
 have RL : Hid _ := (nbox_at h).2 ((Below.heap_alloc (w.alloc (.cells es 67)) (.cells #[.bool false] 4) _ (by simp)).trans (heap_alloc_new w (.cells es 67)))
 have B := big_any (h.below HB0.out) (b := 400) (by omega) (by omega)
 rw [decide_eq_true hb] at B
 have HR0 : Hid (((w.alloc (.cells es 67)).alloc (.cells #[.bool false] 4)).heap[w.heap.size + 1]? = some (.cells #[.bool false] 4)) := by
  have := heap_alloc_new (w.alloc (.cells es 67)) (.cells #[.bool false] 4)
  show _ = _
  simpa using this
 have C : Calls Tryz.prog 36 #[.agg es, .int .i64 400] ((w.alloc (.cells es 67)).alloc (.cells #[.bool false] 4)) fun e u => e = .returned (.bool true) ∧ Hid (Calls Tryz.prog 37 #[] u fun e v => e = .returned (.bool true) ∧ v.cell? ⟨w.heap.size + 1, 0, none⟩ = some (.bool false) ∧ v.frozen? ⟨w.heap.size + 1, 0, none⟩ = false ∧ Hid (Below w.heap.size w v)) := B.mono (by
  rintro e u ⟨rfl, hu⟩
  refine ⟨rfl, (lives_any u (T.below (bel_step HB0.out hu))).mono ?_⟩
  rintro e v ⟨rfl, hv⟩
  have hh : v.heap[w.heap.size + 1]? = some (.cells #[.bool false] 4) := (hv.block _ (Nat.lt_of_lt_of_le (lt_of HR0.out) hu.size)).trans ((hu.block _ (lt_of HR0.out)).trans HR0.out)
  refine ⟨rfl, ?_, ?_, bel_step (bel_step HB0.out hu) hv⟩
  ·rw [cell_of_row v _ 0 _ 4 (0, 0) hh]; rfl
  ·unfold World.frozen?; rw [hh]; rfl)
 clear B h T hb HR0 HB0
 go_enter Tryz.func7, Tryz.ntmps7
 go_wp2_with (first
  | (refine wpList_load_run rfl 67 _ rfl _ _ rfl RL.out ?_; clear RL)
  | (go_at_call 36; refine C.mono ?_; rintro e w1 ⟨rfl, LV⟩; clear C)
  | (go_at_call 37; refine LV.out.mono ?_; rintro e w2 ⟨rfl, c2, f2, HB⟩; clear LV))
 exact bodyPost_ret (res4 (g := w.heap.size + 1) rfl rfl (World.cell?_setCell_same' _ _ _ (by rw [c2]; rfl))) rfl ⟨rfl, HB.out.setCell (p := ⟨w.heap.size + 1, 0, none⟩) (by simp) _⟩
theorem list_row {base : Nat} {u : World} {v : Value} {L : List (Array Value × T)} (hO : OwnN base u v L) (h1 : 1 ≤ L.length) (h18 : ∀ x ∈ L, x.1.size = 18) : ∃ g cq, v = .slice (some ⟨g, 0, none⟩) L.length cq ∧ g < u.heap.size ∧ RowC u g L := by
 rcases hO.2 with ⟨e, h⟩ | ⟨g, cap, cur, e, hg, hh, hle, hm, hc, ht⟩
 ·exfalso
  have := hO.1
  simp_all
 ·subst e
  exact ⟨g, _, rfl, lt_of hh, RowC.of hO h18⟩
end
structure WR (g n : Nat) (V U : World) : Prop where
 size : V.heap.size ≤ U.heap.size
 other : ∀ i, i ≠ g → i < V.heap.size → U.heap[i]? = V.heap[i]?
 row : ∃ L : List (Array Value × T), L.length = n ∧ RowC U g L ∧ (∀ x ∈ L, x.1.size = 18) ∧ (∀ o, U.frozen? ⟨g, o, none⟩ = false)
theorem WR.begin {g n : Nat} {V : World} {L : List (Array Value × T)} (h1 : L.length = n) (h2 : RowC V g L) (h3 : ∀ x ∈ L, x.1.size = 18) (h4 : ∀ o, V.frozen? ⟨g, o, none⟩ = false) : WR g n V V := ⟨Nat.le_refl _, fun _ _ _ => rfl, L, h1, h2, h3, h4⟩
theorem WR.step {g n k : Nat} {V U : World} (h : WR g n V U) (hk : k < n) {es : Array Value} (he : NA' es) : (Instr.storeAt 67 (.pointer (some ⟨g, k * 18, none⟩)) (.agg es)).run Tryz.prog U = .ok () (U.setCells g (k * 18) es.toList) ∧ WR g n V (U.setCells g (k * 18) es.toList) := by
 obtain ⟨h0, h1, L, h2, h3, h4, h5⟩ := h
 have hG : U.grownBy (U.setCells g (k * 18) es.toList) (some g) := grown_setCells g _ _ _
 refine ⟨h3.store h4 (by omega) h5 he, Nat.le_trans h0 hG.size, fun i hi hl => (hG.block i (by omega) (by simp [hi])).trans (h1 i hi hl), L.set k (es, (L[k]'(by omega)).2), by simp [h2], h3.set h4 (by omega) es _ he.1, fun x hx => ?_, fun o => by rw [World.frozen?_setCells]; exact h5 o⟩
 rcases List.mem_or_eq_of_mem_set hx with hx | rfl
 ·exact h4 x hx
 ·exact he.1
end Go.Proofs.YtnibldnfbikipaaGreatDoor
namespace Go.Proofs.YtnibldnfbikipaaGreatDoor
open Go.RowKit Go.Shelf Go.Fm
structure PI (w w1 : World) (B : Nat) (q : List Ex) (V : World) : Prop where
 i : V.heap[B]? = some (.cells #[.int .i64 (q.length : Nat)] 3)
 kc : KC B w1 V
 kf : KeepsFrom 0 w1 V
 bel : Below w.heap.size w V
theorem cells_own {β : Type} {b B : Nat} {f : β → Obj} (hf : ∀ s, (f s).isCells = true) : OwnFrom b (fun s V => V.heap[B]? = some (f s)) := fun s X Y row hs hg hr => (hg.block B (lt_of hs) (fun e => by
 obtain ⟨_, o, ho, hc⟩ := hr B e.symm
 rw [show X.heap[B]? = _ from hs] at ho
 cases ho
 rw [hf s] at hc
 cases hc)).trans hs
theorem PI.own {w w1 : World} {B : Nat} (h : w.heap.size ≤ w1.heap.size) : OwnFrom w1.heap.size (PI w w1 B) := fun q X Y row hs hg hr =>
 ⟨cells_own (β := List Ex) (f := fun q => .cells #[.int .i64 (q.length : Nat)] 3) (fun _ => rfl) q X Y row hs.i hg hr, kc_own (β := Unit) () X Y row hs.kc hg hr, ownFrom_keepsFrom (β := Unit) (Nat.le_refl _) () X Y row hs.kf hg hr, ownFrom_below (β := Unit) (Nat.le_refl _) h () X Y row hs.bel hg hr⟩
def PX' (w w1 : World) (B : Nat) (t : T) (first : Bool) (id : Nat) (c : Code) (q : List Ex) (V : World) : Prop :=
 (c = .exit id ∧ first = true ∧ q.length = 2 ∧ PI w w1 B q V) ∨ (c = .ret ∧ ¬ (q.map (·.2.1) <+: preT t))
theorem PX'.own {w w1 : World} {B : Nat} {t : T} {first : Bool} {id : Nat} (h : w.heap.size ≤ w1.heap.size) (c : Code) : OwnFrom w1.heap.size (PX' w w1 B t first id c) := fun q X Y row hs hg hr =>
 hs.imp (fun ⟨a, b, d, e⟩ => ⟨a, b, d, PI.own h q X Y row e hg hr⟩) (fun h => h)
theorem sT_refl (t : T) : sT t t = true := by unfold sT; rw [labB_refl, sF_refl]; rfl
theorem not_pre {t : T} {L : List (Array Value × T)} (hL : L.map (·.2) = preT t) {q : List Ex} {x : Ex} {y : Array Value × T} (hy : L[q.length]? = some y) (hs : sT x.2.1 y.2 = false) : ¬ ((q ++ [x]).map (·.2.1) <+: preT t) := fun hp => by
 have h1 : (preT t)[q.length]? = some x.2.1 := by
  obtain ⟨r, hr⟩ := hp
  rw [← hr, List.getElem?_append_left (by simp), List.getElem?_map, List.getElem?_append_right (Nat.le_refl _)]
  simp
 rw [← hL, List.getElem?_map, hy] at h1
 have h2 : y.2 = x.2.1 := by simpa using h1
 rw [h2, sT_refl] at hs
 cases hs
theorem TopR.apart {m : Nat} {V : World} {es : Array Value} {t : T} (h : TopR m V es t) {b : Nat} (hb : V.heap.size ≤ b) : ∀ g n c, es[17]? = some (.slice (some ⟨g, 0, none⟩) n c) → n = 0 ∨ g ≠ b := by
 obtain ⟨q, n', c', e, hn, h⟩ := h
 intro g n c h17
 have h2 : es[17]? = some (.slice q n' c') := by rw [e]; rfl
 rw [h2] at h17
 cases h17
 rcases h with h | ⟨g', L, e1, h1, h2, ⟨o, ho, hc⟩, _⟩
 ·exact .inl h
 ·cases e1
  right
  have := lt_of ho
  omega
theorem KU.below {B n1 : Nat} {U V : World} (h : Below U.heap.size U V) : KU B n1 U V := ⟨h.size, fun i o hi _ _ _ => (h.block i (lt_of hi)).trans hi⟩
theorem ExR.below {m : Nat} {t : T} {x : Ex} {U V : World} (h : ExR m t x U) (hb : Below U.heap.size U V) : ExR m t x V :=
 ⟨h.1, h.2.1, h.2.2.1.below hb, h.2.2.2.grown (grown_below (row := none) hb) (fun r e => by cases e)⟩
theorem wpIn_norm {F : Fence} {n : Nat} {P : Program} {c : Code} {Q : Exit → Act → World → Prop} {a : Act} {w : World} (h : c.wpIn F n P (fun e a u => e = .normal ∧ Q e a u) a w) : c.wpIn F n P Q a w := wpIn_mono h (fun _ _ _ h => h.2)
theorem no_out {Q : Exit → Act → World → Prop} : ¬ LetsOut (fun e a u => e = Exit.normal ∧ Q e a u) := fun ⟨_, _, h, _⟩ => by cases h
theorem ld1 {u : World} {b : Nat} {v : Value} (h : u.heap[b]? = some (.cells #[v] 3)) : (Instr.loadAt 3 (.pointer (some ⟨b, 0, none⟩))).run Tryz.prog u = .ok v u := by
 have hc : u.cell? ⟨b, 0, none⟩ = some v := by rw [cell_of_row u b 0 #[v] 3 (0, 0) h]; rfl
 go_simp
 try simp [hc]
structure RXr (w w1 : World) (B b b3 g cq n : Nat) (t : T) (L : List (Array Value × T)) (q : List Ex) (x : Ex) (u : World) : Prop where
 pi : PI w w1 B q u
 b : u.heap[b]? = some (.cells x.1 67)
 l3 : u.heap[b3]? = some (.cells #[.slice (some ⟨g, 0, none⟩) n cq] 65)
 row : RowC u g L
 ex : ExR w1.heap.size t x u
theorem RXr.below {w w1 : World} {B b b3 g cq n : Nat} {t : T} {L : List (Array Value × T)} {q : List Ex} {x : Ex} {u u' : World} (h : RXr w w1 B b b3 g cq n t L q x u) (hw : w.heap.size ≤ w1.heap.size) (hb : Below u.heap.size u u') : RXr w w1 B b b3 g cq n t L q x u' :=
 ⟨own_below (PI.own hw) h.pi hb, (hb.block _ (lt_of h.b)).trans h.b, (hb.block _ (lt_of h.l3)).trans h.l3, h.row.grown (grown_below (row := none) hb) (by simp), h.ex.below hb⟩
theorem RowC.kc {w1 V : World} {B g : Nat} {L : List (Array Value × T)} (h : RowC w1 g L) (k : KC B w1 V) (hg : g ≠ B) : RowC V g L := fun i x hi j v hj => k.cell (h i x hi j v hj) hg
theorem wpListIn_build_run {F : Fence} {n : Nat} {P : Program} {ops : Array Oper} {rest : List Oper} {o : Oper} {a : Act} {w : World} {Q : Exit → Act → World → Prop} (hgd : o.guard = none) (ty : TypeId) (xs : Array (Nat × Operand)) (ho : o.op = .build ty xs)
  (ps : Array (Nat × Value)) (v : Value) (hx : (xs.map fun (i, x) => (i, a.eval x)) = ps) (hrun : (Instr.build ty ps).run P w = .ok v w) (h : wpListIn F n P ops Q rest (a.put o.dst v) w) : wpListIn F n P ops Q (o :: rest) a w := by
 refine wpListIn_plain hgd fun K hK => ?_
 unfold Oper.wpIn
 refine ⟨by simp [Oper.about, ho], ?_⟩
 rw [Oper.semAt_plain F _ _ (by rw [ho]; intro c hc; cases hc)]
 simp only [execOp, ho, hx, Sem.run_bind, Sem.run_pure, hrun, Result.andThen_ok]
 exact hK _ _ h
def nd3 : Array Value := lcs (lab0 (-3) ⟨#[]⟩) (.slice none 0 0)
theorem build_nd (w : World) : (Instr.build 67 #[(0, .int .i64 (-3))]).run Tryz.prog w = .ok (.agg nd3) w := by kernel_rfl
theorem nd3_na : NA' nd3 := ⟨rfl, by kernel_rfl⟩
theorem TopR.cu {m : Nat} {V : World} {es : Array Value} {t : T} (h : TopR m V es t) {b : Nat} (hb : ∀ g n c, es[17]? = some (.slice (some ⟨g, 0, none⟩) n c) → n = 0 ∨ g ≠ b) (hbl : b < V.heap.size) : ∃ q n c g, es = lcs t.1 (.slice q n c) ∧ (0 < n → q = some ⟨g, 0, none⟩) ∧ m ≤ g ∧ g ≠ b ∧ n = (kids t.2).length ∧ WR g n V V ∧ ∀ o, V.heap[g]? = some o → o.isCells = true := by
 obtain ⟨q, n, c, e, hn, h⟩ := h
 have h2 : es[17]? = some (.slice q n c) := by rw [e]; rfl
 by_cases h0 : n = 0
 ·subst h0
  refine ⟨q, 0, c, max m V.heap.size, e, fun h => absurd h (by omega), by omega, by omega, hn, WR.begin (L := []) rfl (fun k x hk => by simp at hk) (fun x hx => by cases hx) (fun o => ?_), fun o ho => ?_⟩
  ·unfold World.frozen?
   rw [Array.getElem?_eq_none (by show _ ≤ max m V.heap.size; omega)]
  ·rw [Array.getElem?_eq_none (by omega)] at ho; cases ho
 ·rcases h with h | ⟨g', L, rfl, h1, h3, ⟨o, ho, hc⟩, h4, h5, h6⟩
  ·exact absurd h h0
  ·exact ⟨_, n, c, g', e, fun _ => rfl, h3, (hb g' n c h2).resolve_left h0, hn, WR.begin h1 h4 h5 h6, fun o' ho' => by rw [ho] at ho'; cases ho'; exact hc⟩
abbrev nxtI (q : List Ex) : Value := .int .i64 ((q.length : Int) + 1)
theorem round_left {w w1 V V1 U : World} {B gg : Nat} {q : List Ex} {x : Ex} (hpi : PI w w1 B q V1) (hkk : KeepsFrom w1.heap.size V V1) (hbV : Below V.heap.size V V1) (hG : V1.grownBy U (some gg)) (hcu : ∀ o, V1.heap[gg]? = some o → o.isCells = true)
  (hm : w1.heap.size ≤ x.2.2) (hgm : x.2.2 ≤ gg) (hB : B < w1.heap.size) (hw : w.heap.size ≤ B) :
  KeepsFrom w1.heap.size V (U.setCell ⟨B, 0, none⟩ (nxtI q)) ∧ KU B x.2.2 V (U.setCell ⟨B, 0, none⟩ (nxtI q)) ∧ PI w w1 B (q ++ [x]) (U.setCell ⟨B, 0, none⟩ (nxtI q)) := by
 have hs : (U.setCell ⟨B, 0, none⟩ (nxtI q)).heap.size = U.heap.size := by simp [World.setCell]
 have hset : ∀ i, i ≠ B → (U.setCell ⟨B, 0, none⟩ (nxtI q)).heap[i]? = U.heap[i]? := fun i hi => by simp [World.setCell, Array.getElem?_modify, Ne.symm hi]
 have hUB : U.heap[B]? = some (.cells #[.int .i64 (q.length : Nat)] 3) := (hG.block B (lt_of hpi.i) (by simp; omega)).trans hpi.i
 have hsB : (U.setCell ⟨B, 0, none⟩ (nxtI q)).heap[B]? = some (.cells #[nxtI q] 3) := by simp [World.setCell, Array.getElem?_modify, hUB]
 have keep : ∀ (i : Nat) (o : Obj), V1.heap[i]? = some o → i ≠ B → i ≠ gg → (U.setCell ⟨B, 0, none⟩ (nxtI q)).heap[i]? = some o := fun i o hi h1 h2 => (hset i h1).trans ((hG.block i (lt_of hi) (by simpa using h2)).trans hi)
 have notcells : ∀ (i : Nat) (o : Obj), V1.heap[i]? = some o → o.isCells = false → i ≠ B ∧ i ≠ gg := fun i o hi hc => ⟨(fun e => by rw [e, hpi.i] at hi; cases hi; cases hc), (fun e => by subst e; rw [hcu o hi] at hc; cases hc)⟩
 have hsz : V1.heap.size ≤ (U.setCell ⟨B, 0, none⟩ (nxtI q)).heap.size := by rw [hs]; exact hG.size
 refine ⟨⟨Nat.le_trans hkk.size hsz, fun i o hb hi hc => ?_⟩, ⟨Nat.le_trans hbV.size hsz, fun i o hi hc hB2 hl => ?_⟩, ?_, ⟨Nat.le_trans hpi.kc.1 hsz, fun i o hi hc hne => ?_⟩, ⟨Nat.le_trans hpi.kf.size hsz, fun i o h0 hi hc => ?_⟩, ?_⟩
 ·have h1 := hkk.same i o hb hi hc
  obtain ⟨n1, n2⟩ := notcells i o h1 hc
  exact keep i o h1 n1 n2
 ·exact keep i o ((hbV.block i (lt_of hi)).trans hi) hB2 (by omega)
 ·rw [hsB, List.length_append]; rfl
 ·have h1 := hpi.kc.2 i o hi hc hne
  exact keep i o h1 hne (by have := lt_of hi; omega)
 ·have h1 := hpi.kf.same i o h0 hi hc
  obtain ⟨n1, n2⟩ := notcells i o h1 hc
  exact keep i o h1 n1 n2
 ·exact (hpi.bel.grown hG hpi.bel.size (fun j e => by cases e; omega)).setCell hw _
end Go.Proofs.YtnibldnfbikipaaGreatDoor
