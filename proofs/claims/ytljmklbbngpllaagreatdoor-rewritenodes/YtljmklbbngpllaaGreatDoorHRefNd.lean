/- RPar1, RPar3b, RPar5, RPar6, RwMv, RwMvR, HRef. -/
import Derived.Test.YtljmklbbngpllaaGreatDoorRwCorNd
import Derived.Test.YtljmklbbngpllaaGreatDoorRwFn3Nd
set_option linter.unusedVariables false
set_option linter.unusedSimpArgs false
set_option maxHeartbeats 16000000
set_option maxRecDepth 100000
namespace Go.Proofs.YtljmklbbngpllaaGreatDoor
open Go.RowKit Go.Fm
abbrev rpO (v : Value) (x : Bool) : Obj := .cells #[v, .bool x] 109
structure QR (W : World) (b : Nat) (L : List Tk.Tok) (w : World) : Prop where
 tab : dB W
 bel : Below W.heap.size W w
 lo : W.heap.size ≤ b
 ok : OkL L
 blk : ∃ v, w.heap[b]? = some (rpO v false) ∧ TS W v (L.map tk)
structure QW (W : World) (b : Nat) (w : World) : Prop where
 tab : dB W
 bel : Below W.heap.size W w
 lo : W.heap.size ≤ b
 blk : w.heap[b]? = some (rpO (.slice none 0 0) true)
structure QB (W : World) (b : Nat) (w : World) : Prop where
 tab : dB W
 bel : Below W.heap.size W w
 lo : W.heap.size ≤ b
 blk : ∃ v x, w.heap[b]? = some (rpO v x)
def Sq (W : World) (b : Nat) (L : List Tk.Tok) (w w' : World) : Prop := QR W b L w' ∧ w.grownBy w' (some b)
def Sw (W : World) (b : Nat) (w w' : World) : Prop := QW W b w' ∧ w.grownBy w' (some b)
def NA (es : Array Value) : Prop := ∃ a p n c, es = lcs a (.slice p n c)
def RA (W : World) (b : Nat) (w : World) (o : Option (T × List Tk.Tok)) (es : Array Value) (w' : World) : Prop :=
 match o with
 | none => Sw W b w w'
 | some p => NK (fun i => w.heap.size ≤ i) w' es p.1 ∧ Sq W b p.2 w w'
structure BI (W : World) (b : Nat) (w : World) (g : Nat) (cur : Option (T × List Tk.Tok)) (es : Array Value) (u : World) : Prop where
 box : u.heap[g]? = some (.cells es 28)
 res : u.heap[w.heap.size]? = some (.cells nd0 28)
 na : NA es
 st : match cur with
  | none => Sw W b w u
  | some p => NK (fun i => w.heap.size < i ∧ i ≠ g) u es p.1 ∧ Sq W b p.2 w u
theorem aHS (u : World) (bk h : ByteArray) (r c : Int) (fr fc : Bool) : (Instr.build 28 #[(0, .int .i64 2), (3, bC bk h r c fr fc)]).run Tryz.prog u = .ok (.agg (lcs ⟨2, nb, 0, 0, nb, bk, h, r, c, fr, fc, nb, nb, 0, 0, false, false⟩ (.slice none 0 0))) u := by kernel_rfl
theorem aHT (u : World) (bk h : ByteArray) (r c : Int) (fr fc : Bool) (bk' h' : ByteArray) (r' c' : Int) (fr' fc' : Bool) : (Instr.build 28 #[(0, .int .i64 3), (3, bC bk h r c fr fc), (4, bC bk' h' r' c' fr' fc')]).run Tryz.prog u = .ok (.agg (lcs ⟨3, nb, 0, 0, nb, bk, h, r, c, fr, fc, bk', h', r', c', fr', fc'⟩ (.slice none 0 0))) u := by kernel_rfl
theorem aAh {u : World} {g o : Nat} {a : Option Addr} {n c : Nat} {old : Value} (hc : u.cell? ⟨g, o, none⟩ = some old) (hf : u.frozen? ⟨g, o, none⟩ = false) : (Instr.storeAt 26 (.pointer (some ⟨g, o, none⟩)) (.slice a n c)).run Tryz.prog u = .ok () (u.setCell ⟨g, o, none⟩ (.slice a n c)) := by
 have h1 := Tryz.underlying26
 have h2 := Tryz.isAgg26
 have h3 := Tryz.sizeOf26
 go_simp
structure CI (W : World) (b : Nat) (w : World) (S : ByteArray) (v : Value) (L : List (Array Value × T)) (u : World) : Prop where
 box : u.heap[w.heap.size + 1]? = some (.cells (lcs (eF 7 S) v) 28)
 res : u.heap[w.heap.size]? = some (.cells nd0 28)
 own : eO (w.heap.size + 2) u v L
 grow : w.grownBy u (some b)
theorem aJ5 {u : World} {g : Nat} {a : Lab} {v v' : Value} (h : u.heap[g]? = some (.cells (lcs a v) 28)) : (u.setCell ⟨g, 17, none⟩ v').heap[g]? = some (.cells (lcs a v') 28) := by
 simp [World.setCell, Array.getElem?_modify, h]
 rfl
theorem aCl (u : World) (S : ByteArray) : (Instr.build 28 #[(0, .int .i64 7), (1, .string S)]).run Tryz.prog u = .ok (.agg (lcs (eF 7 S) (.slice none 0 0))) u := by kernel_rfl
end Go.Proofs.YtljmklbbngpllaaGreatDoor
namespace Go.Proofs.YtljmklbbngpllaaGreatDoor.Rw
open Go.RowKit Go.Fm
theorem aCm (u : World) (n : Int) : (Instr.build 23 #[(0, .int .i64 4), (1, .int .i64 n)]).run Tryz.prog u = .ok (.agg #[.int .i64 4, .int .i64 n, .string noB]) u := by kernel_rfl
theorem aCn (u : World) : (Instr.build 28 #[(0, .int .i64 1), (2, .agg #[.int .i64 4, .int .i64 3, .string noB])]).run Tryz.prog u = .ok (.agg (lcs gone (.slice none 0 0))) u := by kernel_rfl
theorem aAi (u : World) (x : Rf) : (Instr.build 28 #[(0, .int .i64 2), (3, rfV x)]).run Tryz.prog u = .ok (.agg (lcs (cK x) (.slice none 0 0))) u := aHS u _ _ _ _ _ _
theorem gG (u : World) (x y : Rf) : (Instr.build 28 #[(0, .int .i64 3), (3, rfV x), (4, rfV y)]).run Tryz.prog u = .ok (.agg (lcs (bN x y) (.slice none 0 0))) u := aHT u _ _ _ _ _ _ _ _ _ _ _ _
abbrev gl : Array Value := lcs gone (.slice none 0 0)
theorem nN {u : World} {g : Nat} (a : Lab) (h : u.heap[g]? = some (.cells nd0 28)) : (Instr.storeAt 28 (.pointer (some ⟨g, 0, none⟩)) (.agg (lcs a (.slice none 0 0)))).run Tryz.prog u = .ok () (u.setRow g (lcs a (.slice none 0 0))) :=
 sto h (by rw [aV]; exact bS) rfl (iC _ _ _ _)
theorem nO {u : World} {g : Nat} (a : Lab) (h : u.heap[g]? = some (.cells nd0 28)) : (u.setRow g (lcs a (.slice none 0 0))).heap[g]? = some (.cells (lcs a (.slice none 0 0)) 28) := setRow_heap _ _ _ _ _ _ h
theorem fA {fn : Func} {i j : Tmp} (hr : fn.results = #[.cell i 28, .tmp j]) {tmps : Array Value} {g : Nat} {u : World} {a : Lab} {sl v : Value} (hp : tmps.getD i undef = .pointer (some ⟨g, 0, none⟩)) (h : u.heap[g]? = some (.cells (lcs a sl) 28)) (hv : tmps.getD j undef = v) :
  (results fn tmps).run Tryz.prog u = .ok (.tuple #[.agg (lcs a sl), v]) u :=
 fE hr hp h rfl Tryz.underlying28 (by rw [aV]; exact bS) hv
theorem aIv {fn : Func} {i : Tmp} (hr : fn.results = #[.cell i 28]) {tmps : Array Value} {g : Nat} {u : World} {a : Lab} {sl : Value} (hp : tmps.getD i undef = .pointer (some ⟨g, 0, none⟩)) (h : u.heap[g]? = some (.cells (lcs a sl) 28)) :
  (results fn tmps).run Tryz.prog u = .ok (.agg (lcs a sl)) u :=
 results_cell_row hr _ _ g 28 _ (0, 0) _ hp h Tryz.underlying28 rfl (by rw [aV]; exact bS)
theorem kY (w : World) : Calls Tryz.prog 72 #[] w fun e w' => e = .returned (.agg gl) ∧ Below w.heap.size w w' := by
 have RB : Hid _ := aCm (w.alloc (.cells nd0 28)) 3
 have RG : Hid _ := aCn (w.alloc (.cells nd0 28))
 have H0 := heap_alloc_new w (.cells nd0 28)
 have RS : Hid _ := nN gone H0
 have HR : Hid _ := nO gone H0
 have HB0 : Below w.heap.size w (w.alloc (.cells nd0 28)) := aA (Below.refl _ _) _
 have HB : Hid (Below w.heap.size w ((w.alloc (.cells nd0 28)).setRow w.heap.size gl)) := HB0.grown (aC _ _ _) HB0.size (fun g e => by cases e; omega)
 clear H0 HB0
 go_enter Tryz.func72, Tryz.ntmps72
 go_wp2_with (first
  | ((with_reducible show wpList _ _ _ ({ dst := _, op := Op.build 23 _, type := _, pos := _, after := _, guard := none } :: _) _ _); refine aX rfl 23 _ rfl _ _ rfl RB.out ?_; clear RB)
  | ((with_reducible show wpList _ _ _ ({ dst := _, op := Op.build 28 _, type := _, pos := _, after := _, guard := none } :: _) _ _); refine aX rfl 28 _ rfl _ _ rfl RG.out ?_; clear RG)
  | ((with_reducible show wpList _ _ _ ({ dst := _, op := Op.store 28 _ _, type := _, pos := _, after := _, guard := none } :: _) _ _); refine aD rfl 28 _ _ rfl _ _ _ rfl rfl RS.out ?_; clear RS))
 exact bodyPost_ret (aIv rfl rfl HR.out) rfl ⟨rfl, HB.out⟩
theorem kZ (w : World) : Calls Tryz.prog 28 #[] w fun e w' => e = .returned (.agg gl) ∧ Below w.heap.size w w' := by
 have RB : Hid _ := aCm (w.alloc (.cells nd0 28)) 3
 have RG : Hid _ := aCn (w.alloc (.cells nd0 28))
 have H0 := heap_alloc_new w (.cells nd0 28)
 have RS : Hid _ := nN gone H0
 have HR : Hid _ := nO gone H0
 have HB0 : Below w.heap.size w (w.alloc (.cells nd0 28)) := aA (Below.refl _ _) _
 have HB : Hid (Below w.heap.size w ((w.alloc (.cells nd0 28)).setRow w.heap.size gl)) := HB0.grown (aC _ _ _) HB0.size (fun g e => by cases e; omega)
 clear H0 HB0
 go_enter Tryz.func28, Tryz.ntmps28
 go_wp2_with (first
  | ((with_reducible show wpList _ _ _ ({ dst := _, op := Op.build 23 _, type := _, pos := _, after := _, guard := none } :: _) _ _); refine aX rfl 23 _ rfl _ _ rfl RB.out ?_; clear RB)
  | ((with_reducible show wpList _ _ _ ({ dst := _, op := Op.build 28 _, type := _, pos := _, after := _, guard := none } :: _) _ _); refine aX rfl 28 _ rfl _ _ rfl RG.out ?_; clear RG)
  | ((with_reducible show wpList _ _ _ ({ dst := _, op := Op.store 28 _ _, type := _, pos := _, after := _, guard := none } :: _) _ _); refine aD rfl 28 _ _ rfl _ _ _ rfl rfl RS.out ?_; clear RS))
 exact bodyPost_ret (aIv rfl rfl HR.out) rfl ⟨rfl, HB.out⟩
abbrev aFZ (C : Chg) (g : Nat) : Value := if C.dr = true then .func (.func 41) #[] #[] else .func (.func 67) #[] #[.pointer (some ⟨g, 0, none⟩), .pointer (some ⟨g + 1, 0, none⟩)]
abbrev aBj (C : Chg) (g : Nat) : Value := if C.dr = true then .func (.func 42) #[] #[] else .func (.func 68) #[] #[.pointer (some ⟨g, 0, none⟩), .pointer (some ⟨g + 1, 0, none⟩)]
abbrev eP (C : Chg) (H : Hm) (g : Nat) : Array Value := gN C.bk C.sh H.hb H.hs H.hr H.hc (aFZ C g) (aBj C g)
def mD (u : World) (g : Nat) (C : Chg) : Prop := C.dr = true ∨ Fol u g C
theorem mD.below {u u' : World} {g : Nat} {C : Chg} (h : mD u g C) (hb : Below u.heap.size u u') : mD u' g C := h.imp id fun h => h.below hb
theorem aF0 {C : Chg} {g : Nat} {w : World} (h : Fol w g C) (x : Rf) :
  Calls Tryz.prog 67 #[rfV x, .pointer (some ⟨g, 0, none⟩), .pointer (some ⟨g + 1, 0, none⟩)] w fun e w' => e = .returned (.tuple #[rfV (gL C x (Hs.dG C.a C.n C.m (ln C x))), .bool (Hs.posB C.a C.n C.m (ln C x))]) ∧ Below w.heap.size w w' := by
 obtain ⟨bk, sh, dr, co, a, n, m⟩ := C
 cases co
 ·exact aFY h x
 ·exact aFX h x
theorem aDy {C : Chg} {g : Nat} {w : World} (h : Fol w g C) (x y : Rf) :
  Calls Tryz.prog 68 #[rfV x, rfV y, .pointer (some ⟨g, 0, none⟩), .pointer (some ⟨g + 1, 0, none⟩)] w fun e w' => e = .returned (.tuple #[rfV (gL C x (Hs.spL C.a C.n C.m (ln C x) (ln C y))), rfV (gL C y (Hs.spH C.a C.n C.m (ln C x) (ln C y))), .bool (Hs.spB C.a C.n C.m (ln C x) (ln C y))]) ∧ Below w.heap.size w w' := by
 obtain ⟨bk, sh, dr, co, a, n, m⟩ := C
 cases co
 ·exact aDx h x y
 ·exact aDw h x y
theorem aK2 (x y : Rf) (u : World) : (binOp .neq 25 (rfV x) (rfV y)).run Tryz.prog u = .ok (.bool (!eqR x y)) u := bD u _ _ _ _ _ _ _ _ _ _ _ _
theorem dP {P : Program} {ev : Operand → Value} {o : Oper} {ty : TypeId} {xs : Array (Nat × Operand)} {ps : Array (Nat × Value)} {v : Value} {u : World} (ho : o.op = .build ty xs) (hx : (xs.map fun (i, x) => (i, ev x)) = ps) (hrun : (Instr.build ty ps).run P u = .ok v u) : (execOp ev o).run P u = .ok (.value v) u := by
 unfold execOp
 simp only [ho, hx, Sem.run_bind, Sem.run_pure, hrun, Result.andThen_ok]
theorem dV {ev : Operand → Value} {o : Oper} {ty2 : TypeId} {x y : Operand} {a b : Rf} {u : World} (ho : o.op = .binOp .neq 25 x y ty2) (hx : ev x = rfV a) (hy : ev y = rfV b) : (execOp ev o).run Tryz.prog u = .ok (.value (.bool (!eqR a b))) u := by
 unfold execOp
 simp only [ho, hx, hy]
 have hg : (eqGuard .neq 25 x y (rfV a) (rfV b)).run Tryz.prog u = .ok () u := by
  unfold eqGuard
  simp [Sem.run_bind, Sem.run_pure, dH, go_sem]
 simp only [Sem.run_bind, Sem.run_pure, hg, aK2, Result.andThen_ok]
theorem aDz {bk sh hb hs : ByteArray} {hr hc : Int} {af : Value} (x : Rf) (w : World) :
  Calls Tryz.prog 48 #[.agg (gN bk sh hb hs hr hc (.func (.func 41) #[] #[]) af), rfV x] w fun e w' => e = .returned (.tuple #[.agg gl, .bool true]) ∧ Below w.heap.size w w' := by
 have HA := fun u => aAg x u
 have HG := fun u => kY u
 obtain ⟨W, hW⟩ : ∃ W, W = ((w.alloc (.cells (gN bk sh hb hs hr hc (.func (.func 41) #[] #[]) af) 64)).alloc (rfO x)).alloc (.cells nd0 28) := ⟨_, rfl⟩
 have HB0 : Below w.heap.size w W := by rw [hW]; exact aA (aA (aA (Below.refl _ _) _) _) _
 have HN : Hid (∀ u, Below W.heap.size W u → u.heap[w.heap.size + 2]? = some (.cells nd0 28) ∧ Below w.heap.size w u) := fun u hu => by
  have hu0 := hu
  rw [hW] at hu
  have q := new1 hu
  simp only [World.size_alloc] at q
  exact ⟨q, aG HB0 hu0⟩
 have HW : Hid (Below W.heap.size W W) := Below.refl _ _
 clear HB0
 subst hW
 go_enter Tryz.func48, Tryz.ntmps48
 go_wp2_with (first
  | (go_at_call 41; refine (HA _).mono ?_; clear HA; rintro e w2 ⟨rfl, hb⟩; have HB2 : Hid _ := aA hb (rfO z0); clear hb)
  | (go_at_call 72; refine (HG _).mono ?_; clear HG; rintro e w3 ⟨rfl, hb⟩; have HB3 := aG HB2.out hb; obtain ⟨n0, n1⟩ := HN.out _ HB3; have RS : Hid _ := nN gone n0; have HR : Hid _ := nO gone n0; have HZ : Hid (Below w.heap.size w (w3.setRow (w.heap.size + 2) gl)) := n1.grown (aC _ _ _) n1.size (fun g e => by cases e; omega); clear hb HB3 n0 n1)
  | ((with_reducible show wpList _ _ _ ({ dst := _, op := Op.store 28 _ _, type := _, pos := _, after := _, guard := none } :: _) _ _); refine aD rfl 28 _ _ rfl _ _ _ rfl rfl RS.out ?_; clear RS))
 exact bodyPost_ret (fA rfl rfl HR.out rfl) rfl ⟨rfl, HZ.out⟩
theorem aDA {bk sh hb hs : ByteArray} {hr hc : Int} {af : Value} {g : Nat} {x y : Rf} {b : Bool} {w : World} (h : ∀ u, Below w.heap.size w u → Calls Tryz.prog 67 #[rfV x, .pointer (some ⟨g, 0, none⟩), .pointer (some ⟨g + 1, 0, none⟩)] u fun e w' => e = .returned (.tuple #[rfV y, .bool b]) ∧ Below u.heap.size u w') :
  Calls Tryz.prog 48 #[.agg (gN bk sh hb hs hr hc (.func (.func 67) #[] #[.pointer (some ⟨g, 0, none⟩), .pointer (some ⟨g + 1, 0, none⟩)]) af), rfV x] w fun e w' => e = .returned (.tuple #[.agg (lcs (if b = true then cK y else gone) (.slice none 0 0)), .bool (if b = true then !eqR y x else true)]) ∧ Below w.heap.size w w' := by
 have HG := fun u => kY u
 obtain ⟨W, hW⟩ : ∃ W, W = ((w.alloc (.cells (gN bk sh hb hs hr hc (.func (.func 67) #[] #[.pointer (some ⟨g, 0, none⟩), .pointer (some ⟨g + 1, 0, none⟩)]) af) 64)).alloc (rfO x)).alloc (.cells nd0 28) := ⟨_, rfl⟩
 have HB0 : Below w.heap.size w W := by rw [hW]; exact aA (aA (aA (Below.refl _ _) _) _) _
 have HN : Hid (∀ u, Below W.heap.size W u → u.heap[w.heap.size + 2]? = some (.cells nd0 28) ∧ u.heap[w.heap.size + 1]? = some (rfO x) ∧ Below w.heap.size w u) := fun u hu => by
  have hu0 := hu
  rw [hW] at hu
  have q := new1 hu
  have q1 := new1 (aR hu)
  simp only [World.size_alloc] at q q1
  exact ⟨q, q1, aG HB0 hu0⟩
 have HA := h W HB0
 have HBy : Hid (∀ w2, Below W.heap.size W w2 → w2.heap.size + 1 = (w2.alloc (rfO y)).heap.size) := fun w2 _ => by simp
 clear HB0 h
 subst hW
 cases b
 ·simp only [Bool.false_eq_true, if_false]
  go_enter Tryz.func48, Tryz.ntmps48
  go_wp2_with (first
   | (go_at_call 67; refine HA.mono ?_; clear HA; rintro e w2 ⟨rfl, hb⟩; have HB2 : Hid _ := aA hb (rfO y); clear hb)
   | (go_at_call 72; refine (HG _).mono ?_; clear HG; rintro e w3 ⟨rfl, hb⟩; have HB3 := aG HB2.out hb; obtain ⟨n0, _, n1⟩ := HN.out _ HB3; have RS : Hid _ := nN gone n0; have HR : Hid _ := nO gone n0; have HZ : Hid (Below w.heap.size w (w3.setRow (w.heap.size + 2) gl)) := n1.grown (aC _ _ _) n1.size (fun g e => by cases e; omega); clear hb HB3 n0 n1)
   | ((with_reducible show wpList _ _ _ ({ dst := _, op := Op.store 28 _ _, type := _, pos := _, after := _, guard := none } :: _) _ _); refine aD rfl 28 _ _ rfl _ _ _ rfl rfl RS.out ?_; clear RS))
  exact bodyPost_ret (fA rfl rfl HR.out rfl) rfl ⟨rfl, HZ.out⟩
 ·simp only [if_true]
  go_enter Tryz.func48, Tryz.ntmps48
  go_wp2_with (first
   | (go_at_call 67; refine HA.mono ?_; clear HA; rintro e w2 ⟨rfl, hb⟩; have HB2 : Hid _ := aA hb (rfO y); have HX2 : Hid _ := heap_alloc_new w2 (rfO y); have hsz : w.heap.size + 3 ≤ w2.heap.size := (by have hz := hb.size; simp only [World.size_alloc] at hz; omega); clear hb))
  obtain ⟨n0, n1, n2⟩ := HN.out _ HB2.out
  have n0 : (w2.alloc (rfO y)).drew.heap[w.heap.size + 2]? = some (.cells nd0 28) := n0
  have n1 : (w2.alloc (rfO y)).drew.heap[w.heap.size + 1]? = some (rfO x) := n1
  have nx : (w2.alloc (rfO y)).drew.heap[w2.heap.size]? = some (rfO y) := HX2.out
  have n2 := n2.drew
  clear HN HBy HB2 HX2 HG
  have RS : Hid _ := nN (cK y) n0
  have HR : Hid _ := nO (cK y) n0
  have HZ : Hid (Below w.heap.size w ((w2.alloc (rfO y)).drew.setRow (w.heap.size + 2) (lcs (cK y) (.slice none 0 0)))) := n2.grown (aC _ _ _) n2.size (fun g e => by cases e; omega)
  have HS : Hid (_ ∧ _) := ⟨bX nx, bX n1⟩
  have HS2 : Hid (_ ∧ _) := ⟨bX (x := y) ((setRow_other (w2.alloc (rfO y)).drew (w.heap.size + 2) w2.heap.size (lcs (cK y) (.slice none 0 0)) (by omega)).trans nx), bX (x := x) ((setRow_other (w2.alloc (rfO y)).drew (w.heap.size + 2) (w.heap.size + 1) (lcs (cK y) (.slice none 0 0)) (by omega)).trans n1)⟩
  clear n0 n1 nx n2
  refine aQ (fun u => (Instr.loadAt 25 (.pointer (some ⟨w2.heap.size, 0, none⟩))).run Tryz.prog u = .ok (rfV y) u ∧ (Instr.loadAt 25 (.pointer (some ⟨w.heap.size + 1, 0, none⟩))).run Tryz.prog u = .ok (rfV x) u) (fun j => false) (by kernel_rfl) ?_
  refine dwl 0 (rfV y) ?_ (hS := HS.out) (hy := (fun u hSu => aI rfl rfl hSu.1))
  refine dwp 1 (.agg (lcs (cK y) (.slice none 0 0))) ?_ (hy := (fun u => dP rfl (by go_simp) (aAi u y)))
  refine dwl 2 (rfV y) ?_ (hS := HS.out) (hy := (fun u hSu => aI rfl rfl hSu.1))
  refine dwl 3 (rfV x) ?_ (hS := HS.out) (hy := (fun u hSu => aI rfl rfl hSu.2))
  refine dwp 4 (.bool (!eqR y x)) ?_ (hy := (fun u => dV rfl rfl rfl))
  refine aH (i := 5) (by kernel_rfl) rfl ?_
  intro K' hK'
  rw [if_pos (by go_simp)]
  refine aJ none rfl 28 _ _ rfl _ _ rfl rfl RS.out (hK' _ _ (.inr fun _ => HS2.out) ?_)
  clear hK'
  try simp only [Act.put, List.setIfInBounds_toArray, List.set_cons_zero, List.set_cons_succ]
  refine dwp 6 (.bool (!eqR y x)) ?_
  refine aK (by kernel_rfl) ?_ _
  go_wp2
  exact bodyPost_ret (fA rfl rfl HR.out rfl) rfl ⟨rfl, HZ.out⟩
end Go.Proofs.YtljmklbbngpllaaGreatDoor.Rw
namespace Go.Proofs.YtljmklbbngpllaaGreatDoor.Hs
open Go.RowKit
theorem aF1 {a n m p : Int} (hg : bB a n m = true) (hp : 1 ≤ p) (hp2 : p ≤ m) :
  (p < a ∧ posB a n m p = true ∧ dG a n m p = p) ∨ (¬ p < a ∧ n < 0 ∧ p < a - n ∧ posB a n m p = false ∧ dG a n m p = 0) ∨
  (¬ p < a ∧ n < 0 ∧ ¬ p < a - n ∧ ¬ m < p + n ∧ posB a n m p = true ∧ dG a n m p = p + n) ∨
  (¬ p < a ∧ ¬ n < 0 ∧ m < p + n ∧ posB a n m p = false ∧ dG a n m p = 0) ∨ (¬ p < a ∧ ¬ n < 0 ∧ ¬ m < p + n ∧ posB a n m p = true ∧ dG a n m p = p + n) := by
 have hb := gB hg
 have e : posB a n m p = (mvB a n p && decide (mvF a n p ≤ m)) := by unfold posB; rw [hg, decide_eq_true hp, decide_eq_true hp2]; rfl
 have e2 : dG a n m p = if posB a n m p = true then mvF a n p else 0 := rfl
 by_cases h1 : p < a
 ·left
  have m1 : mvB a n p = true := by unfold mvB; simp [h1]
  have m2 : mvF a n p = p := by unfold mvF; simp [h1]
  have q : posB a n m p = true := by rw [e, m1, m2]; simp; omega
  exact ⟨h1, q, by rw [e2, q, m2]; rfl⟩
 right
 by_cases h2 : n < 0
 ·have x : nxF a n = a - n := by unfold nxF; rw [if_pos h2]
  by_cases h3 : p < a - n
  ·left
   have m1 : mvB a n p = false := by unfold mvB; rw [x]; simp [h1, h3]
   have q : posB a n m p = false := by rw [e, m1]; rfl
   exact ⟨h1, h2, h3, q, by rw [e2, q]; rfl⟩
  ·right; left
   have m1 : mvB a n p = true := by unfold mvB; rw [x]; simp [h3]
   have m2 : mvF a n p = p + n := by unfold mvF; rw [x, if_neg h1, if_neg h3]
   have q : posB a n m p = true := by rw [e, m1, m2]; simp; omega
   exact ⟨h1, h2, h3, by omega, q, by rw [e2, q, m2]; rfl⟩
 ·have x : nxF a n = a := by unfold nxF; rw [if_neg h2]
  have m1 : mvB a n p = true := by unfold mvB; rw [x]; cases decide (p < a) <;> rfl
  have m2 : mvF a n p = p + n := by unfold mvF; rw [x, if_neg h1, if_neg h1]
  right; right
  by_cases h3 : m < p + n
  ·left
   have q : posB a n m p = false := by rw [e, m1, m2]; simp; omega
   exact ⟨h1, h2, h3, q, by rw [e2, q]; rfl⟩
  ·right
   have q : posB a n m p = true := by rw [e, m1, m2]; simp; omega
   exact ⟨h1, h2, h3, q, by rw [e2, q, m2]; rfl⟩
theorem gY (a n m p : Int) (w : World) : Calls Tryz.prog 51 #[shV a n m, .int .i64 p] w fun e w' => e = .returned (.tuple #[.int .i64 (dG a n m p), .bool (posB a n m p)]) ∧ Below w.heap.size w w' := by
 have HB0 : Hid (Below (w.alloc (shO a n m 40)).heap.size (w.alloc (shO a n m 40)) (w.alloc (shO a n m 40))) := Below.refl _ _
 have HG : RC (w.alloc (shO a n m 40)) 52 #[shV a n m] _ := RC.of fun u => gQ a n m u
 cases hg : bB a n m
 ·have e1 : posB a n m p = false := by unfold posB; rw [hg]; rfl
  have e2 : dG a n m p = 0 := by unfold dG; rw [e1]; rfl
  rw [e1, e2]
  rw [hg] at HG
  go_enter Tryz.func51, Tryz.ntmps51
  go_wp2_with (go_at_call 52; refine (HG _ HB0.out).mono ?_; clear HG; rintro e w1 ⟨rfl, hb⟩; have HB1 : Hid (Below (w.alloc (shO a n m 40)).heap.size (w.alloc (shO a n m 40)) w1) := hb; clear hb; obtain ⟨c0, c1, c2⟩ := aL HB1.out)
  go_ret2
  exact ⟨rfl, aR HB1.out⟩
 rw [hg] at HG
 by_cases hp : p < 1
 ·have e1 : posB a n m p = false := by unfold posB; rw [hg, decide_eq_false (by omega : ¬ 1 ≤ p)]; rfl
  have e2 : dG a n m p = 0 := by unfold dG; rw [e1]; rfl
  rw [e1, e2]
  go_enter Tryz.func51, Tryz.ntmps51
  go_wp2_with (go_at_call 52; refine (HG _ HB0.out).mono ?_; clear HG; rintro e w1 ⟨rfl, hb⟩; have HB1 : Hid (Below (w.alloc (shO a n m 40)).heap.size (w.alloc (shO a n m 40)) w1) := hb; clear hb; obtain ⟨c0, c1, c2⟩ := aL HB1.out)
  go_ret2
  exact ⟨rfl, aR HB1.out⟩
 by_cases hp2 : m < p
 ·have e1 : posB a n m p = false := by unfold posB; rw [hg, decide_eq_true (by omega : 1 ≤ p), decide_eq_false (by omega : ¬ p ≤ m)]; rfl
  have e2 : dG a n m p = 0 := by unfold dG; rw [e1]; rfl
  rw [e1, e2]
  go_enter Tryz.func51, Tryz.ntmps51
  go_wp2_with (go_at_call 52; refine (HG _ HB0.out).mono ?_; clear HG; rintro e w1 ⟨rfl, hb⟩; have HB1 : Hid (Below (w.alloc (shO a n m 40)).heap.size (w.alloc (shO a n m 40)) w1) := hb; clear hb; obtain ⟨c0, c1, c2⟩ := aL HB1.out)
  go_ret2
  exact ⟨rfl, aR HB1.out⟩
 have hb := gB hg
 have b1 := hb.1
 have b2 := hb.2.1
 have b3 := hb.2.2.1
 have b4 := hb.2.2.2.1
 have b5 : -1000 ≤ n := by omega
 have b6 : n ≤ 1000 := by omega
 have HW := aF1 hg (by omega : 1 ≤ p) (by omega)
 clear hb hg
 rcases HW with ⟨h1, e1, e2⟩ | ⟨h1, h2, h3, e1, e2⟩ | ⟨h1, h2, h3, h4, e1, e2⟩ | ⟨h1, h2, h3, e1, e2⟩ | ⟨h1, h2, h3, e1, e2⟩
 all_goals
  rw [e1, e2]
  clear e1 e2
  go_enter Tryz.func51, Tryz.ntmps51
  go_wp2_with (go_at_call 52; refine (HG _ HB0.out).mono ?_; clear HG; rintro e w1 ⟨rfl, hb⟩; have HB1 : Hid (Below (w.alloc (shO a n m 40)).heap.size (w.alloc (shO a n m 40)) w1) := hb; clear hb; obtain ⟨c0, c1, c2⟩ := aL HB1.out)
  go_ret2
  exact ⟨rfl, aR HB1.out⟩
theorem vK {w w1 : World} {g : Nat} {a b c : Value} (hg : w.heap.size ≤ g) (h : Below w.heap.size w w1) : Below w.heap.size w (((w1.setCell ⟨g, 0, none⟩ a).setCell ⟨g, 1, none⟩ b).setCell ⟨g, 2, none⟩ c) :=
 ((h.setCell hg _).setCell hg _).setCell hg _
end Go.Proofs.YtljmklbbngpllaaGreatDoor.Hs
