/- FIter, FSize. -/
import Derived.LoopIn
import Derived.LoopNIn
import Derived.OwnWalkIn
import Derived.RangeFuncBound
import Derived.RangeFuncCalls
import Derived.RangeFuncFrom
import Derived.RangeFuncLeaves
import Derived.RangeFuncNested
import Derived.Shelf.Abstract
import Derived.Shelf.RegionOpen
import Derived.TacticsInMore
import Derived.Test.YtnibldnfbikipaaGreatDoorTName2Fp
set_option linter.unusedVariables false
set_option linter.unusedSimpArgs false
set_option maxHeartbeats 16000000
set_option maxRecDepth 100000
namespace Go.Proofs.YtnibldnfbikipaaGreatDoor
open Go.RowKit Go.Shelf Go.Fm
attribute [local go_sem] Oper.semAt_some
theorem room_none {F : Fence} (hd : F.depth = none) (k : Nat) : F.room k := fun d h => by rw [hd] at h; cases h
theorem round_any {F : Fence} (hd : F.depth = none) {m m' : Nat} {P : Program} {l : Nat} {f : FuncId} {tmps : Array Value} {assign body : Code} {w : World} {R : Ending → World → Prop}
  (h : RoundIn F m P l f tmps assign body w R) : RoundIn F m' P l f tmps assign body w R := ⟨h.1, fun c cs _ => h.2 c cs (room_none hd _)⟩
theorem yield_any {F : Fence} (hd : F.depth = none) {m : Nat} (m' : Nat) {P : Program} {l : Nat} {args : Array Value} {W : World} {R : Ending → World → Prop} (h : YieldAt F m P l args W R) : YieldAt F m' P l args W R := by
 obtain ⟨fn, tmps, assign, body, hy, hR⟩ := h
 exact ⟨fn, tmps, assign, body, hy, round_any hd hR⟩
def KC (B : Nat) (W W' : World) : Prop := W.heap.size ≤ W'.heap.size ∧ ∀ (i : Nat) (o : Obj), W.heap[i]? = some o → o.isCells = true → i ≠ B → W'.heap[i]? = some o
theorem KC.refl (B : Nat) (W : World) : KC B W W := ⟨Nat.le_refl _, fun _ _ h _ _ => h⟩
theorem KC.trans {B : Nat} {U V W : World} (h : KC B U V) (k : KC B V W) : KC B U W := ⟨Nat.le_trans h.1 k.1, fun i o hi hc hB => k.2 i o (h.2 i o hi hc hB) hc hB⟩
theorem KC.below {B : Nat} {U V : World} (h : Below U.heap.size U V) : KC B U V := ⟨h.size, fun i o hi _ _ => (h.block i (lt_of hi)).trans hi⟩
theorem KC.put {B : Nat} {w : World} (W : World) (l : Nat) (o o' : Obj) (_ : w.heap.size ≤ l) (h : W.heap[l]? = some o) (hc : o.isCells = false) (_ : o.isWalk = false) : KC B W (W.putObj l o') :=
 ⟨by simp, fun i x hi hx _ => by
  rw [World.putObj_heap_other (fun e => by
   have e2 : i = l := e
   rw [e2, h] at hi
   cases hi
   rw [hc] at hx; cases hx)]
  exact hi⟩
theorem cells_of {w : World} {a : Addr} {v : Value} (h : w.cell? a = some v) : ∃ o, w.heap[a.block]? = some o ∧ o.isCells = true := by
 unfold World.cell? at h
 split at h
 ·rename_i cs t z hc
  exact ⟨_, hc, rfl⟩
 ·cases h
theorem KC.cell {B : Nat} {U V : World} (h : KC B U V) {a : Addr} {v : Value} (hc : U.cell? a = some v) (hB : a.block ≠ B) : V.cell? a = some v := by
 obtain ⟨o, ho, h1⟩ := cells_of hc
 have h2 := h.2 _ o ho h1 hB
 have e : V.heap[a.block]? = U.heap[a.block]? := h2.trans ho.symm
 exact (World.cell?_of_block e).trans hc
def PF (n0 : Nat) (w : World) : Addr → F → List (Array Value) → Prop
 | _, .nil, M => M = []
 | a, .node _ _ l f r, M => ∃ p n c M1 M2, a.block < n0 ∧ (∀ j v, (lcl l (.slice p n c))[j]? = some v → w.cell? (a.add j) = some v) ∧ n = (kids f).length ∧ ((f = .nil ∧ M1 = []) ∨ ∃ a', p = some a' ∧ PF n0 w a' f M1) ∧ PF n0 w (a.add 18) r M2 ∧ M = lcs l (.slice p n c) :: (M1 ++ M2)
def PS (n0 : Nat) (w : World) (p : Option Addr) (n : Nat) (f : F) (M : List (Array Value)) : Prop := n = (kids f).length ∧ ((f = .nil ∧ M = []) ∨ ∃ a, p = some a ∧ PF n0 w a f M)
def PN (n0 : Nat) (w : World) (es : Array Value) (t : T) (M : List (Array Value)) : Prop := ∃ p n c M1, es = lcs t.1 (.slice p n c) ∧ PS n0 w p n t.2 M1 ∧ M = es :: M1
theorem add_block (a : Addr) (k : Nat) : (a.add k).block = a.block := by unfold Addr.add; split <;> rfl
theorem PF.of : ∀ {f : F} {w : World} {a : Addr}, InF w a f → ∃ M, PF w.heap.size w a f M ∧ M.length = size f := by
 intro f
 induction f with
 | nil => intro w a _; exact ⟨[], rfl, rfl⟩
 | node b o l f r ihf ihr =>
  intro w a h
  obtain ⟨⟨p, n, c, h1, h2, h3⟩, h4⟩ := h
  obtain ⟨M2, k1, k2⟩ := ihr h4
  have hb : a.block < w.heap.size := by
   have := World.block_lt_of_cell? w (a.add 0) (h1 0 _ rfl)
   rwa [add_block] at this
  rcases h3 with rfl | ⟨a', rfl, hi⟩
  ·exact ⟨lcs l (.slice p n c) :: ([] ++ M2), ⟨p, n, c, [], M2, hb, h1, h2, .inl ⟨rfl, rfl⟩, k1, rfl⟩, by simp [k2, size]; omega⟩
  ·obtain ⟨M1, j1, j2⟩ := ihf hi
   exact ⟨lcs l (.slice (some a') n c) :: (M1 ++ M2), ⟨some a', n, c, M1, M2, hb, h1, h2, .inr ⟨a', rfl, j1⟩, k1, rfl⟩, by simp [k2, j2, size]; omega⟩
theorem PN.of {w : World} {es : Array Value} {t : T} (h : NT w es t) : ∃ M, PN w.heap.size w es t M ∧ M.length = zT t := by
 obtain ⟨p, n, c, rfl, h1, h2⟩ := h
 rcases h2 with h2 | ⟨a, rfl, hi⟩
 ·refine ⟨_, ⟨p, n, c, [], rfl, ⟨h1, .inl ⟨h2, rfl⟩⟩, rfl⟩, ?_⟩
  unfold zT; rw [h2]; rfl
 ·obtain ⟨M, j1, j2⟩ := PF.of hi
  exact ⟨_, ⟨_, n, c, M, rfl, ⟨h1, .inr ⟨a, rfl, j1⟩⟩, rfl⟩, by simp [j2, zT]⟩
theorem PF.keep {n0 B : Nat} (hB : n0 ≤ B) : ∀ {f : F} {w w' : World} {a : Addr} {M : List (Array Value)}, PF n0 w a f M → KC B w w' → PF n0 w' a f M := by
 intro f
 induction f with
 | nil => intro w w' a M h _; exact h
 | node b o l f r ihf ihr =>
  intro w w' a M h k
  obtain ⟨p, n, c, M1, M2, h0, h1, h2, h3, h4, h5⟩ := h
  exact ⟨p, n, c, M1, M2, h0, fun j v hj => k.cell (h1 j v hj) (by rw [add_block]; omega), h2, h3.imp id fun ⟨a', e, hi⟩ => ⟨a', e, ihf hi k⟩, ihr h4 k, h5⟩
theorem PS.keep {n0 B : Nat} (hB : n0 ≤ B) {f : F} {w w' : World} {p : Option Addr} {n : Nat} {M : List (Array Value)} (h : PS n0 w p n f M) (k : KC B w w') : PS n0 w' p n f M :=
 ⟨h.1, h.2.imp id fun ⟨a, e, hi⟩ => ⟨a, e, hi.keep hB k⟩⟩
theorem PF.split {n0 : Nat} : ∀ {f : F} {w : World} {a : Addr} {M : List (Array Value)}, PF n0 w a f M → ∃ Ms : List (List (Array Value)), M = Ms.flatten ∧ Ms.length = (kids f).length ∧
  ∀ k (h1 : k < Ms.length) (h2 : k < (kids f).length), ∃ es, (∀ j v, es.toList[j]? = some v → w.cell? ((a.add (k * 18)).add j) = some v) ∧ PN n0 w es (kids f)[k] Ms[k] := by
 intro f
 induction f with
 | nil => intro w a M h; exact ⟨[], h, rfl, fun k h1 => by cases h1⟩
 | node b o l f r ihf ihr =>
  intro w a M h
  obtain ⟨p, n, c, M1, M2, h0, h1, h2, h3, h4, h5⟩ := h
  obtain ⟨Ms, e1, e2, e3⟩ := ihr h4
  refine ⟨(lcs l (.slice p n c) :: M1) :: Ms, by rw [h5, e1]; simp, by simp [kids, e2], fun k g1 g2 => ?_⟩
  cases k with
  | zero =>
   refine ⟨lcs l (.slice p n c), fun j v hj => ?_, p, n, c, M1, rfl, ⟨h2, h3⟩, rfl⟩
   rw [Go.Deep.add_add, Nat.zero_mul, Nat.zero_add]
   exact h1 j v hj
  | succ k =>
   obtain ⟨es, d1, d2⟩ := e3 k (by simpa using g1) (by simpa [kids] using g2)
   refine ⟨es, fun j v hj => ?_, d2⟩
   have := d1 j v hj
   rw [Go.Deep.add_add, Go.Deep.add_add] at this
   rw [Go.Deep.add_add, show (k + 1) * 18 + j = 18 + (k * 18 + j) by omega]
   exact this
theorem PS.split {n0 : Nat} {f : F} {w : World} {p : Option Addr} {n : Nat} {M : List (Array Value)} (h : PS n0 w p n f M) : ∃ Ms : List (List (Array Value)), M = Ms.flatten ∧ Ms.length = n ∧
  ∀ k, k < n → ∃ a es t M1, p = some a ∧ (∀ j v, es.toList[j]? = some v → w.cell? ((a.add (k * 18)).add j) = some v) ∧ a.block < n0 ∧ (kids f)[k]? = some t ∧ Ms[k]? = some M1 ∧ PN n0 w es t M1 := by
 obtain ⟨h1, ⟨rfl, rfl⟩ | ⟨a, rfl, hi⟩⟩ := h
 ·exact ⟨[], rfl, by simpa [kids] using h1.symm, fun k hk => by simp [kids] at h1; omega⟩
 ·obtain ⟨Ms, e1, e2, e3⟩ := hi.split
  refine ⟨Ms, e1, by omega, fun k hk => ?_⟩
  obtain ⟨es, d1, d2⟩ := e3 k (by omega) (by omega)
  refine ⟨a, es, _, _, rfl, d1, ?_, List.getElem?_eq_getElem (by omega), List.getElem?_eq_getElem (by omega), d2⟩
  cases f with
  | nil => simp [kids] at h1; omega
  | node b o l f r =>
   obtain ⟨p, n, c, M1, M2, h0, _⟩ := hi
   exact h0
theorem wpListIn_load_run {F : Fence} {n : Nat} {P : Program} {ops : Array Oper} {rest : List Oper} {o : Oper} {a : Act} {w : World} {Q : Exit → Act → World → Prop} (hgd : o.guard = none) (ty : TypeId) (x : Operand) (ho : o.op = .load ty x)
  (p v : Value) (hx : a.eval x = p) (hrun : (Instr.loadAt ty p).run P w = .ok v w) (h : wpListIn F n P ops Q rest (a.put o.dst v) w) : wpListIn F n P ops Q (o :: rest) a w := by
 refine wpListIn_plain hgd fun K hK => ?_
 unfold Oper.wpIn
 refine ⟨by simp [Oper.about, ho], ?_⟩
 rw [Oper.semAt_plain F _ _ (by rw [ho]; intro c hc; cases hc)]
 simp only [execOp, ho, hx, Sem.run_bind, Sem.run_pure, hrun, Result.andThen_ok]
 exact hK _ _ h
theorem wpListIn_store_run {F : Fence} {n : Nat} {P : Program} {ops : Array Oper} {rest : List Oper} {o : Oper} {a : Act} {w : World} {Q : Exit → Act → World → Prop} (hgd : o.guard = none) (ty : TypeId) (x y : Operand) (ho : o.op = .store ty x y)
  (p v : Value) (w' : World) (hx : a.eval x = p) (hy : a.eval y = v) (hrun : (Instr.storeAt ty p v).run P w = .ok () w') (h : wpListIn F n P ops Q rest (a.put o.dst undef) w') : wpListIn F n P ops Q (o :: rest) a w := by
 refine wpListIn_plain hgd fun K hK => ?_
 unfold Oper.wpIn
 refine ⟨by simp [Oper.about, ho], ?_⟩
 rw [Oper.semAt_plain F _ _ (by rw [ho]; intro c hc; cases hc)]
 simp only [execOp, ho, hx, hy, Sem.run_bind, Sem.run_pure, hrun, Result.andThen_ok]
 exact hK _ _ h
theorem PS.step {n0 B : Nat} (hB : n0 ≤ B) {f : F} {w u : World} {p : Option Addr} {n : Nat} {M : List (Array Value)} (h : PS n0 w p n f M) (hk : KC B w u) : ∃ Ms : List (List (Array Value)), M = Ms.flatten ∧ Ms.length = n ∧
  ∀ k, k < n → ∀ u, KC B w u → ∃ a es t M1, p = some a ∧ (Instr.loadAt 67 (.pointer (some (a.add (k * 18))))).run Tryz.prog u = .ok (.agg es) u ∧ (kids f)[k]? = some t ∧ Ms[k]? = some M1 ∧ PN n0 u es t M1 := by
 obtain ⟨Ms, e1, e2, e3⟩ := h.split
 refine ⟨Ms, e1, e2, fun k hk u hu => ?_⟩
 obtain ⟨a, es, t, M1, d1, d2, d3, d4, d5, d6⟩ := e3 k hk
 obtain ⟨p', n', c', M1', rfl, d7, rfl⟩ := d6
 refine ⟨a, _, t, _, d1, ?_, d4, d5, p', n', c', M1', rfl, d7.keep hB hu, rfl⟩
 exact run_loadVar_any u _ 67 (lcl t.1 (.slice p' n' c')) _ (fun j v hj => hu.cell (d2 j v hj) (by rw [add_block, add_block]; omega)) Tryz.underlying67 rfl (by rw [lcl_len]; exact inf67)
theorem nboxP (w : World) {n0 : Nat} {es : Array Value} {t : T} {M : List (Array Value)} (h : PN n0 w es t M) :
  (Instr.storeAt 67 (.pointer (some ⟨w.heap.size, 0, none⟩)) (.agg es)).run Tryz.prog (w.alloc (.cells nd0 67)) = .ok () (w.alloc (.cells es 67)) ∧
  ∀ (u : World) (g : Nat), u.heap[g]? = some (.cells es 67) → (Instr.loadAt 67 (.pointer (some ⟨g, 0, none⟩))).run Tryz.prog u = .ok (.agg es) u := by
 obtain ⟨p, n, c, M1, rfl, hs, _⟩ := h
 refine ⟨run_storeAt_new w 67 nd0 _ (by rw [lcs_size]; exact inf67) rfl (lcs_all _ _ _ _), fun u g hu => ?_⟩
 exact lod (z := (0, 0)) hu rfl Tryz.underlying67 (by rw [lcs_size]; exact inf67)
theorem flat_take {β : Type} {Ms : List (List β)} {k : Nat} {M1 : List β} (h : Ms[k]? = some M1) : (Ms.take (k + 1)).flatten = (Ms.take k).flatten ++ M1 := by
 rw [List.take_add_one, h]; simp
theorem map_split {α β : Type} (enc : α → β) : ∀ (Ms : List (List β)) (L : List α), L.map enc = Ms.flatten → ∃ Ls : List (List α), L = Ls.flatten ∧ Ms = Ls.map (·.map enc)
 | [], L, h => ⟨[], by simpa using h, rfl⟩
 | M :: Ms, L, h => by
  rw [List.flatten_cons] at h
  obtain ⟨L1, L2, rfl, e1, e2⟩ := List.map_eq_append_iff.1 h
  obtain ⟨Ls, rfl, rfl⟩ := map_split enc Ms L2 e2
  exact ⟨L1 :: Ls, rfl, by rw [List.map_cons, e1]⟩
theorem tell_in (F : Fence) (hd : F.depth = none) (h51 : F.fn 120) (hro : F.round = none) {α : Type} (enc : α → Array Value) (l n0 B N : Nat) (hB : n0 ≤ B) (J Jx : List α → World → Prop) (hJ : ∀ s W o, J s W → J s (W.alloc o))
  (hY : ∀ m pre x W, J pre W → pre.length < N → YieldAt F m Tryz.prog l #[.agg (enc x)] W fun e W' =>
   (e = .returned (.bool true) ∧ J (pre ++ [x]) W' ∧ KC B W W') ∨ (e = .returned (.bool false) ∧ Jx (pre ++ [x]) W')) :
  ∀ (t : T) (n : Nat) (es : Array Value) (L pre : List α) (W : World), zT t ≤ 1000000 → PN n0 W es t (L.map enc) → J pre W → B < W.heap.size → pre.length + L.length ≤ N →
   CallsIn F n Tryz.prog 120 #[.agg es, .func (.yield l) #[] #[]] W fun e W' =>
    (e = .returned (.bool true) ∧ J (pre ++ L) W' ∧ KC B W W') ∨ (e = .returned (.bool false) ∧ ∃ q, q <+: L ∧ Jx (pre ++ q) W') := by
 refine ind ?_
 intro t ih n es L pre W hz hP hj hBW hN
 have hdd : ∀ k : Nat, (F.depth.isSome = true → 1 ≤ k) := fun k h => by rw [hd] at h; cases h
 obtain ⟨_, hbx⟩ := nboxP W hP
 obtain ⟨p, m, c, M1, rfl, hs, hM⟩ := hP
 obtain ⟨x, L1, rfl, hx, hL1⟩ : ∃ x L1, L = x :: L1 ∧ enc x = lcs t.1 (.slice p m c) ∧ L1.map enc = M1 := by
  cases L with
  | nil => cases hM
  | cons x L1 => rw [List.map_cons, List.cons.injEq] at hM; exact ⟨x, L1, rfl, hM.1, hM.2⟩
 obtain ⟨Ms, e1, e2, e3⟩ := hs.step hB (KC.refl B W)
 obtain ⟨Ls, rfl, rfl⟩ := map_split enc Ms L1 (hL1.trans e1)
 rw [List.length_map] at e2
 have hm : m ≤ 1000000 := by
  have h1 := hs.1
  have : (kids t.2).length ≤ size t.2 := by
   rw [← pre_len, pre_kids]
   have : ∀ l : List T, l.length ≤ (l.flatMap preT).length := by
    intro l
    induction l with
    | nil => exact Nat.zero_le _
    | cons a l ih => rw [List.flatMap_cons, List.length_append, List.length_cons, preT, List.length_cons]; omega
   exact this _
  unfold zT at hz
  omega
 have HIH : Hid (∀ k, k < m → ∀ u, KC B W u → ∀ pre', J pre' u → pre'.length + (Ls[k]?.getD []).length ≤ N → ∃ a es, p = some a ∧ (Instr.loadAt 67 (.pointer (some (a.add (k * 18))))).run Tryz.prog u = .ok (.agg es) u ∧
   (Instr.storeAt 67 (.pointer (some ⟨u.heap.size, 0, none⟩)) (.agg es)).run Tryz.prog (u.alloc (.cells nd0 67)) = .ok () (u.alloc (.cells es 67)) ∧
   (Instr.loadAt 67 (.pointer (some ⟨u.heap.size, 0, none⟩))).run Tryz.prog (u.alloc (.cells es 67)) = .ok (.agg es) (u.alloc (.cells es 67)) ∧
   ∀ n, CallsIn F n Tryz.prog 120 #[.agg es, .func (.yield l) #[] #[]] (u.alloc (.cells es 67)) fun e W' =>
    (e = .returned (.bool true) ∧ J (pre' ++ (Ls[k]?.getD [])) W' ∧ KC B u W') ∨ (e = .returned (.bool false) ∧ ∃ q, q <+: (Ls[k]?.getD []) ∧ Jx (pre' ++ q) W')) := by
  intro k hk u hu pre' hj' hl'
  obtain ⟨a, es, s, M1', d1, d2, d3, d4, d5⟩ := e3 k hk u hu
  obtain ⟨b1, b2⟩ := nboxP u d5
  refine ⟨a, es, d1, d2, b1, b2 _ _ (heap_alloc_new u _), fun n => ?_⟩
  rw [List.getElem?_map] at d4
  obtain ⟨Lk, f1, f2⟩ := Option.map_eq_some_iff.1 d4
  rw [f1] at hl' ⊢
  simp only [Option.getD_some] at hl' ⊢
  have hmem := List.mem_of_getElem? d3
  refine (ih s hmem n es Lk pre' (u.alloc (.cells es 67)) (by have := zT_kid hmem; omega) ?_ (hJ _ _ _ hj') (by have := hu.1; simp; omega) hl').mono ?_
  ·rw [f2]
   obtain ⟨p', n', c', M', g1, g2, g3⟩ := d5
   exact ⟨p', n', c', M', g1, g2.keep hB (KC.below (bel_alloc (Below.refl _ _) _)), g3⟩
  ·rintro e W' (⟨rfl, h1, h2⟩ | h)
   ·exact .inl ⟨rfl, h1, (KC.below (bel_alloc (Below.refl _ _) _)).trans h2⟩
   ·exact .inr h
 have HPRE : Hid (∀ k, k ≤ m → (pre ++ [x] ++ (Ls.take k).flatten).length + (Ls[k]?.getD []).length ≤ N) := by
  intro k hk
  have : (Ls.take k).flatten.length + (Ls[k]?.getD []).length ≤ Ls.flatten.length := by
   have h1 : Ls = Ls.take k ++ Ls.drop k := (List.take_append_drop k Ls).symm
   have h2 : (Ls[k]?.getD []).length ≤ (Ls.drop k).flatten.length := by
    cases hq : Ls[k]? with
    | none => simp
    | some y =>
     have hlt := (List.getElem?_eq_some_iff.1 hq).1
     rw [List.drop_eq_getElem_cons hlt, (List.getElem?_eq_some_iff.1 hq).2]
     simp
   have h3 := congrArg (fun l => (List.flatten l).length) h1
   simp only [List.flatten_append, List.length_append] at h3
   omega
  simp only [List.length_append, List.length_cons, List.length_nil] at hN ⊢
  omega
 have HX : Hid (∀ k, k < m → (Ls.take (k + 1)).flatten = (Ls.take k).flatten ++ (Ls[k]?.getD [])) := fun k hk => by
  have : Ls[k]? = some (Ls[k]'(by omega)) := List.getElem?_eq_getElem (by omega)
  rw [flat_take this, this]; rfl
 have HFX : Hid (∀ k q, k < m → q <+: (Ls[k]?.getD []) → x :: ((Ls.take k).flatten ++ q) <+: x :: Ls.flatten) := fun k q hk hq => by
  refine List.cons_prefix_cons.2 ⟨rfl, ?_⟩
  have h0 := HX.out k hk
  have h1 : (Ls.take k).flatten ++ q <+: (Ls.take (k + 1)).flatten := by rw [h0]; exact List.prefix_append_right_inj _ |>.2 hq
  refine h1.trans ?_
  conv => rhs; rw [← List.take_append_drop (k + 1) Ls]
  rw [List.flatten_append]
  exact List.prefix_append _ _
 have HALL : Hid ((Ls.take m).flatten = Ls.flatten) := by show _ = _; rw [List.take_of_length_le (by omega)]
 have h17 : ∀ u, KC B (W.alloc (.cells (lcs t.1 (.slice p m c)) 67)) u → u.cell? ⟨W.heap.size, 17, none⟩ = some (.slice p m c) := fun u hu =>
  hu.cell (cell17 (heap_alloc_new W _)) (by show W.heap.size ≠ B; omega)
 have HK0 : KC B W (W.alloc (.cells (lcs t.1 (.slice p m c)) 67)) := KC.below (bel_alloc (Below.refl _ _) _)
 have HY1 : YieldAt F (n - 1) Tryz.prog l #[.agg (lcs t.1 (.slice p m c))] (W.alloc (.cells (lcs t.1 (.slice p m c)) 67)) fun e W2 =>
   (e = .returned (.bool true) ∧ W2.cell? ⟨W.heap.size, 17, none⟩ = some (.slice p m c) ∧ Hid (J (pre ++ [x]) W2) ∧ Hid (KC B W W2)) ∨ (e = .returned (.bool false) ∧ Hid (Jx (pre ++ [x]) W2)) := by
  rw [← hx]
  exact YieldAt.mono (hY (n - 1) pre x _ (hJ _ _ _ hj) (by simp at hN; omega)) fun e W2 h => h.elim (fun ⟨a, b, d⟩ => .inl ⟨a, h17 _ (by rw [hx] at d; exact d), b, HK0.trans (by rw [hx] at d; exact d)⟩) .inr
 have HRL : Hid _ := hbx _ _ (heap_alloc_new W _)
 clear h17 hbx e3 ih hY hs hx hL1 hz hM e1 hj HK0
 generalize lcs t.1 (.slice p m c) = bx at *
 obtain ⟨fn, tmps, assign, body, hy, hR⟩ := HY1
 refine callsIn_of_wp Tryz.func120 rfl h51 ?_ hro
 simp only [Tryz.ntmps120, List.size_toArray, List.length_cons, List.length_nil, Nat.reduceAdd, Nat.reduceSub, Array.replicate_succ, Array.replicate_zero, List.push_toArray, List.append_toArray, List.nil_append, List.cons_append]
 gi_wp2_with (first
  | (refine wpListIn_load_run rfl 67 _ rfl _ _ rfl HRL.out ?_)
  | ((try refine ⟨hdd _, ?_⟩); refine hR.mono ?_; clear hR; rintro e W2 (⟨rfl, c17, HJ2, HK2⟩ | ⟨rfl, HX2⟩)))
 ·gi_loopw [14] (fun i wr => ∃ k : Nat, k ≤ m ∧ i = .int .i64 (k : Nat) ∧ Hid (J (pre ++ [x] ++ (Ls.take k).flatten) wr) ∧ Hid (KC B W wr)) (fun i _ => m - (intOf i).toNat)
  case atStart => exact ⟨0, Nat.zero_le _, rfl, by show J _ _; simpa using HJ2.out, HK2⟩
  case round =>
   obtain ⟨k, hk, rfl, HJ, HK⟩ := hrel
   by_cases hlt : k < m
   ·have hki : (k : Int) < m := by omega
    obtain ⟨a', es, rfl, rl, rs, rl2, hC⟩ := HIH.out k hlt wr HK.out _ HJ.out (HPRE.out k hk)
    have RL : Hid _ := rl
    have RS : Hid _ := rs
    have RL2 : Hid _ := rl2
    clear rl rs rl2
    have C : ∀ n, CallsIn F n Tryz.prog 120 #[.agg es, .func (.yield l) #[] #[]] (wr.alloc (.cells es 67)) fun e W' =>
      (e = .returned (.bool true) ∧ Hid (J (pre ++ [x] ++ (Ls.take (k + 1)).flatten) W') ∧ Hid (KC B W W')) ∨ (e = .returned (.bool false) ∧ Hid (∃ q, q <+: x :: Ls.flatten ∧ Jx (pre ++ q) W')) := fun n => (hC n).mono (by
     rintro e W' (⟨rfl, h1, h2⟩ | ⟨rfl, q, h1, h2⟩)
     ·exact .inl ⟨rfl, by show J _ _; rw [HX.out k hlt, ← List.append_assoc]; exact h1, HK.out.trans h2⟩
     ·exact .inr ⟨rfl, x :: ((Ls.take k).flatten ++ q), HFX.out k q hlt h1, by simpa using h2⟩)
    clear hC
    gi_wp2_with (first
     | (refine wpListIn_load_run rfl 67 _ rfl _ _ rfl RL.out ?_)
     | (refine wpListIn_store_run rfl 67 _ _ rfl _ _ _ rfl rfl RS.out ?_)
     | (refine wpListIn_load_run rfl 67 _ rfl _ _ rfl RL2.out ?_)
     | ((try refine ⟨hdd _, ?_⟩); gi_at_call 120; refine (C _).mono ?_; clear C; rintro e W3 (⟨rfl, HJ3, HK3⟩ | ⟨rfl, HX3⟩)))
    ·go_roundw
     case rel => exact ⟨k + 1, by omega, by go_num, HJ3, HK3⟩
     case measure => simp [intOf]; omega
    ·go_ret
     exact .inr ⟨rfl, HX3.out⟩
   ·have hki : ¬ (k : Int) < m := by omega
    have hkm : k = m := by omega
    have HJm : Hid (J (pre ++ x :: Ls.flatten) wr) := by
     show J _ _
     have := HJ.out
     rw [hkm, HALL.out] at this
     simpa using this
    clear hkm
    gi_wp2
    go_ret
    exact .inl ⟨rfl, HJm.out, HK.out⟩
 ·go_ret
  exact .inr ⟨rfl, [x], List.cons_prefix_cons.2 ⟨rfl, List.nil_prefix⟩, HX2.out⟩
end Go.Proofs.YtnibldnfbikipaaGreatDoor
namespace Go.Proofs.YtnibldnfbikipaaGreatDoor
open Go.RowKit Go.Shelf Go.Fm
attribute [local go_sem] Oper.semAt_some
theorem nodes1_in (F : Fence) (hd : F.depth = none) (n : Nat) (h50 : F.fn 119) (h51 : F.fn 120) (hro : F.round = none) {α : Type} (enc : α → Array Value) (l Bt n0 B : Nat) (hB : n0 ≤ B) (es : Array Value) (t : T) (hz : zT t ≤ 1000000) (L : List α) (J Jx : List α → World → Prop) (hJ : ∀ s W o, J s W → J s (W.alloc o))
  (hY : ∀ pre x W, J pre W → pre.length < L.length → YieldAt F (n - 1) Tryz.prog l #[.agg (enc x)] W fun e W' =>
   (e = .returned (.bool true) ∧ J (pre ++ [x]) W' ∧ KC B W W') ∨ (e = .returned (.bool false) ∧ Jx (pre ++ [x]) W'))
  (W : World) (hBt : W.heap[Bt]? = some (.cells es 67)) (hT : PN n0 W es t (L.map enc)) (h0 : J [] W) (hBW : B < W.heap.size) :
  CallsIn F n Tryz.prog 119 #[.func (.yield l) #[] #[], .pointer (some ⟨Bt, 0, none⟩)] W fun e W' => (∃ v, e = .returned v) ∧
   ((∃ ys, ys = L ∧ J ys W') ∨ (∃ pre, pre <+: L ∧ Jx pre W')) := by
 have hdd : ∀ k : Nat, (F.depth.isSome = true → 1 ≤ k) := fun k h => by rw [hd] at h; cases h
 have RL : Hid _ := (nboxP W hT).2 W Bt hBt
 have hp := tell_in F hd h51 hro enc l n0 B L.length hB J Jx hJ (fun m pre x W hj hl => yield_any hd m (hY pre x W hj hl)) t (n - 1) es L [] W hz hT h0 hBW (by simp)
 clear hT hBt hY
 refine callsIn_of_wp Tryz.func119 rfl h50 ?_ hro
 simp only [Tryz.ntmps119, List.size_toArray, List.length_cons, List.length_nil, Nat.reduceAdd, Nat.reduceSub, Array.replicate_succ, Array.replicate_zero, List.push_toArray, List.append_toArray, List.nil_append, List.cons_append]
 gi_wp2_with (first
  | (refine wpListIn_load_run rfl 67 _ rfl _ _ rfl RL.out ?_)
  | ((try refine ⟨hdd _, ?_⟩); gi_at_call 120; refine hp.mono ?_; clear hp; rintro e W1 (⟨rfl, hJ1, _⟩ | ⟨rfl, q, hq, hx⟩)))
 ·go_end0
  exact ⟨⟨_, rfl⟩, .inl ⟨_, rfl, by simpa using hJ1⟩⟩
 ·go_end0
  exact ⟨⟨_, rfl⟩, .inr ⟨q, hq, by simpa using hx⟩⟩
theorem nodes_in (F : Fence) (n : Nat) (h33 : F.fn 85) (hro : F.round = none) (es : Array Value) (w : World) :
  CallsIn F n Tryz.prog 85 #[.agg es] w fun e w' => e = .returned (.func (.func 119) #[] #[.pointer (some ⟨w.heap.size, 0, none⟩)]) ∧ w' = w.alloc (.cells es 67) := by
 refine callsIn_of_wp Tryz.func85 rfl h33 ?_ hro
 simp only [Tryz.ntmps85, List.size_toArray, List.length_cons, List.length_nil, Nat.reduceAdd, Nat.reduceSub, Array.replicate_succ, Array.replicate_zero, List.push_toArray, List.append_toArray, List.nil_append, List.cons_append]
 gi_wp2
 go_ret
 exact ⟨rfl, rfl⟩
theorem nodes_stops (F : Fence) (hd : F.depth = none) (n : Nat) (h50 : F.fn 119) (h51 : F.fn 120) (hro : F.round = none) {α : Type} (enc : α → Array Value) (Bt n0 B : Nat) (hB : n0 ≤ B) (es : Array Value) (t : T) (hz : zT t ≤ 1000000) (L : List α) (w : World) (hBt : w.heap[Bt]? = some (.cells es 67)) (hT : PN n0 w es t (L.map enc)) (hBw : B < w.heap.size) :
  SeqStopsK F n Tryz.prog 119 #[.pointer (some ⟨Bt, 0, none⟩)] (fun x : α => #[Value.agg (enc x)]) (KC B) (fun ys => ys = L) (fun pre => pre <+: L) L.length w := fun l J Jx W hW hJ _ hY h0 =>
 nodes1_in F hd n h50 h51 hro enc l Bt n0 B hB es t hz L J Jx (fun s W1 o h => hJ s W1 _ none h (World.grownBy_alloc W1 o none) (fun r e => by cases e)) hY W ((hW.block _ (lt_of hBt)).trans hBt) (by
  obtain ⟨p', n', c', M', g1, g2, g3⟩ := hT
  exact ⟨p', n', c', M', g1, g2.keep hB (KC.below hW), g3⟩) h0 (by have := hW.size; omega)
theorem kc_set {B : Nat} {W : World} {v : Value} : KC B W (W.setCell ⟨B, 0, none⟩ v) := ⟨by simp [World.setCell], fun i o hi _ hne => by
 simp only [World.setCell]
 rw [Array.getElem?_modify, if_neg (fun e => hne e.symm)]
 exact hi⟩
theorem fsize_any (t : T) (hz : zT t ≤ 1000000) (w : World) (es : Array Value) (h : NT w es t) : Calls Tryz.prog 46 #[.agg es] w fun e w' => e = .returned (.int .i64 (zT t : Nat)) ∧ Below w.heap.size w w' := by
 obtain ⟨M, hP, hM⟩ := PN.of h
 refine (callsIn_wide (n := 100)).1 ?_
 have hro : Fence.wide.round = none := rfl
 have hd : Fence.wide.depth = none := rfl
 have hdd : ∀ k : Nat, (Fence.wide.depth.isSome = true → 1 ≤ k) := fun k h => by rw [hd] at h; cases h
 have HB0 : Hid (Below w.heap.size w (((w.alloc (.cells es 67)).alloc (.cells #[.int .i64 0] 3)).alloc (.cells es 67))) := bel_alloc (bel_alloc (bel_alloc (Below.refl _ _) _) _) _
 have hs := nodes_stops Fence.wide hd 99 trivial trivial hro (α := Array Value) id (w.heap.size + 2) w.heap.size (w.heap.size + 1) (by omega) es t hz M (((w.alloc (.cells es 67)).alloc (.cells #[.int .i64 0] 3)).alloc (.cells es 67)) (by
   have := heap_alloc_new ((w.alloc (.cells es 67)).alloc (.cells #[.int .i64 0] 3)) (.cells es 67)
   simpa using this) (by
  obtain ⟨p', n', c', M', g1, g2, g3⟩ := hP
  rw [List.map_id]
  exact ⟨p', n', c', M', g1, g2.keep (B := w.heap.size) (Nat.le_refl _) (KC.below HB0.out), g3⟩) (by simp)
 have RL : Hid _ := (nboxP w hP).2 ((w.alloc (.cells es 67)).alloc (.cells #[.int .i64 0] 3)) w.heap.size ((Below.heap_alloc _ _ _ (by simp)).trans (heap_alloc_new w _))
 clear hP h
 refine callsIn_of_wp_marks Tryz.func46 rfl trivial ?_ hro
 simp only [Tryz.ntmps46, List.size_toArray, List.length_cons, List.length_nil, Nat.reduceAdd, Nat.reduceSub, Array.replicate_succ, Array.replicate_zero, List.push_toArray, List.append_toArray, List.nil_append, List.cons_append]
 gi_wp2_with (first
  | (refine wpListIn_load_run rfl 67 _ rfl _ _ rfl RL.out ?_)
  | (refine ⟨trivial, ?_⟩; gi_at_call 85; refine (nodes_in Fence.wide _ trivial hro _ _).mono ?_; rintro e w' ⟨rfl, rfl⟩))
 have hc0 := cell_of_row (((w.alloc (.cells es 67)).alloc (.cells #[.int .i64 0] 3)).alloc (.cells es 67)) (w.heap.size + 1) 0 #[.int .i64 0] 3 (0, 0) ((Below.heap_alloc _ _ _ (by simp)).trans (by have := heap_alloc_new (w.alloc (.cells es 67)) (.cells #[.int .i64 0] 3); simpa using this))
 have hh0 : (((w.alloc (.cells es 67)).alloc (.cells #[.int .i64 0] 3)).alloc (.cells es 67)).heap[w.heap.size + 1]? = some (.cells #[.int .i64 0] 3) := (Below.heap_alloc _ _ _ (by simp)).trans (by have := heap_alloc_new (w.alloc (.cells es 67)) (.cells #[.int .i64 0] 3); simpa using this)
 refine wpIn_rangeFunc_ownF hro (by omega) (gf := 119) (lb := #[.pointer (some ⟨w.heap.size + 2, 0, none⟩)]) rfl trivial (enters_of Tryz.func119 (by kernel_rfl) rfl) hs KC.trans KC.put (Below.refl _ _) (fun _ => rfl)
  (fun pre W => (W.cell? ⟨w.heap.size + 1, 0, none⟩ = some (.int .i64 (pre.length : Nat)) ∧ W.frozen? ⟨w.heap.size + 1, 0, none⟩ = false) ∧ Below w.heap.size w W)
  (fun _ _ _ => False)
  (OwnFrom.and (Own.from (fun s A B row hs hg hr => ⟨cell_kept hs.1 hg hr, (frozen_kept hs.1 hg hr).trans hs.2⟩) _) (ownFrom_below (Nat.le_refl _) (by simp; omega)))
  (fun _ _ _ _ _ hs _ _ => hs)
  ⟨⟨by rw [hc0]; rfl, by unfold World.frozen?; rw [hh0]; rfl⟩, HB0.out⟩
  (fun x => { tmps := #[.agg es, .pointer (some ⟨w.heap.size, 0, none⟩), .int .i64 0, .pointer (some ⟨w.heap.size + 1, 0, none⟩), .agg es, .func (.func 119) #[] #[.pointer (some ⟨w.heap.size + 2, 0, none⟩)], .agg x, undef, undef, undef], defers := [] }) ?assign ?body ?done ?stop
 case assign =>
  intro l x W K hK
  gi_wp2
  simpa using hK
 case body =>
  rintro l pre x W ⟨⟨hc, hf⟩, hB⟩ hlt
  have hl : pre.length < 1000000 := by omega
  generalize hk : pre.length = k at *
  gi_wp2
  refine ⟨KeepsOthers.setCell _ _ _, kc_set, ⟨?_, by rw [World.frozen?_setCell]; exact hf⟩, hB.setCell (p := ⟨w.heap.size + 1, 0, none⟩) (by simp) _⟩
  rw [List.length_append, hk]
  exact World.cell?_setCell_same' _ _ _ (by rw [hc]; rfl)
 case done =>
  rintro D ys W hD rfl ⟨⟨hc, _⟩, hB⟩ hK
  rw [hM] at hc
  gi_wp2
  refine ⟨by simp, .inl ⟨_, _, rfl, run_takeDeferred hK, ?_⟩⟩
  exact ⟨_, results_tmp rfl _ _ _, rfl, hB.trans (belowK_b (w := w) (Nat.le_refl _) W D _ _ (by simp at hD; omega) hK rfl rfl)⟩
 case stop =>
  rintro D c pre W _ _ h _
  exact h.elim
end Go.Proofs.YtnibldnfbikipaaGreatDoor
