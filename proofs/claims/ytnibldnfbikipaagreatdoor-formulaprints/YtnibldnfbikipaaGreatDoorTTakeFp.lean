/- TPure, TMem, TRune, TTake. -/
import Derived.Deep.MidRow
import Derived.Deep.WholeRow
import Derived.Laws.EntriesVeiled
import Derived.Laws.ResultCell
import Derived.Laws.Rows
import Derived.Lib.BufferOwn
import Derived.Maps.AppendAt
import Derived.Maps.Range
import Derived.Test.YtnibldnfbikipaaGreatDoorARParseRefFp
set_option linter.unusedVariables false
set_option linter.unusedSimpArgs false
set_option maxHeartbeats 16000000
set_option maxRecDepth 100000
namespace Go.Tk
open Go.Ad
def runC (c : UInt8) : Bool := isL c || isD c || c == 95 || c == 36
def numC (c : UInt8) : Bool := isD c || c == 46
abbrev Tok := Sum Int (Sum (List UInt8) (Sum Ref (Sum (List UInt8 × List UInt8) (Sum (List UInt8) Nat))))
abbrev Tok.num (n : Int) : Tok := .inl n
abbrev Tok.str (s : List UInt8) : Tok := .inr (.inl s)
abbrev Tok.ref (r : Ref) : Tok := .inr (.inr (.inl r))
abbrev Tok.word (b s : List UInt8) : Tok := .inr (.inr (.inr (.inl (b, s))))
abbrev Tok.op (s : List UInt8) : Tok := .inr (.inr (.inr (.inr (.inl s))))
abbrev Tok.bad (n : Nat) : Tok := .inr (.inr (.inr (.inr (.inr n))))
theorem Tok.cs {motive : Tok → Prop} (num : ∀ n, motive (Tok.num n)) (str : ∀ s, motive (Tok.str s)) (ref : ∀ r, motive (Tok.ref r)) (word : ∀ b s, motive (Tok.word b s)) (op : ∀ s, motive (Tok.op s)) (bad : ∀ n, motive (Tok.bad n)) (t : Tok) : motive t := by
 rcases t with n | s | r | ⟨b, s⟩ | s | n
 ·exact num n
 ·exact str s
 ·exact ref r
 ·exact word b s
 ·exact op s
 ·exact bad n
def quoF : List UInt8 → Option (List UInt8 × List UInt8)
 | [] => none
 | [c] => if c = 34 then some ([], []) else none
 | c :: d :: r => if c = 34 then (if d = 34 then (quoF r).map fun p => (34 :: p.1, p.2) else some ([], d :: r)) else (quoF (d :: r)).map fun p => (c :: p.1, p.2)
def quoW : List UInt8 → List UInt8
 | [] => [34]
 | c :: r => if c = 34 then 34 :: 34 :: quoW r else c :: quoW r
def errN : Nat → List UInt8
 | 1 => [35, 68, 73, 86, 47, 48, 33]
 | 2 => [35, 86, 65, 76, 85, 69, 33]
 | 3 => [35, 82, 69, 70, 33]
 | 4 => [35, 78, 65, 77, 69, 63]
 | 5 => [35, 78, 85, 77, 33]
 | 6 => [35, 78, 47, 65]
 | 7 => [35, 67, 89, 67, 76, 69, 33]
 | 8 => [35, 76, 73, 78, 75, 33]
 | _ => []
def badF (l : List UInt8) : Option (Tok × List UInt8) := ([1, 2, 3, 4, 5, 6, 7, 8].find? fun i => (errN i).isPrefixOf l).map fun i => (.bad i, l.drop (errN i).length)
def ones : List UInt8 := [43, 45, 42, 47, 94, 38, 61, 60, 62, 37, 40, 41, 44, 58]
def two (c d : UInt8) : Bool := (c == 60 && d == 62) || (c == 60 && d == 61) || (c == 62 && d == 61)
def opF : List UInt8 → Option (Tok × List UInt8)
 | [] => none
 | [c] => if c ∈ ones then some (.op [c], []) else none
 | c :: d :: r => if two c d = true then some (.op [c, d], r) else if c ∈ ones then some (.op [c], d :: r) else none
section
variable (gn tru : List UInt8 → Bool) (pn : List UInt8 → Option Int) (wn : Int → List UInt8)
def tailN (b pre l : List UInt8) : Option (Tok × List UInt8) :=
 match l.dropWhile runC with
 | 33 :: r => (refP gn (pre ++ l.takeWhile runC ++ 33 :: r.takeWhile runC)).map fun x => (.ref x, r.dropWhile runC)
 | r => if b = [] then (match cellP (l.takeWhile runC) with
   | some c => some (.ref ⟨[], [], c⟩, r)
   | none => if gn (l.takeWhile runC) = true ∨ tru (l.takeWhile runC) = true then some (.word [] (l.takeWhile runC), r) else none)
  else if gn (l.takeWhile runC) = true then some (.word b (l.takeWhile runC), r) else none
def named (l : List UInt8) : Option (Tok × List UInt8) :=
 match l with
 | 91 :: m => match at_ 93 m with
  | none => none
  | some (a, r) => if gn a = true then tailN gn tru a (91 :: (a ++ [93])) r else none
 | l => tailN gn tru [] [] l
def one (l : List UInt8) : Option (Tok × List UInt8) :=
 match l with
 | [] => none
 | c :: r =>
  if isD c = true then (pn ((c :: r).takeWhile numC)).map fun n => (.num n, (c :: r).dropWhile numC)
  else if c = 34 then (quoF r).map fun p => (.str p.1, p.2)
  else if c = 35 then badF (c :: r)
  else if c = 91 ∨ c = 36 ∨ isL c = true then named gn tru (c :: r)
  else opF (c :: r)
def blank (c : UInt8) : Bool := c == 32 || c == 9
def lexN : Nat → List UInt8 → Option (List Tok)
 | 0, _ => none
 | _ + 1, [] => some []
 | k + 1, c :: r => if blank c = true then lexN k r else match one gn tru pn (c :: r) with
  | none => none
  | some (t, m) => (lexN k m).map (t :: ·)
def text : Tok → List UInt8
 | .inl n => wn n
 | .inr (.inl s) => 34 :: quoW s
 | .inr (.inr (.inl r)) => refW r
 | .inr (.inr (.inr (.inl (b, s)))) => if b = [] then s else 91 :: (b ++ 93 :: s)
 | .inr (.inr (.inr (.inr (.inl s)))) => s
 | .inr (.inr (.inr (.inr (.inr n)))) => errN n
end
theorem quo_len : ∀ (k : Nat) (l s r : List UInt8), l.length ≤ k → quoF l = some (s, r) → r.length < l.length
 | 0, l, s, r, hk, h => by
  have : l = [] := List.eq_nil_of_length_eq_zero (by omega)
  subst this; cases h
 | k + 1, [], s, r, hk, h => by cases h
 | k + 1, [c], s, r, hk, h => by
  unfold quoF at h
  split at h
  ·cases h; simp
  ·cases h
 | k + 1, c :: d :: l, s, r, hk, h => by
  unfold quoF at h
  simp only [List.length_cons] at hk ⊢
  split at h
  ·split at h
   ·cases hq : quoF l with
    | none => rw [hq] at h; cases h
    | some p =>
     rw [hq] at h
     cases h
     have := quo_len k l p.1 p.2 (by omega) hq
     omega
   ·cases h; simp
  ·cases hq : quoF (d :: l) with
   | none => rw [hq] at h; cases h
   | some p =>
    rw [hq] at h
    cases h
    have := quo_len k (d :: l) p.1 p.2 (by simp only [List.length_cons]; omega) hq
    simp only [List.length_cons] at this
    omega
theorem drop_le (p : UInt8 → Bool) : ∀ l : List UInt8, (l.dropWhile p).length ≤ l.length
 | [] => Nat.le_refl _
 | c :: r => by
  rw [List.dropWhile_cons]
  split
  ·have := drop_le p r; simp only [List.length_cons]; omega
  ·exact Nat.le_refl _
theorem drop_lt (p : UInt8 → Bool) {c : UInt8} {r : List UInt8} (h : p c = true) : ((c :: r).dropWhile p).length < (c :: r).length := by
 rw [List.dropWhile_cons, if_pos h]
 have := drop_le p r
 simp only [List.length_cons]; omega
theorem bad_len {l : List UInt8} {t : Tok} {r : List UInt8} (h : badF l = some (t, r)) : r.length < l.length := by
 unfold badF at h
 cases hf : [1, 2, 3, 4, 5, 6, 7, 8].find? fun i => (errN i).isPrefixOf l with
 | none => rw [hf] at h; cases h
 | some i =>
  rw [hf] at h
  cases h
  have h1 := List.find?_some hf
  have h2 := List.mem_of_find?_eq_some hf
  have h3 : 0 < (errN i).length ∧ (errN i).length ≤ l.length := by
   have := List.IsPrefix.length_le (List.isPrefixOf_iff_prefix.1 h1)
   refine ⟨?_, this⟩
   simp only [List.mem_cons, List.not_mem_nil, or_false] at h2
   rcases h2 with rfl | rfl | rfl | rfl | rfl | rfl | rfl | rfl <;> decide
  rw [List.length_drop]
  omega
theorem op_len {l : List UInt8} {t : Tok} {r : List UInt8} (h : opF l = some (t, r)) : r.length < l.length := by
 match l, h with
 | [], h => cases h
 | [c], h =>
  simp only [opF] at h
  split at h
  ·cases h; simp
  ·cases h
 | c :: d :: m, h =>
  simp only [opF] at h
  split at h
  ·cases h; simp; omega
  ·split at h
   ·cases h; simp
   ·cases h
theorem tail_len {gn tru : List UInt8 → Bool} {b pre l : List UInt8} {t : Tok} {r : List UInt8} (h : tailN gn tru b pre l = some (t, r)) : r.length ≤ l.length := by
 have hd := drop_le runC l
 unfold tailN at h
 split at h
 ·rename_i m hm
  rw [hm] at hd
  cases hr : refP gn (pre ++ l.takeWhile runC ++ 33 :: m.takeWhile runC) with
  | none => rw [hr] at h; cases h
  | some x =>
   rw [hr] at h
   cases h
   have := drop_le runC m
   simp only [List.length_cons] at hd
   omega
 ·split at h
  ·split at h
   ·cases h; exact hd
   ·split at h
    ·cases h; exact hd
    ·cases h
  ·split at h
   ·cases h; exact hd
   ·cases h
structure Ways (gn tru : List UInt8 → Bool) (pn : List UInt8 → Option Int) (wn : Int → List UInt8) (okN : Int → Prop) : Prop where
 names : Names gn
 first : ∀ c r, gn (c :: r) = true → isL c = true
 signs : ∀ l, gn l = true → ∀ x ∈ l, runC x = true
 nocell : ∀ l, gn l = true → cellP l = none
 truth : ∀ l, tru l = true → l ≠ [] ∧ (∀ x ∈ l, isL x = true) ∧ cellP l = none
 number : ∀ n, okN n → pn (wn n) = some n ∧ (∃ c r, wn n = c :: r ∧ isD c = true) ∧ ∀ x ∈ wn n, numC x = true
section
variable (gn tru : List UInt8 → Bool) (okN : Int → Prop)
def okT : Tok → Prop
 | .inl n => okN n
 | .inr (.inl _) => True
 | .inr (.inr (.inl r)) => goodR gn r
 | .inr (.inr (.inr (.inl (b, s)))) => (b = [] ∧ (gn s = true ∨ tru s = true)) ∨ (gn b = true ∧ gn s = true)
 | .inr (.inr (.inr (.inr (.inl s)))) => (∃ c, c ∈ ones ∧ s = [c]) ∨ (∃ c d, two c d = true ∧ s = [c, d])
 | .inr (.inr (.inr (.inr (.inr n)))) => 1 ≤ n ∧ n ≤ 8
end
theorem isL_run {c : UInt8} (h : isL c = true) : runC c = true := by unfold runC; rw [h]; rfl
end Go.Tk
namespace Go.Proofs.YtnibldnfbikipaaGreatDoor
open Go.RowKit
structure TT where
 k : Int
 n : Int
 s : ByteArray
 b : ByteArray
 h : ByteArray
 r : Int
 c : Int
 fr : Bool
 fc : Bool
abbrev tcs (k n : Int) (s b h : ByteArray) (r c : Int) (fr fc : Bool) : Array Value := #[.int .i64 k, .int .i64 n, .string s, .string b, .string h, .int .i64 r, .int .i64 c, .bool fr, .bool fc]
def TT.cs (t : TT) : Array Value := tcs t.k t.n t.s t.b t.h t.r t.c t.fr t.fc
abbrev ba (l : List UInt8) : ByteArray := ⟨l.toArray⟩
abbrev noB : ByteArray := ⟨#[]⟩
def tk : Tk.Tok → TT
 | .inl n => ⟨1, n, noB, noB, noB, 0, 0, false, false⟩
 | .inr (.inl s) => ⟨2, 0, ba s, noB, noB, 0, 0, false, false⟩
 | .inr (.inr (.inl r)) => ⟨3, 0, noB, ba r.book, ba r.sheet, r.cell.row, r.cell.col, r.cell.fr, r.cell.fc⟩
 | .inr (.inr (.inr (.inl (b, s)))) => ⟨4, 0, ba s, ba b, noB, 0, 0, false, false⟩
 | .inr (.inr (.inr (.inr (.inl s)))) => ⟨5, 0, ba s, noB, noB, 0, 0, false, false⟩
 | .inr (.inr (.inr (.inr (.inr n)))) => ⟨6, n, noB, noB, noB, 0, 0, false, false⟩
abbrev tk0 : Array Value := tcs 0 0 noB noB noB 0 0 false false
theorem inf156 : (Tryz.prog.info? 156).map (·.size) = some 9 := by kernel_rfl
theorem sto {w : World} {g : Nat} {t : TypeId} {zs es : Array Value} (hg : w.heap[g]? = some (.cells zs t (0, 0))) (hi : (Tryz.prog.info? t).map (·.size) = some es.size) (hz : zs.size = es.size) (h1 : es.all (·.oneCell') = true) :
  (Instr.storeAt t (.pointer (some ⟨g, 0, none⟩)) (.agg es)).run Tryz.prog w = .ok () (w.setRow g es) := by
 have hr := run_storeVar_row (P := Tryz.prog) w g t t zs es hg hi (by omega) h1
 simp only [Instr.storeAt, Instr.sureAddr, Sem.run_bind, Sem.run_pure, Result.andThen_ok, hr]
theorem lod {w : World} {g : Nat} {t : TypeId} {es : Array Value} {d : TypeDesc} {z : Nat × Nat} (hg : w.heap[g]? = some (.cells es t z)) (hd : (match d with | .struct _ | .array _ _ => true | _ => false) = true) (hu : Tryz.prog.underlying t = some d) (hi : (Tryz.prog.info? t).map (·.size) = some es.size) :
  (Instr.loadAt t (.pointer (some ⟨g, 0, none⟩))).run Tryz.prog w = .ok (.agg es) w := by
 have hr := run_loadVar_row (P := Tryz.prog) w g t t es z d hg hu (by cases d <;> simp_all) hi
 simp only [Instr.loadAt, Instr.sureAddr, Sem.run_bind, Sem.run_pure, Result.andThen_ok, hr]
theorem setRow_grown (w : World) (g : Nat) (es : Array Value) : w.grownBy (w.setRow g es) (some g) :=
 ⟨rfl, rfl, rfl, by simp [World.setRow], fun i _ hi => setRow_other w g i es (fun e => hi (by rw [e]))⟩
theorem wpList_load_run {P : Program} {ops : Array Oper} {rest : List Oper} {o : Oper} {a : Act} {w : World} {Q : Exit → Act → World → Prop} (hgd : o.guard = none) (ty : TypeId) (x : Operand) (ho : o.op = .load ty x)
  (p v : Value) (hx : a.eval x = p) (hrun : (Instr.loadAt ty p).run P w = .ok v w) (h : wpList P ops Q rest (a.put o.dst v) w) : wpList P ops Q (o :: rest) a w := by
 refine wpList_plain hgd fun K hK => ?_
 unfold Oper.wp execOp
 simp only [ho, hx, Sem.run_bind, Sem.run_pure, hrun, Result.andThen_ok]
 exact hK _ _ h
theorem wpList_store_run {P : Program} {ops : Array Oper} {rest : List Oper} {o : Oper} {a : Act} {w : World} {Q : Exit → Act → World → Prop} (hgd : o.guard = none) (ty : TypeId) (x y : Operand) (ho : o.op = .store ty x y)
  (p v : Value) (w' : World) (hx : a.eval x = p) (hy : a.eval y = v) (hrun : (Instr.storeAt ty p v).run P w = .ok () w') (h : wpList P ops Q rest (a.put o.dst undef) w') : wpList P ops Q (o :: rest) a w := by
 refine wpList_plain hgd fun K hK => ?_
 unfold Oper.wp execOp
 simp only [ho, hx, hy, Sem.run_bind, Sem.run_pure, hrun, Result.andThen_ok]
 exact hK _ _ h
theorem results2_row {fn : Func} {p u : Tmp} {ty : TypeId} (h : fn.results = #[.cell p ty, .tmp u]) {tmps : Array Value} {w : World} {g : Nat} {t : TypeId} {cs : Array Value} {fr : Nat × Nat} {d : TypeDesc} {v2 : Value}
  (hp : tmps.getD p undef = .pointer (some ⟨g, 0, none⟩)) (hg : w.heap[g]? = some (.cells cs t fr))
  (hd : (match d with | .struct _ | .array _ _ => true | _ => false) = true) (hu : Tryz.prog.underlying ty = some d) (hi : (Tryz.prog.info? ty).map (·.size) = some cs.size) (hv : tmps.getD u undef = v2) :
  (results fn tmps).run Tryz.prog w = .ok (.tuple #[.agg cs, v2]) w := by
 rw [results_cell_tmp h, hp, hv]
 simp [asAddr, run_loadVar_row w g t ty cs fr d hg hu (by cases d <;> simp_all) hi, Result.andThen]
abbrev chooseV : Value := .func (.func 149) #[] #[]
abbrev lexO (l : List UInt8) : Obj := .cells #[.string (ba l), chooseV] 184
structure Tab9 (w : World) : Prop where
 t : Tab8 w
 ops : ∀ i (h : i < 17), w.cell? ⟨0, i, none⟩ = some (.string (ba ((([[60, 62], [60, 61], [62, 61], [43], [45], [42], [47], [94], [38], [61], [60], [62], [37], [40], [41], [44], [58]] : List (List UInt8))[i]'h))))
 m : ∃ m, w.cell? ⟨2, 0, none⟩ = some (.int .i64 m)
theorem cell_bel {w w' : World} (hb : Below w.heap.size w w') {a : Addr} {v : Value} (h : w.cell? a = some v) : w'.cell? a = some v :=
 (World.cell?_of_block (hb.block _ (World.block_lt_of_cell? w a h))).trans h
theorem Tab9.below {w w' : World} (h : Tab9 w) (hb : Below w.heap.size w w') : Tab9 w' :=
 ⟨h.t.below hb, fun i hi => cell_bel hb (h.ops i hi), h.m.imp fun m hm => cell_bel hb hm⟩
structure LX (W : World) (b : Nat) (l : List UInt8) (w : World) : Prop where
 tab : Tab9 W
 bel : Below W.heap.size W w
 lo : W.heap.size ≤ b
 blk : w.heap[b]? = some (lexO l)
theorem LX.lt {W w : World} {b : Nat} {l : List UInt8} (h : LX W b l w) : b < w.heap.size := lt_of h.blk
theorem LX.t {W w : World} {b : Nat} {l : List UInt8} (h : LX W b l w) : Tab9 w := h.tab.below h.bel
theorem LX.cells {W w : World} {b : Nat} {l : List UInt8} (h : LX W b l w) : w.cell? ⟨b, 0, none⟩ = some (.string (ba l)) ∧ w.cell? ⟨b, 1, none⟩ = some chooseV ∧ w.frozen? ⟨b, 0, none⟩ = false := by
 simp [World.cell?, World.frozen?, h.blk]
theorem LX.grown {W w w' : World} {b : Nat} {l : List UInt8} (h : LX W b l w) {row : Option Nat} (hg : w.grownBy w' row) (hr : ∀ k, row = some k → W.heap.size ≤ k ∧ k ≠ b) : LX W b l w' :=
 ⟨h.tab, h.bel.grown hg h.bel.size (fun k hk => (hr k hk).1), h.lo, (hg.block b h.lt (fun e => (hr b e.symm).2 rfl)).trans h.blk⟩
theorem LX.below {W w w' : World} {b : Nat} {l : List UInt8} (h : LX W b l w) (hb : Below w.heap.size w w') : LX W b l w' :=
 ⟨h.tab, bel_step h.bel (hb), h.lo, (hb.block b h.lt).trans h.blk⟩
theorem LX.alloc {W w : World} {b : Nat} {l : List UInt8} (h : LX W b l w) (o : Obj) : LX W b l (w.alloc o) := h.below (bel_alloc (Below.refl _ _) o)
theorem LX.drew {W w : World} {b : Nat} {l : List UInt8} (h : LX W b l w) : LX W b l w.drew := ⟨h.tab, h.bel.drew, h.lo, h.blk⟩
theorem LX.set {W w : World} {b : Nat} {l : List UInt8} (h : LX W b l w) (m : List UInt8) : LX W b m (w.setCell ⟨b, 0, none⟩ (.string (ba m))) :=
 ⟨h.tab, h.bel.setCell h.lo _, h.lo, by simp [World.setCell, Array.getElem?_modify, h.blk]⟩
theorem grown_below {w w' : World} {row : Option Nat} (h : Below w.heap.size w w') : w.grownBy w' row := ⟨h.os, h.tape, h.output, h.size, fun i hi _ => h.block i hi⟩
theorem grown_trans {a w w' : World} {row : Option Nat} (h : a.grownBy w row) (k : w.grownBy w' row) : a.grownBy w' row := World.grownBy.trans h k
def St (W : World) (b : Nat) (l : List UInt8) (w w' : World) : Prop := LX W b l w' ∧ w.grownBy w' (some b)
theorem St.refl {W w : World} {b : Nat} {l : List UInt8} (h : LX W b l w) : St W b l w w := ⟨h, World.grownBy.refl _ _⟩
theorem St.step {W w w1 w2 : World} {b : Nat} {l m : List UInt8} (h : St W b l w w1) (k : St W b m w1 w2) : St W b m w w2 := ⟨k.1, grown_trans h.2 k.2⟩
theorem St.bel {W w w1 w2 : World} {b : Nat} {l : List UInt8} (h : St W b l w w1) (hb : Below w1.heap.size w1 w2) : St W b l w w2 := ⟨h.1.below hb, grown_trans h.2 (grown_below hb)⟩
theorem St.alloc {W w w1 : World} {b : Nat} {l : List UInt8} (h : St W b l w w1) (o : Obj) : St W b l w (w1.alloc o) := h.bel (bel_alloc (Below.refl _ _) o)
theorem St.drew {W w w1 : World} {b : Nat} {l : List UInt8} (h : St W b l w w1) : St W b l w w1.drew := ⟨h.1.drew, grown_trans h.2 ⟨rfl, rfl, rfl, Nat.le_refl _, fun _ _ _ => rfl⟩⟩
theorem St.set {W w w1 : World} {b : Nat} {l : List UInt8} (h : St W b l w w1) (m : List UInt8) : St W b m w (w1.setCell ⟨b, 0, none⟩ (.string (ba m))) := ⟨h.1.set m, grown_trans h.2 (Lib.grownBy_setCell _ _ _ _)⟩
theorem St.grown {W w w1 w2 : World} {b g : Nat} {l : List UInt8} (h : St W b l w w1) (hg : w1.grownBy w2 (some g)) (h1 : w.heap.size ≤ g) (h2 : b < w.heap.size) : St W b l w w2 :=
 ⟨h.1.grown hg (fun k hk => by cases hk; exact ⟨by have := h.1.lo; omega, by omega⟩), World.grownBy.andThen h.2 hg (fun j hj => by cases hj; exact .inl h1)⟩
theorem St.kept {W w w1 : World} {b : Nat} {l : List UInt8} (h : St W b l w w1) {i : Nat} {o : Obj} (hi : w.heap[i]? = some o) (hb : i ≠ b) : w1.heap[i]? = some o :=
 (h.2.block i (lt_of hi) (fun e => hb (Option.some.inj e))).trans hi
structure Asks (f : Nat) (p : UInt8 → Bool) (hi : Bool) : Prop where
 low : ∀ (c : UInt8) (u : World), c.toNat < 128 → Calls Tryz.prog f #[.int .i32 (c.toNat : Nat)] u fun e w' => e = .returned (.bool (p c)) ∧ w' = u
 high : ∀ (r : Nat) (u : World), 128 ≤ r → Calls Tryz.prog f #[.int .i32 (r : Nat)] u fun e w' => e = .returned (.bool hi) ∧ w' = u
 byte : ∀ c : UInt8, 128 ≤ c.toNat → p c = hi
theorem tdigit_any (n : Nat) (w : World) : Calls Tryz.prog 187 #[.int .i32 (n : Nat)] w fun e w' => e = .returned (.bool (decide (48 ≤ n) && decide (n ≤ 57))) ∧ w' = w := by
 go_enter Tryz.func187, Tryz.ntmps187
 go_wp2
 all_goals (go_ret; refine ⟨ret_bool ?_, rfl⟩; rw [Bool.eq_iff_iff]; simp; omega)
theorem tletter_any (n : Nat) (w : World) : Calls Tryz.prog 191 #[.int .i32 (n : Nat)] w fun e w' => e = .returned (.bool ((decide (65 ≤ n) && decide (n ≤ 90)) || (decide (97 ≤ n) && decide (n ≤ 122)))) ∧ w' = w := by
 go_enter Tryz.func191, Tryz.ntmps191
 go_wp2
 all_goals (go_ret; refine ⟨ret_bool ?_, rfl⟩; rw [Bool.eq_iff_iff]; simp; omega)
theorem tblank_any (n : Nat) (w : World) : Calls Tryz.prog 195 #[.int .i32 (n : Nat)] w fun e w' => e = .returned (.bool (decide (n = 32) || decide (n = 9))) ∧ w' = w := by
 go_enter Tryz.func195, Tryz.ntmps195
 go_wp2
 all_goals (go_ret; refine ⟨ret_bool ?_, rfl⟩; rw [Bool.eq_iff_iff]; simp; omega)
theorem tquote_any (n : Nat) (w : World) : Calls Tryz.prog 229 #[.int .i32 (n : Nat)] w fun e w' => e = .returned (.bool (!decide (n = 34))) ∧ w' = w := by
 go_enter Tryz.func229, Tryz.ntmps229
 go_wp2
 all_goals (go_ret; refine ⟨ret_bool ?_, rfl⟩; rw [Bool.eq_iff_iff]; simp; omega)
theorem tpoint_any (n : Nat) (w : World) : Calls Tryz.prog 227 #[.int .i32 (n : Nat)] w fun e w' => e = .returned (.bool ((decide (48 ≤ n) && decide (n ≤ 57)) || decide (n = 46))) ∧ w' = w := by
 have D := fun u => tdigit_any n u
 cases h : (decide (48 ≤ n) && decide (n ≤ 57))
 all_goals
  rw [h] at D
  go_enter Tryz.func227, Tryz.ntmps227
  go_wp2_with (go_at_call 187; refine (D _).mono ?_; rintro e w' ⟨rfl, hw⟩; obtain rfl := hw.symm; clear hw)
  all_goals (go_ret; refine ⟨ret_bool ?_, rfl⟩; rw [Bool.eq_iff_iff]; simp; try omega)
theorem trun_any (n : Nat) (w : World) : Calls Tryz.prog 231 #[.int .i32 (n : Nat)] w fun e w' => e = .returned (.bool ((((decide (65 ≤ n) && decide (n ≤ 90)) || (decide (97 ≤ n) && decide (n ≤ 122))) || (decide (48 ≤ n) && decide (n ≤ 57))) || decide (n = 95) || decide (n = 36))) ∧ w' = w := by
 have L := fun u => tletter_any n u
 have D := fun u => tdigit_any n u
 cases h : ((decide (65 ≤ n) && decide (n ≤ 90)) || (decide (97 ≤ n) && decide (n ≤ 122))) <;> cases k : (decide (48 ≤ n) && decide (n ≤ 57))
 all_goals
  rw [h] at L
  rw [k] at D
  go_enter Tryz.func231, Tryz.ntmps231
  go_wp2_with (first | (go_at_call 187; refine (D _).mono ?_; rintro e w' ⟨rfl, hw⟩; obtain rfl := hw.symm; clear hw) | (go_at_call 191; refine (L _).mono ?_; rintro e w' ⟨rfl, hw⟩; obtain rfl := hw.symm; clear hw))
  all_goals (go_ret; refine ⟨ret_bool ?_, rfl⟩; rw [Bool.eq_iff_iff]; simp; try omega)
theorem u8_eq (c : UInt8) (d : UInt8) : (c == d) = decide (c.toNat = d.toNat) := by
 rw [Bool.eq_iff_iff]; simp [← UInt8.toNat_inj]
theorem asks_blank : Asks 195 Tk.blank false := ⟨fun c u _ => by
  have := tblank_any c.toNat u
  rw [show (decide (c.toNat = 32) || decide (c.toNat = 9)) = Tk.blank c by unfold Tk.blank; rw [u8_eq, u8_eq]; rfl] at this
  exact this,
 fun r u h => by
  have := tblank_any r u
  rw [show (decide (r = 32) || decide (r = 9)) = false by simp; omega] at this
  exact this,
 fun c h => by unfold Tk.blank; rw [u8_eq, u8_eq]; simp; omega⟩
theorem asks_point : Asks 227 Tk.numC false := ⟨fun c u _ => by
  have := tpoint_any c.toNat u
  rw [show ((decide (48 ≤ c.toNat) && decide (c.toNat ≤ 57)) || decide (c.toNat = 46)) = Tk.numC c by unfold Tk.numC Ad.isD; rw [u8_eq]; rfl] at this
  exact this,
 fun r u h => by
  have := tpoint_any r u
  rw [show ((decide (48 ≤ r) && decide (r ≤ 57)) || decide (r = 46)) = false by simp; omega] at this
  exact this,
 fun c h => by unfold Tk.numC Ad.isD; rw [u8_eq]; simp; omega⟩
theorem asks_quote : Asks 229 (fun c => !(c == 34)) true := ⟨fun c u _ => by
  have := tquote_any c.toNat u
  rw [show (!decide (c.toNat = 34)) = !(c == 34) by rw [u8_eq]; rfl] at this
  exact this,
 fun r u h => by
  have := tquote_any r u
  rw [show (!decide (r = 34)) = true by simp; omega] at this
  exact this,
 fun c h => by rw [u8_eq]; simp; omega⟩
theorem asks_run : Asks 231 Tk.runC false := ⟨fun c u _ => by
  have := trun_any c.toNat u
  rw [show ((((decide (65 ≤ c.toNat) && decide (c.toNat ≤ 90)) || (decide (97 ≤ c.toNat) && decide (c.toNat ≤ 122))) || (decide (48 ≤ c.toNat) && decide (c.toNat ≤ 57))) || decide (c.toNat = 95) || decide (c.toNat = 36)) = Tk.runC c by unfold Tk.runC Ad.isD Ad.isL; rw [u8_eq, u8_eq, Bool.or_comm (decide (65 ≤ c.toNat) && decide (c.toNat ≤ 90))]; rfl] at this
  exact this,
 fun r u h => by
  have := trun_any r u
  rw [show ((((decide (65 ≤ r) && decide (r ≤ 90)) || (decide (97 ≤ r) && decide (r ≤ 122))) || (decide (48 ≤ r) && decide (r ≤ 57))) || decide (r = 95) || decide (r = 36)) = false by simp; omega] at this
  exact this,
 fun c h => by unfold Tk.runC Ad.isD Ad.isL; rw [u8_eq, u8_eq]; simp; omega⟩
theorem while_all {p : UInt8 → Bool} : ∀ {l : List UInt8}, l.all p = true → l.takeWhile p = l ∧ l.dropWhile p = []
 | [], _ => ⟨rfl, rfl⟩
 | c :: r, h => by
  rw [List.all_cons, Bool.and_eq_true] at h
  obtain ⟨a, b⟩ := while_all h.2
  rw [List.takeWhile_cons, List.dropWhile_cons, if_pos h.1, if_pos h.1, a, b]
  exact ⟨rfl, rfl⟩
theorem while_at {p : UInt8 → Bool} : ∀ {l : List UInt8} {k : Nat} (hk : k < l.length), (l.take k).all p = true → p l[k] = false → l.takeWhile p = l.take k ∧ l.dropWhile p = l.drop k
 | c :: r, 0, _, _, h => by
  have h' : p c = false := h
  rw [List.takeWhile_cons, List.dropWhile_cons, h']
  exact ⟨rfl, rfl⟩
 | c :: r, k + 1, hk, ha, h => by
  rw [List.take_succ_cons, List.all_cons, Bool.and_eq_true] at ha
  have hk' : k < r.length := by simpa using hk
  obtain ⟨a, b⟩ := while_at hk' ha.2 (by simpa using h)
  rw [List.takeWhile_cons, List.dropWhile_cons, if_pos ha.1, if_pos ha.1, a, b]
  exact ⟨rfl, rfl⟩
theorem all_more {p : UInt8 → Bool} (l : List UInt8) (k d : Nat) (ha : (l.take k).all p = true) (hd : ∀ j, j < d → ∀ h : k + j < l.length, p l[k + j] = true) : (l.take (k + d)).all p = true := by
 rw [List.all_eq_true] at ha ⊢
 intro x hx
 obtain ⟨i, hi, rfl⟩ := List.getElem_of_mem hx
 rw [List.length_take] at hi
 rw [List.getElem_take]
 by_cases h : i < k
 ·exact ha _ (List.mem_take_iff_getElem.2 ⟨i, by omega, rfl⟩)
 ·have := hd (i - k) (by omega) (by omega)
  simp only [show k + (i - k) = i by omega] at this
  exact this
theorem ba_get (l : List UInt8) (k : Nat) (h : k < l.length) (h2 : k < (ba l).size) : (ba l)[k] = l[k] := by
 simp [ba]; rfl
theorem ba_get! (l : List UInt8) (k : Nat) (h : k < l.length) : (ba l).get! k = l[k] := by
 have := get_list (ba l) k h
 exact this
theorem ba_take (l : List UInt8) (k : Nat) : (ba l).extract 0 k = ba (l.take k) := by
 apply ByteArray.ext
 simp [ba]
theorem ba_drop (l : List UInt8) (k : Nat) : (ba l).extract k l.length = ba (l.drop k) := by
 apply ByteArray.ext
 simp [ba]
 rw [List.take_of_length_le (by simp)]
structure TW (W : World) (b : Nat) (l : List UInt8) (w : World) (q : Nat) (u : World) : Prop where
 it : u.heap[w.heap.size]? = some (.stringIter (ba l) q)
 bel : Below w.heap.size w u
 lx : LX W b l u
theorem TW.next {W w u : World} {b q : Nat} {l : List UInt8} (h : TW W b l w q u) (hb : b < w.heap.size) (hp : q < l.length) :
  ∃ u1, (∀ ty, (Instr.next (.pointer (some ⟨w.heap.size, 0, none⟩)) true ty).run Tryz.prog u = .ok (.tuple #[.bool true, .int .i64 q, .int .i32 (Utf8.decode (ba l) q).1]) u1) ∧ TW W b l w (q + (Utf8.decode (ba l) q).2) u1 := by
 have hq : q < (ba l).size := by rw [size_mk]; exact hp
 have hlt : w.heap.size < u.heap.size := (Array.getElem?_eq_some_iff.1 h.it).1
 have hB : Below w.heap.size w { u with heap := u.heap.setIfInBounds w.heap.size (.stringIter (ba l) (q + (Utf8.decode (ba l) q).2)) } := by
  obtain ⟨a, c, d, e, f⟩ := h.bel
  refine ⟨a, c, d, ?_, fun i hi => ?_⟩
  ·show w.heap.size ≤ (u.heap.setIfInBounds _ _).size
   simp; omega
  ·show (u.heap.setIfInBounds _ _)[i]? = _
   rw [Array.getElem?_setIfInBounds_ne (by omega)]
   exact f i hi
 have hG : u.grownBy { u with heap := u.heap.setIfInBounds w.heap.size (.stringIter (ba l) (q + (Utf8.decode (ba l) q).2)) } (some w.heap.size) := by
  refine ⟨rfl, rfl, rfl, ?_, fun i hi hne => ?_⟩
  ·show u.heap.size ≤ (u.heap.setIfInBounds _ _).size
   simp
  ·show (u.heap.setIfInBounds _ _)[i]? = _
   rw [Array.getElem?_setIfInBounds_ne (fun e => hne (by rw [e]))]
 refine ⟨_, fun ty => run_next_at h.it ty hq, ?_, hB, h.lx.grown hG (fun k hk => ?_)⟩
 ·show (u.heap.setIfInBounds w.heap.size _)[w.heap.size]? = _
  rw [Array.getElem?_setIfInBounds_self_of_lt hlt]
 ·cases hk
  exact ⟨by have := h.lx.lo; omega, by omega⟩
theorem TW.pos {W w u : World} {b q : Nat} {l : List UInt8} (h : TW W b l w q u) : u.iterPos w.heap.size = q := by simp [World.iterPos, h.it]
theorem TW.begin {W w : World} {b : Nat} {l : List UInt8} (X : LX W b l w) : TW W b l w 0 (w.iter (ba l) 0) :=
 ⟨by simpa using World.iter_heap w (ba l) 0, (Below.refl _ _).alloc (Nat.le_refl _) _, X.below ((Below.refl _ _).alloc (Nat.le_refl _) _)⟩
theorem TW.st {W w u : World} {b q : Nat} {l : List UInt8} (h : TW W b l w q u) (m : List UInt8) : St W b m w (u.setCell ⟨b, 0, none⟩ (.string (ba m))) :=
 St.set (l := l) ⟨h.lx, grown_below h.bel⟩ m
theorem take_any {W w : World} {b : Nat} {l : List UInt8} (X : LX W b l w) (hl : l.length ≤ 255) {f : Nat} {p : UInt8 → Bool} {hi : Bool} (A : Asks f p hi)
  (hE : ∀ args u, (callFunc f args).run Tryz.prog u = .ok (.enter f args) u) :
  Calls Tryz.prog 194 #[.pointer (some ⟨b, 0, none⟩), .func (.func f) #[] #[]] w fun e w' => e = .returned (.string (ba (l.takeWhile p))) ∧ St W b (l.dropWhile p) w w' := by
 obtain ⟨c0, c1, f0⟩ := X.cells
 have hlt := X.lt
 have HX : Hid (LX W b l w) := X
 have HA : Hid (Asks f p hi) := A
 have hs' : (ba l).size = l.length := size_mk l
 have HB : Hid _ := TW.begin X
 clear X A
 go_enter Tryz.func194, Tryz.ntmps194
 go_wp2
 go_loopw [5, 6] (fun v i w' => v = .int .i64 l.length ∧ ∃ (q : Nat), q ≤ l.length ∧ Hid ((l.take q).all p = true) ∧ TW W b l w q w') (fun _ _ w' => l.length - w'.iterPos w.heap.size)
 case atStart => exact ⟨rfl, 0, Nat.zero_le _, by simp [Hid], HB.out⟩
 case round =>
  obtain ⟨rfl, q, hq, ha, hR⟩ := hrel
  have hpos := hR.pos
  by_cases hq2 : q < l.length
  ·obtain ⟨u1, hnx, hR1⟩ := hR.next hlt hq2
   have hqs : q < (ba l).size := by rw [hs']; exact hq2
   have hqi : (q : Int) ≤ l.length := by omega
   by_cases hasc : ((ba l)[q]'hqs).toNat < 128
   ·rw [decode_ascii (ba l) q hqs hasc] at hnx hR1
    have hc := ba_get l q hq2 hqs
    have AL := fun u => HA.out.low _ u hasc
    rw [hc] at hnx AL
    obtain ⟨d0, d1, g0⟩ := hR1.lx.cells
    cases hp : p l[q]
    ·rw [hp] at AL
     obtain ⟨e1, e2⟩ := while_at hq2 ha.out hp
     have HE : Hid ((ba l).extract 0 q = ba (l.takeWhile p) ∧ (ba l).extract q l.length = ba (l.dropWhile p)) := ⟨by rw [ba_take, e1], by rw [ba_drop, e2]⟩
     have HF : Hid (∀ v, v = ba (l.dropWhile p) → St W b (l.dropWhile p) w (u1.setCell ⟨b, 0, none⟩ (.string v))) := fun v hv => by rw [hv]; exact hR1.st _
     clear hR hR1 e1 e2 hasc
     generalize l[q] = c at *
     go_wp2_with (go_at_fn f; refine (AL _).mono ?_; rintro e w' ⟨rfl, hw⟩; obtain rfl := hw.symm; clear hw)
     go_ret
     exact ⟨by rw [← HE.out.1]; rfl, HF.out _ HE.out.2⟩
    ·rw [hp] at AL
     have HN : Hid ((l.take (q + 1)).all p = true) := all_more l q 1 ha.out (fun j hj h => by
      obtain rfl : j = 0 := by omega
      exact hp)
     have HR1 : Hid (TW W b l w (q + 1) u1) := hR1
     clear hR hR1 hasc d0 d1 g0
     generalize l[q] = c at *
     go_wp2_with (go_at_fn f; refine (AL _).mono ?_; rintro e w' ⟨rfl, hw⟩; obtain rfl := hw.symm; clear hw)
     go_roundw
     case rel => exact ⟨rfl, q + 1, by omega, HN, HR1.out⟩
     case measure =>
      have := HR1.out.pos
      rw [hpos, this]
      omega
   ·have dh := decode_high (ba l) q hqs (by omega)
    have db := decode_bytes (ba l) q hqs (by omega)
    rw [hs'] at db
    obtain ⟨r, hr, hr2⟩ : ∃ r : Nat, (Utf8.decode (ba l) q).1 = r ∧ 128 ≤ r := ⟨_, rfl, dh.1⟩
    have AL := fun u => HA.out.high r u hr2
    rw [hr] at hnx
    obtain ⟨d0, d1, g0⟩ := hR1.lx.cells
    have hd1 := dh.2
    have hd2 := db.1
    have hby := db.2
    clear hr dh db
    generalize (Utf8.decode (ba l) q).2 = d at *
    have hc := ba_get l q hq2 hqs
    have hb8 := HA.out.byte l[q] (by rw [← hc]; omega)
    cases hi
    ·obtain ⟨e1, e2⟩ := while_at hq2 ha.out hb8
     have HE : Hid ((ba l).extract 0 q = ba (l.takeWhile p) ∧ (ba l).extract q l.length = ba (l.dropWhile p)) := ⟨by rw [ba_take, e1], by rw [ba_drop, e2]⟩
     have HF : Hid (∀ v, v = ba (l.dropWhile p) → St W b (l.dropWhile p) w (u1.setCell ⟨b, 0, none⟩ (.string v))) := fun v hv => by rw [hv]; exact hR1.st _
     clear hR hR1 e1 e2 hasc hby hc hb8
     go_wp2_with (go_at_fn f; refine (AL _).mono ?_; rintro e w' ⟨rfl, hw⟩; obtain rfl := hw.symm; clear hw)
     go_ret
     exact ⟨by rw [← HE.out.1]; rfl, HF.out _ HE.out.2⟩
    ·have HN : Hid ((l.take (q + d)).all p = true) := all_more l q d ha.out (fun j hj h => by
      have := hby j hj
      rw [ba_get! l (q + j) h] at this
      exact HA.out.byte _ this)
     have HR1 : Hid (TW W b l w (q + d) u1) := hR1
     clear hR hR1 hasc hby hc hb8 d0 d1 g0
     go_wp2_with (go_at_fn f; refine (AL _).mono ?_; rintro e w' ⟨rfl, hw⟩; obtain rfl := hw.symm; clear hw)
     go_roundw
     case rel => exact ⟨rfl, q + d, hd2, HN, HR1.out⟩
     case measure =>
      have := HR1.out.pos
      rw [hpos, this]
      omega
  ·have hnx : ∀ ty, (Instr.next (.pointer (some ⟨w.heap.size, 0, none⟩)) true ty).run Tryz.prog wr = .ok (.tuple #[.bool false]) wr := fun ty => run_next_done hR.it ty (by rw [hs']; exact hq2)
   obtain ⟨d0, d1, g0⟩ := hR.lx.cells
   have hall : l.all p = true := by
    have := ha.out
    rw [List.take_of_length_le (by omega)] at this
    exact this
   obtain ⟨e1, e2⟩ := while_all hall
   have HE : Hid ((ba l).extract 0 l.length = ba (l.takeWhile p) ∧ ByteArray.empty = ba (l.dropWhile p)) := ⟨by rw [ba_take, e1, List.take_length], by rw [e2]; rfl⟩
   have HF : Hid (∀ v, v = ba (l.dropWhile p) → St W b (l.dropWhile p) w (wr.setCell ⟨b, 0, none⟩ (.string v))) := fun v hv => by rw [hv]; exact hR.st _
   clear hR e1 e2 hall
   go_wp2
   go_ret
   exact ⟨by rw [← HE.out.1]; rfl, HF.out _ HE.out.2⟩
end Go.Proofs.YtnibldnfbikipaaGreatDoor
