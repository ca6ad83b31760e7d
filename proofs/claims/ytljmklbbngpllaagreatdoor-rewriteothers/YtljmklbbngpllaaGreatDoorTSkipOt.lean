/- TMem, TRune, TTake, TSkip. -/
import Derived.Deep.MidRow
import Derived.Deep.WholeRow
import Derived.Laws.EntriesVeiled
import Derived.Laws.ResultCell
import Derived.Laws.Rows
import Derived.Lib.BufferOwn
import Derived.Maps.AppendAt
import Derived.Maps.Range
import Derived.Test.YtljmklbbngpllaaGreatDoorTPureOt
set_option linter.unusedVariables false
set_option linter.unusedSimpArgs false
set_option maxHeartbeats 16000000
set_option maxRecDepth 100000
namespace Go.Proofs.YtljmklbbngpllaaGreatDoor
open Go.RowKit
structure TT where
 k : Int
 n : Int
 s : ByteArray
 b : ByteArray
 h : ByteArray
 r : Int
 c : Int
 fr : Bool
 fc : Bool
abbrev tcs (k n : Int) (s b h : ByteArray) (r c : Int) (fr fc : Bool) : Array Value := #[.int .i64 k, .int .i64 n, .string s, .string b, .string h, .int .i64 r, .int .i64 c, .bool fr, .bool fc]
def TT.cs (t : TT) : Array Value := tcs t.k t.n t.s t.b t.h t.r t.c t.fr t.fc
abbrev ba (l : List UInt8) : ByteArray := ⟨l.toArray⟩
abbrev noB : ByteArray := ⟨#[]⟩
def tk : Tk.Tok → TT
 | .inl n => ⟨1, n, noB, noB, noB, 0, 0, false, false⟩
 | .inr (.inl s) => ⟨2, 0, ba s, noB, noB, 0, 0, false, false⟩
 | .inr (.inr (.inl r)) => ⟨3, 0, noB, ba r.book, ba r.sheet, r.cell.row, r.cell.col, r.cell.fr, r.cell.fc⟩
 | .inr (.inr (.inr (.inl (b, s)))) => ⟨4, 0, ba s, ba b, noB, 0, 0, false, false⟩
 | .inr (.inr (.inr (.inr (.inl s)))) => ⟨5, 0, ba s, noB, noB, 0, 0, false, false⟩
 | .inr (.inr (.inr (.inr (.inr n)))) => ⟨6, n, noB, noB, noB, 0, 0, false, false⟩
abbrev tk0 : Array Value := tcs 0 0 noB noB noB 0 0 false false
theorem inf123 : (Tryz.prog.info? 123).map (·.size) = some 9 := by kernel_rfl
theorem sto {w : World} {g : Nat} {t : TypeId} {zs es : Array Value} (hg : w.heap[g]? = some (.cells zs t (0, 0))) (hi : (Tryz.prog.info? t).map (·.size) = some es.size) (hz : zs.size = es.size) (h1 : es.all (·.oneCell') = true) :
  (Instr.storeAt t (.pointer (some ⟨g, 0, none⟩)) (.agg es)).run Tryz.prog w = .ok () (w.setRow g es) := by
 have hr := run_storeVar_row (P := Tryz.prog) w g t t zs es hg hi (by omega) h1
 simp only [Instr.storeAt, Instr.sureAddr, Sem.run_bind, Sem.run_pure, Result.andThen_ok, hr]
theorem lod {w : World} {g : Nat} {t : TypeId} {es : Array Value} {d : TypeDesc} {z : Nat × Nat} (hg : w.heap[g]? = some (.cells es t z)) (hd : (match d with | .struct _ | .array _ _ => true | _ => false) = true) (hu : Tryz.prog.underlying t = some d) (hi : (Tryz.prog.info? t).map (·.size) = some es.size) :
  (Instr.loadAt t (.pointer (some ⟨g, 0, none⟩))).run Tryz.prog w = .ok (.agg es) w := by
 have hr := run_loadVar_row (P := Tryz.prog) w g t t es z d hg hu (by cases d <;> simp_all) hi
 simp only [Instr.loadAt, Instr.sureAddr, Sem.run_bind, Sem.run_pure, Result.andThen_ok, hr]
theorem setRow_grown (w : World) (g : Nat) (es : Array Value) : w.grownBy (w.setRow g es) (some g) :=
 ⟨rfl, rfl, rfl, by simp [World.setRow], fun i _ hi => setRow_other w g i es (fun e => hi (by rw [e]))⟩
theorem wpList_load_run {P : Program} {ops : Array Oper} {rest : List Oper} {o : Oper} {a : Act} {w : World} {Q : Exit → Act → World → Prop} (hgd : o.guard = none) (ty : TypeId) (x : Operand) (ho : o.op = .load ty x)
  (p v : Value) (hx : a.eval x = p) (hrun : (Instr.loadAt ty p).run P w = .ok v w) (h : wpList P ops Q rest (a.put o.dst v) w) : wpList P ops Q (o :: rest) a w := by
 refine wpList_plain hgd fun K hK => ?_
 unfold Oper.wp execOp
 simp only [ho, hx, Sem.run_bind, Sem.run_pure, hrun, Result.andThen_ok]
 exact hK _ _ h
theorem wpList_store_run {P : Program} {ops : Array Oper} {rest : List Oper} {o : Oper} {a : Act} {w : World} {Q : Exit → Act → World → Prop} (hgd : o.guard = none) (ty : TypeId) (x y : Operand) (ho : o.op = .store ty x y)
  (p v : Value) (w' : World) (hx : a.eval x = p) (hy : a.eval y = v) (hrun : (Instr.storeAt ty p v).run P w = .ok () w') (h : wpList P ops Q rest (a.put o.dst undef) w') : wpList P ops Q (o :: rest) a w := by
 refine wpList_plain hgd fun K hK => ?_
 unfold Oper.wp execOp
 simp only [ho, hx, hy, Sem.run_bind, Sem.run_pure, hrun, Result.andThen_ok]
 exact hK _ _ h
theorem results2_row {fn : Func} {p u : Tmp} {ty : TypeId} (h : fn.results = #[.cell p ty, .tmp u]) {tmps : Array Value} {w : World} {g : Nat} {t : TypeId} {cs : Array Value} {fr : Nat × Nat} {d : TypeDesc} {v2 : Value}
  (hp : tmps.getD p undef = .pointer (some ⟨g, 0, none⟩)) (hg : w.heap[g]? = some (.cells cs t fr))
  (hd : (match d with | .struct _ | .array _ _ => true | _ => false) = true) (hu : Tryz.prog.underlying ty = some d) (hi : (Tryz.prog.info? ty).map (·.size) = some cs.size) (hv : tmps.getD u undef = v2) :
  (results fn tmps).run Tryz.prog w = .ok (.tuple #[.agg cs, v2]) w := by
 rw [results_cell_tmp h, hp, hv]
 simp [asAddr, run_loadVar_row w g t ty cs fr d hg hu (by cases d <;> simp_all) hi, Result.andThen]
abbrev chooseV : Value := .func (.func 76) #[] #[]
abbrev lexO (l : List UInt8) : Obj := .cells #[.string (ba l), chooseV] 121
structure Tab9 (w : World) : Prop where
 t : Tab8 w
 ops : ∀ i (h : i < 17), w.cell? ⟨0, i, none⟩ = some (.string (ba ((([[60, 62], [60, 61], [62, 61], [43], [45], [42], [47], [94], [38], [61], [60], [62], [37], [40], [41], [44], [58]] : List (List UInt8))[i]'h))))
 m : ∃ m, w.cell? ⟨2, 0, none⟩ = some (.int .i64 m)
theorem cell_bel {w w' : World} (hb : Below w.heap.size w w') {a : Addr} {v : Value} (h : w.cell? a = some v) : w'.cell? a = some v :=
 (World.cell?_of_block (hb.block _ (World.block_lt_of_cell? w a h))).trans h
theorem Tab9.below {w w' : World} (h : Tab9 w) (hb : Below w.heap.size w w') : Tab9 w' :=
 ⟨h.t.below hb, fun i hi => cell_bel hb (h.ops i hi), h.m.imp fun m hm => cell_bel hb hm⟩
structure LX (W : World) (b : Nat) (l : List UInt8) (w : World) : Prop where
 tab : Tab9 W
 bel : Below W.heap.size W w
 lo : W.heap.size ≤ b
 blk : w.heap[b]? = some (lexO l)
theorem LX.lt {W w : World} {b : Nat} {l : List UInt8} (h : LX W b l w) : b < w.heap.size := lt_of h.blk
theorem LX.t {W w : World} {b : Nat} {l : List UInt8} (h : LX W b l w) : Tab9 w := h.tab.below h.bel
theorem LX.cells {W w : World} {b : Nat} {l : List UInt8} (h : LX W b l w) : w.cell? ⟨b, 0, none⟩ = some (.string (ba l)) ∧ w.cell? ⟨b, 1, none⟩ = some chooseV ∧ w.frozen? ⟨b, 0, none⟩ = false := by
 simp [World.cell?, World.frozen?, h.blk]
theorem LX.grown {W w w' : World} {b : Nat} {l : List UInt8} (h : LX W b l w) {row : Option Nat} (hg : w.grownBy w' row) (hr : ∀ k, row = some k → W.heap.size ≤ k ∧ k ≠ b) : LX W b l w' :=
 ⟨h.tab, h.bel.grown hg h.bel.size (fun k hk => (hr k hk).1), h.lo, (hg.block b h.lt (fun e => (hr b e.symm).2 rfl)).trans h.blk⟩
theorem LX.below {W w w' : World} {b : Nat} {l : List UInt8} (h : LX W b l w) (hb : Below w.heap.size w w') : LX W b l w' :=
 ⟨h.tab, bel_step h.bel (hb), h.lo, (hb.block b h.lt).trans h.blk⟩
theorem LX.alloc {W w : World} {b : Nat} {l : List UInt8} (h : LX W b l w) (o : Obj) : LX W b l (w.alloc o) := h.below (bel_alloc (Below.refl _ _) o)
theorem LX.drew {W w : World} {b : Nat} {l : List UInt8} (h : LX W b l w) : LX W b l w.drew := ⟨h.tab, h.bel.drew, h.lo, h.blk⟩
theorem LX.set {W w : World} {b : Nat} {l : List UInt8} (h : LX W b l w) (m : List UInt8) : LX W b m (w.setCell ⟨b, 0, none⟩ (.string (ba m))) :=
 ⟨h.tab, h.bel.setCell h.lo _, h.lo, by simp [World.setCell, Array.getElem?_modify, h.blk]⟩
theorem grown_below {w w' : World} {row : Option Nat} (h : Below w.heap.size w w') : w.grownBy w' row := ⟨h.os, h.tape, h.output, h.size, fun i hi _ => h.block i hi⟩
theorem grown_trans {a w w' : World} {row : Option Nat} (h : a.grownBy w row) (k : w.grownBy w' row) : a.grownBy w' row := World.grownBy.trans h k
def St (W : World) (b : Nat) (l : List UInt8) (w w' : World) : Prop := LX W b l w' ∧ w.grownBy w' (some b)
theorem St.refl {W w : World} {b : Nat} {l : List UInt8} (h : LX W b l w) : St W b l w w := ⟨h, World.grownBy.refl _ _⟩
theorem St.step {W w w1 w2 : World} {b : Nat} {l m : List UInt8} (h : St W b l w w1) (k : St W b m w1 w2) : St W b m w w2 := ⟨k.1, grown_trans h.2 k.2⟩
theorem St.bel {W w w1 w2 : World} {b : Nat} {l : List UInt8} (h : St W b l w w1) (hb : Below w1.heap.size w1 w2) : St W b l w w2 := ⟨h.1.below hb, grown_trans h.2 (grown_below hb)⟩
theorem St.alloc {W w w1 : World} {b : Nat} {l : List UInt8} (h : St W b l w w1) (o : Obj) : St W b l w (w1.alloc o) := h.bel (bel_alloc (Below.refl _ _) o)
theorem St.drew {W w w1 : World} {b : Nat} {l : List UInt8} (h : St W b l w w1) : St W b l w w1.drew := ⟨h.1.drew, grown_trans h.2 ⟨rfl, rfl, rfl, Nat.le_refl _, fun _ _ _ => rfl⟩⟩
theorem St.set {W w w1 : World} {b : Nat} {l : List UInt8} (h : St W b l w w1) (m : List UInt8) : St W b m w (w1.setCell ⟨b, 0, none⟩ (.string (ba m))) := ⟨h.1.set m, grown_trans h.2 (Lib.grownBy_setCell _ _ _ _)⟩
theorem St.grown {W w w1 w2 : World} {b g : Nat} {l : List UInt8} (h : St W b l w w1) (hg : w1.grownBy w2 (some g)) (h1 : w.heap.size ≤ g) (h2 : b < w.heap.size) : St W b l w w2 :=
 ⟨h.1.grown hg (fun k hk => by cases hk; exact ⟨by have := h.1.lo; omega, by omega⟩), World.grownBy.andThen h.2 hg (fun j hj => by cases hj; exact .inl h1)⟩
theorem St.kept {W w w1 : World} {b : Nat} {l : List UInt8} (h : St W b l w w1) {i : Nat} {o : Obj} (hi : w.heap[i]? = some o) (hb : i ≠ b) : w1.heap[i]? = some o :=
 (h.2.block i (lt_of hi) (fun e => hb (Option.some.inj e))).trans hi
structure Asks (f : Nat) (p : UInt8 → Bool) (hi : Bool) : Prop where
 low : ∀ (c : UInt8) (u : World), c.toNat < 128 → Calls Tryz.prog f #[.int .i32 (c.toNat : Nat)] u fun e w' => e = .returned (.bool (p c)) ∧ w' = u
 high : ∀ (r : Nat) (u : World), 128 ≤ r → Calls Tryz.prog f #[.int .i32 (r : Nat)] u fun e w' => e = .returned (.bool hi) ∧ w' = u
 byte : ∀ c : UInt8, 128 ≤ c.toNat → p c = hi
theorem tdigit_any (n : Nat) (w : World) : Calls Tryz.prog 112 #[.int .i32 (n : Nat)] w fun e w' => e = .returned (.bool (decide (48 ≤ n) && decide (n ≤ 57))) ∧ w' = w := by
 go_enter Tryz.func112, Tryz.ntmps112
 go_wp2
 all_goals (go_ret; refine ⟨ret_bool ?_, rfl⟩; rw [Bool.eq_iff_iff]; simp; omega)
theorem tletter_any (n : Nat) (w : World) : Calls Tryz.prog 116 #[.int .i32 (n : Nat)] w fun e w' => e = .returned (.bool ((decide (65 ≤ n) && decide (n ≤ 90)) || (decide (97 ≤ n) && decide (n ≤ 122)))) ∧ w' = w := by
 go_enter Tryz.func116, Tryz.ntmps116
 go_wp2
 all_goals (go_ret; refine ⟨ret_bool ?_, rfl⟩; rw [Bool.eq_iff_iff]; simp; omega)
theorem tblank_any (n : Nat) (w : World) : Calls Tryz.prog 120 #[.int .i32 (n : Nat)] w fun e w' => e = .returned (.bool (decide (n = 32) || decide (n = 9))) ∧ w' = w := by
 go_enter Tryz.func120, Tryz.ntmps120
 go_wp2
 all_goals (go_ret; refine ⟨ret_bool ?_, rfl⟩; rw [Bool.eq_iff_iff]; simp; omega)
theorem tquote_any (n : Nat) (w : World) : Calls Tryz.prog 148 #[.int .i32 (n : Nat)] w fun e w' => e = .returned (.bool (!decide (n = 34))) ∧ w' = w := by
 go_enter Tryz.func148, Tryz.ntmps148
 go_wp2
 all_goals (go_ret; refine ⟨ret_bool ?_, rfl⟩; rw [Bool.eq_iff_iff]; simp; omega)
theorem tpoint_any (n : Nat) (w : World) : Calls Tryz.prog 146 #[.int .i32 (n : Nat)] w fun e w' => e = .returned (.bool ((decide (48 ≤ n) && decide (n ≤ 57)) || decide (n = 46))) ∧ w' = w := by
 have D := fun u => tdigit_any n u
 cases h : (decide (48 ≤ n) && decide (n ≤ 57))
 all_goals
  rw [h] at D
  go_enter Tryz.func146, Tryz.ntmps146
  go_wp2_with (go_at_call 112; refine (D _).mono ?_; rintro e w' ⟨rfl, hw⟩; obtain rfl := hw.symm; clear hw)
  all_goals (go_ret; refine ⟨ret_bool ?_, rfl⟩; rw [Bool.eq_iff_iff]; simp; try omega)
theorem trun_any (n : Nat) (w : World) : Calls Tryz.prog 151 #[.int .i32 (n : Nat)] w fun e w' => e = .returned (.bool ((((decide (65 ≤ n) && decide (n ≤ 90)) || (decide (97 ≤ n) && decide (n ≤ 122))) || (decide (48 ≤ n) && decide (n ≤ 57))) || decide (n = 95) || decide (n = 36))) ∧ w' = w := by
 have L := fun u => tletter_any n u
 have D := fun u => tdigit_any n u
 cases h : ((decide (65 ≤ n) && decide (n ≤ 90)) || (decide (97 ≤ n) && decide (n ≤ 122))) <;> cases k : (decide (48 ≤ n) && decide (n ≤ 57))
 all_goals
  rw [h] at L
  rw [k] at D
  go_enter Tryz.func151, Tryz.ntmps151
  go_wp2_with (first | (go_at_call 112; refine (D _).mono ?_; rintro e w' ⟨rfl, hw⟩; obtain rfl := hw.symm; clear hw) | (go_at_call 116; refine (L _).mono ?_; rintro e w' ⟨rfl, hw⟩; obtain rfl := hw.symm; clear hw))
  all_goals (go_ret; refine ⟨ret_bool ?_, rfl⟩; rw [Bool.eq_iff_iff]; simp; try omega)
theorem u8_eq (c : UInt8) (d : UInt8) : (c == d) = decide (c.toNat = d.toNat) := by
 rw [Bool.eq_iff_iff]; simp [← UInt8.toNat_inj]
theorem asks_blank : Asks 120 Tk.blank false := ⟨fun c u _ => by
  have := tblank_any c.toNat u
  rw [show (decide (c.toNat = 32) || decide (c.toNat = 9)) = Tk.blank c by unfold Tk.blank; rw [u8_eq, u8_eq]; rfl] at this
  exact this,
 fun r u h => by
  have := tblank_any r u
  rw [show (decide (r = 32) || decide (r = 9)) = false by simp; omega] at this
  exact this,
 fun c h => by unfold Tk.blank; rw [u8_eq, u8_eq]; simp; omega⟩
theorem asks_point : Asks 146 Tk.numC false := ⟨fun c u _ => by
  have := tpoint_any c.toNat u
  rw [show ((decide (48 ≤ c.toNat) && decide (c.toNat ≤ 57)) || decide (c.toNat = 46)) = Tk.numC c by unfold Tk.numC Ad.isD; rw [u8_eq]; rfl] at this
  exact this,
 fun r u h => by
  have := tpoint_any r u
  rw [show ((decide (48 ≤ r) && decide (r ≤ 57)) || decide (r = 46)) = false by simp; omega] at this
  exact this,
 fun c h => by unfold Tk.numC Ad.isD; rw [u8_eq]; simp; omega⟩
theorem asks_quote : Asks 148 (fun c => !(c == 34)) true := ⟨fun c u _ => by
  have := tquote_any c.toNat u
  rw [show (!decide (c.toNat = 34)) = !(c == 34) by rw [u8_eq]; rfl] at this
  exact this,
 fun r u h => by
  have := tquote_any r u
  rw [show (!decide (r = 34)) = true by simp; omega] at this
  exact this,
 fun c h => by rw [u8_eq]; simp; omega⟩
theorem asks_run : Asks 151 Tk.runC false := ⟨fun c u _ => by
  have := trun_any c.toNat u
  rw [show ((((decide (65 ≤ c.toNat) && decide (c.toNat ≤ 90)) || (decide (97 ≤ c.toNat) && decide (c.toNat ≤ 122))) || (decide (48 ≤ c.toNat) && decide (c.toNat ≤ 57))) || decide (c.toNat = 95) || decide (c.toNat = 36)) = Tk.runC c by unfold Tk.runC Ad.isD Ad.isL; rw [u8_eq, u8_eq, Bool.or_comm (decide (65 ≤ c.toNat) && decide (c.toNat ≤ 90))]; rfl] at this
  exact this,
 fun r u h => by
  have := trun_any r u
  rw [show ((((decide (65 ≤ r) && decide (r ≤ 90)) || (decide (97 ≤ r) && decide (r ≤ 122))) || (decide (48 ≤ r) && decide (r ≤ 57))) || decide (r = 95) || decide (r = 36)) = false by simp; omega] at this
  exact this,
 fun c h => by unfold Tk.runC Ad.isD Ad.isL; rw [u8_eq, u8_eq]; simp; omega⟩
theorem while_all {p : UInt8 → Bool} : ∀ {l : List UInt8}, l.all p = true → l.takeWhile p = l ∧ l.dropWhile p = []
 | [], _ => ⟨rfl, rfl⟩
 | c :: r, h => by
  rw [List.all_cons, Bool.and_eq_true] at h
  obtain ⟨a, b⟩ := while_all h.2
  rw [List.takeWhile_cons, List.dropWhile_cons, if_pos h.1, if_pos h.1, a, b]
  exact ⟨rfl, rfl⟩
theorem while_at {p : UInt8 → Bool} : ∀ {l : List UInt8} {k : Nat} (hk : k < l.length), (l.take k).all p = true → p l[k] = false → l.takeWhile p = l.take k ∧ l.dropWhile p = l.drop k
 | c :: r, 0, _, _, h => by
  have h' : p c = false := h
  rw [List.takeWhile_cons, List.dropWhile_cons, h']
  exact ⟨rfl, rfl⟩
 | c :: r, k + 1, hk, ha, h => by
  rw [List.take_succ_cons, List.all_cons, Bool.and_eq_true] at ha
  have hk' : k < r.length := by simpa using hk
  obtain ⟨a, b⟩ := while_at hk' ha.2 (by simpa using h)
  rw [List.takeWhile_cons, List.dropWhile_cons, if_pos ha.1, if_pos ha.1, a, b]
  exact ⟨rfl, rfl⟩
theorem all_more {p : UInt8 → Bool} (l : List UInt8) (k d : Nat) (ha : (l.take k).all p = true) (hd : ∀ j, j < d → ∀ h : k + j < l.length, p l[k + j] = true) : (l.take (k + d)).all p = true := by
 rw [List.all_eq_true] at ha ⊢
 intro x hx
 obtain ⟨i, hi, rfl⟩ := List.getElem_of_mem hx
 rw [List.length_take] at hi
 rw [List.getElem_take]
 by_cases h : i < k
 ·exact ha _ (List.mem_take_iff_getElem.2 ⟨i, by omega, rfl⟩)
 ·have := hd (i - k) (by omega) (by omega)
  simp only [show k + (i - k) = i by omega] at this
  exact this
theorem ba_get (l : List UInt8) (k : Nat) (h : k < l.length) (h2 : k < (ba l).size) : (ba l)[k] = l[k] := by
 simp [ba]; rfl
theorem ba_get! (l : List UInt8) (k : Nat) (h : k < l.length) : (ba l).get! k = l[k] := by
 have := get_list (ba l) k h
 exact this
theorem ba_take (l : List UInt8) (k : Nat) : (ba l).extract 0 k = ba (l.take k) := by
 apply ByteArray.ext
 simp [ba]
theorem ba_drop (l : List UInt8) (k : Nat) : (ba l).extract k l.length = ba (l.drop k) := by
 apply ByteArray.ext
 simp [ba]
 rw [List.take_of_length_le (by simp)]
structure TW (W : World) (b : Nat) (l : List UInt8) (w : World) (q : Nat) (u : World) : Prop where
 it : u.heap[w.heap.size]? = some (.stringIter (ba l) q)
 bel : Below w.heap.size w u
 lx : LX W b l u
theorem TW.next {W w u : World} {b q : Nat} {l : List UInt8} (h : TW W b l w q u) (hb : b < w.heap.size) (hp : q < l.length) :
  ∃ u1, (∀ ty, (Instr.next (.pointer (some ⟨w.heap.size, 0, none⟩)) true ty).run Tryz.prog u = .ok (.tuple #[.bool true, .int .i64 q, .int .i32 (Utf8.decode (ba l) q).1]) u1) ∧ TW W b l w (q + (Utf8.decode (ba l) q).2) u1 := by
 have hq : q < (ba l).size := by rw [size_mk]; exact hp
 have hlt : w.heap.size < u.heap.size := (Array.getElem?_eq_some_iff.1 h.it).1
 have hB : Below w.heap.size w { u with heap := u.heap.setIfInBounds w.heap.size (.stringIter (ba l) (q + (Utf8.decode (ba l) q).2)) } := by
  obtain ⟨a, c, d, e, f⟩ := h.bel
  refine ⟨a, c, d, ?_, fun i hi => ?_⟩
  ·show w.heap.size ≤ (u.heap.setIfInBounds _ _).size
   simp; omega
  ·show (u.heap.setIfInBounds _ _)[i]? = _
   rw [Array.getElem?_setIfInBounds_ne (by omega)]
   exact f i hi
 have hG : u.grownBy { u with heap := u.heap.setIfInBounds w.heap.size (.stringIter (ba l) (q + (Utf8.decode (ba l) q).2)) } (some w.heap.size) := by
  refine ⟨rfl, rfl, rfl, ?_, fun i hi hne => ?_⟩
  ·show u.heap.size ≤ (u.heap.setIfInBounds _ _).size
   simp
  ·show (u.heap.setIfInBounds _ _)[i]? = _
   rw [Array.getElem?_setIfInBounds_ne (fun e => hne (by rw [e]))]
 refine ⟨_, fun ty => run_next_at h.it ty hq, ?_, hB, h.lx.grown hG (fun k hk => ?_)⟩
 ·show (u.heap.setIfInBounds w.heap.size _)[w.heap.size]? = _
  rw [Array.getElem?_setIfInBounds_self_of_lt hlt]
 ·cases hk
  exact ⟨by have := h.lx.lo; omega, by omega⟩
theorem TW.pos {W w u : World} {b q : Nat} {l : List UInt8} (h : TW W b l w q u) : u.iterPos w.heap.size = q := by simp [World.iterPos, h.it]
theorem TW.begin {W w : World} {b : Nat} {l : List UInt8} (X : LX W b l w) : TW W b l w 0 (w.iter (ba l) 0) :=
 ⟨by simpa using World.iter_heap w (ba l) 0, (Below.refl _ _).alloc (Nat.le_refl _) _, X.below ((Below.refl _ _).alloc (Nat.le_refl _) _)⟩
theorem TW.st {W w u : World} {b q : Nat} {l : List UInt8} (h : TW W b l w q u) (m : List UInt8) : St W b m w (u.setCell ⟨b, 0, none⟩ (.string (ba m))) :=
 St.set (l := l) ⟨h.lx, grown_below h.bel⟩ m
theorem take_any {W w : World} {b : Nat} {l : List UInt8} (X : LX W b l w) (hl : l.length ≤ 255) {f : Nat} {p : UInt8 → Bool} {hi : Bool} (A : Asks f p hi)
  (hE : ∀ args u, (callFunc f args).run Tryz.prog u = .ok (.enter f args) u) :
  Calls Tryz.prog 119 #[.pointer (some ⟨b, 0, none⟩), .func (.func f) #[] #[]] w fun e w' => e = .returned (.string (ba (l.takeWhile p))) ∧ St W b (l.dropWhile p) w w' := by
 obtain ⟨c0, c1, f0⟩ := X.cells
 have hlt := X.lt
 have HX : Hid (LX W b l w) := X
 have HA : Hid (Asks f p hi) := A
 have hs' : (ba l).size = l.length := size_mk l
 have HB : Hid _ := TW.begin X
 clear X A
 go_enter Tryz.func119, Tryz.ntmps119
 go_wp2
 go_loopw [5, 6] (fun v i w' => v = .int .i64 l.length ∧ ∃ (q : Nat), q ≤ l.length ∧ Hid ((l.take q).all p = true) ∧ TW W b l w q w') (fun _ _ w' => l.length - w'.iterPos w.heap.size)
 case atStart => exact ⟨rfl, 0, Nat.zero_le _, by simp [Hid], HB.out⟩
 case round =>
  obtain ⟨rfl, q, hq, ha, hR⟩ := hrel
  have hpos := hR.pos
  by_cases hq2 : q < l.length
  ·obtain ⟨u1, hnx, hR1⟩ := hR.next hlt hq2
   have hqs : q < (ba l).size := by rw [hs']; exact hq2
   have hqi : (q : Int) ≤ l.length := by omega
   by_cases hasc : ((ba l)[q]'hqs).toNat < 128
   ·rw [decode_ascii (ba l) q hqs hasc] at hnx hR1
    have hc := ba_get l q hq2 hqs
    have AL := fun u => HA.out.low _ u hasc
    rw [hc] at hnx AL
    obtain ⟨d0, d1, g0⟩ := hR1.lx.cells
    cases hp : p l[q]
    ·rw [hp] at AL
     obtain ⟨e1, e2⟩ := while_at hq2 ha.out hp
     have HE : Hid ((ba l).extract 0 q = ba (l.takeWhile p) ∧ (ba l).extract q l.length = ba (l.dropWhile p)) := ⟨by rw [ba_take, e1], by rw [ba_drop, e2]⟩
     have HF : Hid (∀ v, v = ba (l.dropWhile p) → St W b (l.dropWhile p) w (u1.setCell ⟨b, 0, none⟩ (.string v))) := fun v hv => by rw [hv]; exact hR1.st _
     clear hR hR1 e1 e2 hasc
     generalize l[q] = c at *
     go_wp2_with (go_at_fn f; refine (AL _).mono ?_; rintro e w' ⟨rfl, hw⟩; obtain rfl := hw.symm; clear hw)
     go_ret
     exact ⟨by rw [← HE.out.1]; rfl, HF.out _ HE.out.2⟩
    ·rw [hp] at AL
     have HN : Hid ((l.take (q + 1)).all p = true) := all_more l q 1 ha.out (fun j hj h => by
      obtain rfl : j = 0 := by omega
      exact hp)
     have HR1 : Hid (TW W b l w (q + 1) u1) := hR1
     clear hR hR1 hasc d0 d1 g0
     generalize l[q] = c at *
     go_wp2_with (go_at_fn f; refine (AL _).mono ?_; rintro e w' ⟨rfl, hw⟩; obtain rfl := hw.symm; clear hw)
     go_roundw
     case rel => exact ⟨rfl, q + 1, by omega, HN, HR1.out⟩
     case measure =>
      have := HR1.out.pos
      rw [hpos, this]
      omega
   ·have dh := decode_high (ba l) q hqs (by omega)
    have db := decode_bytes (ba l) q hqs (by omega)
    rw [hs'] at db
    obtain ⟨r, hr, hr2⟩ : ∃ r : Nat, (Utf8.decode (ba l) q).1 = r ∧ 128 ≤ r := ⟨_, rfl, dh.1⟩
    have AL := fun u => HA.out.high r u hr2
    rw [hr] at hnx
    obtain ⟨d0, d1, g0⟩ := hR1.lx.cells
    have hd1 := dh.2
    have hd2 := db.1
    have hby := db.2
    clear hr dh db
    generalize (Utf8.decode (ba l) q).2 = d at *
    have hc := ba_get l q hq2 hqs
    have hb8 := HA.out.byte l[q] (by rw [← hc]; omega)
    cases hi
    ·obtain ⟨e1, e2⟩ := while_at hq2 ha.out hb8
     have HE : Hid ((ba l).extract 0 q = ba (l.takeWhile p) ∧ (ba l).extract q l.length = ba (l.dropWhile p)) := ⟨by rw [ba_take, e1], by rw [ba_drop, e2]⟩
     have HF : Hid (∀ v, v = ba (l.dropWhile p) → St W b (l.dropWhile p) w (u1.setCell ⟨b, 0, none⟩ (.string v))) := fun v hv => by rw [hv]; exact hR1.st _
     clear hR hR1 e1 e2 hasc hby hc hb8
     go_wp2_with (go_at_fn f; refine (AL _).mono ?_; rintro e w' ⟨rfl, hw⟩; obtain rfl := hw.symm; clear hw)
     go_ret
     exact ⟨by rw [← HE.out.1]; rfl, HF.out _ HE.out.2⟩
    ·have HN : Hid ((l.take (q + d)).all p = true) := all_more l q d ha.out (fun j hj h => by
      have := hby j hj
      rw [ba_get! l (q + j) h] at this
      exact HA.out.byte _ this)
     have HR1 : Hid (TW W b l w (q + d) u1) := hR1
     clear hR hR1 hasc hby hc hb8 d0 d1 g0
     go_wp2_with (go_at_fn f; refine (AL _).mono ?_; rintro e w' ⟨rfl, hw⟩; obtain rfl := hw.symm; clear hw)
     go_roundw
     case rel => exact ⟨rfl, q + d, hd2, HN, HR1.out⟩
     case measure =>
      have := HR1.out.pos
      rw [hpos, this]
      omega
  ·have hnx : ∀ ty, (Instr.next (.pointer (some ⟨w.heap.size, 0, none⟩)) true ty).run Tryz.prog wr = .ok (.tuple #[.bool false]) wr := fun ty => run_next_done hR.it ty (by rw [hs']; exact hq2)
   obtain ⟨d0, d1, g0⟩ := hR.lx.cells
   have hall : l.all p = true := by
    have := ha.out
    rw [List.take_of_length_le (by omega)] at this
    exact this
   obtain ⟨e1, e2⟩ := while_all hall
   have HE : Hid ((ba l).extract 0 l.length = ba (l.takeWhile p) ∧ ByteArray.empty = ba (l.dropWhile p)) := ⟨by rw [ba_take, e1, List.take_length], by rw [e2]; rfl⟩
   have HF : Hid (∀ v, v = ba (l.dropWhile p) → St W b (l.dropWhile p) w (wr.setCell ⟨b, 0, none⟩ (.string v))) := fun v hv => by rw [hv]; exact hR.st _
   clear hR e1 e2 hall
   go_wp2
   go_ret
   exact ⟨by rw [← HE.out.1]; rfl, HF.out _ HE.out.2⟩
def skF (s l : List UInt8) : List UInt8 := if s.isPrefixOf l = true then l.drop s.length else l
theorem skip_any {W w : World} {b : Nat} {l : List UInt8} (X : LX W b l w) (s : List UInt8) :
  Calls Tryz.prog 147 #[.pointer (some ⟨b, 0, none⟩), .string (ba s)] w fun e w' => e = .returned (.bool (s.isPrefixOf l)) ∧ St W b (skF s l) w w' := by
 have CP : ∀ u, Calls Tryz.prog 33 #[.string (ba l), .string (ba s)] u fun e w' => e = .returned (.tuple #[.string (ba (skF s l)), .bool (s.isPrefixOf l)]) ∧ w' = u := fun u => Tryz.strings_CutPrefix (ba l) (ba s) u
 obtain ⟨c0, c1, f0⟩ := X.cells
 have HS : Hid (St W b (skF s l) w (w.setCell ⟨b, 0, none⟩ (.string (ba (skF s l))))) := (St.refl X).set _
 clear X
 generalize ba (skF s l) = A at *
 generalize s.isPrefixOf l = q at *
 generalize ba l = L at *
 generalize ba s = S at *
 go_enter Tryz.func147, Tryz.ntmps147
 go_wp2_with (go_at_call 33; refine (CP _).mono ?_; rintro e w' ⟨rfl, hw⟩; obtain rfl := hw.symm; clear hw)
 go_ret
 exact ⟨rfl, HS.out⟩
theorem e32 : ∀ args u, (callFunc 120 args).run Tryz.prog u = .ok (.enter 120 args) u := enters_of Tryz.func120 (by kernel_rfl) rfl
theorem e51 : ∀ args u, (callFunc 146 args).run Tryz.prog u = .ok (.enter 146 args) u := enters_of Tryz.func146 (by kernel_rfl) rfl
theorem e53 : ∀ args u, (callFunc 148 args).run Tryz.prog u = .ok (.enter 148 args) u := enters_of Tryz.func148 (by kernel_rfl) rfl
theorem e56 : ∀ args u, (callFunc 151 args).run Tryz.prog u = .ok (.enter 151 args) u := enters_of Tryz.func151 (by kernel_rfl) rfl
theorem nil_beq (l : List UInt8) : ((ba l).toList == []) = l.isEmpty := by
 rw [ByteArray.toList_eq]
 cases l <;> rfl
theorem more_any {W w : World} {b : Nat} {l : List UInt8} (X : LX W b l w) (hl : l.length ≤ 255) :
  Calls Tryz.prog 77 #[.pointer (some ⟨b, 0, none⟩)] w fun e w' => e = .returned (.bool (!(l.dropWhile Tk.blank).isEmpty)) ∧ St W b (l.dropWhile Tk.blank) w w' := by
 have T := take_any X hl asks_blank e32
 have HE := nil_beq (l.dropWhile Tk.blank)
 generalize l.takeWhile Tk.blank = A at *
 generalize l.dropWhile Tk.blank = m at *
 cases hq : m.isEmpty
 all_goals
  rw [hq] at HE
  have HT : Hid _ := T
  clear T
  go_enter Tryz.func77, Tryz.ntmps77
  go_wp2_with (go_at_call 119; refine Calls.mono HT.out ?_; rintro e w1 ⟨rfl, hs⟩; have HS : Hid (St W b m w w1) := hs; obtain ⟨d0, d1, g0⟩ := hs.1.cells; clear hs)
  go_ret
  exact ⟨rfl, HS.out⟩
def Ans (W : World) (b : Nat) (w : World) (o : Option (Tk.Tok × List UInt8)) (e : Ending) (w' : World) : Prop :=
 match o with
 | some (t, m) => e = .returned (.tuple #[.agg (tk t).cs, .bool true]) ∧ St W b m w w'
 | none => (∃ t : TT, e = .returned (.tuple #[.agg t.cs, .bool false])) ∧ ∃ m, St W b m w w'
theorem St.fin {W w w1 : World} {b : Nat} {l : List UInt8} {o : Obj} (hb : b < w.heap.size) (h : St W b l (w.alloc o) w1) (es : Array Value) : St W b l w (w1.setRow w.heap.size es) :=
 St.grown (l := l) (w1 := w1) ⟨h.1, grown_trans (World.grownBy_alloc w o _) h.2⟩ (setRow_grown _ _ _) (Nat.le_refl _) hb
theorem St.res {W w w1 : World} {b : Nat} {l : List UInt8} {o : Obj} (hb : b < w.heap.size) (h : St W b l (w.alloc o) w1) : w1.heap[w.heap.size]? = some o := h.kept (heap_alloc_new w o) (by omega)
theorem tcs_one (k n : Int) (s b h : ByteArray) (r c : Int) (fr fc : Bool) : (tcs k n s b h r c fr fc).all (·.oneCell') = true := by simp [Value.oneCell']
abbrev tkO : Obj := .cells tk0 123
theorem St.put {W w w1 : World} {b : Nat} {l : List UInt8} (hb : b < w.heap.size) (h : St W b l (w.alloc tkO) w1) (k n : Int) (s b' h' : ByteArray) (r c : Int) (fr fc : Bool) :
  Hid ((Instr.storeAt 123 (.pointer (some ⟨w.heap.size, 0, none⟩)) (.agg (tcs k n s b' h' r c fr fc))).run Tryz.prog w1 = .ok () (w1.setRow w.heap.size (tcs k n s b' h' r c fr fc))) :=
 sto (h.res hb) inf123 rfl (tcs_one k n s b' h' r c fr fc)
theorem St.ans {W w w1 : World} {b : Nat} {l : List UInt8} (hb : b < w.heap.size) (h : St W b l (w.alloc tkO) w1) (es : Array Value) (he : es.size = 9) {fn : Func} {p u : Tmp} (hr : fn.results = #[.cell p 123, .tmp u]) {tmps : Array Value} {v2 : Value}
  (hp : tmps.getD p undef = .pointer (some ⟨w.heap.size, 0, none⟩)) (hv : tmps.getD u undef = v2) : (results fn tmps).run Tryz.prog (w1.setRow w.heap.size es) = .ok (.tuple #[.agg es, v2]) (w1.setRow w.heap.size es) :=
 results2_row hr hp (setRow_heap _ _ _ es _ _ (h.res hb)) rfl Tryz.underlying123 (by rw [he]; exact inf123) hv
def pnF (l : List UInt8) : Option Int := if (parseF l).2 = true then some (parseF l).1 else none
theorem number_core {W w : World} {b : Nat} {l : List UInt8} (X : LX W b l w) (hl : l.length ≤ 255) :
  Calls Tryz.prog 113 #[.pointer (some ⟨b, 0, none⟩)] w fun e w' => e = .returned (.tuple #[.agg (tcs 1 (parseF (l.takeWhile Tk.numC)).1 noB noB noB 0 0 false false), .bool (parseF (l.takeWhile Tk.numC)).2]) ∧ St W b (l.dropWhile Tk.numC) w w' := by
 have HT : Hid _ := take_any (X.alloc tkO) hl asks_point e51
 have hlen : (l.takeWhile Tk.numC).length ≤ 255 := Nat.le_trans (List.takeWhile_sublist _).length_le hl
 have PA : ∀ u, Calls Tryz.prog 145 #[.string (ba (l.takeWhile Tk.numC))] u fun e w' => e = .returned (.tuple #[.int .i64 (parseF (l.takeWhile Tk.numC)).1, .bool (parseF (l.takeWhile Tk.numC)).2]) ∧ Below u.heap.size u w' := fun u => parse_s (ba (l.takeWhile Tk.numC)) (by rw [size_mk]; omega) u
 have hb := X.lt
 clear X
 generalize (parseF (l.takeWhile Tk.numC)).1 = n at *
 generalize (parseF (l.takeWhile Tk.numC)).2 = ok at *
 generalize ba (l.takeWhile Tk.numC) = A at *
 generalize l.dropWhile Tk.numC = m at *
 go_enter Tryz.func113, Tryz.ntmps113
 go_wp2_with (first
  | (go_at_call 119; refine Calls.mono HT.out ?_; rintro e w1 ⟨rfl, hs⟩; have HS : Hid (St W b m (w.alloc tkO) w1) := hs; clear hs)
  | (go_at_call 145; refine (PA _).mono ?_; rintro e w2 ⟨rfl, hs⟩; have HS2 : Hid (St W b m (w.alloc tkO) w2) := HS.out.bel hs; have R := HS2.out.put hb 1 n noB noB noB 0 0 false false; clear hs HS)
  | (refine wpList_store_run rfl 123 _ _ rfl _ _ _ rfl rfl R.out ?_))
 exact bodyPost_ret (HS2.out.ans hb (tcs 1 n noB noB noB 0 0 false false) rfl rfl rfl rfl) rfl ⟨rfl, HS2.out.fin hb _⟩
theorem number_any {W w : World} {b : Nat} {l : List UInt8} (X : LX W b l w) (hl : l.length ≤ 255) :
  Calls Tryz.prog 113 #[.pointer (some ⟨b, 0, none⟩)] w (Ans W b w ((pnF (l.takeWhile Tk.numC)).map fun n => (.num n, l.dropWhile Tk.numC))) := by
 refine (number_core X hl).mono ?_
 rintro e w' ⟨rfl, h⟩
 unfold pnF
 cases hq : (parseF (l.takeWhile Tk.numC)).2
 ·exact ⟨⟨⟨1, _, noB, noB, noB, 0, 0, false, false⟩, rfl⟩, _, h⟩
 ·exact ⟨rfl, h⟩
end Go.Proofs.YtljmklbbngpllaaGreatDoor
