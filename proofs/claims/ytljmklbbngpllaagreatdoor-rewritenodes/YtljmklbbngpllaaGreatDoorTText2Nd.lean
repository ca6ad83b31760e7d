/- TName3, TText, TText2. -/
import Derived.Lib.OthersKept
import Derived.Test.YtljmklbbngpllaaGreatDoorTName2Nd
set_option linter.unusedVariables false
set_option linter.unusedSimpArgs false
set_option maxHeartbeats 16000000
set_option maxRecDepth 100000
namespace Go.Proofs.YtljmklbbngpllaaGreatDoor
open Go.RowKit
theorem at_eq {c : UInt8} : ∀ {l a r : List UInt8}, Ad.at_ c l = some (a, r) → l = a ++ c :: r
 | [], a, r, h => by cases h
 | x :: l, a, r, h => by
  unfold Ad.at_ at h
  split at h
  ·rename_i e; cases h; rw [e]; rfl
  ·cases hq : Ad.at_ c l with
   | none => rw [hq] at h; cases h
   | some p =>
    rw [hq] at h
    cases h
    rw [List.cons_append, ← at_eq (a := p.1) (r := p.2) hq]
theorem aE5 (p : UInt8 → Bool) (l : List UInt8) : l.takeWhile p ++ l.dropWhile p = l := List.takeWhile_append_dropWhile
theorem aA0 {l A B : List UInt8} (h : l = A ++ B) : l.take (l.length - B.length) = A ∧ B.length ≤ l.length ∧ A.length ≤ l.length := by
 subst h
 rw [List.length_append]
 refine ⟨?_, by omega, by omega⟩
 rw [show A.length + B.length - B.length = A.length by omega]
 exact List.take_left
theorem zI {W w : World} {b : Nat} {l l1 k pre : List UInt8} (X : LX W b l w) (hl : l.length ≤ 255) (he : l = pre ++ l1) (hk : k = [] ∨ k ≠ [])
  (BK : Hid (Calls Tryz.prog 150 #[.pointer (some ⟨b, 0, none⟩)] (w.alloc tkO) fun e w' => e = .returned (.string (ba k)) ∧ St W b l1 (w.alloc tkO) w')) :
  Calls Tryz.prog 117 #[.pointer (some ⟨b, 0, none⟩)] w (Ans W b w (Tk.gV gnF trB k pre l1)) := by
 have hl1 : l1.length ≤ 255 := by rw [he, List.length_append] at hl; omega
 have hd : (l1.dropWhile Tk.bG).length ≤ l1.length := Tk.iA _ _
 have ht : (l1.takeWhile Tk.bG).length ≤ 255 := Nat.le_trans (List.takeWhile_sublist _).length_le hl1
 have TK := fun u (Y : LX W b l1 u) => jZ Y hl1 yY e56
 have SK := fun u (Y : LX W b (l1.dropWhile Tk.bG) u) => gF Y [33]
 have CE := fun u (T : dB u) => iG (l1.takeWhile Tk.bG) (by omega) u T.t
 have GN : ∀ u, dB u → Calls Tryz.prog 154 #[.string (ba (l1.takeWhile Tk.bG))] u fun e w' => e = .returned (.bool (gnF (l1.takeWhile Tk.bG))) ∧ Below u.heap.size u w' := fun u T => bU (ba (l1.takeWhile Tk.bG)) (by rw [size_mk]; omega) u T.t.t
 have TR := fun u (T : dB u) => aC0 (l1.takeWhile Tk.bG) (by omega) u T.t.t
 have plain : [33].isPrefixOf (l1.dropWhile Tk.bG) = false → Calls Tryz.prog 117 #[.pointer (some ⟨b, 0, none⟩)] w (Ans W b w (if k = [] then (match Ad.cellP (l1.takeWhile Tk.bG) with
   | some c => some (.ref ⟨[], [], c⟩, l1.dropWhile Tk.bG)
   | none => if gnF (l1.takeWhile Tk.bG) = true ∨ trB (l1.takeWhile Tk.bG) = true then some (.word [] (l1.takeWhile Tk.bG), l1.dropWhile Tk.bG) else none)
  else if gnF (l1.takeWhile Tk.bG) = true then some (.word k (l1.takeWhile Tk.bG), l1.dropWhile Tk.bG) else none)) := by
  intro hno
  simp only [vT hno, hno] at SK
  by_cases e : k = []
  ·subst e
   rw [if_pos rfl]
   cases hc : Ad.cellP (l1.takeWhile Tk.bG) with
   | some c =>
    rw [hc] at CE
    refine (aG5 X BK TK SK CE).mono ?_
    rintro e w' ⟨rfl, h⟩
    exact ⟨rfl, h⟩
   | none =>
    rw [hc] at CE
    refine (aE3 X BK TK SK CE GN TR).mono ?_
    rintro e w' ⟨rfl, h⟩
    cases hg : gnF (l1.takeWhile Tk.bG) <;> cases hr : trB (l1.takeWhile Tk.bG)
    ·exact ⟨⟨⟨4, 0, _, noB, noB, 0, 0, false, false⟩, rfl⟩, _, h⟩
    ·exact ⟨rfl, h⟩
    ·exact ⟨rfl, h⟩
    ·exact ⟨rfl, h⟩
  ·rw [if_neg e]
   have hK : ((ba k).toList == []) = false := by
    rw [aBY]
    cases k with
    | nil => exact absurd rfl e
    | cons _ _ => rfl
   have main := fun {B H : ByteArray} {r c : Int} {fr fc ok : Bool} (CE : ∀ u, dB u → Calls Tryz.prog 153 #[.string (ba (l1.takeWhile Tk.bG))] u fun e w' => e = .returned (.tuple #[bC B H r c fr fc, .bool ok]) ∧ Below u.heap.size u w') => aE4 X hK BK TK SK CE GN
   have fin : ∀ (e : Ending) (w' : World), (e = .returned (.tuple #[.agg (tcs 4 0 (ba (l1.takeWhile Tk.bG)) (ba k) noB 0 0 false false), .bool (gnF (l1.takeWhile Tk.bG))]) ∧ St W b (l1.dropWhile Tk.bG) w w') → Ans W b w (if gnF (l1.takeWhile Tk.bG) = true then some (.word k (l1.takeWhile Tk.bG), l1.dropWhile Tk.bG) else none) e w' := by
    rintro e w' ⟨rfl, h⟩
    cases hg : gnF (l1.takeWhile Tk.bG)
    ·exact ⟨⟨⟨4, 0, _, _, noB, 0, 0, false, false⟩, rfl⟩, _, h⟩
    ·exact ⟨rfl, h⟩
   cases hc : Ad.cellP (l1.takeWhile Tk.bG) with
   | some c =>
    rw [hc] at CE
    exact (main CE).mono fin
   | none =>
    rw [hc] at CE
    exact (main CE).mono fin
 unfold Tk.gV
 cases hx : l1.dropWhile Tk.bG with
 | nil =>
  have := plain (by rw [hx]; rfl)
  rw [hx] at this
  exact this
 | cons x r =>
  by_cases h33 : x = 33
  ·subst h33
   clear plain
   have hr : r.length ≤ 255 := by rw [hx, List.length_cons] at hd; omega
   rw [hx] at TK SK
   have SK2 : ∀ u, LX W b (33 :: r) u → Calls Tryz.prog 147 #[.pointer (some ⟨b, 0, none⟩), .string ⟨#[33]⟩] u fun e w' => e = .returned (.bool true) ∧ St W b r u w' := SK
   have TK2 := fun u (Y : LX W b r u) => jZ Y hr yY e56
   have h4 := Tk.iA Tk.bG r
   have hall : l = pre ++ l1.takeWhile Tk.bG ++ 33 :: r.takeWhile Tk.bG ++ r.dropWhile Tk.bG := by
    rw [List.append_assoc, List.append_assoc, List.cons_append, aE5, ← hx, aE5]; exact he
   obtain ⟨f1, hl4, f3⟩ := aA0 hall
   have hD : (ba l).extract 0 (l.length - (r.dropWhile Tk.bG).length) = ba (pre ++ l1.takeWhile Tk.bG ++ 33 :: r.takeWhile Tk.bG) := by
    rw [qA, f1]
   have hlD : (pre ++ l1.takeWhile Tk.bG ++ 33 :: r.takeWhile Tk.bG).length ≤ 255 := by omega
   have PR := fun u (T : dB u) => vR (pre ++ l1.takeWhile Tk.bG ++ 33 :: r.takeWhile Tk.bG) (by omega) u T.t
   simp only
   cases hp : Ad.mM gnF (pre ++ l1.takeWhile Tk.bG ++ 33 :: r.takeWhile Tk.bG) with
   | none =>
    rw [hp] at PR
    refine (zH X hl BK TK SK2 TK2 hl4 hD PR).mono ?_
    rintro e w' ⟨rfl, h⟩
    exact ⟨⟨⟨3, 0, noB, noB, noB, 0, 0, false, false⟩, rfl⟩, _, h⟩
   | some x =>
    rw [hp] at PR
    refine (zH X hl BK TK SK2 TK2 hl4 hD PR).mono ?_
    rintro e w' ⟨rfl, h⟩
    exact ⟨rfl, h⟩
  ·have := plain (by
    rw [hx]
    simp [List.isPrefixOf, Ne.symm h33])
   rw [hx] at this
   split
   ·rename_i e; cases e; exact absurd rfl h33
   ·exact this
theorem aG6 {l : List UInt8} (h : Ad.strip 91 l = (false, l)) : bkF l = ([], l) := by unfold bkF; rw [h]
theorem aE6 {W w : World} {b : Nat} {l : List UInt8} (X : LX W b l w) (hl : l.length ≤ 255) : Calls Tryz.prog 117 #[.pointer (some ⟨b, 0, none⟩)] w (Ans W b w (Tk.named gnF trB l)) := by
 have B := aE2 (X.alloc tkO) hl
 have other : bkF l = ([], l) → Calls Tryz.prog 117 #[.pointer (some ⟨b, 0, none⟩)] w (Ans W b w (Tk.gV gnF trB [] [] l)) := fun h => by
  rw [h] at B
  exact zI X hl rfl (.inl rfl) B
 rcases l with _ | ⟨c, m⟩
 ·exact other rfl
 ·by_cases hc : c = 91
  ·subst hc
   have no : bkF (91 :: m) = ([], 91 :: m) → Calls Tryz.prog 117 #[.pointer (some ⟨b, 0, none⟩)] w (Ans W b w none) := fun h => by
    have := other h
    rw [show Tk.gV gnF trB [] [] (91 :: m) = none by
     unfold Tk.gV
     rw [List.dropWhile_cons, if_neg (by decide), List.takeWhile_cons, if_neg (by decide)]
     rfl] at this
    exact this
   unfold Tk.named
   simp only
   cases ha : Ad.at_ 93 m with
   | none =>
    refine no ?_
    unfold bkF
    rw [Ad.bV, if_pos rfl]
    simp only [ha]
   | some p =>
    obtain ⟨a, r⟩ := p
    simp only
    cases hg : gnF a with
    | false =>
     refine no ?_
     unfold bkF
     rw [Ad.bV, if_pos rfl]
     simp only [ha, hg]
     rfl
    | true =>
     rw [if_pos rfl]
     have hb : bkF (91 :: m) = (a, r) := by
      unfold bkF
      rw [Ad.bV, if_pos rfl]
      simp only [ha, hg, if_true]
     rw [hb] at B
     refine zI X hl ?_ (.inr fun e => ?_) B
     ·rw [at_eq ha]; simp
     ·rw [e] at hg; cases hg
  ·have h : Tk.named gnF trB (c :: m) = Tk.gV gnF trB [] [] (c :: m) := by
    unfold Tk.named
    split
    ·rename_i e; cases e; exact absurd rfl hc
    ·rfl
   rw [h]
   exact other (aG6 (by rw [Ad.bV, if_neg hc]))
abbrev nq (c : UInt8) : Bool := !(c == 34)
theorem oH : ∀ (A D : List UInt8), (∀ x ∈ A, nq x = true) → Tk.dF (A ++ D) = (Tk.dF D).map fun p => (A ++ p.1, p.2)
 | [], D, _ => by
  show Tk.dF D = (Tk.dF D).map _
  cases Tk.dF D <;> rfl
 | a :: A, D, h => by
  have ha : ¬ a = 34 := by simpa using h a (by simp)
  have ih := oH A D (fun x hx => h x (List.mem_cons_of_mem _ hx))
  cases hAD : A ++ D with
  | nil =>
   obtain ⟨rfl, rfl⟩ := List.append_eq_nil_iff.1 hAD
   show Tk.dF [a] = _
   unfold Tk.dF
   rw [if_neg ha]; rfl
  | cons d r =>
   rw [List.cons_append, hAD]
   have e : Tk.dF (a :: d :: r) = (Tk.dF (d :: r)).map fun p => (a :: p.1, p.2) := by
    conv => lhs; unfold Tk.dF
    rw [if_neg ha]
   rw [e, ← hAD, ih]
   cases Tk.dF D <;> rfl
theorem aG7 {D : List UInt8} (h : ∀ r, D ≠ 34 :: r) : Tk.dF (34 :: D) = some ([], D) := by
 cases D with
 | nil => rfl
 | cons d r =>
  unfold Tk.dF
  rw [if_pos rfl, if_neg (fun e => h r (by rw [e]))]
theorem aE7 (D : List UInt8) : Tk.dF (34 :: 34 :: D) = (Tk.dF D).map fun p => (34 :: p.1, p.2) := by
 conv => lhs; unfold Tk.dF
 rw [if_pos rfl, if_pos rfl]
theorem aE8 {p : UInt8 → Bool} {l : List UInt8} : ∀ x ∈ l.takeWhile p, p x = true := by
 have : (l.takeWhile p).all p = true := by rw [List.all_takeWhile]
 exact List.all_eq_true.1 this
theorem oI {p : UInt8 → Bool} : ∀ {l : List UInt8} {c : UInt8} {r : List UInt8}, l.dropWhile p = c :: r → p c = false
 | [], _, _, h => by cases h
 | a :: l, c, r, h => by
  rw [List.dropWhile_cons] at h
  split at h
  ·exact oI h
  ·rename_i ha; cases h; simpa using ha
structure TX (W : World) (b : Nat) (w : World) (m acc : List UInt8) (u : World) : Prop where
 st : St W b m w u
 z : u.heap[w.heap.size]? = some tkO
 bd : Lib.IsBuilderF 136 5 (w.heap.size + 1) (w.heap.size + 1) (Lib.byteCells acc) u
theorem uL {T e : TypeId} {B k b : Nat} {p : Value} {bs : List Value} {w w' : World} (h : Lib.BuilderAtF T e B k p bs w) (hg : w.grownBy w' (some b)) (hb : b < B) : Lib.BuilderAtF T e B k p bs w' := by
 have hlt := h.lt
 obtain ⟨hB, v, hk, hown, hne⟩ := h
 refine ⟨hB, v, (hg.block k hlt (fun e => by cases e; omega)).trans hk, hown.kept hg ?_, hne⟩
 rcases hown.2 with ⟨rfl, _⟩ | ⟨g, cap, cur, fz, rfl, hge, _⟩
 ·exact .inl rfl
 ·exact .inr fun e => by simp [Value.ownBlock] at e; omega
theorem aG8 {T e : TypeId} {B k b : Nat} {bs : List Value} {w w' : World} (h : Lib.IsBuilderF T e B k bs w) (hg : w.grownBy w' (some b)) (hb : b < B) : Lib.IsBuilderF T e B k bs w' :=
 h.elim (fun x => .inl (uL x hg hb)) (fun x => .inr (uL x hg hb))
theorem TX.method {W w u u1 : World} {b : Nat} {m m' acc : List UInt8} (hb : b < w.heap.size) (h : TX W b w m acc u) (k : St W b m' u u1) : TX W b w m' acc u1 :=
 ⟨h.st.step k, k.kept h.z (by omega), aG8 h.bd k.2 (by omega)⟩
theorem St.low {W w u u1 : World} {b : Nat} {m : List UInt8} (hb : b < w.heap.size) (h : St W b m w u) (k : Below (w.heap.size + 1) u u1) : St W b m w u1 :=
 ⟨⟨h.1.tab, ⟨k.os.trans h.1.bel.os, k.tape.trans h.1.bel.tape, k.output.trans h.1.bel.output, Nat.le_trans h.1.bel.size k.size, fun i hi => (k.block i (by have := h.1.lo; omega)).trans (h.1.bel.block i hi)⟩, h.1.lo, (k.block b (by omega)).trans h.1.blk⟩,
  ⟨k.os.trans h.2.os, k.tape.trans h.2.tape, k.output.trans h.2.output, Nat.le_trans h.2.size k.size, fun i hi hne => (k.block i (by omega)).trans (h.2.block i hi hne)⟩⟩
theorem TX.write {W w u u1 : World} {b : Nat} {m acc s : List UInt8} (hb : b < w.heap.size) (h : TX W b w m acc u) (hB : Lib.BuilderAtF 136 5 (w.heap.size + 1) (w.heap.size + 1) (.pointer (some ⟨w.heap.size + 1, 0, none⟩)) (Lib.byteCells acc ++ Lib.strCells (ba s)) u1) (k : Below (w.heap.size + 1) u u1) : TX W b w m (acc ++ s) u1 :=
 ⟨h.st.low hb k, (k.block _ (by omega)).trans h.z, .inr (by
  have e : Lib.byteCells (acc ++ s) = Lib.byteCells acc ++ Lib.strCells (ba s) := by simp [Lib.byteCells, Lib.strCells]
  rw [e]; exact hB)⟩
theorem TX.begin {W w : World} {b : Nat} {l : List UInt8} (X : LX W b l w) : TX W b w l [] ((w.alloc tkO).alloc (.cells #[.pointer none, .slice none 0 0] 136)) :=
 ⟨((St.refl X).alloc _).alloc _, (Below.heap_alloc _ _ _ (by simp)).trans (heap_alloc_new w tkO), by
  have := Lib.IsBuilderF.of (Lib.fresh_isBuilder 136 5 (w.alloc tkO))
  show Lib.IsBuilderF 136 5 (w.heap.size + 1) (w.heap.size + 1) [] _
  simpa using this⟩
theorem TX.put {W w u : World} {b : Nat} {m acc : List UInt8} (h : TX W b w m acc u) (k n : Int) (s b' h' : ByteArray) (r c : Int) (fr fc : Bool) :
  Hid ((Instr.storeAt 123 (.pointer (some ⟨w.heap.size, 0, none⟩)) (.agg (tcs k n s b' h' r c fr fc))).run Tryz.prog u = .ok () (u.setRow w.heap.size (tcs k n s b' h' r c fr fc))) :=
 sto h.z dI rfl (fF k n s b' h' r c fr fc)
theorem TX.ans {W w u : World} {b : Nat} {m acc : List UInt8} (h : TX W b w m acc u) (es : Array Value) (he : es.size = 9) {fn : Func} {p q : Tmp} (hr : fn.results = #[.cell p 123, .tmp q]) {tmps : Array Value} {v2 : Value}
  (hp : tmps.getD p undef = .pointer (some ⟨w.heap.size, 0, none⟩)) (hv : tmps.getD q undef = v2) : (results fn tmps).run Tryz.prog (u.setRow w.heap.size es) = .ok (.tuple #[.agg es, v2]) (u.setRow w.heap.size es) :=
 fE hr hp (setRow_heap _ _ _ es _ _ h.z) rfl Tryz.underlying123 (by rw [he]; exact dI) hv
theorem TX.fin {W w u : World} {b : Nat} {m acc : List UInt8} (hb : b < w.heap.size) (h : TX W b w m acc u) (es : Array Value) : St W b m w (u.setRow w.heap.size es) :=
 h.st.grown (aC _ _ _) (Nat.le_refl _) hb
def aB7 (b : Nat) (u : World) : Nat := match u.cell? ⟨b, 0, none⟩ with
 | some (.string s) => s.size
 | _ => 0
theorem nD {W u : World} {b : Nat} {l : List UInt8} (X : LX W b l u) : aB7 b u = l.length := by
 unfold aB7
 rw [X.cells.1]
 exact size_mk l
theorem aA1 {W w u : World} {b : Nat} {m acc : List UInt8} (hb : b < w.heap.size) (h : TX W b w m acc u) (s : List UInt8) (hs : acc.length + s.length ≤ 1000) :
  Calls Tryz.prog 91 #[.pointer (some ⟨w.heap.size + 1, 0, none⟩), .string (ba s)] u fun e w' => e = .returned (.tuple #[.int .i64 (s.length : Nat), .nilIface]) ∧ TX W b w m (acc ++ s) w' := by
 have := Tryz.Builder_WriteString_k (w.heap.size + 1) (w.heap.size + 1) (Lib.byteCells acc) (ba s) u h.bd (by rw [Lib.byteCells_length, size_mk]; omega) (by have := aS h.z; omega)
 refine this.mono ?_
 rintro e w' ⟨rfl, h1, h2, _⟩
 exact ⟨by rw [size_mk], h.write hb h1 h2⟩
theorem aIV {W w u : World} {b : Nat} {m acc : List UInt8} (hb : b < w.heap.size) (h : TX W b w m acc u) :
  Calls Tryz.prog 93 #[.pointer (some ⟨w.heap.size + 1, 0, none⟩)] u fun e w' => e = .returned (.string (ba acc)) ∧ TX W b w m acc w' := by
 have := Tryz.Builder_String_any_k (w.heap.size + 1) (w.heap.size + 1) acc u h.bd (by have := aS h.z; omega)
 refine this.mono ?_
 rintro e w' ⟨rfl, h1, h2, _⟩
 exact ⟨rfl, h.st.low hb h2, (h2.block _ (by omega)).trans h.z, h1⟩
theorem aE9 {W w : World} {b : Nat} {r : List UInt8} (X : LX W b (34 :: r) w) (hl : (34 :: r).length ≤ 255) : Calls Tryz.prog 114 #[.pointer (some ⟨b, 0, none⟩)] w (Ans W b w ((Tk.dF r).map fun p => (.str p.1, p.2))) := by
 have hb := X.lt
 have H0 : Hid (TX W b w (34 :: r) [] ((w.alloc tkO).alloc (.cells #[.pointer none, .slice none 0 0] 136))) := TX.begin X
 have SK0 := fun u (Y : LX W b (34 :: r) u) => gF Y [34]
 have SK1 : ∀ u, LX W b (34 :: r) u → Calls Tryz.prog 147 #[.pointer (some ⟨b, 0, none⟩), .string ⟨#[34]⟩] u fun e w' => e = .returned (.bool true) ∧ St W b r u w' := SK0
 generalize ho : (Tk.dF r).map (fun p => ((.str p.1, p.2) : Tk.Tok × List UInt8)) = o
 have HO : Hid ((Tk.dF r).map (fun p => ((.str p.1, p.2) : Tk.Tok × List UInt8)) = o) := ho
 have hr : r.length ≤ 254 := by simpa using hl
 clear ho X SK0 hl
 go_enter Tryz.func114, Tryz.ntmps114
 go_wp2_with (go_at_call 147; refine (SK1 _ H0.out.st.1).mono ?_; rintro e w1 ⟨rfl, hs⟩; have H1 : Hid (TX W b w r [] w1) := H0.out.method hb hs; clear hs)
 clear H0 SK1
 go_loopw [7] (fun _ wr => ∃ m acc : List UInt8, acc.length + m.length ≤ 254 ∧ Hid ((Tk.dF r) = (Tk.dF m).map fun p => (acc ++ p.1, p.2)) ∧ Hid (TX W b w m acc wr)) (fun _ wr => aB7 b wr)
 case atStart => exact ⟨r, [], by simpa using hr, by show Tk.dF r = _; cases Tk.dF r <;> rfl, H1⟩
 case round =>
  obtain ⟨m, acc, hlen, HQ, HX⟩ := hrel
  clear H1
  have hm : m.length ≤ 255 := by omega
  have hlm := nD HX.out.st.1
  have TK := fun u (Y : LX W b m u) => jZ Y hm aAR e53
  have hA : ∀ x ∈ m.takeWhile nq, nq x = true := aE8
  have hsplit := aE5 nq m
  have hh := fun {c : UInt8} {q : List UInt8} (h : m.dropWhile nq = c :: q) => oI h
  have TK' : ∀ u, LX W b m u → Calls Tryz.prog 119 #[.pointer (some ⟨b, 0, none⟩), .func (.func 148) #[] #[]] u fun e w' => e = .returned (.string (ba (m.takeWhile nq))) ∧ St W b (m.dropWhile nq) u w' := TK
  clear TK
  generalize m.takeWhile nq = A at *
  cases hD : m.dropWhile nq with
  | nil =>
   rw [hD] at TK' hsplit
   have hAm : A.length + 0 = m.length := by rw [← hsplit]; simp
   have HN : Hid (o = none) := by
    show _ = _
    rw [← HO.out, HQ.out, ← hsplit, oH A [] hA]; rfl
   have SK := fun u (Y : LX W b [] u) => gF Y [34]
   have SK' : ∀ u, LX W b [] u → Calls Tryz.prog 147 #[.pointer (some ⟨b, 0, none⟩), .string ⟨#[34]⟩] u fun e w' => e = .returned (.bool false) ∧ St W b [] u w' := SK
   clear HO HQ hsplit hA hh SK
   have WR := fun u (Y : TX W b w [] acc u) => aA1 hb Y A (by omega)
   go_wp2_with (first
    | (go_at_call 119; refine (TK' _ HX.out.st.1).mono ?_; rintro e w2 ⟨rfl, hs⟩; have H2 : Hid (TX W b w [] acc w2) := HX.out.method hb hs; clear hs)
    | (go_at_call 91; refine (WR _ H2.out).mono ?_; rintro e w3 ⟨rfl, hs⟩; have H3 : Hid (TX W b w [] (acc ++ A) w3) := hs; clear hs)
    | (go_at_call 147; refine (SK' _ H3.out.st.1).mono ?_; rintro e w4 ⟨rfl, hs⟩; have H4 : Hid (TX W b w [] (acc ++ A) w4) := H3.out.method hb hs; have RR := H4.out.put 0 0 noB noB noB 0 0 false false; clear hs)
    | (refine aD rfl 123 _ _ rfl _ _ _ rfl rfl RR.out ?_))
   refine bodyPost_ret (H4.out.ans (tcs 0 0 noB noB noB 0 0 false false) rfl rfl rfl rfl) rfl ?_
   rw [HN.out]
   exact ⟨⟨⟨0, 0, noB, noB, noB, 0, 0, false, false⟩, rfl⟩, _, H4.out.fin hb _⟩
  | cons c D =>
   have hc : c = 34 := by
    have := hh hD
    simpa [nq] using this
   subst hc
   rw [hD] at TK' hsplit
   have hAm : A.length + (D.length + 1) = m.length := by rw [← hsplit]; simp
   have SK := fun u (Y : LX W b (34 :: D) u) => gF Y [34]
   have SK' : ∀ u, LX W b (34 :: D) u → Calls Tryz.prog 147 #[.pointer (some ⟨b, 0, none⟩), .string ⟨#[34]⟩] u fun e w' => e = .returned (.bool true) ∧ St W b D u w' := SK
   have WR := fun u (Y : TX W b w (34 :: D) acc u) => aA1 hb Y A (by omega)
   have hq := oH A (34 :: D) hA
   clear SK hA hh
   by_cases h2 : ∃ E, D = 34 :: E
   ·obtain ⟨E, rfl⟩ := h2
    have SKE := fun u (Y : LX W b (34 :: E) u) => gF Y [34]
    have aIW : ∀ u, LX W b (34 :: E) u → Calls Tryz.prog 147 #[.pointer (some ⟨b, 0, none⟩), .string ⟨#[34]⟩] u fun e w' => e = .returned (.bool true) ∧ St W b E u w' := SKE
    have WQ := fun u (Y : TX W b w E (acc ++ A) u) => aA1 hb Y [34] (by simp; simp at hAm; omega)
    have HN : Hid (Tk.dF r = (Tk.dF E).map fun p => ((acc ++ A ++ [34]) ++ p.1, p.2)) := by
     show _ = _
     rw [HQ.out, ← hsplit, hq, aE7]
     cases Tk.dF E <;> simp
    have aFa : (acc ++ A ++ [34]).length + E.length ≤ 254 := by simp; simp at hAm; omega
    have hme : E.length < m.length := by simp at hAm; omega
    clear SKE HQ hq hsplit
    go_wp2_with (first
     | (go_at_call 119; refine (TK' _ HX.out.st.1).mono ?_; rintro e w2 ⟨rfl, hs⟩; have H2 : Hid (TX W b w (34 :: 34 :: E) acc w2) := HX.out.method hb hs; clear hs)
     | (go_at_call 91; refine (WR _ H2.out).mono ?_; rintro e w3 ⟨rfl, hs⟩; have H3 : Hid (TX W b w (34 :: 34 :: E) (acc ++ A) w3) := hs; clear hs H2)
     | (go_at_call 147; refine (SK' _ H3.out.st.1).mono ?_; rintro e w4 ⟨rfl, hs⟩; have H4 : Hid (TX W b w (34 :: E) (acc ++ A) w4) := H3.out.method hb hs; clear hs H3)
     | (go_at_call 147; refine (aIW _ H4.out.st.1).mono ?_; rintro e w5 ⟨rfl, hs⟩; have H5 : Hid (TX W b w E (acc ++ A) w5) := H4.out.method hb hs; clear hs H4)
     | (go_at_call 91; refine (WQ _ H5.out).mono ?_; rintro e w6 ⟨rfl, hs⟩; have H6 : Hid (TX W b w E (acc ++ A ++ [34]) w6) := hs; clear hs))
    go_roundw
    case rel => exact ⟨E, acc ++ A ++ [34], aFa, HN, H6⟩
    case measure => rw [nD H6.out.st.1, hlm]; exact hme
   ·have hno : ∀ q, D ≠ 34 :: q := fun q e => h2 ⟨q, e⟩
    have hpn : [34].isPrefixOf D = false := by
     cases D with
     | nil => rfl
     | cons x q => simp [List.isPrefixOf]; rintro rfl; exact hno q rfl
    have SKE := fun u (Y : LX W b D u) => gF Y [34]
    simp only [hpn, vT hpn] at SKE
    have aIW : ∀ u, LX W b D u → Calls Tryz.prog 147 #[.pointer (some ⟨b, 0, none⟩), .string ⟨#[34]⟩] u fun e w' => e = .returned (.bool false) ∧ St W b D u w' := SKE
    have HN : Hid (o = some (.str (acc ++ A), D)) := by
     show _ = _
     rw [← HO.out, HQ.out, ← hsplit, hq, aG7 hno]
     simp
    have SG := fun u (Y : TX W b w D (acc ++ A) u) => aIV hb Y
    clear SKE HQ hq hsplit HO h2 hno hpn
    generalize hac : acc ++ A = F at *
    go_wp2_with (first
     | (go_at_call 119; refine (TK' _ HX.out.st.1).mono ?_; rintro e w2 ⟨rfl, hs⟩; have H2 : Hid (TX W b w (34 :: D) acc w2) := HX.out.method hb hs; clear hs)
     | (go_at_call 91; refine (WR _ H2.out).mono ?_; rintro e w3 ⟨rfl, hs⟩; have H3 : Hid (TX W b w (34 :: D) F w3) := hs; clear hs H2)
     | (go_at_call 147; refine (SK' _ H3.out.st.1).mono ?_; rintro e w4 ⟨rfl, hs⟩; have H4 : Hid (TX W b w D F w4) := H3.out.method hb hs; clear hs H3)
     | (go_at_call 147; refine (aIW _ H4.out.st.1).mono ?_; rintro e w5 ⟨rfl, hs⟩; have H5 : Hid (TX W b w D F w5) := H4.out.method hb hs; clear hs H4)
     | (go_at_call 93; refine (SG _ H5.out).mono ?_; rintro e w6 ⟨rfl, hs⟩; have H6 : Hid (TX W b w D F w6) := hs; have RR := H6.out.put 2 0 (ba F) noB noB 0 0 false false; clear hs)
     | (refine aD rfl 123 _ _ rfl _ _ _ rfl rfl RR.out ?_))
    refine bodyPost_ret (H6.out.ans (tcs 2 0 (ba F) noB noB 0 0 false false) rfl rfl rfl rfl) rfl ?_
    rw [HN.out]
    exact ⟨rfl, H6.out.fin hb _⟩
end Go.Proofs.YtljmklbbngpllaaGreatDoor
