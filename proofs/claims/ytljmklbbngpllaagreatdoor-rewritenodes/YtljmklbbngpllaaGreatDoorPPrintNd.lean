/- PToken, PPrint. -/
import Derived.Test.YtljmklbbngpllaaGreatDoorPApartNd
set_option linter.unusedVariables false
set_option linter.unusedSimpArgs false
set_option maxHeartbeats 16000000
set_option maxRecDepth 100000
namespace Go.Proofs.YtljmklbbngpllaaGreatDoor
open Go.RowKit
abbrev ag (k n : Int) (s b h : ByteArray) (r c : Int) (fr fc : Bool) : Value := .agg (tcs k n s b h r c fr fc)
abbrev agO (k n : Int) (s b h : ByteArray) (r c : Int) (fr fc : Bool) : Obj := .cells (tcs k n s b h r c fr fc) 123
theorem aGa {w : World} {n : Int} {A : ByteArray} (P : ∀ u, Below w.heap.size w u → Calls Tryz.prog 130 #[.int .i64 n] u fun e w' => e = .returned (.string A) ∧ Below u.heap.size u w') :
  Calls Tryz.prog 92 #[ag 1 n noB noB noB 0 0 false false] w fun e w' => e = .returned (.string A) ∧ Below w.heap.size w w' := by
 have HB : Hid (Below w.heap.size w (w.alloc (agO 1 n noB noB noB 0 0 false false))) := aA (Below.refl _ _) _
 go_enter Tryz.func92, Tryz.ntmps92
 go_wp2_with (go_at_call 130; refine (P _ HB.out).mono ?_; rintro e w1 ⟨rfl, hs⟩; have H1 : Hid (Below w.heap.size w w1) := aG HB.out hs; clear hs)
 go_ret
 exact ⟨rfl, H1.out⟩
theorem aGb {w : World} {S A B R : ByteArray} {z : Nat} (hA : A.size = z) (hz : z ≤ 1000) (hB : (⟨#[34]⟩ : ByteArray) ++ A = B) (hBs : B.size = z + 1) (hR : B ++ (⟨#[34]⟩ : ByteArray) = R)
  (P : ∀ u, Below w.heap.size w u → Calls Tryz.prog 131 #[.string S, .string ⟨#[34]⟩, .string ⟨#[34, 34]⟩] u fun e w' => e = .returned (.string A) ∧ Below u.heap.size u w') :
  Calls Tryz.prog 92 #[ag 2 0 S noB noB 0 0 false false] w fun e w' => e = .returned (.string R) ∧ Below w.heap.size w w' := by
 have HB : Hid (Below w.heap.size w (w.alloc (agO 2 0 S noB noB 0 0 false false))) := aA (Below.refl _ _) _
 have n1 : ¬ 9223372036854775807 < 1 + z := by omega
 have n2 : ¬ 9223372036854775807 < z + 1 + 1 := by omega
 go_enter Tryz.func92, Tryz.ntmps92
 go_wp2_with (go_at_call 131; refine (P _ HB.out).mono ?_; rintro e w1 ⟨rfl, hs⟩; have H1 : Hid (Below w.heap.size w w1) := aG HB.out hs; clear hs)
 go_ret
 exact ⟨rfl, H1.out⟩
theorem aGc {w : World} {b h A : ByteArray} {r c : Int} {fr fc : Bool} (P : ∀ u, Below w.heap.size w u → Calls Tryz.prog 132 #[bC b h r c fr fc] u fun e w' => e = .returned (.string A) ∧ Below u.heap.size u w') :
  Calls Tryz.prog 92 #[ag 3 0 noB b h r c fr fc] w fun e w' => e = .returned (.string A) ∧ Below w.heap.size w w' := by
 have HB : Hid (Below w.heap.size w (w.alloc (agO 3 0 noB b h r c fr fc))) := aA (Below.refl _ _) _
 go_enter Tryz.func92, Tryz.ntmps92
 go_wp2_with (go_at_call 132; refine (P _ HB.out).mono ?_; rintro e w1 ⟨rfl, hs⟩; have H1 : Hid (Below w.heap.size w w1) := aG HB.out hs; clear hs)
 go_ret
 exact ⟨rfl, H1.out⟩
theorem aHX {w : World} {S : ByteArray} : Calls Tryz.prog 92 #[ag 5 0 S noB noB 0 0 false false] w fun e w' => e = .returned (.string S) ∧ Below w.heap.size w w' := by
 go_enter Tryz.func92, Tryz.ntmps92
 go_wp2
 go_ret
 exact ⟨rfl, aA (Below.refl _ _) _⟩
theorem aGd {w : World} {n : Int} {A : ByteArray} (P : ∀ u, Below w.heap.size w u → Calls Tryz.prog 125 #[.agg #[.int .i64 4, .int .i64 n, .string noB]] u fun e w' => e = .returned (.string A) ∧ Below u.heap.size u w') :
  Calls Tryz.prog 92 #[ag 6 n noB noB noB 0 0 false false] w fun e w' => e = .returned (.string A) ∧ Below w.heap.size w w' := by
 have HB : Hid (Below w.heap.size w (w.alloc (agO 6 n noB noB noB 0 0 false false))) := aA (Below.refl _ _) _
 go_enter Tryz.func92, Tryz.ntmps92
 go_wp2_with (go_at_call 125; refine (P _ HB.out).mono ?_; rintro e w1 ⟨rfl, hs⟩; have H1 : Hid (Below w.heap.size w w1) := aG HB.out hs; clear hs)
 go_ret
 exact ⟨rfl, H1.out⟩
theorem aDG {w : World} {b S B R : ByteArray} (hz : ¬ 9223372036854775807 < B.size + S.size) (hR : B ++ S = R) (P : ∀ u, Calls Tryz.prog 133 #[.string b] u fun e w' => e = .returned (.string B) ∧ w' = u) :
  Calls Tryz.prog 92 #[ag 4 0 S b noB 0 0 false false] w fun e w' => e = .returned (.string R) ∧ Below w.heap.size w w' := by
 have HC : Hid ((w.alloc (agO 4 0 S b noB 0 0 false false)).drew.cell? ⟨w.heap.size, 3, none⟩ = some (.string b) ∧ (w.alloc (agO 4 0 S b noB 0 0 false false)).drew.cell? ⟨w.heap.size, 2, none⟩ = some (.string S)) := by
  have hh : (w.alloc (agO 4 0 S b noB 0 0 false false)).drew.heap[w.heap.size]? = some (agO 4 0 S b noB 0 0 false false) := heap_alloc_new w _
  exact ⟨by rw [cell_of_row _ _ 3 _ _ _ hh]; rfl, by rw [cell_of_row _ _ 2 _ _ _ hh]; rfl⟩
 have HB : Hid (Below w.heap.size w (w.alloc (agO 4 0 S b noB 0 0 false false)).drew) := (aA (Below.refl _ _) _).drew
 go_enter Tryz.func92, Tryz.ntmps92
 go_wp2
 refine aQ (fun u => u.cell? ⟨w.heap.size, 3, none⟩ = some (.string b) ∧ u.cell? ⟨w.heap.size, 2, none⟩ = some (.string S)) (fun _ => false) (by kernel_rfl) ?_
 refine dwp 0 (.pointer (some ⟨w.heap.size, 3, none⟩)) ?_
 refine dwp 1 (.pointer (some ⟨w.heap.size, 3, none⟩)) ?_
 refine dwl 2 (.string b) ?_ (hS := HC.out) (hy := (fun u hSu => by obtain ⟨k0, k1⟩ := hSu; go_simp))
 refine dwp 4 (.pointer (some ⟨w.heap.size, 2, none⟩)) ?_
 refine dwl 5 (.string S) ?_ (hS := HC.out) (hy := (fun u hSu => by obtain ⟨k0, k1⟩ := hSu; go_simp))
 refine aH (i := 3) (by kernel_rfl) rfl ?_
 intro K hK
 go_simp
 refine (P _).mono ?_
 rintro e w' ⟨rfl, hw⟩
 obtain rfl := hw.symm
 clear hw
 refine hK _ _ (.inr fun h => h) ?_
 clear hK
 try simp only [Act.put, List.setIfInBounds_toArray, List.set_cons_zero, List.set_cons_succ]
 refine dwp 6 (.string R) ?_
 refine dwp 7 (.string R) ?_
 refine aK (by kernel_rfl) ?_ _
 go_wp2
 go_ret
 exact ⟨rfl, HB.out⟩
theorem wW (a b : List UInt8) : ba a ++ ba b = ba (a ++ b) := nW a b
theorem aGe (t : Tk.Tok) (ht : Tk.okT gnF trB okN t) (hs : smT t) (w : World) (T : dB w) :
  Calls Tryz.prog 92 #[.agg (tcs (tk t).k (tk t).n (tk t).s (tk t).b (tk t).h (tk t).r (tk t).c (tk t).fr (tk t).fc)] w fun e w' => e = .returned (.string (ba (txT t))) ∧ Below w.heap.size w w' := by
 cases t using Tk.Tok.cs with
 | num n => exact aGa fun u hu => tT n ⟨by have := ht.1; omega, by have := ht.2; omega⟩ u (T.below hu).t.t.p
 | str s =>
  have hl : s.length ≤ 255 := hs
  have hq := aHb s
  have hql := rQ s
  have hlen : (Lib.replaceAll s [34] [34, 34]).length ≤ 510 := by
   have := congrArg List.length hq
   simp at this
   omega
  have e1 : (⟨#[34]⟩ : ByteArray) ++ ba (Lib.replaceAll s [34] [34, 34]) = ba (34 :: Lib.replaceAll s [34] [34, 34]) := wW [34] _
  have e2 : ba (34 :: Lib.replaceAll s [34] [34, 34]) ++ (⟨#[34]⟩ : ByteArray) = ba (txT (.str s)) := by
   have := wW (34 :: Lib.replaceAll s [34] [34, 34]) [34]
   rw [List.cons_append, hq] at this
   exact this
  refine aGb (size_mk _) (by omega) e1 (size_mk _) e2 fun u hu => ?_
  obtain ⟨m, hm⟩ := (T.below hu).m
  exact Tryz.strings_ReplaceAll (ba s) ⟨#[34]⟩ ⟨#[34, 34]⟩ m u (by rw [size_mk]; omega) hm (by show 1 ≤ 1; omega) (by
   have := Lib.countB_le ⟨#[34]⟩ (by show 1 ≤ 1; omega) (ba s).size (ba s) (Nat.le_refl _)
   rw [size_mk] at this ⊢
   show s.length + Lib.countB (ba s) ⟨#[34]⟩ * 2 ≤ _
   omega)
 | ref x =>
  obtain ⟨hc, h1, h2⟩ := ht
  refine aGc fun u hu => ?_
  have hb : x.book.length ≤ 16 := by
   rcases h2 with h | ⟨h, _⟩
   ·rw [h]; simp
   ·exact (eY h).1
  have hsh : x.sheet.length ≤ 16 := by
   rcases h1 with h | h
   ·rw [h]; simp
   ·exact (eY h).1
  have := lT (ba x.book) (ba x.sheet) x.cell.row x.cell.col x.cell.fr x.cell.fc (by rw [size_mk]; omega) (by rw [size_mk]; omega) u (T.below hu).t.t
  have hg : bB (ba x.book) (ba x.sheet) x.cell.row x.cell.col = true := by
   unfold bB inB
   obtain ⟨i1, i2, i3, i4⟩ := hc
   rw [decide_eq_true (show (1 : Int) ≤ x.cell.row by omega), decide_eq_true (show (x.cell.row : Int) ≤ 64 by omega), decide_eq_true (show (1 : Int) ≤ x.cell.col by omega), decide_eq_true (show (x.cell.col : Int) ≤ 26 by omega)]
   rw [ByteArray.toList_eq, ByteArray.toList_eq]
   show (true && if x.sheet = [] then decide (x.book = []) else gnF x.sheet && (decide (x.book = []) || gnF x.book)) = true
   rw [Bool.true_and]
   split
   ·rename_i e
    rcases h2 with h | ⟨_, h⟩
    ·exact decide_eq_true h
    ·exact absurd e h
   ·rename_i e
    rw [h1.resolve_left e]
    rcases h2 with h | ⟨h, _⟩
    ·simp [h]
    ·simp [h]
  rw [show prB (ba x.book) (ba x.sheet) x.cell.row x.cell.col x.cell.fr x.cell.fc = ba (txT (.ref x)) by
   unfold prB
   rw [if_pos hg]
   rfl] at this
  exact this
 | word b s =>
  have hb : b.length ≤ 16 := by
   rcases ht with ⟨rfl, _⟩ | ⟨h, _⟩
   ·simp
   ·exact (eY h).1
  have hsl := aFk ht hs
  refine aDG (b := ba b) (S := ba s) (B := ba (if b = [] then [] else 91 :: (b ++ [93]))) ?_ ?_ (fun u => aDF b (by omega) u)
  ·rw [size_mk, size_mk]
   have h1 : (if b = [] then ([] : List UInt8) else 91 :: (b ++ [93])).length ≤ 18 := by split <;> simp <;> omega
   have h2 : s.length ≤ 600 := by
    have : (if b = [] then s else 91 :: (b ++ 93 :: s)).length ≤ 600 := hsl
    split at this
    ·exact this
    ·simp at this; omega
   omega
  ·rw [wW]
   show ba _ = ba (if b = [] then s else 91 :: (b ++ 93 :: s))
   by_cases e : b = []
   ·rw [if_pos e, if_pos e]; rfl
   ·rw [if_neg e, if_neg e]; simp
 | op x => exact aHX
 | bad n => exact aGd fun u hu => aB0 n ht.1 ht.2 u (T.below hu).t.t
structure PX (w : World) (acc : List UInt8) (u : World) : Prop where
 bel : Below w.heap.size w u
 bd : Lib.IsBuilderF 136 5 w.heap.size w.heap.size (Lib.byteCells acc) u
 gt : w.heap.size < u.heap.size
theorem sO {T e : TypeId} {B k : Nat} {p : Value} {bs : List Value} {w w' : World} (h : Lib.BuilderAtF T e B k p bs w) (hg : w.grownBy w' none) : Lib.BuilderAtF T e B k p bs w' := by
 have hlt := h.lt
 obtain ⟨hB, v, hk, hown, hne⟩ := h
 exact ⟨hB, v, (hg.block k hlt (by simp)).trans hk, hown.kept hg (by cases v.ownBlock <;> simp), hne⟩
theorem PX.below {w u u1 : World} {acc : List UInt8} (h : PX w acc u) (hb : Below u.heap.size u u1) : PX w acc u1 :=
 ⟨aG h.bel hb, h.bd.elim (fun x => .inl (sO x (aZ hb))) (fun x => .inr (sO x (aZ hb))), Nat.lt_of_lt_of_le h.gt hb.size⟩
theorem PX.alloc {w u : World} {acc : List UInt8} (h : PX w acc u) (o : Obj) : PX w acc (u.alloc o) := h.below (aA (Below.refl _ _) o)
theorem PX.drew {w u : World} {acc : List UInt8} (h : PX w acc u) : PX w acc u.drew := h.below (Below.refl _ _).drew
theorem PX.begin (w : World) : PX w [] (w.alloc (.cells #[.pointer none, .slice none 0 0] 136)) :=
 ⟨aA (Below.refl _ _) _, Lib.IsBuilderF.of (Lib.fresh_isBuilder 136 5 w), by simp⟩
theorem wX {w u : World} {acc : List UInt8} (h : PX w acc u) (s : List UInt8) (hs : acc.length + s.length ≤ 100000000) :
  Calls Tryz.prog 91 #[.pointer (some ⟨w.heap.size, 0, none⟩), .string (ba s)] u fun e w' => e = .returned (.tuple #[.int .i64 (s.length : Nat), .nilIface]) ∧ PX w (acc ++ s) w' ∧ ∀ (k : Nat) (es : Array Value), u.heap[k]? = some (Obj.cells es 123) → w'.heap[k]? = some (Obj.cells es 123) := by
 have := Tryz.Builder_WriteString_k w.heap.size w.heap.size (Lib.byteCells acc) (ba s) u h.bd (by rw [Lib.byteCells_length, size_mk]; omega) (by have := h.gt; omega)
 refine this.mono ?_
 rintro e w' ⟨rfl, h1, h2, h3⟩
 refine ⟨by rw [size_mk], ⟨h.bel.trans h2, .inr (by
  have e : Lib.byteCells (acc ++ s) = Lib.byteCells acc ++ Lib.strCells (ba s) := by simp [Lib.byteCells, Lib.strCells]
  rw [e]; exact h1), Nat.lt_of_lt_of_le h.gt h2.size⟩, fun k es hk => ?_⟩
 have hbd : ∃ p v, u.heap[w.heap.size]? = some (.cells #[p, v] 136 (0, 0)) := by
  rcases h.bd with ⟨_, v, hb, _⟩ | ⟨_, v, hb, _⟩
  ·exact ⟨_, v, hb⟩
  ·exact ⟨_, v, hb⟩
 obtain ⟨p, v, hb⟩ := hbd
 exact h3 k _ hk (fun e => by
  have e2 : k = w.heap.size := Option.some.inj e
  rw [e2, hb] at hk; cases hk) (fun c fz e => by cases e)
theorem aJj {w u : World} {acc : List UInt8} (h : PX w acc u) :
  Calls Tryz.prog 93 #[.pointer (some ⟨w.heap.size, 0, none⟩)] u fun e w' => e = .returned (.string (ba acc)) ∧ Below w.heap.size w w' := by
 have := Tryz.Builder_String_any_k w.heap.size w.heap.size acc u h.bd (by have := h.gt; omega)
 refine this.mono ?_
 rintro e w' ⟨rfl, _, h2, _⟩
 exact ⟨rfl, h.bel.trans h2⟩
theorem aDH : ∀ (L : List Tk.Tok) (k : Nat) (h : k < L.length), lastT none (L.take (k + 1)) = some L[k] := fun L k h => by
 rw [List.take_succ_eq_append_getElem h]
 exact rO _ _ _
theorem aGf : ∀ (L : List Tk.Tok) (o : Option Tk.Tok), (∀ t ∈ L, (txT t).length ≤ 600) → (prT o L).length ≤ 601 * L.length
 | [], _, _ => Nat.zero_le _
 | t :: L, o, h => by
  have h1 := aGf L (some t) (fun x hx => h x (by simp [hx]))
  have h2 := h t (by simp)
  have h3 : (rM o t).length ≤ 1 := by
   unfold rM
   split
   ·simp
   ·split <;> simp
  show (rM o t ++ (txT t ++ prT (some t) L)).length ≤ _
  rw [List.length_append, List.length_append, List.length_cons]
  omega
theorem aBx {base : Nat} {w : World} {v : Value} {L : List Tk.Tok} (T : dB w) (h : cO 123 base w v (L.map tk)) (hL : L.length ≤ 10000) (hok : ∀ t ∈ L, Tk.okT gnF trB okN t) (hsm : ∀ t ∈ L, smT t) :
  Calls Tryz.prog 60 #[v] w fun e w' => e = .returned (.string (ba (prT none L))) ∧ Below w.heap.size w w' := by
 obtain ⟨a, c, rfl⟩ := h.slice
 rw [List.length_map] at h ⊢
 have H : Hid (cO 123 base w (.slice a L.length c) (L.map tk)) := h
 have HT : Hid (dB w) := T
 have HK : Hid (∀ (k : Nat) (hk : k < L.length) (u : World), Below w.heap.size w u → Calls Tryz.prog 92 #[.agg (tcs (tk L[k]).k (tk L[k]).n (tk L[k]).s (tk L[k]).b (tk L[k]).h (tk L[k]).r (tk L[k]).c (tk L[k]).fr (tk L[k]).fc)] u fun e w' => e = .returned (.string (ba (txT L[k]))) ∧ Below u.heap.size u w') :=
  fun k hk u hu => aGe L[k] (hok _ (List.getElem_mem hk)) (hsm _ (List.getElem_mem hk)) u (T.below hu)
 have HTL : Hid (∀ t ∈ L, (txT t).length ≤ 600) := fun t ht => aFk (hok t ht) (hsm t ht)
 have HB0 : Hid (PX w [] (w.alloc (.cells #[.pointer none, .slice none 0 0] 136))) := PX.begin w
 clear h T hok hsm
 go_enter Tryz.func60, Tryz.ntmps60
 go_wp2
 go_loopw [4, 8] (fun _ i wr => ∃ k : Nat, k ≤ L.length ∧ i = .int .i64 (k : Nat) ∧ Hid (PX w (prT none (L.take k)) wr)) (fun _ i _ => L.length - (intOf i).toNat)
 case atStart => exact ⟨0, Nat.zero_le _, rfl, HB0⟩
 case round =>
  obtain ⟨k, hk, rfl, HP⟩ := hrel
  clear HB0
  by_cases hlt : k < L.length
  ·have hki : (k : Int) < L.length := by omega
   have aK3 : k < (L.map tk).length := by rw [List.length_map]; exact hlt
   obtain ⟨a', rfl, hld⟩ := (H.out.below HP.out.bel).aIq aK3 rfl Tryz.underlying123 dI
   rw [List.getElem_map] at hld
   have RL : Hid _ := hld
   have PT := HK.out k hlt
   have htl := HTL.out L[k] (List.getElem_mem hlt)
   have hac : (prT none (L.take k)).length ≤ 601 * 10000 := by
    have := aGf (L.take k) none (fun t ht => HTL.out t (List.mem_of_mem_take ht))
    rw [List.length_take] at this
    omega
   have HSN : Hid (prT none (L.take (k + 1)) = prT none (L.take k) ++ (rM (lastT none (L.take k)) L[k] ++ txT L[k])) := by
    show _ = _
    rw [List.take_succ_eq_append_getElem hlt]
    exact zN _ _ _
   by_cases hk0 : k = 0
   ·have HSE : Hid (rM (lastT none (L.take k)) L[k] = []) := by
     show _ = _
     have : L.take k = [] := by rw [hk0]; rfl
     rw [this]; rfl
    have hd0 : decide ((0 : Int) < (k : Int)) = false := decide_eq_false (by omega)
    have hn0 : ¬ (0 : Int) < (k : Int) := by omega
    clear hk0 HK HTL hld H
    generalize prT none (L.take k) = acc at *
    generalize txT L[k] = tx at *
    generalize htt : tk L[k] = tt at *
    clear htt
    have HU : Hid (PX w acc ((wr.alloc (.cells (tcs tt.k tt.n tt.s tt.b tt.h tt.r tt.c tt.fr tt.fc) 123)).drew)) := (HP.out.alloc _).drew
    have HR5 : Hid (∀ u : World, u.heap[wr.heap.size]? = some (.cells (tcs tt.k tt.n tt.s tt.b tt.h tt.r tt.c tt.fr tt.fc) 123) → (Instr.loadAt 123 (.pointer (some ⟨wr.heap.size, 0, none⟩))).run Tryz.prog u = .ok (.agg (tcs tt.k tt.n tt.s tt.b tt.h tt.r tt.c tt.fr tt.fc)) u) := fun u hu => lod hu rfl Tryz.underlying123 dI
    have HH5 : Hid ((wr.alloc (.cells (tcs tt.k tt.n tt.s tt.b tt.h tt.r tt.c tt.fr tt.fc) 123)).drew.heap[wr.heap.size]? = some (.cells (tcs tt.k tt.n tt.s tt.b tt.h tt.r tt.c tt.fr tt.fc) 123)) := heap_alloc_new wr _
    have R5 := HR5.out _ HH5.out
    have R5h : Hid _ := R5
    clear R5
    go_wp2_with (refine aB rfl 123 _ rfl _ _ rfl RL.out ?_)
    refine aQ (fun _ => True) (fun _ => false) (by kernel_rfl) ?_
    refine dwp 0 (.int .i64 (k : Int)) ?_
    refine dwp 1 (.bool false) ?_ (hy := (by intro u; go_simp; omega))
    refine dwp 2 (.bool false) ?_
    refine dws 3 ?_ (hg := (by go_simp))
    refine dws 4 ?_ (hg := (by go_simp))
    refine dws 5 ?_ (hg := (by go_simp))
    refine dws 6 ?_ (hg := (by go_simp))
    refine dws 7 ?_ (hg := (by go_simp))
    refine dws 8 ?_ (hg := (by go_simp))
    refine dws 9 ?_ (hg := (by go_simp))
    refine dwp 10 (.bool false) ?_
    refine aK (by kernel_rfl) ?_ _
    have PW := fun u (Y : PX w acc u) => wX Y tx (by omega)
    go_wp2_with (first
     | (refine aB rfl 123 _ rfl _ _ rfl R5h.out ?_)
     | (go_at_call 92; refine (PT _ HU.out.bel).mono ?_; rintro e w2 ⟨rfl, hs⟩; have HU2 : Hid (PX w acc w2) := HU.out.below hs; clear hs)
     | (go_at_call 91; refine (PW _ HU2.out).mono ?_; rintro e w3 ⟨rfl, hs, hs2⟩; have HU3 : Hid (PX w (acc ++ tx) w3) := hs; clear hs hs2))
    go_roundw
    case rel => exact ⟨k + 1, by omega, by go_num, by show PX _ _ _; rw [HSN.out, HSE.out]; exact HU3.out⟩
    case measure => simp [intOf]; omega
   ·obtain ⟨kp, hkp⟩ : ∃ kp : Nat, k = kp + 1 := ⟨k - 1, by omega⟩
    have hk1 : kp < L.length := by omega
    have aJ8 : kp < (L.map tk).length := by rw [List.length_map]; exact hk1
    have HSE : Hid (rM (lastT none (L.take k)) L[k] = if apT L[kp] L[k] = true then [32] else []) := by
     show _ = _
     have e1 : L.take k = L.take (kp + 1) := by rw [hkp]
     rw [e1, aDH L kp hk1]; rfl
    have hd0 : (0 : Int) < (k : Int) := by omega
    have hsub : (k : Int) - 1 = (kp : Int) := by omega
    have aLg : (kp : Int) < L.length := by omega
    have hwk : IntKind.i64.wrap (kp : Int) = (kp : Int) := by
     simp [IntKind.wrap, IntKind.bits, IntKind.signed]
     omega
    have hl2 : ∀ u, Below wr.heap.size wr u → (Instr.loadAt 123 (.pointer (some (a'.add (kp * 9))))).run Tryz.prog u = .ok (.agg (tcs (tk L[kp]).k (tk L[kp]).n (tk L[kp]).s (tk L[kp]).b (tk L[kp]).h (tk L[kp]).r (tk L[kp]).c (tk L[kp]).fr (tk L[kp]).fc)) u := fun u hu => by
     obtain ⟨a2, e2, h2⟩ := (H.out.below (aG HP.out.bel hu)).aIq aJ8 rfl Tryz.underlying123 dI
     cases e2
     rw [List.getElem_map] at h2
     exact h2
    have AP := fun u => aDE L[kp] L[k] u
    generalize apT L[kp] L[k] = q at *
    clear hk0 HK HTL hld H hkp aJ8
    generalize prT none (L.take k) = acc at *
    generalize txT L[k] = tx at *
    generalize tk L[k] = tt at *
    generalize tk L[kp] = tp at *
    have HU : Hid (PX w acc ((wr.alloc (.cells (tcs tt.k tt.n tt.s tt.b tt.h tt.r tt.c tt.fr tt.fc) 123)).drew)) := (HP.out.alloc _).drew
    have HR5 : Hid (∀ u : World, u.heap[wr.heap.size]? = some (.cells (tcs tt.k tt.n tt.s tt.b tt.h tt.r tt.c tt.fr tt.fc) 123) → (Instr.loadAt 123 (.pointer (some ⟨wr.heap.size, 0, none⟩))).run Tryz.prog u = .ok (.agg (tcs tt.k tt.n tt.s tt.b tt.h tt.r tt.c tt.fr tt.fc)) u) := fun u hu => lod hu rfl Tryz.underlying123 dI
    have HH5 : Hid ((wr.alloc (.cells (tcs tt.k tt.n tt.s tt.b tt.h tt.r tt.c tt.fr tt.fc) 123)).drew.heap[wr.heap.size]? = some (.cells (tcs tt.k tt.n tt.s tt.b tt.h tt.r tt.c tt.fr tt.fc) 123)) := heap_alloc_new wr _
    have HS : Hid ((Instr.loadAt 123 (.pointer (some (a'.add (kp * 9))))).run Tryz.prog ((wr.alloc (.cells (tcs tt.k tt.n tt.s tt.b tt.h tt.r tt.c tt.fr tt.fc) 123)).drew) = .ok (.agg (tcs tp.k tp.n tp.s tp.b tp.h tp.r tp.c tp.fr tp.fc)) ((wr.alloc (.cells (tcs tt.k tt.n tt.s tt.b tt.h tt.r tt.c tt.fr tt.fc) 123)).drew) ∧ (Instr.loadAt 123 (.pointer (some ⟨wr.heap.size, 0, none⟩))).run Tryz.prog ((wr.alloc (.cells (tcs tt.k tt.n tt.s tt.b tt.h tt.r tt.c tt.fr tt.fc) 123)).drew) = .ok (.agg (tcs tt.k tt.n tt.s tt.b tt.h tt.r tt.c tt.fr tt.fc)) ((wr.alloc (.cells (tcs tt.k tt.n tt.s tt.b tt.h tt.r tt.c tt.fr tt.fc) 123)).drew)) :=
     ⟨hl2 _ (aA (Below.refl _ _) _).drew, HR5.out _ HH5.out⟩
    clear hl2
    go_wp2_with (refine aB rfl 123 _ rfl _ _ rfl RL.out ?_)
    refine aQ (fun u => (Instr.loadAt 123 (.pointer (some (a'.add (kp * 9))))).run Tryz.prog u = .ok (.agg (tcs tp.k tp.n tp.s tp.b tp.h tp.r tp.c tp.fr tp.fc)) u ∧ (Instr.loadAt 123 (.pointer (some ⟨wr.heap.size, 0, none⟩))).run Tryz.prog u = .ok (.agg (tcs tt.k tt.n tt.s tt.b tt.h tt.r tt.c tt.fr tt.fc)) u) (fun j => j == 9) (by kernel_rfl) ?_
    refine dwp 0 (.int .i64 (k : Int)) ?_
    refine dwp 1 (.bool true) ?_ (hy := (by intro u; go_simp; omega))
    refine dwp 2 (.bool true) ?_
    refine dwp 3 (.slice (some a') L.length c) ?_
    refine dwp 4 (.int .i64 (k : Int)) ?_
    refine dwp 5 (.int .i64 (kp : Int)) ?_
    refine dwp 6 (.pointer (some (a'.add (kp * 9)))) ?_
    refine dwl 7 (.agg (tcs tp.k tp.n tp.s tp.b tp.h tp.r tp.c tp.fr tp.fc)) ?_ (hS := HS.out) (hy := (fun u hSu => aI rfl rfl hSu.1))
    refine dwl 8 (.agg (tcs tt.k tt.n tt.s tt.b tt.h tt.r tt.c tt.fr tt.fc)) ?_ (hS := HS.out) (hy := (fun u hSu => aI rfl rfl hSu.2))
    refine aH (i := 9) (by kernel_rfl) rfl ?_
    intro K hK
    go_simp
    refine (AP _).mono ?_
    rintro e w2 ⟨rfl, hs⟩
    have HU2 : Hid (PX w acc w2) := HU.out.below hs
    have HH6 : Hid (w2.heap[wr.heap.size]? = some (.cells (tcs tt.k tt.n tt.s tt.b tt.h tt.r tt.c tt.fr tt.fc) 123)) := (hs.block _ (aS HH5.out)).trans HH5.out
    clear hs
    refine hK _ _ (.inl rfl) ?_
    clear hK
    try simp only [Act.put, List.setIfInBounds_toArray, List.set_cons_zero, List.set_cons_succ]
    refine dwp 10 (.bool q) ?_
    refine aK (by kernel_rfl) ?_ _
    clear HS HU HH5 AP
    cases q
    ·have R5h : Hid _ := HR5.out _ HH6.out
     have PW := fun u (Y : PX w acc u) => wX Y tx (by omega)
     go_wp2_with (first
      | (refine aB rfl 123 _ rfl _ _ rfl R5h.out ?_)
      | (go_at_call 92; refine (PT _ HU2.out.bel).mono ?_; rintro e w3 ⟨rfl, hs⟩; have HU3 : Hid (PX w acc w3) := HU2.out.below hs; clear hs)
      | (go_at_call 91; refine (PW _ HU3.out).mono ?_; rintro e w4 ⟨rfl, hs, hs2⟩; have HU4 : Hid (PX w (acc ++ tx) w4) := hs; clear hs hs2))
     go_roundw
     case rel => exact ⟨k + 1, by omega, by go_num, by show PX _ _ _; rw [HSN.out, HSE.out]; exact HU4.out⟩
     case measure => simp [intOf]; omega
    ·have PB := fun u (Y : PX w acc u) => wX Y [32] (by simp only [List.length_cons, List.length_nil]; omega)
     have PW := fun u (Y : PX w (acc ++ [32]) u) => wX Y tx (by simp only [List.length_append, List.length_cons, List.length_nil]; omega)
     have PB' : ∀ u, PX w acc u → Calls Tryz.prog 91 #[.pointer (some ⟨w.heap.size, 0, none⟩), .string ⟨#[32]⟩] u fun e w' => e = .returned (.tuple #[.int .i64 1, .nilIface]) ∧ PX w (acc ++ [32]) w' ∧ ∀ (k : Nat) (es : Array Value), u.heap[k]? = some (Obj.cells es 123) → w'.heap[k]? = some (Obj.cells es 123) := PB
     clear PB
     go_wp2_with (first
      | (go_at_call 91; refine (PB' _ HU2.out).mono ?_; rintro e w3 ⟨rfl, hs, hs2⟩; have HU3 : Hid (PX w (acc ++ [32]) w3) := hs; have R5h : Hid _ := HR5.out _ (hs2 _ _ HH6.out); clear hs hs2 HU2)
      | (refine aB rfl 123 _ rfl _ _ rfl R5h.out ?_)
      | (go_at_call 92; refine (PT _ HU3.out.bel).mono ?_; rintro e w4 ⟨rfl, hs⟩; have HU4 : Hid (PX w (acc ++ [32]) w4) := HU3.out.below hs; clear hs)
      | (go_at_call 91; refine (PW _ HU4.out).mono ?_; rintro e w5 ⟨rfl, hs, hs2⟩; have HU5 : Hid (PX w (acc ++ [32] ++ tx) w5) := hs; clear hs hs2))
     go_roundw
     case rel => exact ⟨k + 1, by omega, by go_num, by show PX _ _ _; rw [HSN.out, HSE.out]; have := HU5.out; rw [List.append_assoc] at this; exact this⟩
     case measure => simp [intOf]; omega
  ·have hki : ¬ (k : Int) < L.length := by omega
   have HE : Hid (L.take k = L) := List.take_of_length_le (by omega)
   have SG := fun u (Y : PX w (prT none (L.take k)) u) => aJj Y
   clear HK HTL H
   rw [HE.out] at SG HP
   obtain ⟨acc, hacc⟩ : ∃ acc, acc = prT none L := ⟨_, rfl⟩
   rw [← hacc] at SG HP
   have HA : Hid (acc = prT none L) := hacc
   clear hacc HE
   go_wp2_with (go_at_call 93; refine (SG _ HP.out).mono ?_; rintro e w2 ⟨rfl, hs⟩; have HU2 : Hid (Below w.heap.size w w2) := hs; clear hs)
   go_ret
   exact ⟨by rw [← HA.out]; rfl, HU2.out⟩
end Go.Proofs.YtljmklbbngpllaaGreatDoor
