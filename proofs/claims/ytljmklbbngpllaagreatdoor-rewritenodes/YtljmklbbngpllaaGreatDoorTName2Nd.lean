/- FDepth, TSign, TBook, TName, TName2. -/
import Derived.Test.YtljmklbbngpllaaGreatDoorFMemNd
import Derived.Test.YtljmklbbngpllaaGreatDoorTLaidNd
set_option linter.unusedVariables false
set_option linter.unusedSimpArgs false
set_option maxHeartbeats 16000000
set_option maxRecDepth 100000
namespace Go.Proofs.YtljmklbbngpllaaGreatDoor
open Go.RowKit Go.Fm
theorem iZ {t s : T} (h : s ∈ kids t.2) : zT s < zT t := by
 have key : ∀ f : F, ∀ s ∈ kids f, zT s ≤ size f := by
  intro f
  induction f with
  | nil => intro s hs; cases hs
  | node b o a l r ihl ihr =>
   intro s hs
   rcases List.mem_cons.1 hs with rfl | hs
   ·show size l + 1 ≤ _; simp only [size]; omega
   ·have := ihr s hs; simp only [size]; omega
 have := key t.2 s h
 unfold zT at this ⊢; omega
theorem aIp (t : T) : dT t ≤ zT t := by
 have := aAW t.2
 unfold dT zT; omega
def dpK (f : F) (k : Nat) : Nat := ((kids f).take k).foldl (fun m t => max m (dT t)) 0
theorem aEZ {f : F} {k : Nat} {t : T} (h : (kids f)[k]? = some t) : dpK f (k + 1) = max (dpK f k) (dT t) := by
 unfold dpK
 rw [List.take_add_one, h]
 simp
theorem aG3 (f : F) {k : Nat} (h : (kids f).length ≤ k) : dpK f k = depth f := by
 unfold dpK
 rw [List.take_of_length_le h, rE]
theorem aB5 : ∀ (l : List T) (m : Nat), m ≤ l.foldl (fun m t => max m (dT t)) m
 | [], m => Nat.le_refl _
 | t :: l, m => by
  rw [List.foldl_cons]
  exact Nat.le_trans (Nat.le_max_left _ _) (aB5 l _)
theorem aIU (f : F) (k : Nat) : dpK f k ≤ depth f := by
 rw [rE]
 conv => rhs; rw [← List.take_append_drop k (kids f)]
 rw [List.foldl_append]
 exact aB5 _ _
theorem SF.step {w u : World} {p : Option Addr} {n k : Nat} {f : F} (h : SF w p n f) (hb : Below w.heap.size w u) (hk : k < n) :
  ∃ a es t, p = some a ∧ Hid ((Instr.loadAt 28 (.pointer (some (a.add (k * 18))))).run Tryz.prog u = .ok (.agg es) u) ∧ Hid ((kids f)[k]? = some t) ∧
   Hid ((Instr.storeAt 28 (.pointer (some ⟨u.heap.size, 0, none⟩)) (.agg es)).run Tryz.prog (u.alloc (.cells nd0 28)) = .ok () (u.alloc (.cells es 28))) ∧
   Hid ((Instr.loadAt 28 (.pointer (some ⟨u.heap.size, 0, none⟩))).run Tryz.prog (u.alloc (.cells es 28)) = .ok (.agg es) (u.alloc (.cells es 28))) ∧ Hid (NT (u.alloc (.cells es 28)) es t) ∧ Hid (t ∈ kids f) := by
 obtain ⟨a, es, t, e1, e2, e3, e4⟩ := (h.below hb).get k hk
 obtain ⟨b1, b2⟩ := kC u e4
 exact ⟨a, es, t, e1, e2, e3, b1, b2 _ (heap_alloc_new u _), e4.below (aA (Below.refl _ _) _), List.mem_of_getElem? e3⟩
theorem uK : ∀ t : T, zT t ≤ 1000000 → ∀ (w : World) (es : Array Value), NT w es t → Calls Tryz.prog 80 #[.agg es] w fun e w' => e = .returned (.int .i64 (dT t : Nat)) ∧ Below w.heap.size w w' := by
 refine ind ?_
 intro t ih hz w es h
 obtain ⟨p, n, c, rfl, hs⟩ := h
 have HK : Hid (∀ s ∈ kids t.2, ∀ (w : World) (es : Array Value), NT w es s → Calls Tryz.prog 80 #[.agg es] w fun e w' => e = .returned (.int .i64 (dT s : Nat)) ∧ Below w.heap.size w w') :=
  fun s hs => ih s hs (by have := iZ hs; omega)
 clear ih
 have HD : Hid (∀ s ∈ kids t.2, dT s ≤ 1000000) := fun s hs => by have := iZ hs; have := aIp s; omega
 have hd1 : dT t ≤ 1000000 := by have := aIp t; omega
 have hdd : dT t = depth t.2 + 1 := rfl
 have h17 := aY (u := w.alloc (.cells (lcs t.1 (.slice p n c)) 28)) (heap_alloc_new w _)
 have HB0 : Hid (Below w.heap.size w (w.alloc (.cells (lcs t.1 (.slice p n c)) 28))) := aA (Below.refl _ _) _
 have HS : Hid (SF w p n t.2) := hs
 have hn : n ≤ 1000000 := by
  have e := hs.1
  have e2 := fT t.2
  have : (kids t.2).length ≤ size t.2 := by
   rw [← vW, gW]
   have : ∀ l : List T, l.length ≤ (l.flatMap dQ).length := by
    intro l
    induction l with
    | nil => exact Nat.zero_le _
    | cons a l ih => rw [List.flatMap_cons, List.length_append, List.length_cons, dQ, List.length_cons]; omega
   exact this _
  unfold zT at hz
  omega
 have HN : Hid (n = (kids t.2).length) := hs.1
 clear hs hz
 generalize lcs t.1 (.slice p n c) = bx at *
 go_enter Tryz.func80, Tryz.ntmps80
 go_wp2
 have hu0 : Hid (dpK t.2 0 = 0) := rfl
 go_loopw [3, 9] (fun d i wr => ∃ k : Nat, k ≤ n ∧ i = .int .i64 (k : Nat) ∧ d = .int .i64 (dpK t.2 k : Nat) ∧ Hid (Below w.heap.size w wr)) (fun _ i _ => n - (intOf i).toNat)
 case atStart => exact ⟨0, Nat.zero_le _, rfl, rfl, HB0⟩
 case round =>
  obtain ⟨k, hk, rfl, rfl, HB⟩ := hrel
  have hle := aIU t.2 k
  by_cases hlt : k < n
  ·have hki : (k : Int) < n := by omega
   obtain ⟨a', es, s, rfl, RL, HI, RS, RL2, HNT, HM⟩ := HS.out.step HB.out hlt
   have C := HK.out s HM.out _ _ HNT.out
   have HDP : Hid (dpK t.2 (k + 1) = max (dpK t.2 k) (dT s)) := aEZ HI.out
   have hds := HD.out s HM.out
   generalize dpK t.2 k = D at *
   generalize dT s = E at *
   go_wp2_with (first
    | (refine aB rfl 28 _ rfl _ _ rfl RL.out ?_)
    | (refine aD rfl 28 _ _ rfl _ _ _ rfl rfl RS.out ?_)
    | (refine aB rfl 28 _ rfl _ _ rfl RL2.out ?_)
    | (go_at_call 80; refine C.mono ?_; rintro e w2 ⟨rfl, hs⟩; have HU2 : Hid (Below w.heap.size w w2) := aG (aA HB.out _) hs; clear hs))
   go_roundw
   case rel => exact ⟨k + 1, by omega, by go_num, by rw [HDP.out]; go_num, HU2⟩
   case measure => simp [intOf]; omega
  ·have hki : ¬ (k : Int) < n := by omega
   have HE : Hid (dpK t.2 k = depth t.2) := aG3 _ (by have := HN.out; omega)
   go_wp2
   go_ret
   exact ⟨by rw [HE.out]; rfl, HB.out⟩
end Go.Proofs.YtljmklbbngpllaaGreatDoor
namespace Go.Proofs.YtljmklbbngpllaaGreatDoor
open Go.RowKit
def zG (c : UInt8) : Nat := if Ad.isD c = true then 113 else if c = 34 then 114 else if c = 35 then 115 else if c = 91 ∨ c = 36 ∨ Ad.isL c = true then 117 else 118
theorem aB6 {c d : UInt8} (h : ¬ c = d) : ¬ (c.toNat : Int) = (d.toNat : Int) := fun e => h (UInt8.toNat_inj.1 (by omega))
theorem aKT (c : UInt8) (u : World) : Calls Tryz.prog 112 #[.int .i32 (c.toNat : Nat)] u fun e w' => e = .returned (.bool (Ad.isD c)) ∧ w' = u := lV c.toNat u
theorem aKU (c : UInt8) (u : World) : Calls Tryz.prog 116 #[.int .i32 (c.toNat : Nat)] u fun e w' => e = .returned (.bool (Ad.isL c)) ∧ w' = u := by
 have := oZ c.toNat u
 rw [Bool.or_comm] at this
 exact this
theorem aE0 (c : UInt8) (w : World) : Calls Tryz.prog 76 #[.int .i32 (c.toNat : Nat)] w fun e w' => e = .returned (.func (.func (zG c)) #[] #[]) ∧ w' = w := by
 have D := fun u => aKT c u
 have L := fun u => aKU c u
 generalize hk : zG c = k
 unfold zG at hk
 cases hd : Ad.isD c
 ·rw [hd] at D hk
  rw [if_neg (by decide)] at hk
  by_cases h34 : c = 34
  ·subst h34
   obtain rfl : 114 = k := hk
   clear L
   go_enter Tryz.func76, Tryz.ntmps76
   go_wp2_with (go_at_call 112; refine (D _).mono ?_; rintro e w' ⟨rfl, hw⟩; obtain rfl := hw.symm; clear hw)
   go_ret
   exact ⟨rfl, rfl⟩
  rw [if_neg h34] at hk
  have n34 : ¬ (c.toNat : Int) = 34 := aB6 h34
  by_cases h35 : c = 35
  ·subst h35
   obtain rfl : 115 = k := hk
   clear L
   go_enter Tryz.func76, Tryz.ntmps76
   go_wp2_with (go_at_call 112; refine (D _).mono ?_; rintro e w' ⟨rfl, hw⟩; obtain rfl := hw.symm; clear hw)
   go_ret
   exact ⟨rfl, rfl⟩
  rw [if_neg h35] at hk
  have n35 : ¬ (c.toNat : Int) = 35 := aB6 h35
  by_cases h91 : c = 91
  ·subst h91
   obtain rfl : 117 = k := hk
   clear L
   go_enter Tryz.func76, Tryz.ntmps76
   go_wp2_with (go_at_call 112; refine (D _).mono ?_; rintro e w' ⟨rfl, hw⟩; obtain rfl := hw.symm; clear hw)
   go_ret
   exact ⟨rfl, rfl⟩
  have n91 : ¬ (c.toNat : Int) = 91 := aB6 h91
  by_cases h36 : c = 36
  ·subst h36
   obtain rfl : 117 = k := hk
   clear L
   go_enter Tryz.func76, Tryz.ntmps76
   go_wp2_with (go_at_call 112; refine (D _).mono ?_; rintro e w' ⟨rfl, hw⟩; obtain rfl := hw.symm; clear hw)
   go_ret
   exact ⟨rfl, rfl⟩
  have n36 : ¬ (c.toNat : Int) = 36 := aB6 h36
  cases hl : Ad.isL c
  ·rw [hl] at L hk
   rw [if_neg (by rintro (h | h | h); exact h91 h; exact h36 h; cases h)] at hk
   subst hk
   generalize c.toNat = n at *
   go_enter Tryz.func76, Tryz.ntmps76
   go_wp2_with (first | (go_at_call 112; refine (D _).mono ?_; rintro e w' ⟨rfl, hw⟩; obtain rfl := hw.symm; clear hw) | (go_at_call 116; refine (L _).mono ?_; rintro e w' ⟨rfl, hw⟩; obtain rfl := hw.symm; clear hw))
   go_ret
   exact ⟨rfl, rfl⟩
  ·rw [hl] at L hk
   rw [if_pos (.inr (.inr rfl))] at hk
   subst hk
   generalize c.toNat = n at *
   go_enter Tryz.func76, Tryz.ntmps76
   go_wp2_with (first | (go_at_call 112; refine (D _).mono ?_; rintro e w' ⟨rfl, hw⟩; obtain rfl := hw.symm; clear hw) | (go_at_call 116; refine (L _).mono ?_; rintro e w' ⟨rfl, hw⟩; obtain rfl := hw.symm; clear hw))
   go_ret
   exact ⟨rfl, rfl⟩
 ·rw [hd] at D hk
  rw [if_pos rfl] at hk
  subst hk
  clear L
  generalize c.toNat = n at *
  go_enter Tryz.func76, Tryz.ntmps76
  go_wp2_with (go_at_call 112; refine (D _).mono ?_; rintro e w' ⟨rfl, hw⟩; obtain rfl := hw.symm; clear hw)
  go_ret
  exact ⟨rfl, rfl⟩
def trB (l : List UInt8) : Bool := (lS (ba l)).2
theorem aAZ {c : UInt8} (h : Ad.isL (szB 97 65 c) = true) : Ad.isL c = true := by
 unfold szB at h
 split at h
 ·rename_i h1
  unfold Ad.isL
  simp only [Bool.or_eq_true, Bool.and_eq_true, decide_eq_true_eq]
  omega
 ·exact h
theorem rG {l : List UInt8} (h : trB l = true) : szF 97 65 l = [84, 82, 85, 69] ∨ szF 97 65 l = [70, 65, 76, 83, 69] := by
 unfold trB lS at h
 rcases tY (szF 97 65 l) with ⟨a, b, _⟩ | ⟨a, b, _⟩ | ⟨_, _, b, _⟩
 ·exact .inl a
 ·exact .inr a
 ·have : (aCK (szF 97 65 l)).2 = true := h
  rw [b] at this; cases this
theorem pE {l : List UInt8} (h : ∀ x ∈ szF 97 65 l, Ad.isL x = true) : ∀ x ∈ l, Ad.isL x = true := fun x hx => aAZ (h _ (List.mem_map_of_mem hx))
theorem pF {l : List UInt8} (h : trB l = true) : l ≠ [] ∧ ∀ x ∈ l, Ad.isL x = true := by
 rcases rG h with e | e
 ·exact ⟨fun e2 => (by rw [e2] at e; cases e), pE (by rw [e]; decide)⟩
 ·exact ⟨fun e2 => (by rw [e2] at e; cases e), pE (by rw [e]; decide)⟩
theorem aE1 (l : List UInt8) : ((bO (ba l)).1 == 3) = trB l := by
 cases h : trB l
 ·have h' : (lS (ba l)).2 = false := h
  unfold bO
  split
  ·rfl
  ·split
   ·rfl
   ·split
    ·rfl
    ·rw [h', if_neg (by decide)]
     split <;> rfl
 ·obtain ⟨h1, h2⟩ := pF h
  have : jM l = true := by
   cases l with
   | nil => exact absurd rfl h1
   | cons c r => exact h2 c (by simp)
  rw [qV (s := ba l) this]
  exact h
theorem aC0 (l : List UInt8) (hl : l.length ≤ 255) (w : World) (T : eD w) :
  Calls Tryz.prog 155 #[.string (ba l)] w fun e w' => e = .returned (.bool (trB l)) ∧ Below w.heap.size w w' := by
 have Y := kP (ba l) (by rw [size_mk]; omega) w T
 rw [← aE1 l]
 generalize (bO (ba l)).1 = k at *
 generalize (bO (ba l)).2.1 = n at *
 generalize (bO (ba l)).2.2 = x at *
 generalize ba l = A at *
 have FL := fun W => vM W k n x
 go_enter Tryz.func155, Tryz.ntmps155
 go_wp2_with (go_at_call 200; refine Y.mono ?_; rintro e w1 ⟨rfl, hb⟩; have HB : Hid (Below w.heap.size w w1) := hb; clear hb)
 go_ret
 exact ⟨rfl, HB.out⟩
def bkF (l : List UInt8) : List UInt8 × List UInt8 :=
 match Ad.strip 91 l with
 | (true, m) => (match Ad.at_ 93 m with
  | some (a, r) => if gnF a = true then (a, r) else ([], l)
  | none => ([], l))
 | (false, _) => ([], l)
theorem aG4 {W w : World} {b : Nat} {l : List UInt8} (X : LX W b l w) {I N R : ByteArray} {m : List UInt8} (hR : R = ba m) {op cl g : Bool}
  (CP : ∀ u, Calls Tryz.prog 33 #[.string (ba l), .string ⟨#[91]⟩] u fun e w' => e = .returned (.tuple #[.string I, .bool op]) ∧ w' = u)
  (CU : ∀ u, Calls Tryz.prog 186 #[.string I, .string ⟨#[93]⟩] u fun e w' => e = .returned (.tuple #[.string N, .string R, .bool cl]) ∧ Below u.heap.size u w')
  (GN : ∀ u, dB u → Calls Tryz.prog 154 #[.string N] u fun e w' => e = .returned (.bool g) ∧ Below u.heap.size u w') :
  Calls Tryz.prog 150 #[.pointer (some ⟨b, 0, none⟩)] w fun e w' => e = .returned (.string (if (op && cl && g) = true then N else noB)) ∧ St W b (if (op && cl && g) = true then m else l) w w' := by
 obtain ⟨c0, c1, f0⟩ := X.cells
 have H0 : Hid (St W b l w w) := St.refl X
 have HR : Hid (R = ba m) := hR
 clear X hR
 generalize ba l = A at c0 CP
 cases op <;> cases cl <;> cases g
 all_goals
  go_enter Tryz.func150, Tryz.ntmps150
  go_wp2_with (first
   | (go_at_call 33; refine (CP _).mono ?_; rintro e w' ⟨rfl, hw⟩; obtain rfl := hw.symm; clear hw)
   | (go_at_call 186; refine (CU _).mono ?_; rintro e w1 ⟨rfl, hs⟩; have HS1 : Hid (St W b l w w1) := H0.out.bel hs; obtain ⟨d0, d1, g0⟩ := HS1.out.1.cells; clear hs)
   | (go_at_call 154; refine (GN _ HS1.out.1.t).mono ?_; rintro e w2 ⟨rfl, hs⟩; have HS2 : Hid (St W b l w w2) := HS1.out.bel hs; obtain ⟨k0, k1, k2⟩ := HS2.out.1.cells; clear hs))
  first
   | (go_ret; exact ⟨rfl, HS1.out⟩)
   | (go_ret; exact ⟨rfl, HS2.out⟩)
   | (go_ret; refine ⟨rfl, ?_⟩; have := HS2.out.set m; rw [← HR.out] at this; exact this)
theorem aE2 {W w : World} {b : Nat} {l : List UInt8} (X : LX W b l w) (hl : l.length ≤ 255) :
  Calls Tryz.prog 150 #[.pointer (some ⟨b, 0, none⟩)] w fun e w' => e = .returned (.string (ba (bkF l).1)) ∧ St W b (bkF l).2 w w' := by
 have hI : (Ad.strip 91 l).2.length ≤ 255 := by
  cases l with
  | nil => exact Nat.zero_le _
  | cons c r => rw [Ad.bV]; split <;> simp at hl ⊢ <;> omega
 have hN := (yU 93 (Ad.strip 91 l).2).1
 have B := aG4 X (R := ba (gI 93 (Ad.strip 91 l).2).2.1) rfl (fun u => kM 91 l u) (fun u => qN 93 (Ad.strip 91 l).2 u (by omega))
  (fun u T => bU ⟨(gI 93 (Ad.strip 91 l).2).1.toArray⟩ (by rw [size_mk]; omega) u T.t.t)
 simp only [show (⟨(gI 93 (Ad.strip 91 l).2).1.toArray⟩ : ByteArray).data.toList = (gI 93 (Ad.strip 91 l).2).1 from rfl] at B
 unfold bkF
 cases hs : Ad.strip 91 l with
 | mk o m =>
  rw [hs] at B
  cases o with
  | false => exact B
  | true =>
   simp only
   cases ha : Ad.at_ 93 m with
   | none =>
    rw [kK ha] at B
    exact B
   | some p =>
    obtain ⟨a, r⟩ := p
    rw [kL ha] at B
    simp only
    cases hg : gnF a with
    | false => rw [hg] at B; exact B
    | true => rw [hg] at B; exact B
section
variable {W w : World} {b : Nat} {l l1 l2 l3 l4 : List UInt8} {K R R2 D : ByteArray}
theorem zH (X : LX W b l w) (hl : l.length ≤ 255) {B H : ByteArray} {r c : Int} {fr fc ok : Bool}
  (BK : Hid (Calls Tryz.prog 150 #[.pointer (some ⟨b, 0, none⟩)] (w.alloc tkO) fun e w' => e = .returned (.string K) ∧ St W b l1 (w.alloc tkO) w'))
  (TK : ∀ u, LX W b l1 u → Calls Tryz.prog 119 #[.pointer (some ⟨b, 0, none⟩), .func (.func 151) #[] #[]] u fun e w' => e = .returned (.string R) ∧ St W b l2 u w')
  (SK : ∀ u, LX W b l2 u → Calls Tryz.prog 147 #[.pointer (some ⟨b, 0, none⟩), .string ⟨#[33]⟩] u fun e w' => e = .returned (.bool true) ∧ St W b l3 u w')
  (TK2 : ∀ u, LX W b l3 u → Calls Tryz.prog 119 #[.pointer (some ⟨b, 0, none⟩), .func (.func 151) #[] #[]] u fun e w' => e = .returned (.string R2) ∧ St W b l4 u w')
  (h4 : l4.length ≤ l.length) (hD : (ba l).extract 0 (l.length - l4.length) = D)
  (PR : ∀ u, dB u → Calls Tryz.prog 152 #[.string D] u fun e w' => e = .returned (.tuple #[bC B H r c fr fc, .bool ok]) ∧ Below u.heap.size u w') :
  Calls Tryz.prog 117 #[.pointer (some ⟨b, 0, none⟩)] w fun e w' => e = .returned (.tuple #[.agg (tcs 3 0 noB B H r c fr fc), .bool ok]) ∧ St W b l4 w w' := by
 have hb := X.lt
 obtain ⟨c0, c1, f0⟩ := X.cells
 obtain ⟨a0, a1, a2⟩ := (X.alloc tkO).cells
 have z0 : (ba l).size = l.length := size_mk l
 have z4 : (ba l4).size = l4.length := size_mk l4
 generalize ba l = A at *
 generalize l.length = n0 at *
 generalize l4.length = n4 at *
 have i1 : (0 : Int) ≤ (n0 : Int) - n4 := by omega
 have i2 : (n0 : Int) - n4 ≤ n0 := by omega
 have hD2 : A.extract 0 ((n0 : Int) - (n4 : Int)).toNat = D := by rw [← hD]; congr 1; omega
 clear X
 go_enter Tryz.func117, Tryz.ntmps117
 go_wp2_with (first
  | (go_at_call 150; refine Calls.mono BK.out ?_; rintro e w1 ⟨rfl, hs⟩; have HS1 : Hid (St W b l1 (w.alloc tkO) w1) := hs; clear hs BK)
  | (go_at_call 119; refine (TK _ HS1.out.1).mono ?_; rintro e w2 ⟨rfl, hs⟩; have HS2 : Hid (St W b l2 (w.alloc tkO) w2) := HS1.out.step hs; clear hs HS1)
  | (go_at_call 147; refine (SK _ HS2.out.1).mono ?_; rintro e w3 ⟨rfl, hs⟩; have HS3 : Hid (St W b l3 (w.alloc tkO) w3) := HS2.out.step hs; clear hs HS2)
  | (go_at_call 119; refine (TK2 _ HS3.out.1).mono ?_; rintro e w4 ⟨rfl, hs⟩; have HS4 : Hid (St W b l4 (w.alloc tkO) w4) := HS3.out.step hs; obtain ⟨d0, d1, d2⟩ := HS4.out.1.cells; clear hs HS3; generalize ba l4 = A4 at *)
  | (go_at_call 152; refine (PR _ HS4.out.1.t).mono ?_; rintro e w5 ⟨rfl, hs⟩; have HS5 : Hid (St W b l4 (w.alloc tkO) (w5.alloc (aU B H r c fr fc))) := (HS4.out.bel hs).alloc _; have RR := HS5.out.put hb 3 0 noB B H r c fr fc; clear hs HS4)
  | (refine aD rfl 123 _ _ rfl _ _ _ rfl rfl RR.out ?_))
 exact bodyPost_ret (HS5.out.ans hb (tcs 3 0 noB B H r c fr fc) rfl rfl rfl rfl) rfl ⟨rfl, HS5.out.fin hb _⟩
end
section
variable {W w : World} {b : Nat} {l l1 l2 : List UInt8} {K R : ByteArray}
theorem aG5 (X : LX W b l w) {B H : ByteArray} {r c : Int} {fr fc : Bool}
  (BK : Hid (Calls Tryz.prog 150 #[.pointer (some ⟨b, 0, none⟩)] (w.alloc tkO) fun e w' => e = .returned (.string noB) ∧ St W b l1 (w.alloc tkO) w'))
  (TK : ∀ u, LX W b l1 u → Calls Tryz.prog 119 #[.pointer (some ⟨b, 0, none⟩), .func (.func 151) #[] #[]] u fun e w' => e = .returned (.string R) ∧ St W b l2 u w')
  (SK : ∀ u, LX W b l2 u → Calls Tryz.prog 147 #[.pointer (some ⟨b, 0, none⟩), .string ⟨#[33]⟩] u fun e w' => e = .returned (.bool false) ∧ St W b l2 u w')
  (CE : ∀ u, dB u → Calls Tryz.prog 153 #[.string R] u fun e w' => e = .returned (.tuple #[bC B H r c fr fc, .bool true]) ∧ Below u.heap.size u w') :
  Calls Tryz.prog 117 #[.pointer (some ⟨b, 0, none⟩)] w fun e w' => e = .returned (.tuple #[.agg (tcs 3 0 noB B H r c fr fc), .bool true]) ∧ St W b l2 w w' := by
 have hb := X.lt
 obtain ⟨c0, c1, f0⟩ := X.cells
 obtain ⟨a0, a1, a2⟩ := (X.alloc tkO).cells
 generalize ba l = A at *
 clear X
 go_enter Tryz.func117, Tryz.ntmps117
 go_wp2_with (first
  | (go_at_call 150; refine Calls.mono BK.out ?_; rintro e w1 ⟨rfl, hs⟩; have HS1 : Hid (St W b l1 (w.alloc tkO) w1) := hs; clear hs BK)
  | (go_at_call 119; refine (TK _ HS1.out.1).mono ?_; rintro e w2 ⟨rfl, hs⟩; have HS2 : Hid (St W b l2 (w.alloc tkO) w2) := HS1.out.step hs; clear hs HS1)
  | (go_at_call 147; refine (SK _ HS2.out.1).mono ?_; rintro e w3 ⟨rfl, hs⟩; have HS3 : Hid (St W b l2 (w.alloc tkO) w3) := HS2.out.step hs; clear hs HS2)
  | (go_at_call 153; refine (CE _ HS3.out.1.t).mono ?_; rintro e w5 ⟨rfl, hs⟩; have HS5 : Hid (St W b l2 (w.alloc tkO) (w5.alloc (aU B H r c fr fc))) := (HS3.out.bel hs).alloc _; have RR := HS5.out.put hb 3 0 noB B H r c fr fc; clear hs HS3)
  | (refine aD rfl 123 _ _ rfl _ _ _ rfl rfl RR.out ?_))
 exact bodyPost_ret (HS5.out.ans hb (tcs 3 0 noB B H r c fr fc) rfl rfl rfl rfl) rfl ⟨rfl, HS5.out.fin hb _⟩
theorem aE3 (X : LX W b l w) {B H : ByteArray} {r c : Int} {fr fc g t : Bool}
  (BK : Hid (Calls Tryz.prog 150 #[.pointer (some ⟨b, 0, none⟩)] (w.alloc tkO) fun e w' => e = .returned (.string noB) ∧ St W b l1 (w.alloc tkO) w'))
  (TK : ∀ u, LX W b l1 u → Calls Tryz.prog 119 #[.pointer (some ⟨b, 0, none⟩), .func (.func 151) #[] #[]] u fun e w' => e = .returned (.string R) ∧ St W b l2 u w')
  (SK : ∀ u, LX W b l2 u → Calls Tryz.prog 147 #[.pointer (some ⟨b, 0, none⟩), .string ⟨#[33]⟩] u fun e w' => e = .returned (.bool false) ∧ St W b l2 u w')
  (CE : ∀ u, dB u → Calls Tryz.prog 153 #[.string R] u fun e w' => e = .returned (.tuple #[bC B H r c fr fc, .bool false]) ∧ Below u.heap.size u w')
  (GN : ∀ u, dB u → Calls Tryz.prog 154 #[.string R] u fun e w' => e = .returned (.bool g) ∧ Below u.heap.size u w')
  (TR : ∀ u, dB u → Calls Tryz.prog 155 #[.string R] u fun e w' => e = .returned (.bool t) ∧ Below u.heap.size u w') :
  Calls Tryz.prog 117 #[.pointer (some ⟨b, 0, none⟩)] w fun e w' => e = .returned (.tuple #[.agg (tcs 4 0 R noB noB 0 0 false false), .bool (g || t)]) ∧ St W b l2 w w' := by
 have hb := X.lt
 obtain ⟨c0, c1, f0⟩ := X.cells
 obtain ⟨a0, a1, a2⟩ := (X.alloc tkO).cells
 generalize ba l = A at *
 clear X
 cases g
 ·go_enter Tryz.func117, Tryz.ntmps117
  go_wp2_with (first
   | (go_at_call 150; refine Calls.mono BK.out ?_; rintro e w1 ⟨rfl, hs⟩; have HS1 : Hid (St W b l1 (w.alloc tkO) w1) := hs; clear hs BK)
   | (go_at_call 119; refine (TK _ HS1.out.1).mono ?_; rintro e w2 ⟨rfl, hs⟩; have HS2 : Hid (St W b l2 (w.alloc tkO) w2) := HS1.out.step hs; clear hs HS1)
   | (go_at_call 147; refine (SK _ HS2.out.1).mono ?_; rintro e w3 ⟨rfl, hs⟩; have HS3 : Hid (St W b l2 (w.alloc tkO) w3) := HS2.out.step hs; clear hs HS2)
   | (go_at_call 153; refine (CE _ HS3.out.1.t).mono ?_; rintro e w5 ⟨rfl, hs⟩; have HS5 : Hid (St W b l2 (w.alloc tkO) (w5.alloc (aU B H r c fr fc))) := (HS3.out.bel hs).alloc _; clear hs HS3)
   | (go_at_call 154; refine (GN _ HS5.out.1.t).mono ?_; rintro e w6 ⟨rfl, hs⟩; have HS6 : Hid (St W b l2 (w.alloc tkO) w6) := HS5.out.bel hs; clear hs HS5)
   | (go_at_call 155; refine (TR _ HS6.out.1.t).mono ?_; rintro e w7 ⟨rfl, hs⟩; have HS7 : Hid (St W b l2 (w.alloc tkO) w7) := HS6.out.bel hs; have RR := HS7.out.put hb 4 0 R noB noB 0 0 false false; clear hs HS6)
   | (refine aD rfl 123 _ _ rfl _ _ _ rfl rfl RR.out ?_))
  exact bodyPost_ret (HS7.out.ans hb (tcs 4 0 R noB noB 0 0 false false) rfl rfl rfl rfl) rfl ⟨rfl, HS7.out.fin hb _⟩
 ·go_enter Tryz.func117, Tryz.ntmps117
  go_wp2_with (first
   | (go_at_call 150; refine Calls.mono BK.out ?_; rintro e w1 ⟨rfl, hs⟩; have HS1 : Hid (St W b l1 (w.alloc tkO) w1) := hs; clear hs BK)
   | (go_at_call 119; refine (TK _ HS1.out.1).mono ?_; rintro e w2 ⟨rfl, hs⟩; have HS2 : Hid (St W b l2 (w.alloc tkO) w2) := HS1.out.step hs; clear hs HS1)
   | (go_at_call 147; refine (SK _ HS2.out.1).mono ?_; rintro e w3 ⟨rfl, hs⟩; have HS3 : Hid (St W b l2 (w.alloc tkO) w3) := HS2.out.step hs; clear hs HS2)
   | (go_at_call 153; refine (CE _ HS3.out.1.t).mono ?_; rintro e w5 ⟨rfl, hs⟩; have HS5 : Hid (St W b l2 (w.alloc tkO) (w5.alloc (aU B H r c fr fc))) := (HS3.out.bel hs).alloc _; clear hs HS3)
   | (go_at_call 154; refine (GN _ HS5.out.1.t).mono ?_; rintro e w6 ⟨rfl, hs⟩; have HS6 : Hid (St W b l2 (w.alloc tkO) w6) := HS5.out.bel hs; have RR := HS6.out.put hb 4 0 R noB noB 0 0 false false; clear hs HS5)
   | (refine aD rfl 123 _ _ rfl _ _ _ rfl rfl RR.out ?_))
  exact bodyPost_ret (HS6.out.ans hb (tcs 4 0 R noB noB 0 0 false false) rfl rfl rfl rfl) rfl ⟨rfl, HS6.out.fin hb _⟩
theorem aE4 (X : LX W b l w) {B H : ByteArray} {r c : Int} {fr fc g ok : Bool} (hK : (K.toList == []) = false)
  (BK : Hid (Calls Tryz.prog 150 #[.pointer (some ⟨b, 0, none⟩)] (w.alloc tkO) fun e w' => e = .returned (.string K) ∧ St W b l1 (w.alloc tkO) w'))
  (TK : ∀ u, LX W b l1 u → Calls Tryz.prog 119 #[.pointer (some ⟨b, 0, none⟩), .func (.func 151) #[] #[]] u fun e w' => e = .returned (.string R) ∧ St W b l2 u w')
  (SK : ∀ u, LX W b l2 u → Calls Tryz.prog 147 #[.pointer (some ⟨b, 0, none⟩), .string ⟨#[33]⟩] u fun e w' => e = .returned (.bool false) ∧ St W b l2 u w')
  (CE : ∀ u, dB u → Calls Tryz.prog 153 #[.string R] u fun e w' => e = .returned (.tuple #[bC B H r c fr fc, .bool ok]) ∧ Below u.heap.size u w')
  (GN : ∀ u, dB u → Calls Tryz.prog 154 #[.string R] u fun e w' => e = .returned (.bool g) ∧ Below u.heap.size u w') :
  Calls Tryz.prog 117 #[.pointer (some ⟨b, 0, none⟩)] w fun e w' => e = .returned (.tuple #[.agg (tcs 4 0 R K noB 0 0 false false), .bool g]) ∧ St W b l2 w w' := by
 have hb := X.lt
 obtain ⟨c0, c1, f0⟩ := X.cells
 obtain ⟨a0, a1, a2⟩ := (X.alloc tkO).cells
 generalize ba l = A at *
 clear X
 cases g <;> cases ok
 all_goals
  go_enter Tryz.func117, Tryz.ntmps117
  go_wp2_with (first
   | (go_at_call 150; refine Calls.mono BK.out ?_; rintro e w1 ⟨rfl, hs⟩; have HS1 : Hid (St W b l1 (w.alloc tkO) w1) := hs; clear hs BK)
   | (go_at_call 119; refine (TK _ HS1.out.1).mono ?_; rintro e w2 ⟨rfl, hs⟩; have HS2 : Hid (St W b l2 (w.alloc tkO) w2) := HS1.out.step hs; clear hs HS1)
   | (go_at_call 147; refine (SK _ HS2.out.1).mono ?_; rintro e w3 ⟨rfl, hs⟩; have HS3 : Hid (St W b l2 (w.alloc tkO) w3) := HS2.out.step hs; clear hs HS2)
   | (go_at_call 153; refine (CE _ HS3.out.1.t).mono ?_; rintro e w5 ⟨rfl, hs⟩; have HS5 : Hid (St W b l2 (w.alloc tkO) (w5.alloc (aU B H r c fr fc))) := (HS3.out.bel hs).alloc _; clear hs HS3)
   | (go_at_call 154; refine (GN _ HS5.out.1.t).mono ?_; rintro e w6 ⟨rfl, hs⟩; have HS6 : Hid (St W b l2 (w.alloc tkO) w6) := HS5.out.bel hs; have RR := HS6.out.put hb 4 0 R K noB 0 0 false false; clear hs HS5)
   | (refine aD rfl 123 _ _ rfl _ _ _ rfl rfl RR.out ?_))
  exact bodyPost_ret (HS6.out.ans hb (tcs 4 0 R K noB 0 0 false false) rfl rfl rfl rfl) rfl ⟨rfl, HS6.out.fin hb _⟩
end
end Go.Proofs.YtljmklbbngpllaaGreatDoor
