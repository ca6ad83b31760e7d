/- TSign, TBook, TName, TName2, TName3, TText. -/
import Derived.Test.YtljfkkpkcjigpaaGreatDoorTLaidq
import Derived.Lib.OthersKept
set_option linter.unusedVariables false
set_option linter.unusedSimpArgs false
namespace Go.Proofs.YtljfkkpkcjigpaaGreatDoor
open Go.RowKit
set_option maxRecDepth 100000
def mthF (c : UInt8) : Nat := if Ad.isD c = true then 73 else if c = 34 then 74 else if c = 35 then 75 else if c = 91 ∨ c = 36 ∨ Ad.isL c = true then 77 else 78
theorem u8_ne {c d : UInt8} (h : ¬ c = d) : ¬ (c.toNat : Int) = (d.toNat : Int) := fun e => h (UInt8.toNat_inj.1 (by omega))
theorem tdig (c : UInt8) (u : World) : Calls Tryz.prog 72 #[.int .i32 (c.toNat : Nat)] u fun e w' => e = .returned (.bool (Ad.isD c)) ∧ w' = u := tdigit_any c.toNat u
theorem tlet (c : UInt8) (u : World) : Calls Tryz.prog 76 #[.int .i32 (c.toNat : Nat)] u fun e w' => e = .returned (.bool (Ad.isL c)) ∧ w' = u := by
  have := tletter_any c.toNat u
  rw [Bool.or_comm] at this
  exact this
set_option maxHeartbeats 2000000 in
theorem sign_any (c : UInt8) (w : World) : Calls Tryz.prog 39 #[.int .i32 (c.toNat : Nat)] w fun e w' => e = .returned (.func (.func (mthF c)) #[] #[]) ∧ w' = w := by
  have D := fun u => tdig c u
  have L := fun u => tlet c u
  generalize hk : mthF c = k
  unfold mthF at hk
  cases hd : Ad.isD c
  · rw [hd] at D hk
    rw [if_neg (by decide)] at hk
    by_cases h34 : c = 34
    · subst h34
      obtain rfl : 74 = k := hk
      clear L
      go_enter Tryz.func39, Tryz.ntmps39
      go_wp2_with (go_at_call 72; refine (D _).mono ?_; rintro e w' ⟨rfl, hw⟩; obtain rfl := hw.symm; clear hw)
      go_ret
      exact ⟨rfl, rfl⟩
    rw [if_neg h34] at hk
    have n34 : ¬ (c.toNat : Int) = 34 := u8_ne h34
    by_cases h35 : c = 35
    · subst h35
      obtain rfl : 75 = k := hk
      clear L
      go_enter Tryz.func39, Tryz.ntmps39
      go_wp2_with (go_at_call 72; refine (D _).mono ?_; rintro e w' ⟨rfl, hw⟩; obtain rfl := hw.symm; clear hw)
      go_ret
      exact ⟨rfl, rfl⟩
    rw [if_neg h35] at hk
    have n35 : ¬ (c.toNat : Int) = 35 := u8_ne h35
    by_cases h91 : c = 91
    · subst h91
      obtain rfl : 77 = k := hk
      clear L
      go_enter Tryz.func39, Tryz.ntmps39
      go_wp2_with (go_at_call 72; refine (D _).mono ?_; rintro e w' ⟨rfl, hw⟩; obtain rfl := hw.symm; clear hw)
      go_ret
      exact ⟨rfl, rfl⟩
    have n91 : ¬ (c.toNat : Int) = 91 := u8_ne h91
    by_cases h36 : c = 36
    · subst h36
      obtain rfl : 77 = k := hk
      clear L
      go_enter Tryz.func39, Tryz.ntmps39
      go_wp2_with (go_at_call 72; refine (D _).mono ?_; rintro e w' ⟨rfl, hw⟩; obtain rfl := hw.symm; clear hw)
      go_ret
      exact ⟨rfl, rfl⟩
    have n36 : ¬ (c.toNat : Int) = 36 := u8_ne h36
    cases hl : Ad.isL c
    · rw [hl] at L hk
      rw [if_neg (by rintro (h | h | h); exact h91 h; exact h36 h; cases h)] at hk
      subst hk
      generalize c.toNat = n at *
      go_enter Tryz.func39, Tryz.ntmps39
      go_wp2_with (first | (go_at_call 72; refine (D _).mono ?_; rintro e w' ⟨rfl, hw⟩; obtain rfl := hw.symm; clear hw) | (go_at_call 76; refine (L _).mono ?_; rintro e w' ⟨rfl, hw⟩; obtain rfl := hw.symm; clear hw))
      go_ret
      exact ⟨rfl, rfl⟩
    · rw [hl] at L hk
      rw [if_pos (.inr (.inr rfl))] at hk
      subst hk
      generalize c.toNat = n at *
      go_enter Tryz.func39, Tryz.ntmps39
      go_wp2_with (first | (go_at_call 72; refine (D _).mono ?_; rintro e w' ⟨rfl, hw⟩; obtain rfl := hw.symm; clear hw) | (go_at_call 76; refine (L _).mono ?_; rintro e w' ⟨rfl, hw⟩; obtain rfl := hw.symm; clear hw))
      go_ret
      exact ⟨rfl, rfl⟩
  · rw [hd] at D hk
    rw [if_pos rfl] at hk
    subst hk
    clear L
    generalize c.toNat = n at *
    go_enter Tryz.func39, Tryz.ntmps39
    go_wp2_with (go_at_call 72; refine (D _).mono ?_; rintro e w' ⟨rfl, hw⟩; obtain rfl := hw.symm; clear hw)
    go_ret
    exact ⟨rfl, rfl⟩
end Go.Proofs.YtljfkkpkcjigpaaGreatDoor

namespace Go.Proofs.YtljfkkpkcjigpaaGreatDoor
open Go.RowKit
set_option maxRecDepth 100000
def trB (l : List UInt8) : Bool := (truF (ba l)).2
theorem szB_letter {c : UInt8} (h : Ad.isL (szB 97 65 c) = true) : Ad.isL c = true := by
  unfold szB at h
  split at h
  · rename_i h1
    unfold Ad.isL
    simp only [Bool.or_eq_true, Bool.and_eq_true, decide_eq_true_eq]
    omega
  · exact h
theorem tru_word {l : List UInt8} (h : trB l = true) : szF 97 65 l = [84, 82, 85, 69] ∨ szF 97 65 l = [70, 65, 76, 83, 69] := by
  unfold trB truF at h
  rcases tru_cases (szF 97 65 l) with ⟨a, b, _⟩ | ⟨a, b, _⟩ | ⟨_, _, b, _⟩
  · exact .inl a
  · exact .inr a
  · have : (truL (szF 97 65 l)).2 = true := h
    rw [b] at this; cases this
theorem szF_letters {l : List UInt8} (h : ∀ x ∈ szF 97 65 l, Ad.isL x = true) : ∀ x ∈ l, Ad.isL x = true := fun x hx => szB_letter (h _ (List.mem_map_of_mem hx))
theorem tru_letters {l : List UInt8} (h : trB l = true) : l ≠ [] ∧ ∀ x ∈ l, Ad.isL x = true := by
  rcases tru_word h with e | e
  · exact ⟨fun e2 => (by rw [e2] at e; cases e), szF_letters (by rw [e]; decide)⟩
  · exact ⟨fun e2 => (by rw [e2] at e; cases e), szF_letters (by rw [e]; decide)⟩
theorem typed_tr (l : List UInt8) : ((typedF (ba l)).1 == 3) = trB l := by
  cases h : trB l
  · have h' : (truF (ba l)).2 = false := h
    unfold typedF
    split
    · rfl
    · split
      · rfl
      · split
        · rfl
        · rw [h', if_neg (by decide)]
          split <;> rfl
  · obtain ⟨h1, h2⟩ := tru_letters h
    have : headL l = true := by
      cases l with
      | nil => exact absurd rfl h1
      | cons c r => exact h2 c (by simp)
    rw [typed_kind (s := ba l) this]
    exact h
set_option maxHeartbeats 2000000 in
theorem truth_any (l : List UInt8) (hl : l.length ≤ 255) (w : World) (T : Tabs w) :
    Calls Tryz.prog 122 #[.string (ba l)] w fun e w' => e = .returned (.bool (trB l)) ∧ Below w.heap.size w w' := by
  have Y := typed_any (ba l) (by rw [size_mk]; omega) w T
  rw [← typed_tr l]
  generalize (typedF (ba l)).1 = k at *
  generalize (typedF (ba l)).2.1 = n at *
  generalize (typedF (ba l)).2.2 = x at *
  generalize ba l = A at *
  have FL := fun W => run_fld W k n x
  go_enter Tryz.func122, Tryz.ntmps122
  go_wp2_with (go_at_call 142; refine Y.mono ?_; rintro e w1 ⟨rfl, hb⟩; have HB : Hid (Below w.heap.size w w1) := hb; clear hb)
  go_ret
  exact ⟨rfl, HB.out⟩
def bkF (l : List UInt8) : List UInt8 × List UInt8 :=
  match Ad.strip 91 l with
  | (true, m) => (match Ad.at_ 93 m with
    | some (a, r) => if gnF a = true then (a, r) else ([], l)
    | none => ([], l))
  | (false, _) => ([], l)
set_option maxHeartbeats 2000000 in
theorem bk_walk {W w : World} {b : Nat} {l : List UInt8} (X : LX W b l w) {I N R : ByteArray} {m : List UInt8} (hR : R = ba m) {op cl g : Bool}
    (CP : ∀ u, Calls Tryz.prog 157 #[.string (ba l), .string ⟨#[91]⟩] u fun e w' => e = .returned (.tuple #[.string I, .bool op]) ∧ w' = u)
    (CU : ∀ u, Calls Tryz.prog 158 #[.string I, .string ⟨#[93]⟩] u fun e w' => e = .returned (.tuple #[.string N, .string R, .bool cl]) ∧ Below u.heap.size u w')
    (GN : ∀ u, Tab9 u → Calls Tryz.prog 94 #[.string N] u fun e w' => e = .returned (.bool g) ∧ Below u.heap.size u w') :
    Calls Tryz.prog 118 #[.pointer (some ⟨b, 0, none⟩)] w fun e w' => e = .returned (.string (if (op && cl && g) = true then N else noB)) ∧ St W b (if (op && cl && g) = true then m else l) w w' := by
  obtain ⟨c0, c1, f0⟩ := X.cells
  have H0 : Hid (St W b l w w) := St.refl X
  have HR : Hid (R = ba m) := hR
  clear X hR
  generalize ba l = A at c0 CP
  cases op <;> cases cl <;> cases g
  all_goals
    go_enter Tryz.func118, Tryz.ntmps118
    go_wp2_with (first
      | (go_at_call 157; refine (CP _).mono ?_; rintro e w' ⟨rfl, hw⟩; obtain rfl := hw.symm; clear hw)
      | (go_at_call 158; refine (CU _).mono ?_; rintro e w1 ⟨rfl, hs⟩; have HS1 : Hid (St W b l w w1) := H0.out.bel hs; obtain ⟨d0, d1, g0⟩ := HS1.out.1.cells; clear hs)
      | (go_at_call 94; refine (GN _ HS1.out.1.t).mono ?_; rintro e w2 ⟨rfl, hs⟩; have HS2 : Hid (St W b l w w2) := HS1.out.bel hs; obtain ⟨k0, k1, k2⟩ := HS2.out.1.cells; clear hs))
    first
      | (go_ret; exact ⟨rfl, HS1.out⟩)
      | (go_ret; exact ⟨rfl, HS2.out⟩)
      | (go_ret; refine ⟨rfl, ?_⟩; have := HS2.out.set m; rw [← HR.out] at this; exact this)
theorem book_any {W w : World} {b : Nat} {l : List UInt8} (X : LX W b l w) (hl : l.length ≤ 255) :
    Calls Tryz.prog 118 #[.pointer (some ⟨b, 0, none⟩)] w fun e w' => e = .returned (.string (ba (bkF l).1)) ∧ St W b (bkF l).2 w w' := by
  have hI : (Ad.strip 91 l).2.length ≤ 255 := by
    cases l with
    | nil => exact Nat.zero_le _
    | cons c r => rw [Ad.strip_cons]; split <;> simp at hl ⊢ <;> omega
  have hN := (cutF_len 93 (Ad.strip 91 l).2).1
  have B := bk_walk X (R := ba (cutF 93 (Ad.strip 91 l).2).2.1) rfl (fun u => strip_any 91 l u) (fun u => cutc_any 93 (Ad.strip 91 l).2 u (by omega))
    (fun u T => goodname_any ⟨(cutF 93 (Ad.strip 91 l).2).1.toArray⟩ (by rw [size_mk]; omega) u T.t.t)
  simp only [show (⟨(cutF 93 (Ad.strip 91 l).2).1.toArray⟩ : ByteArray).data.toList = (cutF 93 (Ad.strip 91 l).2).1 from rfl] at B
  unfold bkF
  cases hs : Ad.strip 91 l with
  | mk o m =>
    rw [hs] at B
    cases o with
    | false => exact B
    | true =>
      simp only
      cases ha : Ad.at_ 93 m with
      | none =>
        rw [cutF_none ha] at B
        exact B
      | some p =>
        obtain ⟨a, r⟩ := p
        rw [cutF_some ha] at B
        simp only
        cases hg : gnF a with
        | false => rw [hg] at B; exact B
        | true => rw [hg] at B; exact B
end Go.Proofs.YtljfkkpkcjigpaaGreatDoor

namespace Go.Proofs.YtljfkkpkcjigpaaGreatDoor
open Go.RowKit
set_option maxRecDepth 100000
section
variable {W w : World} {b : Nat} {l l1 l2 l3 l4 : List UInt8} {K R R2 D : ByteArray}
set_option maxHeartbeats 4000000 in
theorem nm_sheet (X : LX W b l w) (hl : l.length ≤ 255) {B H : ByteArray} {r c : Int} {fr fc ok : Bool}
    (BK : Hid (Calls Tryz.prog 118 #[.pointer (some ⟨b, 0, none⟩)] (w.alloc tkO) fun e w' => e = .returned (.string K) ∧ St W b l1 (w.alloc tkO) w'))
    (TK : ∀ u, LX W b l1 u → Calls Tryz.prog 79 #[.pointer (some ⟨b, 0, none⟩), .func (.func 119) #[] #[]] u fun e w' => e = .returned (.string R) ∧ St W b l2 u w')
    (SK : ∀ u, LX W b l2 u → Calls Tryz.prog 115 #[.pointer (some ⟨b, 0, none⟩), .string ⟨#[33]⟩] u fun e w' => e = .returned (.bool true) ∧ St W b l3 u w')
    (TK2 : ∀ u, LX W b l3 u → Calls Tryz.prog 79 #[.pointer (some ⟨b, 0, none⟩), .func (.func 119) #[] #[]] u fun e w' => e = .returned (.string R2) ∧ St W b l4 u w')
    (h4 : l4.length ≤ l.length) (hD : (ba l).extract 0 (l.length - l4.length) = D)
    (PR : ∀ u, Tab9 u → Calls Tryz.prog 120 #[.string D] u fun e w' => e = .returned (.tuple #[refV B H r c fr fc, .bool ok]) ∧ Below u.heap.size u w') :
    Calls Tryz.prog 77 #[.pointer (some ⟨b, 0, none⟩)] w fun e w' => e = .returned (.tuple #[.agg (tcs 3 0 noB B H r c fr fc), .bool ok]) ∧ St W b l4 w w' := by
  have hb := X.lt
  obtain ⟨c0, c1, f0⟩ := X.cells
  obtain ⟨a0, a1, a2⟩ := (X.alloc tkO).cells
  have z0 : (ba l).size = l.length := size_mk l
  have z4 : (ba l4).size = l4.length := size_mk l4
  generalize ba l = A at *
  generalize l.length = n0 at *
  generalize l4.length = n4 at *
  have i1 : (0 : Int) ≤ (n0 : Int) - n4 := by omega
  have i2 : (n0 : Int) - n4 ≤ n0 := by omega
  have hD2 : A.extract 0 ((n0 : Int) - (n4 : Int)).toNat = D := by rw [← hD]; congr 1; omega
  clear X
  go_enter Tryz.func77, Tryz.ntmps77
  go_wp2_with (first
    | (go_at_call 118; refine Calls.mono BK.out ?_; rintro e w1 ⟨rfl, hs⟩; have HS1 : Hid (St W b l1 (w.alloc tkO) w1) := hs; clear hs BK)
    | (go_at_call 79; refine (TK _ HS1.out.1).mono ?_; rintro e w2 ⟨rfl, hs⟩; have HS2 : Hid (St W b l2 (w.alloc tkO) w2) := HS1.out.step hs; clear hs HS1)
    | (go_at_call 115; refine (SK _ HS2.out.1).mono ?_; rintro e w3 ⟨rfl, hs⟩; have HS3 : Hid (St W b l3 (w.alloc tkO) w3) := HS2.out.step hs; clear hs HS2)
    | (go_at_call 79; refine (TK2 _ HS3.out.1).mono ?_; rintro e w4 ⟨rfl, hs⟩; have HS4 : Hid (St W b l4 (w.alloc tkO) w4) := HS3.out.step hs; obtain ⟨d0, d1, d2⟩ := HS4.out.1.cells; clear hs HS3; generalize ba l4 = A4 at *)
    | (go_at_call 120; refine (PR _ HS4.out.1.t).mono ?_; rintro e w5 ⟨rfl, hs⟩; have HS5 : Hid (St W b l4 (w.alloc tkO) (w5.alloc (refO B H r c fr fc))) := (HS4.out.bel hs).alloc _; have RR := HS5.out.put hb 3 0 noB B H r c fr fc; clear hs HS4)
    | (refine wpList_store_run rfl 70 _ _ rfl _ _ _ rfl rfl RR.out ?_))
  exact bodyPost_ret (HS5.out.ans hb (tcs 3 0 noB B H r c fr fc) rfl rfl rfl rfl) rfl ⟨rfl, HS5.out.fin hb _⟩
end
end Go.Proofs.YtljfkkpkcjigpaaGreatDoor

namespace Go.Proofs.YtljfkkpkcjigpaaGreatDoor
open Go.RowKit
set_option maxRecDepth 100000
section
variable {W w : World} {b : Nat} {l l1 l2 : List UInt8} {K R : ByteArray}
set_option maxHeartbeats 4000000 in
theorem nm_cell (X : LX W b l w) {B H : ByteArray} {r c : Int} {fr fc : Bool}
    (BK : Hid (Calls Tryz.prog 118 #[.pointer (some ⟨b, 0, none⟩)] (w.alloc tkO) fun e w' => e = .returned (.string noB) ∧ St W b l1 (w.alloc tkO) w'))
    (TK : ∀ u, LX W b l1 u → Calls Tryz.prog 79 #[.pointer (some ⟨b, 0, none⟩), .func (.func 119) #[] #[]] u fun e w' => e = .returned (.string R) ∧ St W b l2 u w')
    (SK : ∀ u, LX W b l2 u → Calls Tryz.prog 115 #[.pointer (some ⟨b, 0, none⟩), .string ⟨#[33]⟩] u fun e w' => e = .returned (.bool false) ∧ St W b l2 u w')
    (CE : ∀ u, Tab9 u → Calls Tryz.prog 121 #[.string R] u fun e w' => e = .returned (.tuple #[refV B H r c fr fc, .bool true]) ∧ Below u.heap.size u w') :
    Calls Tryz.prog 77 #[.pointer (some ⟨b, 0, none⟩)] w fun e w' => e = .returned (.tuple #[.agg (tcs 3 0 noB B H r c fr fc), .bool true]) ∧ St W b l2 w w' := by
  have hb := X.lt
  obtain ⟨c0, c1, f0⟩ := X.cells
  obtain ⟨a0, a1, a2⟩ := (X.alloc tkO).cells
  generalize ba l = A at *
  clear X
  go_enter Tryz.func77, Tryz.ntmps77
  go_wp2_with (first
    | (go_at_call 118; refine Calls.mono BK.out ?_; rintro e w1 ⟨rfl, hs⟩; have HS1 : Hid (St W b l1 (w.alloc tkO) w1) := hs; clear hs BK)
    | (go_at_call 79; refine (TK _ HS1.out.1).mono ?_; rintro e w2 ⟨rfl, hs⟩; have HS2 : Hid (St W b l2 (w.alloc tkO) w2) := HS1.out.step hs; clear hs HS1)
    | (go_at_call 115; refine (SK _ HS2.out.1).mono ?_; rintro e w3 ⟨rfl, hs⟩; have HS3 : Hid (St W b l2 (w.alloc tkO) w3) := HS2.out.step hs; clear hs HS2)
    | (go_at_call 121; refine (CE _ HS3.out.1.t).mono ?_; rintro e w5 ⟨rfl, hs⟩; have HS5 : Hid (St W b l2 (w.alloc tkO) (w5.alloc (refO B H r c fr fc))) := (HS3.out.bel hs).alloc _; have RR := HS5.out.put hb 3 0 noB B H r c fr fc; clear hs HS3)
    | (refine wpList_store_run rfl 70 _ _ rfl _ _ _ rfl rfl RR.out ?_))
  exact bodyPost_ret (HS5.out.ans hb (tcs 3 0 noB B H r c fr fc) rfl rfl rfl rfl) rfl ⟨rfl, HS5.out.fin hb _⟩
set_option maxHeartbeats 4000000 in
theorem nm_word0 (X : LX W b l w) {B H : ByteArray} {r c : Int} {fr fc g t : Bool}
    (BK : Hid (Calls Tryz.prog 118 #[.pointer (some ⟨b, 0, none⟩)] (w.alloc tkO) fun e w' => e = .returned (.string noB) ∧ St W b l1 (w.alloc tkO) w'))
    (TK : ∀ u, LX W b l1 u → Calls Tryz.prog 79 #[.pointer (some ⟨b, 0, none⟩), .func (.func 119) #[] #[]] u fun e w' => e = .returned (.string R) ∧ St W b l2 u w')
    (SK : ∀ u, LX W b l2 u → Calls Tryz.prog 115 #[.pointer (some ⟨b, 0, none⟩), .string ⟨#[33]⟩] u fun e w' => e = .returned (.bool false) ∧ St W b l2 u w')
    (CE : ∀ u, Tab9 u → Calls Tryz.prog 121 #[.string R] u fun e w' => e = .returned (.tuple #[refV B H r c fr fc, .bool false]) ∧ Below u.heap.size u w')
    (GN : ∀ u, Tab9 u → Calls Tryz.prog 94 #[.string R] u fun e w' => e = .returned (.bool g) ∧ Below u.heap.size u w')
    (TR : ∀ u, Tab9 u → Calls Tryz.prog 122 #[.string R] u fun e w' => e = .returned (.bool t) ∧ Below u.heap.size u w') :
    Calls Tryz.prog 77 #[.pointer (some ⟨b, 0, none⟩)] w fun e w' => e = .returned (.tuple #[.agg (tcs 4 0 R noB noB 0 0 false false), .bool (g || t)]) ∧ St W b l2 w w' := by
  have hb := X.lt
  obtain ⟨c0, c1, f0⟩ := X.cells
  obtain ⟨a0, a1, a2⟩ := (X.alloc tkO).cells
  generalize ba l = A at *
  clear X
  cases g
  · go_enter Tryz.func77, Tryz.ntmps77
    go_wp2_with (first
      | (go_at_call 118; refine Calls.mono BK.out ?_; rintro e w1 ⟨rfl, hs⟩; have HS1 : Hid (St W b l1 (w.alloc tkO) w1) := hs; clear hs BK)
      | (go_at_call 79; refine (TK _ HS1.out.1).mono ?_; rintro e w2 ⟨rfl, hs⟩; have HS2 : Hid (St W b l2 (w.alloc tkO) w2) := HS1.out.step hs; clear hs HS1)
      | (go_at_call 115; refine (SK _ HS2.out.1).mono ?_; rintro e w3 ⟨rfl, hs⟩; have HS3 : Hid (St W b l2 (w.alloc tkO) w3) := HS2.out.step hs; clear hs HS2)
      | (go_at_call 121; refine (CE _ HS3.out.1.t).mono ?_; rintro e w5 ⟨rfl, hs⟩; have HS5 : Hid (St W b l2 (w.alloc tkO) (w5.alloc (refO B H r c fr fc))) := (HS3.out.bel hs).alloc _; clear hs HS3)
      | (go_at_call 94; refine (GN _ HS5.out.1.t).mono ?_; rintro e w6 ⟨rfl, hs⟩; have HS6 : Hid (St W b l2 (w.alloc tkO) w6) := HS5.out.bel hs; clear hs HS5)
      | (go_at_call 122; refine (TR _ HS6.out.1.t).mono ?_; rintro e w7 ⟨rfl, hs⟩; have HS7 : Hid (St W b l2 (w.alloc tkO) w7) := HS6.out.bel hs; have RR := HS7.out.put hb 4 0 R noB noB 0 0 false false; clear hs HS6)
      | (refine wpList_store_run rfl 70 _ _ rfl _ _ _ rfl rfl RR.out ?_))
    exact bodyPost_ret (HS7.out.ans hb (tcs 4 0 R noB noB 0 0 false false) rfl rfl rfl rfl) rfl ⟨rfl, HS7.out.fin hb _⟩
  · go_enter Tryz.func77, Tryz.ntmps77
    go_wp2_with (first
      | (go_at_call 118; refine Calls.mono BK.out ?_; rintro e w1 ⟨rfl, hs⟩; have HS1 : Hid (St W b l1 (w.alloc tkO) w1) := hs; clear hs BK)
      | (go_at_call 79; refine (TK _ HS1.out.1).mono ?_; rintro e w2 ⟨rfl, hs⟩; have HS2 : Hid (St W b l2 (w.alloc tkO) w2) := HS1.out.step hs; clear hs HS1)
      | (go_at_call 115; refine (SK _ HS2.out.1).mono ?_; rintro e w3 ⟨rfl, hs⟩; have HS3 : Hid (St W b l2 (w.alloc tkO) w3) := HS2.out.step hs; clear hs HS2)
      | (go_at_call 121; refine (CE _ HS3.out.1.t).mono ?_; rintro e w5 ⟨rfl, hs⟩; have HS5 : Hid (St W b l2 (w.alloc tkO) (w5.alloc (refO B H r c fr fc))) := (HS3.out.bel hs).alloc _; clear hs HS3)
      | (go_at_call 94; refine (GN _ HS5.out.1.t).mono ?_; rintro e w6 ⟨rfl, hs⟩; have HS6 : Hid (St W b l2 (w.alloc tkO) w6) := HS5.out.bel hs; have RR := HS6.out.put hb 4 0 R noB noB 0 0 false false; clear hs HS5)
      | (refine wpList_store_run rfl 70 _ _ rfl _ _ _ rfl rfl RR.out ?_))
    exact bodyPost_ret (HS6.out.ans hb (tcs 4 0 R noB noB 0 0 false false) rfl rfl rfl rfl) rfl ⟨rfl, HS6.out.fin hb _⟩
set_option maxHeartbeats 4000000 in
theorem nm_wordB (X : LX W b l w) {B H : ByteArray} {r c : Int} {fr fc g ok : Bool} (hK : (K.toList == []) = false)
    (BK : Hid (Calls Tryz.prog 118 #[.pointer (some ⟨b, 0, none⟩)] (w.alloc tkO) fun e w' => e = .returned (.string K) ∧ St W b l1 (w.alloc tkO) w'))
    (TK : ∀ u, LX W b l1 u → Calls Tryz.prog 79 #[.pointer (some ⟨b, 0, none⟩), .func (.func 119) #[] #[]] u fun e w' => e = .returned (.string R) ∧ St W b l2 u w')
    (SK : ∀ u, LX W b l2 u → Calls Tryz.prog 115 #[.pointer (some ⟨b, 0, none⟩), .string ⟨#[33]⟩] u fun e w' => e = .returned (.bool false) ∧ St W b l2 u w')
    (CE : ∀ u, Tab9 u → Calls Tryz.prog 121 #[.string R] u fun e w' => e = .returned (.tuple #[refV B H r c fr fc, .bool ok]) ∧ Below u.heap.size u w')
    (GN : ∀ u, Tab9 u → Calls Tryz.prog 94 #[.string R] u fun e w' => e = .returned (.bool g) ∧ Below u.heap.size u w') :
    Calls Tryz.prog 77 #[.pointer (some ⟨b, 0, none⟩)] w fun e w' => e = .returned (.tuple #[.agg (tcs 4 0 R K noB 0 0 false false), .bool g]) ∧ St W b l2 w w' := by
  have hb := X.lt
  obtain ⟨c0, c1, f0⟩ := X.cells
  obtain ⟨a0, a1, a2⟩ := (X.alloc tkO).cells
  generalize ba l = A at *
  clear X
  cases g <;> cases ok
  all_goals
    go_enter Tryz.func77, Tryz.ntmps77
    go_wp2_with (first
      | (go_at_call 118; refine Calls.mono BK.out ?_; rintro e w1 ⟨rfl, hs⟩; have HS1 : Hid (St W b l1 (w.alloc tkO) w1) := hs; clear hs BK)
      | (go_at_call 79; refine (TK _ HS1.out.1).mono ?_; rintro e w2 ⟨rfl, hs⟩; have HS2 : Hid (St W b l2 (w.alloc tkO) w2) := HS1.out.step hs; clear hs HS1)
      | (go_at_call 115; refine (SK _ HS2.out.1).mono ?_; rintro e w3 ⟨rfl, hs⟩; have HS3 : Hid (St W b l2 (w.alloc tkO) w3) := HS2.out.step hs; clear hs HS2)
      | (go_at_call 121; refine (CE _ HS3.out.1.t).mono ?_; rintro e w5 ⟨rfl, hs⟩; have HS5 : Hid (St W b l2 (w.alloc tkO) (w5.alloc (refO B H r c fr fc))) := (HS3.out.bel hs).alloc _; clear hs HS3)
      | (go_at_call 94; refine (GN _ HS5.out.1.t).mono ?_; rintro e w6 ⟨rfl, hs⟩; have HS6 : Hid (St W b l2 (w.alloc tkO) w6) := HS5.out.bel hs; have RR := HS6.out.put hb 4 0 R K noB 0 0 false false; clear hs HS5)
      | (refine wpList_store_run rfl 70 _ _ rfl _ _ _ rfl rfl RR.out ?_))
    exact bodyPost_ret (HS6.out.ans hb (tcs 4 0 R K noB 0 0 false false) rfl rfl rfl rfl) rfl ⟨rfl, HS6.out.fin hb _⟩
end
end Go.Proofs.YtljfkkpkcjigpaaGreatDoor

namespace Go.Proofs.YtljfkkpkcjigpaaGreatDoor
open Go.RowKit
set_option maxRecDepth 100000
theorem at_eq {c : UInt8} : ∀ {l a r : List UInt8}, Ad.at_ c l = some (a, r) → l = a ++ c :: r
  | [], a, r, h => by cases h
  | x :: l, a, r, h => by
    unfold Ad.at_ at h
    split at h
    · rename_i e; cases h; rw [e]; rfl
    · cases hq : Ad.at_ c l with
      | none => rw [hq] at h; cases h
      | some p =>
        rw [hq] at h
        cases h
        rw [List.cons_append, ← at_eq (a := p.1) (r := p.2) hq]
theorem tw_dw (p : UInt8 → Bool) (l : List UInt8) : l.takeWhile p ++ l.dropWhile p = l := List.takeWhile_append_dropWhile
theorem take_front {l A B : List UInt8} (h : l = A ++ B) : l.take (l.length - B.length) = A ∧ B.length ≤ l.length ∧ A.length ≤ l.length := by
  subst h
  rw [List.length_append]
  refine ⟨?_, by omega, by omega⟩
  rw [show A.length + B.length - B.length = A.length by omega]
  exact List.take_left
theorem tail_any {W w : World} {b : Nat} {l l1 k pre : List UInt8} (X : LX W b l w) (hl : l.length ≤ 255) (he : l = pre ++ l1) (hk : k = [] ∨ k ≠ [])
    (BK : Hid (Calls Tryz.prog 118 #[.pointer (some ⟨b, 0, none⟩)] (w.alloc tkO) fun e w' => e = .returned (.string (ba k)) ∧ St W b l1 (w.alloc tkO) w')) :
    Calls Tryz.prog 77 #[.pointer (some ⟨b, 0, none⟩)] w (Ans W b w (Tk.tailN gnF trB k pre l1)) := by
  have hl1 : l1.length ≤ 255 := by rw [he, List.length_append] at hl; omega
  have hd : (l1.dropWhile Tk.runC).length ≤ l1.length := Tk.drop_le _ _
  have ht : (l1.takeWhile Tk.runC).length ≤ 255 := Nat.le_trans (List.takeWhile_sublist _).length_le hl1
  have TK := fun u (Y : LX W b l1 u) => take_any Y hl1 asks_run e56
  have SK := fun u (Y : LX W b (l1.dropWhile Tk.runC) u) => skip_any Y [33]
  have CE := fun u (T : Tab9 u) => parsecell_any (l1.takeWhile Tk.runC) (by omega) u T.t
  have GN : ∀ u, Tab9 u → Calls Tryz.prog 94 #[.string (ba (l1.takeWhile Tk.runC))] u fun e w' => e = .returned (.bool (gnF (l1.takeWhile Tk.runC))) ∧ Below u.heap.size u w' := fun u T => goodname_any (ba (l1.takeWhile Tk.runC)) (by rw [size_mk]; omega) u T.t.t
  have TR := fun u (T : Tab9 u) => truth_any (l1.takeWhile Tk.runC) (by omega) u T.t.t
  have plain : [33].isPrefixOf (l1.dropWhile Tk.runC) = false → Calls Tryz.prog 77 #[.pointer (some ⟨b, 0, none⟩)] w (Ans W b w (if k = [] then (match Ad.cellP (l1.takeWhile Tk.runC) with
      | some c => some (.ref ⟨[], [], c⟩, l1.dropWhile Tk.runC)
      | none => if gnF (l1.takeWhile Tk.runC) = true ∨ trB (l1.takeWhile Tk.runC) = true then some (.word [] (l1.takeWhile Tk.runC), l1.dropWhile Tk.runC) else none)
    else if gnF (l1.takeWhile Tk.runC) = true then some (.word k (l1.takeWhile Tk.runC), l1.dropWhile Tk.runC) else none)) := by
    intro hno
    simp only [skF_no hno, hno] at SK
    by_cases e : k = []
    · subst e
      rw [if_pos rfl]
      cases hc : Ad.cellP (l1.takeWhile Tk.runC) with
      | some c =>
        rw [hc] at CE
        refine (nm_cell X BK TK SK CE).mono ?_
        rintro e w' ⟨rfl, h⟩
        exact ⟨rfl, h⟩
      | none =>
        rw [hc] at CE
        refine (nm_word0 X BK TK SK CE GN TR).mono ?_
        rintro e w' ⟨rfl, h⟩
        cases hg : gnF (l1.takeWhile Tk.runC) <;> cases hr : trB (l1.takeWhile Tk.runC)
        · exact ⟨⟨⟨4, 0, _, noB, noB, 0, 0, false, false⟩, rfl⟩, _, h⟩
        · exact ⟨rfl, h⟩
        · exact ⟨rfl, h⟩
        · exact ⟨rfl, h⟩
    · rw [if_neg e]
      have hK : ((ba k).toList == []) = false := by
        rw [nil_beq]
        cases k with
        | nil => exact absurd rfl e
        | cons _ _ => rfl
      have main := fun {B H : ByteArray} {r c : Int} {fr fc ok : Bool} (CE : ∀ u, Tab9 u → Calls Tryz.prog 121 #[.string (ba (l1.takeWhile Tk.runC))] u fun e w' => e = .returned (.tuple #[refV B H r c fr fc, .bool ok]) ∧ Below u.heap.size u w') => nm_wordB X hK BK TK SK CE GN
      have fin : ∀ (e : Ending) (w' : World), (e = .returned (.tuple #[.agg (tcs 4 0 (ba (l1.takeWhile Tk.runC)) (ba k) noB 0 0 false false), .bool (gnF (l1.takeWhile Tk.runC))]) ∧ St W b (l1.dropWhile Tk.runC) w w') → Ans W b w (if gnF (l1.takeWhile Tk.runC) = true then some (.word k (l1.takeWhile Tk.runC), l1.dropWhile Tk.runC) else none) e w' := by
        rintro e w' ⟨rfl, h⟩
        cases hg : gnF (l1.takeWhile Tk.runC)
        · exact ⟨⟨⟨4, 0, _, _, noB, 0, 0, false, false⟩, rfl⟩, _, h⟩
        · exact ⟨rfl, h⟩
      cases hc : Ad.cellP (l1.takeWhile Tk.runC) with
      | some c =>
        rw [hc] at CE
        exact (main CE).mono fin
      | none =>
        rw [hc] at CE
        exact (main CE).mono fin
  unfold Tk.tailN
  cases hx : l1.dropWhile Tk.runC with
  | nil =>
    have := plain (by rw [hx]; rfl)
    rw [hx] at this
    exact this
  | cons x r =>
    by_cases h33 : x = 33
    · subst h33
      clear plain
      have hr : r.length ≤ 255 := by rw [hx, List.length_cons] at hd; omega
      rw [hx] at TK SK
      have SK2 : ∀ u, LX W b (33 :: r) u → Calls Tryz.prog 115 #[.pointer (some ⟨b, 0, none⟩), .string ⟨#[33]⟩] u fun e w' => e = .returned (.bool true) ∧ St W b r u w' := SK
      have TK2 := fun u (Y : LX W b r u) => take_any Y hr asks_run e56
      have h4 := Tk.drop_le Tk.runC r
      have hall : l = pre ++ l1.takeWhile Tk.runC ++ 33 :: r.takeWhile Tk.runC ++ r.dropWhile Tk.runC := by
        rw [List.append_assoc, List.append_assoc, List.cons_append, tw_dw, ← hx, tw_dw]; exact he
      obtain ⟨f1, hl4, f3⟩ := take_front hall
      have hD : (ba l).extract 0 (l.length - (r.dropWhile Tk.runC).length) = ba (pre ++ l1.takeWhile Tk.runC ++ 33 :: r.takeWhile Tk.runC) := by
        rw [ba_take, f1]
      have hlD : (pre ++ l1.takeWhile Tk.runC ++ 33 :: r.takeWhile Tk.runC).length ≤ 255 := by omega
      have PR := fun u (T : Tab9 u) => parseref_any (pre ++ l1.takeWhile Tk.runC ++ 33 :: r.takeWhile Tk.runC) (by omega) u T.t
      simp only
      cases hp : Ad.refP gnF (pre ++ l1.takeWhile Tk.runC ++ 33 :: r.takeWhile Tk.runC) with
      | none =>
        rw [hp] at PR
        refine (nm_sheet X hl BK TK SK2 TK2 hl4 hD PR).mono ?_
        rintro e w' ⟨rfl, h⟩
        exact ⟨⟨⟨3, 0, noB, noB, noB, 0, 0, false, false⟩, rfl⟩, _, h⟩
      | some x =>
        rw [hp] at PR
        refine (nm_sheet X hl BK TK SK2 TK2 hl4 hD PR).mono ?_
        rintro e w' ⟨rfl, h⟩
        exact ⟨rfl, h⟩
    · have := plain (by
        rw [hx]
        simp [List.isPrefixOf, Ne.symm h33])
      rw [hx] at this
      split
      · rename_i e; cases e; exact absurd rfl h33
      · exact this
theorem bk_none {l : List UInt8} (h : Ad.strip 91 l = (false, l)) : bkF l = ([], l) := by unfold bkF; rw [h]
theorem name_any {W w : World} {b : Nat} {l : List UInt8} (X : LX W b l w) (hl : l.length ≤ 255) : Calls Tryz.prog 77 #[.pointer (some ⟨b, 0, none⟩)] w (Ans W b w (Tk.named gnF trB l)) := by
  have B := book_any (X.alloc tkO) hl
  have other : bkF l = ([], l) → Calls Tryz.prog 77 #[.pointer (some ⟨b, 0, none⟩)] w (Ans W b w (Tk.tailN gnF trB [] [] l)) := fun h => by
    rw [h] at B
    exact tail_any X hl rfl (.inl rfl) B
  rcases l with _ | ⟨c, m⟩
  · exact other rfl
  · by_cases hc : c = 91
    · subst hc
      have no : bkF (91 :: m) = ([], 91 :: m) → Calls Tryz.prog 77 #[.pointer (some ⟨b, 0, none⟩)] w (Ans W b w none) := fun h => by
        have := other h
        rw [show Tk.tailN gnF trB [] [] (91 :: m) = none by
          unfold Tk.tailN
          rw [List.dropWhile_cons, if_neg (by decide), List.takeWhile_cons, if_neg (by decide)]
          rfl] at this
        exact this
      unfold Tk.named
      simp only
      cases ha : Ad.at_ 93 m with
      | none =>
        refine no ?_
        unfold bkF
        rw [Ad.strip_cons, if_pos rfl]
        simp only [ha]
      | some p =>
        obtain ⟨a, r⟩ := p
        simp only
        cases hg : gnF a with
        | false =>
          refine no ?_
          unfold bkF
          rw [Ad.strip_cons, if_pos rfl]
          simp only [ha, hg]
          rfl
        | true =>
          rw [if_pos rfl]
          have hb : bkF (91 :: m) = (a, r) := by
            unfold bkF
            rw [Ad.strip_cons, if_pos rfl]
            simp only [ha, hg, if_true]
          rw [hb] at B
          refine tail_any X hl ?_ (.inr fun e => ?_) B
          · rw [at_eq ha]; simp
          · rw [e] at hg; cases hg
    · have h : Tk.named gnF trB (c :: m) = Tk.tailN gnF trB [] [] (c :: m) := by
        unfold Tk.named
        split
        · rename_i e; cases e; exact absurd rfl hc
        · rfl
      rw [h]
      exact other (bk_none (by rw [Ad.strip_cons, if_neg hc]))
end Go.Proofs.YtljfkkpkcjigpaaGreatDoor

namespace Go.Proofs.YtljfkkpkcjigpaaGreatDoor
open Go.RowKit
set_option maxRecDepth 100000
abbrev nq (c : UInt8) : Bool := !(c == 34)
theorem quo_plain : ∀ (A D : List UInt8), (∀ x ∈ A, nq x = true) → Tk.quoF (A ++ D) = (Tk.quoF D).map fun p => (A ++ p.1, p.2)
  | [], D, _ => by
    show Tk.quoF D = (Tk.quoF D).map _
    cases Tk.quoF D <;> rfl
  | a :: A, D, h => by
    have ha : ¬ a = 34 := by simpa using h a (by simp)
    have ih := quo_plain A D (fun x hx => h x (List.mem_cons_of_mem _ hx))
    cases hAD : A ++ D with
    | nil =>
      obtain ⟨rfl, rfl⟩ := List.append_eq_nil_iff.1 hAD
      show Tk.quoF [a] = _
      unfold Tk.quoF
      rw [if_neg ha]; rfl
    | cons d r =>
      rw [List.cons_append, hAD]
      have e : Tk.quoF (a :: d :: r) = (Tk.quoF (d :: r)).map fun p => (a :: p.1, p.2) := by
        conv => lhs; unfold Tk.quoF
        rw [if_neg ha]
      rw [e, ← hAD, ih]
      cases Tk.quoF D <;> rfl
theorem quo_end {D : List UInt8} (h : ∀ r, D ≠ 34 :: r) : Tk.quoF (34 :: D) = some ([], D) := by
  cases D with
  | nil => rfl
  | cons d r =>
    unfold Tk.quoF
    rw [if_pos rfl, if_neg (fun e => h r (by rw [e]))]
theorem quo_more (D : List UInt8) : Tk.quoF (34 :: 34 :: D) = (Tk.quoF D).map fun p => (34 :: p.1, p.2) := by
  conv => lhs; unfold Tk.quoF
  rw [if_pos rfl, if_pos rfl]
theorem while_in {p : UInt8 → Bool} {l : List UInt8} : ∀ x ∈ l.takeWhile p, p x = true := by
  have : (l.takeWhile p).all p = true := by rw [List.all_takeWhile]
  exact List.all_eq_true.1 this
theorem drop_head {p : UInt8 → Bool} : ∀ {l : List UInt8} {c : UInt8} {r : List UInt8}, l.dropWhile p = c :: r → p c = false
  | [], _, _, h => by cases h
  | a :: l, c, r, h => by
    rw [List.dropWhile_cons] at h
    split at h
    · exact drop_head h
    · rename_i ha; cases h; simpa using ha
structure TX (W : World) (b : Nat) (w : World) (m acc : List UInt8) (u : World) : Prop where
  st : St W b m w u
  z : u.heap[w.heap.size]? = some tkO
  bd : Lib.IsBuilderF 92 5 (w.heap.size + 1) (w.heap.size + 1) (Lib.byteCells acc) u
theorem bdAt_kept {T e : TypeId} {B k b : Nat} {p : Value} {bs : List Value} {w w' : World} (h : Lib.BuilderAtF T e B k p bs w) (hg : w.grownBy w' (some b)) (hb : b < B) : Lib.BuilderAtF T e B k p bs w' := by
  have hlt := h.lt
  obtain ⟨hB, v, hk, hown, hne⟩ := h
  refine ⟨hB, v, (hg.block k hlt (fun e => by cases e; omega)).trans hk, hown.kept hg ?_, hne⟩
  rcases hown.2 with ⟨rfl, _⟩ | ⟨g, cap, cur, fz, rfl, hge, _⟩
  · exact .inl rfl
  · exact .inr fun e => by simp [Value.ownBlock] at e; omega
theorem bd_kept {T e : TypeId} {B k b : Nat} {bs : List Value} {w w' : World} (h : Lib.IsBuilderF T e B k bs w) (hg : w.grownBy w' (some b)) (hb : b < B) : Lib.IsBuilderF T e B k bs w' :=
  h.elim (fun x => .inl (bdAt_kept x hg hb)) (fun x => .inr (bdAt_kept x hg hb))
theorem TX.method {W w u u1 : World} {b : Nat} {m m' acc : List UInt8} (hb : b < w.heap.size) (h : TX W b w m acc u) (k : St W b m' u u1) : TX W b w m' acc u1 :=
  ⟨h.st.step k, k.kept h.z (by omega), bd_kept h.bd k.2 (by omega)⟩
theorem St.low {W w u u1 : World} {b : Nat} {m : List UInt8} (hb : b < w.heap.size) (h : St W b m w u) (k : Below (w.heap.size + 1) u u1) : St W b m w u1 :=
  ⟨⟨h.1.tab, ⟨k.os.trans h.1.bel.os, k.tape.trans h.1.bel.tape, k.output.trans h.1.bel.output, Nat.le_trans h.1.bel.size k.size, fun i hi => (k.block i (by have := h.1.lo; omega)).trans (h.1.bel.block i hi)⟩, h.1.lo, (k.block b (by omega)).trans h.1.blk⟩,
   ⟨k.os.trans h.2.os, k.tape.trans h.2.tape, k.output.trans h.2.output, Nat.le_trans h.2.size k.size, fun i hi hne => (k.block i (by omega)).trans (h.2.block i hi hne)⟩⟩
theorem TX.write {W w u u1 : World} {b : Nat} {m acc s : List UInt8} (hb : b < w.heap.size) (h : TX W b w m acc u) (hB : Lib.BuilderAtF 92 5 (w.heap.size + 1) (w.heap.size + 1) (.pointer (some ⟨w.heap.size + 1, 0, none⟩)) (Lib.byteCells acc ++ Lib.strCells (ba s)) u1) (k : Below (w.heap.size + 1) u u1) : TX W b w m (acc ++ s) u1 :=
  ⟨h.st.low hb k, (k.block _ (by omega)).trans h.z, .inr (by
    have e : Lib.byteCells (acc ++ s) = Lib.byteCells acc ++ Lib.strCells (ba s) := by simp [Lib.byteCells, Lib.strCells]
    rw [e]; exact hB)⟩
theorem TX.begin {W w : World} {b : Nat} {l : List UInt8} (X : LX W b l w) : TX W b w l [] ((w.alloc tkO).alloc (.cells #[.pointer none, .slice none 0 0] 92)) :=
  ⟨((St.refl X).alloc _).alloc _, (Below.heap_alloc _ _ _ (by simp)).trans (heap_alloc_new w tkO), by
    have := Lib.IsBuilderF.of (Lib.fresh_isBuilder 92 5 (w.alloc tkO))
    show Lib.IsBuilderF 92 5 (w.heap.size + 1) (w.heap.size + 1) [] _
    simpa using this⟩
theorem TX.put {W w u : World} {b : Nat} {m acc : List UInt8} (h : TX W b w m acc u) (k n : Int) (s b' h' : ByteArray) (r c : Int) (fr fc : Bool) :
    Hid ((Instr.storeAt 70 (.pointer (some ⟨w.heap.size, 0, none⟩)) (.agg (tcs k n s b' h' r c fr fc))).run Tryz.prog u = .ok () (u.setRow w.heap.size (tcs k n s b' h' r c fr fc))) :=
  sto h.z inf70 rfl (tcs_one k n s b' h' r c fr fc)
theorem TX.ans {W w u : World} {b : Nat} {m acc : List UInt8} (h : TX W b w m acc u) (es : Array Value) (he : es.size = 9) {fn : Func} {p q : Tmp} (hr : fn.results = #[.cell p 70, .tmp q]) {tmps : Array Value} {v2 : Value}
    (hp : tmps.getD p undef = .pointer (some ⟨w.heap.size, 0, none⟩)) (hv : tmps.getD q undef = v2) : (results fn tmps).run Tryz.prog (u.setRow w.heap.size es) = .ok (.tuple #[.agg es, v2]) (u.setRow w.heap.size es) :=
  results2_row hr hp (setRow_heap _ _ _ es _ _ h.z) rfl Tryz.underlying70 (by rw [he]; exact inf70) hv
theorem TX.fin {W w u : World} {b : Nat} {m acc : List UInt8} (hb : b < w.heap.size) (h : TX W b w m acc u) (es : Array Value) : St W b m w (u.setRow w.heap.size es) :=
  h.st.grown (setRow_grown _ _ _) (Nat.le_refl _) hb
def leftN (b : Nat) (u : World) : Nat := match u.cell? ⟨b, 0, none⟩ with
  | some (.string s) => s.size
  | _ => 0
theorem leftN_eq {W u : World} {b : Nat} {l : List UInt8} (X : LX W b l u) : leftN b u = l.length := by
  unfold leftN
  rw [X.cells.1]
  exact size_mk l
end Go.Proofs.YtljfkkpkcjigpaaGreatDoor
