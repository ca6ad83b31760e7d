import Derived.Test.YtdgnodijmbeajaaGreatDoorTSign
/- truth and book: what names are made of. -/
namespace Go.Proofs.YtdgnodijmbeajaaGreatDoor
open Go.RowKit
set_option maxRecDepth 100000
set_option linter.unusedVariables false
set_option linter.unusedSimpArgs false
/-- Is a text one of the two words of truth? -/
def trB (l : List UInt8) : Bool := (truF (ba l)).2
theorem szB_letter {c : UInt8} (h : Ad.isL (szB 97 65 c) = true) : Ad.isL c = true := by
  unfold szB at h
  split at h
  · rename_i h1
    unfold Ad.isL
    simp only [Bool.or_eq_true, Bool.and_eq_true, decide_eq_true_eq]
    omega
  · exact h
theorem tru_word {l : List UInt8} (h : trB l = true) : szF 97 65 l = [84, 82, 85, 69] ∨ szF 97 65 l = [70, 65, 76, 83, 69] := by
  unfold trB truF at h
  rcases tru_cases (szF 97 65 l) with ⟨a, b, _⟩ | ⟨a, b, _⟩ | ⟨_, _, b, _⟩
  · exact .inl a
  · exact .inr a
  · have : (truL (szF 97 65 l)).2 = true := h
    rw [b] at this; cases this
theorem szF_letters {l : List UInt8} (h : ∀ x ∈ szF 97 65 l, Ad.isL x = true) : ∀ x ∈ l, Ad.isL x = true := fun x hx => szB_letter (h _ (List.mem_map_of_mem hx))
theorem tru_letters {l : List UInt8} (h : trB l = true) : l ≠ [] ∧ ∀ x ∈ l, Ad.isL x = true := by
  rcases tru_word h with e | e
  · exact ⟨fun e2 => (by rw [e2] at e; cases e), szF_letters (by rw [e]; decide)⟩
  · exact ⟨fun e2 => (by rw [e2] at e; cases e), szF_letters (by rw [e]; decide)⟩
theorem typed_tr (l : List UInt8) : ((typedF (ba l)).1 == 3) = trB l := by
  cases h : trB l
  · have h' : (truF (ba l)).2 = false := h
    unfold typedF
    split
    · rfl
    · split
      · rfl
      · split
        · rfl
        · rw [h', if_neg (by decide)]
          split <;> rfl
  · obtain ⟨h1, h2⟩ := tru_letters h
    have : headL l = true := by
      cases l with
      | nil => exact absurd rfl h1
      | cons c r => exact h2 c (by simp)
    rw [typed_kind (s := ba l) this]
    exact h
set_option maxHeartbeats 2000000 in
theorem truth_any (l : List UInt8) (hl : l.length ≤ 255) (w : World) (T : Tabs w) :
    Calls Tryz.prog 60 #[.string (ba l)] w fun e w' => e = .returned (.bool (trB l)) ∧ Below w.heap.size w w' := by
  have Y := typed_any (ba l) (by rw [size_mk]; omega) w T
  rw [← typed_tr l]
  generalize (typedF (ba l)).1 = k at *
  generalize (typedF (ba l)).2.1 = n at *
  generalize (typedF (ba l)).2.2 = x at *
  generalize ba l = A at *
  have FL := fun W => run_fld W k n x
  go_enter Tryz.func60, Tryz.ntmps60
  go_wp2_with (go_at_call 96; refine Y.mono ?_; rintro e w1 ⟨rfl, hb⟩; have HB : Hid (Below w.heap.size w w1) := hb; clear hb)
  go_ret
  exact ⟨rfl, HB.out⟩
/-- The book that a text begins with, and what is left. -/
def bkF (l : List UInt8) : List UInt8 × List UInt8 :=
  match Ad.strip 91 l with
  | (true, m) => (match Ad.at_ 93 m with
    | some (a, r) => if gnF a = true then (a, r) else ([], l)
    | none => ([], l))
  | (false, _) => ([], l)
set_option maxHeartbeats 2000000 in
theorem bk_walk {W w : World} {b : Nat} {l : List UInt8} (X : LX W b l w) {I N R : ByteArray} {m : List UInt8} (hR : R = ba m) {op cl g : Bool}
    (CP : ∀ u, Calls Tryz.prog 81 #[.string (ba l), .string ⟨#[91]⟩] u fun e w' => e = .returned (.tuple #[.string I, .bool op]) ∧ w' = u)
    (CU : ∀ u, Calls Tryz.prog 82 #[.string I, .string ⟨#[93]⟩] u fun e w' => e = .returned (.tuple #[.string N, .string R, .bool cl]) ∧ Below u.heap.size u w')
    (GN : ∀ u, Tab9 u → Calls Tryz.prog 59 #[.string N] u fun e w' => e = .returned (.bool g) ∧ Below u.heap.size u w') :
    Calls Tryz.prog 55 #[.pointer (some ⟨b, 0, none⟩)] w fun e w' => e = .returned (.string (if (op && cl && g) = true then N else noB)) ∧ St W b (if (op && cl && g) = true then m else l) w w' := by
  obtain ⟨c0, c1, f0⟩ := X.cells
  have H0 : Hid (St W b l w w) := St.refl X
  have HR : Hid (R = ba m) := hR
  clear X hR
  generalize ba l = A at c0 CP
  cases op <;> cases cl <;> cases g
  all_goals
    go_enter Tryz.func55, Tryz.ntmps55
    go_wp2_with (first
      | (go_at_call 81; refine (CP _).mono ?_; rintro e w' ⟨rfl, hw⟩; obtain rfl := hw.symm; clear hw)
      | (go_at_call 82; refine (CU _).mono ?_; rintro e w1 ⟨rfl, hs⟩; have HS1 : Hid (St W b l w w1) := H0.out.bel hs; obtain ⟨d0, d1, g0⟩ := HS1.out.1.cells; clear hs)
      | (go_at_call 59; refine (GN _ HS1.out.1.t).mono ?_; rintro e w2 ⟨rfl, hs⟩; have HS2 : Hid (St W b l w w2) := HS1.out.bel hs; obtain ⟨k0, k1, k2⟩ := HS2.out.1.cells; clear hs))
    first
      | (go_ret; exact ⟨rfl, HS1.out⟩)
      | (go_ret; exact ⟨rfl, HS2.out⟩)
      | (go_ret; refine ⟨rfl, ?_⟩; have := HS2.out.set m; rw [← HR.out] at this; exact this)
theorem book_any {W w : World} {b : Nat} {l : List UInt8} (X : LX W b l w) (hl : l.length ≤ 255) :
    Calls Tryz.prog 55 #[.pointer (some ⟨b, 0, none⟩)] w fun e w' => e = .returned (.string (ba (bkF l).1)) ∧ St W b (bkF l).2 w w' := by
  have hI : (Ad.strip 91 l).2.length ≤ 255 := by
    cases l with
    | nil => exact Nat.zero_le _
    | cons c r => rw [Ad.strip_cons]; split <;> simp at hl ⊢ <;> omega
  have hN := (cutF_len 93 (Ad.strip 91 l).2).1
  have B := bk_walk X (R := ba (cutF 93 (Ad.strip 91 l).2).2.1) rfl (fun u => strip_any 91 l u) (fun u => cutc_any 93 (Ad.strip 91 l).2 u (by omega))
    (fun u T => goodname_any ⟨(cutF 93 (Ad.strip 91 l).2).1.toArray⟩ (by rw [size_mk]; omega) u T.t.t)
  simp only [show (⟨(cutF 93 (Ad.strip 91 l).2).1.toArray⟩ : ByteArray).data.toList = (cutF 93 (Ad.strip 91 l).2).1 from rfl] at B
  unfold bkF
  cases hs : Ad.strip 91 l with
  | mk o m =>
    rw [hs] at B
    cases o with
    | false => exact B
    | true =>
      simp only
      cases ha : Ad.at_ 93 m with
      | none =>
        rw [cutF_none ha] at B
        exact B
      | some p =>
        obtain ⟨a, r⟩ := p
        rw [cutF_some ha] at B
        simp only
        cases hg : gnF a with
        | false => rw [hg] at B; exact B
        | true => rw [hg] at B; exact B
end Go.Proofs.YtdgnodijmbeajaaGreatDoor

/- name: a ref or a word that a text begins with, walked. -/
namespace Go.Proofs.YtdgnodijmbeajaaGreatDoor
open Go.RowKit
set_option maxRecDepth 100000
set_option linter.unusedVariables false
set_option linter.unusedSimpArgs false
section
variable {W w : World} {b : Nat} {l l1 l2 l3 l4 : List UInt8} {K R R2 D : ByteArray}
set_option maxHeartbeats 4000000 in
theorem nm_sheet (X : LX W b l w) (hl : l.length ≤ 255) {B H : ByteArray} {r c : Int} {fr fc ok : Bool}
    (BK : Hid (Calls Tryz.prog 55 #[.pointer (some ⟨b, 0, none⟩)] (w.alloc tkO) fun e w' => e = .returned (.string K) ∧ St W b l1 (w.alloc tkO) w'))
    (TK : ∀ u, LX W b l1 u → Calls Tryz.prog 31 #[.pointer (some ⟨b, 0, none⟩), .func (.func 56) #[] #[]] u fun e w' => e = .returned (.string R) ∧ St W b l2 u w')
    (SK : ∀ u, LX W b l2 u → Calls Tryz.prog 52 #[.pointer (some ⟨b, 0, none⟩), .string ⟨#[33]⟩] u fun e w' => e = .returned (.bool true) ∧ St W b l3 u w')
    (TK2 : ∀ u, LX W b l3 u → Calls Tryz.prog 31 #[.pointer (some ⟨b, 0, none⟩), .func (.func 56) #[] #[]] u fun e w' => e = .returned (.string R2) ∧ St W b l4 u w')
    (h4 : l4.length ≤ l.length) (hD : (ba l).extract 0 (l.length - l4.length) = D)
    (PR : ∀ u, Tab9 u → Calls Tryz.prog 57 #[.string D] u fun e w' => e = .returned (.tuple #[refV B H r c fr fc, .bool ok]) ∧ Below u.heap.size u w') :
    Calls Tryz.prog 29 #[.pointer (some ⟨b, 0, none⟩)] w fun e w' => e = .returned (.tuple #[.agg (tcs 3 0 noB B H r c fr fc), .bool ok]) ∧ St W b l4 w w' := by
  have hb := X.lt
  obtain ⟨c0, c1, f0⟩ := X.cells
  obtain ⟨a0, a1, a2⟩ := (X.alloc tkO).cells
  have z0 : (ba l).size = l.length := size_mk l
  have z4 : (ba l4).size = l4.length := size_mk l4
  generalize ba l = A at *
  generalize l.length = n0 at *
  generalize l4.length = n4 at *
  have i1 : (0 : Int) ≤ (n0 : Int) - n4 := by omega
  have i2 : (n0 : Int) - n4 ≤ n0 := by omega
  have hD2 : A.extract 0 ((n0 : Int) - (n4 : Int)).toNat = D := by rw [← hD]; congr 1; omega
  clear X
  go_enter Tryz.func29, Tryz.ntmps29
  go_wp2_with (first
    | (go_at_call 55; refine Calls.mono BK.out ?_; rintro e w1 ⟨rfl, hs⟩; have HS1 : Hid (St W b l1 (w.alloc tkO) w1) := hs; clear hs BK)
    | (go_at_call 31; refine (TK _ HS1.out.1).mono ?_; rintro e w2 ⟨rfl, hs⟩; have HS2 : Hid (St W b l2 (w.alloc tkO) w2) := HS1.out.step hs; clear hs HS1)
    | (go_at_call 52; refine (SK _ HS2.out.1).mono ?_; rintro e w3 ⟨rfl, hs⟩; have HS3 : Hid (St W b l3 (w.alloc tkO) w3) := HS2.out.step hs; clear hs HS2)
    | (go_at_call 31; refine (TK2 _ HS3.out.1).mono ?_; rintro e w4 ⟨rfl, hs⟩; have HS4 : Hid (St W b l4 (w.alloc tkO) w4) := HS3.out.step hs; obtain ⟨d0, d1, d2⟩ := HS4.out.1.cells; clear hs HS3; generalize ba l4 = A4 at *)
    | (go_at_call 57; refine (PR _ HS4.out.1.t).mono ?_; rintro e w5 ⟨rfl, hs⟩; have HS5 : Hid (St W b l4 (w.alloc tkO) (w5.alloc (refO B H r c fr fc))) := (HS4.out.bel hs).alloc _; have RR := HS5.out.put hb 3 0 noB B H r c fr fc; clear hs HS4)
    | (refine wpList_store_run rfl 35 _ _ rfl _ _ _ rfl rfl RR.out ?_))
  exact bodyPost_ret (HS5.out.ans hb (tcs 3 0 noB B H r c fr fc) rfl rfl rfl rfl) rfl ⟨rfl, HS5.out.fin hb _⟩
end
end Go.Proofs.YtdgnodijmbeajaaGreatDoor

/- name: a cell, or a word, walked. -/
namespace Go.Proofs.YtdgnodijmbeajaaGreatDoor
open Go.RowKit
set_option maxRecDepth 100000
set_option linter.unusedVariables false
set_option linter.unusedSimpArgs false
section
variable {W w : World} {b : Nat} {l l1 l2 : List UInt8} {K R : ByteArray}
set_option maxHeartbeats 4000000 in
theorem nm_cell (X : LX W b l w) {B H : ByteArray} {r c : Int} {fr fc : Bool}
    (BK : Hid (Calls Tryz.prog 55 #[.pointer (some ⟨b, 0, none⟩)] (w.alloc tkO) fun e w' => e = .returned (.string noB) ∧ St W b l1 (w.alloc tkO) w'))
    (TK : ∀ u, LX W b l1 u → Calls Tryz.prog 31 #[.pointer (some ⟨b, 0, none⟩), .func (.func 56) #[] #[]] u fun e w' => e = .returned (.string R) ∧ St W b l2 u w')
    (SK : ∀ u, LX W b l2 u → Calls Tryz.prog 52 #[.pointer (some ⟨b, 0, none⟩), .string ⟨#[33]⟩] u fun e w' => e = .returned (.bool false) ∧ St W b l2 u w')
    (CE : ∀ u, Tab9 u → Calls Tryz.prog 58 #[.string R] u fun e w' => e = .returned (.tuple #[refV B H r c fr fc, .bool true]) ∧ Below u.heap.size u w') :
    Calls Tryz.prog 29 #[.pointer (some ⟨b, 0, none⟩)] w fun e w' => e = .returned (.tuple #[.agg (tcs 3 0 noB B H r c fr fc), .bool true]) ∧ St W b l2 w w' := by
  have hb := X.lt
  obtain ⟨c0, c1, f0⟩ := X.cells
  obtain ⟨a0, a1, a2⟩ := (X.alloc tkO).cells
  generalize ba l = A at *
  clear X
  go_enter Tryz.func29, Tryz.ntmps29
  go_wp2_with (first
    | (go_at_call 55; refine Calls.mono BK.out ?_; rintro e w1 ⟨rfl, hs⟩; have HS1 : Hid (St W b l1 (w.alloc tkO) w1) := hs; clear hs BK)
    | (go_at_call 31; refine (TK _ HS1.out.1).mono ?_; rintro e w2 ⟨rfl, hs⟩; have HS2 : Hid (St W b l2 (w.alloc tkO) w2) := HS1.out.step hs; clear hs HS1)
    | (go_at_call 52; refine (SK _ HS2.out.1).mono ?_; rintro e w3 ⟨rfl, hs⟩; have HS3 : Hid (St W b l2 (w.alloc tkO) w3) := HS2.out.step hs; clear hs HS2)
    | (go_at_call 58; refine (CE _ HS3.out.1.t).mono ?_; rintro e w5 ⟨rfl, hs⟩; have HS5 : Hid (St W b l2 (w.alloc tkO) (w5.alloc (refO B H r c fr fc))) := (HS3.out.bel hs).alloc _; have RR := HS5.out.put hb 3 0 noB B H r c fr fc; clear hs HS3)
    | (refine wpList_store_run rfl 35 _ _ rfl _ _ _ rfl rfl RR.out ?_))
  exact bodyPost_ret (HS5.out.ans hb (tcs 3 0 noB B H r c fr fc) rfl rfl rfl rfl) rfl ⟨rfl, HS5.out.fin hb _⟩
set_option maxHeartbeats 4000000 in
theorem nm_word0 (X : LX W b l w) {B H : ByteArray} {r c : Int} {fr fc g t : Bool}
    (BK : Hid (Calls Tryz.prog 55 #[.pointer (some ⟨b, 0, none⟩)] (w.alloc tkO) fun e w' => e = .returned (.string noB) ∧ St W b l1 (w.alloc tkO) w'))
    (TK : ∀ u, LX W b l1 u → Calls Tryz.prog 31 #[.pointer (some ⟨b, 0, none⟩), .func (.func 56) #[] #[]] u fun e w' => e = .returned (.string R) ∧ St W b l2 u w')
    (SK : ∀ u, LX W b l2 u → Calls Tryz.prog 52 #[.pointer (some ⟨b, 0, none⟩), .string ⟨#[33]⟩] u fun e w' => e = .returned (.bool false) ∧ St W b l2 u w')
    (CE : ∀ u, Tab9 u → Calls Tryz.prog 58 #[.string R] u fun e w' => e = .returned (.tuple #[refV B H r c fr fc, .bool false]) ∧ Below u.heap.size u w')
    (GN : ∀ u, Tab9 u → Calls Tryz.prog 59 #[.string R] u fun e w' => e = .returned (.bool g) ∧ Below u.heap.size u w')
    (TR : ∀ u, Tab9 u → Calls Tryz.prog 60 #[.string R] u fun e w' => e = .returned (.bool t) ∧ Below u.heap.size u w') :
    Calls Tryz.prog 29 #[.pointer (some ⟨b, 0, none⟩)] w fun e w' => e = .returned (.tuple #[.agg (tcs 4 0 R noB noB 0 0 false false), .bool (g || t)]) ∧ St W b l2 w w' := by
  have hb := X.lt
  obtain ⟨c0, c1, f0⟩ := X.cells
  obtain ⟨a0, a1, a2⟩ := (X.alloc tkO).cells
  generalize ba l = A at *
  clear X
  cases g
  · go_enter Tryz.func29, Tryz.ntmps29
    go_wp2_with (first
      | (go_at_call 55; refine Calls.mono BK.out ?_; rintro e w1 ⟨rfl, hs⟩; have HS1 : Hid (St W b l1 (w.alloc tkO) w1) := hs; clear hs BK)
      | (go_at_call 31; refine (TK _ HS1.out.1).mono ?_; rintro e w2 ⟨rfl, hs⟩; have HS2 : Hid (St W b l2 (w.alloc tkO) w2) := HS1.out.step hs; clear hs HS1)
      | (go_at_call 52; refine (SK _ HS2.out.1).mono ?_; rintro e w3 ⟨rfl, hs⟩; have HS3 : Hid (St W b l2 (w.alloc tkO) w3) := HS2.out.step hs; clear hs HS2)
      | (go_at_call 58; refine (CE _ HS3.out.1.t).mono ?_; rintro e w5 ⟨rfl, hs⟩; have HS5 : Hid (St W b l2 (w.alloc tkO) (w5.alloc (refO B H r c fr fc))) := (HS3.out.bel hs).alloc _; clear hs HS3)
      | (go_at_call 59; refine (GN _ HS5.out.1.t).mono ?_; rintro e w6 ⟨rfl, hs⟩; have HS6 : Hid (St W b l2 (w.alloc tkO) w6) := HS5.out.bel hs; clear hs HS5)
      | (go_at_call 60; refine (TR _ HS6.out.1.t).mono ?_; rintro e w7 ⟨rfl, hs⟩; have HS7 : Hid (St W b l2 (w.alloc tkO) w7) := HS6.out.bel hs; have RR := HS7.out.put hb 4 0 R noB noB 0 0 false false; clear hs HS6)
      | (refine wpList_store_run rfl 35 _ _ rfl _ _ _ rfl rfl RR.out ?_))
    exact bodyPost_ret (HS7.out.ans hb (tcs 4 0 R noB noB 0 0 false false) rfl rfl rfl rfl) rfl ⟨rfl, HS7.out.fin hb _⟩
  · go_enter Tryz.func29, Tryz.ntmps29
    go_wp2_with (first
      | (go_at_call 55; refine Calls.mono BK.out ?_; rintro e w1 ⟨rfl, hs⟩; have HS1 : Hid (St W b l1 (w.alloc tkO) w1) := hs; clear hs BK)
      | (go_at_call 31; refine (TK _ HS1.out.1).mono ?_; rintro e w2 ⟨rfl, hs⟩; have HS2 : Hid (St W b l2 (w.alloc tkO) w2) := HS1.out.step hs; clear hs HS1)
      | (go_at_call 52; refine (SK _ HS2.out.1).mono ?_; rintro e w3 ⟨rfl, hs⟩; have HS3 : Hid (St W b l2 (w.alloc tkO) w3) := HS2.out.step hs; clear hs HS2)
      | (go_at_call 58; refine (CE _ HS3.out.1.t).mono ?_; rintro e w5 ⟨rfl, hs⟩; have HS5 : Hid (St W b l2 (w.alloc tkO) (w5.alloc (refO B H r c fr fc))) := (HS3.out.bel hs).alloc _; clear hs HS3)
      | (go_at_call 59; refine (GN _ HS5.out.1.t).mono ?_; rintro e w6 ⟨rfl, hs⟩; have HS6 : Hid (St W b l2 (w.alloc tkO) w6) := HS5.out.bel hs; have RR := HS6.out.put hb 4 0 R noB noB 0 0 false false; clear hs HS5)
      | (refine wpList_store_run rfl 35 _ _ rfl _ _ _ rfl rfl RR.out ?_))
    exact bodyPost_ret (HS6.out.ans hb (tcs 4 0 R noB noB 0 0 false false) rfl rfl rfl rfl) rfl ⟨rfl, HS6.out.fin hb _⟩
set_option maxHeartbeats 4000000 in
theorem nm_wordB (X : LX W b l w) {B H : ByteArray} {r c : Int} {fr fc g ok : Bool} (hK : (K.toList == []) = false)
    (BK : Hid (Calls Tryz.prog 55 #[.pointer (some ⟨b, 0, none⟩)] (w.alloc tkO) fun e w' => e = .returned (.string K) ∧ St W b l1 (w.alloc tkO) w'))
    (TK : ∀ u, LX W b l1 u → Calls Tryz.prog 31 #[.pointer (some ⟨b, 0, none⟩), .func (.func 56) #[] #[]] u fun e w' => e = .returned (.string R) ∧ St W b l2 u w')
    (SK : ∀ u, LX W b l2 u → Calls Tryz.prog 52 #[.pointer (some ⟨b, 0, none⟩), .string ⟨#[33]⟩] u fun e w' => e = .returned (.bool false) ∧ St W b l2 u w')
    (CE : ∀ u, Tab9 u → Calls Tryz.prog 58 #[.string R] u fun e w' => e = .returned (.tuple #[refV B H r c fr fc, .bool ok]) ∧ Below u.heap.size u w')
    (GN : ∀ u, Tab9 u → Calls Tryz.prog 59 #[.string R] u fun e w' => e = .returned (.bool g) ∧ Below u.heap.size u w') :
    Calls Tryz.prog 29 #[.pointer (some ⟨b, 0, none⟩)] w fun e w' => e = .returned (.tuple #[.agg (tcs 4 0 R K noB 0 0 false false), .bool g]) ∧ St W b l2 w w' := by
  have hb := X.lt
  obtain ⟨c0, c1, f0⟩ := X.cells
  obtain ⟨a0, a1, a2⟩ := (X.alloc tkO).cells
  generalize ba l = A at *
  clear X
  cases g <;> cases ok
  all_goals
    go_enter Tryz.func29, Tryz.ntmps29
    go_wp2_with (first
      | (go_at_call 55; refine Calls.mono BK.out ?_; rintro e w1 ⟨rfl, hs⟩; have HS1 : Hid (St W b l1 (w.alloc tkO) w1) := hs; clear hs BK)
      | (go_at_call 31; refine (TK _ HS1.out.1).mono ?_; rintro e w2 ⟨rfl, hs⟩; have HS2 : Hid (St W b l2 (w.alloc tkO) w2) := HS1.out.step hs; clear hs HS1)
      | (go_at_call 52; refine (SK _ HS2.out.1).mono ?_; rintro e w3 ⟨rfl, hs⟩; have HS3 : Hid (St W b l2 (w.alloc tkO) w3) := HS2.out.step hs; clear hs HS2)
      | (go_at_call 58; refine (CE _ HS3.out.1.t).mono ?_; rintro e w5 ⟨rfl, hs⟩; have HS5 : Hid (St W b l2 (w.alloc tkO) (w5.alloc (refO B H r c fr fc))) := (HS3.out.bel hs).alloc _; clear hs HS3)
      | (go_at_call 59; refine (GN _ HS5.out.1.t).mono ?_; rintro e w6 ⟨rfl, hs⟩; have HS6 : Hid (St W b l2 (w.alloc tkO) w6) := HS5.out.bel hs; have RR := HS6.out.put hb 4 0 R K noB 0 0 false false; clear hs HS5)
      | (refine wpList_store_run rfl 35 _ _ rfl _ _ _ rfl rfl RR.out ?_))
    exact bodyPost_ret (HS6.out.ans hb (tcs 4 0 R K noB 0 0 false false) rfl rfl rfl rfl) rfl ⟨rfl, HS6.out.fin hb _⟩
end
end Go.Proofs.YtdgnodijmbeajaaGreatDoor
