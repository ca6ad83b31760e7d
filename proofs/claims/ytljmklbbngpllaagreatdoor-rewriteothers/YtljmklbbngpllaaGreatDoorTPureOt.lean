/- ARefP, AParseRef, ARParseRef, TPure. -/
import Derived.Test.YtljmklbbngpllaaGreatDoorAParse2Ot
set_option linter.unusedVariables false
set_option linter.unusedSimpArgs false
set_option maxHeartbeats 16000000
set_option maxRecDepth 100000
namespace Go.Proofs.YtljmklbbngpllaaGreatDoor
open Go.RowKit
def refR (o : Option Ad.Ref) : Value := match o with
 | none => ref0
 | some r => refV ⟨r.book.toArray⟩ ⟨r.sheet.toArray⟩ r.cell.row r.cell.col r.cell.fr r.cell.fc
def nmsF (l : List UInt8) : List UInt8 × List UInt8 × Bool :=
 if (Ad.strip 91 l).1 = true then ((cutF 93 (Ad.strip 91 l).2).1, (cutF 93 (Ad.strip 91 l).2).2.1, gnF (cutF 93 (Ad.strip 91 l).2).1 && gnF (cutF 93 (Ad.strip 91 l).2).2.1) else ([], l, gnF l)
def progP (l : List UInt8) : Option Ad.Ref := match Ad.at_ 33 l with
 | none => (Ad.cellP l).map fun c => ⟨[], [], c⟩
 | some p => if (nmsF p.1).2.2 = true then (Ad.cellP p.2).map fun c => ⟨(nmsF p.1).1, (nmsF p.1).2.1, c⟩ else none
theorem gn_nil : gnF [] = false := rfl
theorem gn_no33 {l : List UInt8} (h : 33 ∈ l) : gnF l = false := by
 cases hg : gnF l
 ·rfl
 ·exact absurd rfl ((gn_names l hg).2 33 h).1
theorem cell_br (m : List UInt8) : Ad.cellP (91 :: m) = none := rfl
theorem at_cons_ne {c x : UInt8} {r : List UInt8} (h : x ≠ c) : Ad.at_ c (x :: r) = (Ad.at_ c r).map fun p => (x :: p.1, p.2) := by
 rw [Ad.at_, if_neg h]
theorem at_long {c : UInt8} : ∀ {l m : List UInt8}, (∀ x ∈ l, x ≠ c) → Ad.at_ c (l ++ m) = (Ad.at_ c m).map fun p => (l ++ p.1, p.2)
 | [], m, _ => by rw [List.nil_append]; cases Ad.at_ c m <;> rfl
 | x :: l, m, h => by
  rw [List.cons_append, at_cons_ne (h x (List.mem_cons_self ..)), at_long (l := l) (m := m) fun y hy => h y (List.mem_cons_of_mem _ hy)]
  cases Ad.at_ c m <;> rfl
theorem prog_eq (l : List UInt8) : progP l = Ad.refP gnF l := by
 cases l with
 | nil => rfl
 | cons x m =>
  by_cases hx : x = 91
  ·subst hx
   have e1 : Ad.refP gnF (91 :: m) = match Ad.at_ 93 m with
    | none => none
    | some (a, r) => if gnF a = true ∧ (Ad.at_ 33 r).isSome = true then Ad.sheetP gnF a r else none := rfl
   rw [e1]
   unfold progP
   rw [at_cons_ne (show (91 : UInt8) ≠ 33 by decide)]
   cases h3 : Ad.at_ 33 m with
   | none =>
    simp only [Option.map_none]
    rw [cell_br]
    cases h9 : Ad.at_ 93 m with
    | none => rfl
    | some p =>
     obtain ⟨a, r⟩ := p
     have e2 := (Ad.at_some h9).1
     have : Ad.at_ 33 r = none := by
      by_cases ha : 33 ∈ a
      ·exfalso
       rw [e2] at h3
       have key : ∀ l : List UInt8, (33 : UInt8) ∈ l → Ad.at_ 33 l ≠ none := by
        intro l
        induction l with
        | nil => intro h; cases h
        | cons y q ih =>
         intro h e
         unfold Ad.at_ at e
         by_cases hy : y = 33
         ·rw [if_pos hy] at e; cases e
         ·rw [if_neg hy] at e
          rcases List.mem_cons.1 h with h | h
          ·exact hy h.symm
          ·cases hq : Ad.at_ 33 q with
           | none => exact ih h hq
           | some z => rw [hq] at e; cases e
       exact key _ (List.mem_append_left _ ha) h3
      ·rw [e2, at_long (c := 33) (l := a) (fun y hy e => ha (by rw [← e]; exact hy)), at_cons_ne (show (93 : UInt8) ≠ 33 by decide)] at h3
       cases hr : Ad.at_ 33 r with
       | none => rfl
       | some z => rw [hr] at h3; cases h3
     simp only [this]
     rw [if_neg (by simp)]
     rfl
   | some p =>
    obtain ⟨a', rest⟩ := p
    obtain ⟨e2, n2⟩ := Ad.at_some h3
    simp only [Option.map_some]
    have es : Ad.strip 91 (91 :: a') = (true, a') := Ad.strip_yes 91 a'
    unfold nmsF
    rw [es]
    simp only [if_true]
    cases h9 : Ad.at_ 93 a' with
    | none =>
     rw [cutF_none h9]
     simp only [gn_nil, Bool.and_false, Bool.false_eq_true, if_false]
     cases hm : Ad.at_ 93 m with
     | none => rfl
     | some q =>
      obtain ⟨a, r⟩ := q
      have h33 : 33 ∈ a := by
       rw [e2] at hm
       have nA : ∀ x ∈ a', x ≠ 93 := by
        intro x hx e
        subst e
        have key : ∀ l : List UInt8, (93 : UInt8) ∈ l → Ad.at_ 93 l ≠ none := by
         intro l
         induction l with
         | nil => intro h; cases h
         | cons y q ih =>
          intro h e
          unfold Ad.at_ at e
          by_cases hy : y = 93
          ·rw [if_pos hy] at e; cases e
          ·rw [if_neg hy] at e
           rcases List.mem_cons.1 h with h | h
           ·exact hy h.symm
           ·cases hq : Ad.at_ 93 q with
            | none => exact ih h hq
            | some z => rw [hq] at e; cases e
        exact key _ hx h9
       rw [at_long nA, at_cons_ne (show (33 : UInt8) ≠ 93 by decide)] at hm
       cases hr : Ad.at_ 93 rest with
       | none => rw [hr] at hm; cases hm
       | some z =>
        rw [hr] at hm
        simp only [Option.map_some, Option.some.injEq, Prod.mk.injEq] at hm
        rw [← hm.1]
        exact List.mem_append_right _ (List.mem_cons_self ..)
      simp only [gn_no33 h33, Bool.false_eq_true, false_and, if_false]
    | some q =>
     obtain ⟨b, s'⟩ := q
     obtain ⟨e3, n3⟩ := Ad.at_some h9
     rw [cutF_some h9]
     have hm : Ad.at_ 93 m = some (b, s' ++ 33 :: rest) := by
      rw [e2, e3, List.append_assoc, List.cons_append]
      exact Ad.at_app _ n3
     have hs : Ad.at_ 33 (s' ++ 33 :: rest) = some (s', rest) := Ad.at_app _ fun y hy => n2 y (by rw [e3]; exact List.mem_append_right _ (List.mem_cons_of_mem _ hy))
     rw [hm]
     simp only [hs]
     unfold Ad.sheetP
     simp only [hs]
     cases gnF b <;> cases gnF s' <;> simp
  ·rw [Ad.refP_plain (by simpa using hx)]
   unfold progP Ad.sheetP
   cases h3 : Ad.at_ 33 (x :: m) with
   | none => rfl
   | some p =>
    obtain ⟨a, r⟩ := p
    obtain ⟨e2, n2⟩ := Ad.at_some h3
    have es : nmsF a = ([], a, gnF a) := by
     unfold nmsF
     have : (Ad.strip 91 a).1 = false := by
      cases a with
      | nil => rfl
      | cons y q =>
       simp only [List.cons_append, List.cons.injEq] at e2
       rw [Ad.strip_cons, if_neg (by rw [← e2.1]; exact hx)]
     rw [this]
     rfl
    simp only [es]
theorem at_some_len {c : UInt8} {l a b : List UInt8} (h : Ad.at_ c l = some (a, b)) : a.length + b.length + 1 = l.length := by
 rw [(Ad.at_some h).1]
 simp
 omega
theorem pn_plain {A A1 : ByteArray} {g : Bool} {w : World} (CP : ∀ u, Calls Tryz.prog 33 #[.string A, .string ⟨#[91]⟩] u fun e w' => e = .returned (.tuple #[.string A1, .bool false]) ∧ w' = u) (GN : RC w 154 #[.string A] (.bool g)) :
  Calls Tryz.prog 192 #[.string A] w fun e w' => e = .returned (.tuple #[.string ⟨#[]⟩, .string A, .bool g]) ∧ Below w.heap.size w w' := by
 have HB0 : Hid (Below w.heap.size w w) := Below.refl _ _
 go_enter Tryz.func192, Tryz.ntmps192
 go_wp2_with (first | (go_at_call 33; refine (CP _).mono ?_; rintro e w' ⟨rfl, hw⟩; obtain rfl := hw.symm; clear hw) | (go_at_call 154; refine (GN _ HB0.out).mono ?_; rintro e w1 ⟨rfl, hb⟩; have HB1 : Hid (Below w.heap.size w w1) := hb; clear hb))
 go_ret3
 exact ⟨rfl, HB1.out⟩
theorem pn_book {A A1 B S : ByteArray} {x g h : Bool} {w : World} (CP : ∀ u, Calls Tryz.prog 33 #[.string A, .string ⟨#[91]⟩] u fun e w' => e = .returned (.tuple #[.string A1, .bool true]) ∧ w' = u)
  (CU : RC w 186 #[.string A1, .string ⟨#[93]⟩] (.tuple #[.string B, .string S, .bool x])) (GB : RC w 154 #[.string B] (.bool g)) (GS : RC w 154 #[.string S] (.bool h)) :
  Calls Tryz.prog 192 #[.string A] w fun e w' => e = .returned (.tuple #[.string B, .string S, .bool (g && h)]) ∧ Below w.heap.size w w' := by
 have HB0 : Hid (Below w.heap.size w w) := Below.refl _ _
 cases g
 ·go_enter Tryz.func192, Tryz.ntmps192
  go_wp2_with (first | (go_at_call 33; refine (CP _).mono ?_; rintro e w' ⟨rfl, hw⟩; obtain rfl := hw.symm; clear hw) | (go_at_call 186; refine (CU _ HB0.out).mono ?_; rintro e w1 ⟨rfl, hb⟩; have HB1 : Hid (Below w.heap.size w w1) := hb; clear hb) | (go_at_call_of 154 B; refine (GB _ HB1.out).mono ?_; rintro e w2 ⟨rfl, hb⟩; have HB2 : Hid (Below w.heap.size w w2) := hb; clear hb))
  go_ret3
  exact ⟨rfl, HB2.out⟩
 ·go_enter Tryz.func192, Tryz.ntmps192
  go_wp2_with (first | (go_at_call 33; refine (CP _).mono ?_; rintro e w' ⟨rfl, hw⟩; obtain rfl := hw.symm; clear hw) | (go_at_call 186; refine (CU _ HB0.out).mono ?_; rintro e w1 ⟨rfl, hb⟩; have HB1 : Hid (Below w.heap.size w w1) := hb; clear hb) | (go_at_call_of 154 B; refine (GB _ HB1.out).mono ?_; rintro e w2 ⟨rfl, hb⟩; have HB2 : Hid (Below w.heap.size w w2) := hb; clear hb) | (go_at_call_of 154 S; refine (GS _ HB2.out).mono ?_; rintro e w3 ⟨rfl, hb⟩; have HB3 : Hid (Below w.heap.size w w3) := hb; clear hb))
  go_ret3
  exact ⟨rfl, HB3.out⟩
theorem gname_list (l : List UInt8) (hl : l.length ≤ 140737488355328) (w : World) (T : Tab8 w) : RC w 154 #[.string ⟨l.toArray⟩] (.bool (gnF l)) :=
 RC.of fun u hu => goodname_any ⟨l.toArray⟩ (by rw [size_mk]; omega) u (T.t.below hu)
theorem cutF_len (c : UInt8) (l : List UInt8) : (cutF c l).1.length ≤ l.length ∧ (cutF c l).2.1.length ≤ l.length := by
 cases h : Ad.at_ c l with
 | none => rw [cutF_none h]; simp
 | some p =>
  obtain ⟨a, b⟩ := p
  have := at_some_len h
  rw [cutF_some h]
  simp only
  omega
theorem names_any8 (l : List UInt8) (hl : l.length ≤ 140737488355328) (w : World) (T : Tab8 w) :
  Calls Tryz.prog 192 #[.string ⟨l.toArray⟩] w fun e w' => e = .returned (.tuple #[.string ⟨(nmsF l).1.toArray⟩, .string ⟨(nmsF l).2.1.toArray⟩, .bool (nmsF l).2.2]) ∧ Below w.heap.size w w' := by
 have CP := fun u => strip_any 91 l u
 have hs := Ad.strip_len 91 l
 unfold nmsF
 cases hx : (Ad.strip 91 l).1
 ·rw [hx] at CP
  exact pn_plain CP (gname_list l hl w T)
 ·rw [hx] at CP hs
  rw [if_pos rfl]
  have hl2 := cutF_len 93 (Ad.strip 91 l).2
  have g1 := gname_list (cutF 93 (Ad.strip 91 l).2).1 (by omega) w T
  have g2 := gname_list (cutF 93 (Ad.strip 91 l).2).2.1 (by omega) w T
  exact pn_book CP (RC.of fun u hu => cutc_any 93 (Ad.strip 91 l).2 u (by omega)) g1 g2
theorem pr_plain {A N X : ByteArray} {o : Option Ad.Cell} {w : World} (CU : RC (w.alloc ref0O) 186 #[.string A, .string ⟨#[33]⟩] (.tuple #[.string N, .string X, .bool false]))
  (PC : ∀ u, Below w.heap.size w u → Calls Tryz.prog 153 #[.string A] u fun e w' => e = .returned (.tuple #[cellR o, .bool o.isSome]) ∧ Below u.heap.size u w') :
  Calls Tryz.prog 152 #[.string A] w fun e w' => e = .returned (.tuple #[cellR o, .bool o.isSome]) ∧ Below w.heap.size w w' := by
 have HB0 : Hid (Below (w.alloc ref0O).heap.size (w.alloc ref0O) (w.alloc ref0O)) := Below.refl _ _
 cases o with
 | none =>
  go_enter Tryz.func152, Tryz.ntmps152
  go_wp2_with (go_at_call 186; refine (CU _ HB0.out).mono ?_; rintro e w1 ⟨rfl, hb⟩; have HB1 : Hid (Below (w.alloc ref0O).heap.size (w.alloc ref0O) w1) := hb; clear hb)
  refine (PC _ (bel1 HB1.out)).mono ?_
  rintro e w2 ⟨rfl, hb⟩
  have z1 := (hb.block _ (lt_of (new1 HB1.out))).trans (new1 HB1.out)
  have Z1 : Hid (w2.heap[w.heap.size]? = some ref0O) := z1
  have HB2 : Hid (Below w.heap.size w w2) := bel_step (bel1 HB1.out) hb
  obtain ⟨d0, d1, d2, d3, d4, d5⟩ := r_cells z1
  obtain ⟨e0, e1, e2, e3, e4, e5⟩ := r_free z1
  clear z1 hb
  unfold cellR
  go_wp2
  exact bodyPost_ret (res_ref rfl rfl (set6 Z1.out) rfl) rfl ⟨rfl, bel_set6 HB2.out (Nat.le_refl _)⟩
 | some c =>
  go_enter Tryz.func152, Tryz.ntmps152
  go_wp2_with (go_at_call 186; refine (CU _ HB0.out).mono ?_; rintro e w1 ⟨rfl, hb⟩; have HB1 : Hid (Below (w.alloc ref0O).heap.size (w.alloc ref0O) w1) := hb; clear hb)
  refine (PC _ (bel1 HB1.out)).mono ?_
  rintro e w2 ⟨rfl, hb⟩
  have z1 := (hb.block _ (lt_of (new1 HB1.out))).trans (new1 HB1.out)
  have Z1 : Hid (w2.heap[w.heap.size]? = some ref0O) := z1
  have HB2 : Hid (Below w.heap.size w w2) := bel_step (bel1 HB1.out) hb
  obtain ⟨d0, d1, d2, d3, d4, d5⟩ := r_cells z1
  obtain ⟨e0, e1, e2, e3, e4, e5⟩ := r_free z1
  clear z1 hb
  unfold cellR
  go_wp2
  exact bodyPost_ret (res_ref rfl rfl (set6 Z1.out) rfl) rfl ⟨rfl, bel_set6 HB2.out (Nat.le_refl _)⟩
theorem kept_new {u : World} {g : Nat} {o : Obj} (h : u.heap[g]? = some o) (p : Obj) : (u.alloc p).heap[g]? = some o := (Below.heap_alloc u p _ (lt_of h)).trans h
theorem pr_no {A N X B S : ByteArray} {g k : Bool} {b s : ByteArray} {r c : Int} {fr fc : Bool} {w : World} (CU : RC (w.alloc ref0O) 186 #[.string A, .string ⟨#[33]⟩] (.tuple #[.string N, .string X, .bool true]))
  (NM : RC (w.alloc ref0O) 192 #[.string N] (.tuple #[.string B, .string S, .bool g])) (PC : ∀ u, Below w.heap.size w u → Calls Tryz.prog 153 #[.string X] u fun e w' => e = .returned (.tuple #[refV b s r c fr fc, .bool k]) ∧ Below u.heap.size u w') (hk : (g && k) = false) :
  Calls Tryz.prog 152 #[.string A] w fun e w' => e = .returned (.tuple #[ref0, .bool false]) ∧ Below w.heap.size w w' := by
 have HB0 : Hid (Below (w.alloc ref0O).heap.size (w.alloc ref0O) (w.alloc ref0O)) := Below.refl _ _
 cases g
 all_goals
  try (obtain rfl : k = false := hk)
  go_enter Tryz.func152, Tryz.ntmps152
  go_wp2_with (first | (go_at_call 186; refine (CU _ HB0.out).mono ?_; rintro e w1 ⟨rfl, hb⟩; have HB1 : Hid (Below (w.alloc ref0O).heap.size (w.alloc ref0O) w1) := hb; clear hb) | (go_at_call 192; refine (NM _ HB1.out).mono ?_; rintro e w2 ⟨rfl, hb⟩; have HB2 : Hid (Below (w.alloc ref0O).heap.size (w.alloc ref0O) w2) := hb; clear hb))
  refine (PC _ (bel1 HB2.out)).mono ?_
  rintro e w3 ⟨rfl, hb⟩
  have z1 := (hb.block _ (lt_of (new1 HB2.out))).trans (new1 HB2.out)
  have HB3 : Hid (Below w.heap.size w (w3.alloc (refO b s r c fr fc))) := bel_alloc (bel_step (bel1 HB2.out) hb) _
  have Z1 : Hid ((w3.alloc (refO b s r c fr fc)).heap[w.heap.size]? = some ref0O) := kept_new z1 _
  obtain ⟨d0, d1, d2, d3, d4, d5⟩ := r_cells Z1.out
  obtain ⟨e0, e1, e2, e3, e4, e5⟩ := r_free Z1.out
  clear z1 hb
  go_wp2
  exact bodyPost_ret (res_ref rfl rfl (set6 Z1.out) rfl) rfl ⟨rfl, bel_set6 HB3.out (Nat.le_refl _)⟩
theorem pr_yes {A N X B S : ByteArray} {b s : ByteArray} {r c : Int} {fr fc : Bool} {w : World} (CU : RC (w.alloc ref0O) 186 #[.string A, .string ⟨#[33]⟩] (.tuple #[.string N, .string X, .bool true]))
  (NM : RC (w.alloc ref0O) 192 #[.string N] (.tuple #[.string B, .string S, .bool true])) (PC : ∀ u, Below w.heap.size w u → Calls Tryz.prog 153 #[.string X] u fun e w' => e = .returned (.tuple #[refV b s r c fr fc, .bool true]) ∧ Below u.heap.size u w') :
  Calls Tryz.prog 152 #[.string A] w fun e w' => e = .returned (.tuple #[refV B S r c fr fc, .bool true]) ∧ Below w.heap.size w w' := by
 have HB0 : Hid (Below (w.alloc ref0O).heap.size (w.alloc ref0O) (w.alloc ref0O)) := Below.refl _ _
 go_enter Tryz.func152, Tryz.ntmps152
 go_wp2_with (first | (go_at_call 186; refine (CU _ HB0.out).mono ?_; rintro e w1 ⟨rfl, hb⟩; have HB1 : Hid (Below (w.alloc ref0O).heap.size (w.alloc ref0O) w1) := hb; clear hb) | (go_at_call 192; refine (NM _ HB1.out).mono ?_; rintro e w2 ⟨rfl, hb⟩; have HB2 : Hid (Below (w.alloc ref0O).heap.size (w.alloc ref0O) w2) := hb; clear hb))
 refine (PC _ (bel1 HB2.out)).mono ?_
 rintro e w3 ⟨rfl, hb⟩
 have z1 := (hb.block _ (lt_of (new1 HB2.out))).trans (new1 HB2.out)
 have HB3 : Hid (Below w.heap.size w (w3.alloc (refO B S r c fr fc))) := bel_alloc (bel_step (bel1 HB2.out) hb) _
 have Z1 : Hid ((w3.alloc (refO B S r c fr fc)).heap[w.heap.size]? = some ref0O) := kept_new z1 _
 obtain ⟨d0, d1, d2, d3, d4, d5⟩ := r_cells Z1.out
 obtain ⟨e0, e1, e2, e3, e4, e5⟩ := r_free Z1.out
 clear z1 hb
 go_wp2
 exact bodyPost_ret (res_ref rfl rfl (set6 Z1.out) rfl) rfl ⟨rfl, bel_set6 HB3.out (Nat.le_refl _)⟩
theorem parseref_any (l : List UInt8) (hl : l.length ≤ 140737488355328) (w : World) (T : Tab8 w) :
  Calls Tryz.prog 152 #[.string ⟨l.toArray⟩] w fun e w' => e = .returned (.tuple #[refR (Ad.refP gnF l), .bool (Ad.refP gnF l).isSome]) ∧ Below w.heap.size w w' := by
 rw [← prog_eq]
 unfold progP
 have CU : RC (w.alloc ref0O) 186 #[.string ⟨l.toArray⟩, .string ⟨#[33]⟩] _ := RC.of fun u hu => cutc_any 33 l u (by omega)
 have T1 : Tab8 (w.alloc ref0O) := T.below (bel_alloc (Below.refl _ _) _)
 cases h : Ad.at_ 33 l with
 | none =>
  rw [cutF_none h] at CU
  have := pr_plain (o := Ad.cellP l) CU fun u hu => parsecell_any l hl u (T.below hu)
  cases hc : Ad.cellP l with
  | none => rw [hc] at this; exact this
  | some c => rw [hc] at this; exact this
 | some p =>
  obtain ⟨a, x⟩ := p
  have hlen := at_some_len h
  rw [cutF_some h] at CU
  have NM : RC (w.alloc ref0O) 192 #[.string ⟨a.toArray⟩] _ := RC.of fun u hu => names_any8 a (by omega) u (T1.below hu)
  have PC := fun u (hu : Below w.heap.size w u) => parsecell_any x (by omega) u (T.below hu)
  simp only
  cases hg : (nmsF a).2.2
  ·rw [hg] at NM
   simp only [Bool.false_eq_true, if_false]
   cases hc : Ad.cellP x with
   | none => rw [hc] at PC; exact pr_no CU NM PC rfl
   | some c => rw [hc] at PC; exact pr_no CU NM PC rfl
  ·rw [hg] at NM
   simp only [if_true]
   cases hc : Ad.cellP x with
   | none => rw [hc] at PC; exact pr_no CU NM PC rfl
   | some c => rw [hc] at PC; exact pr_yes CU NM PC
abbrev CB (w : World) (f : Nat) (args : Array Value) (r : Value) : Prop := ∀ u, Below w.heap.size w u → Calls Tryz.prog f args u fun e w' => e = .returned r ∧ Below u.heap.size u w'
end Go.Proofs.YtljmklbbngpllaaGreatDoor
namespace Go.Tk
open Go.Ad
def runC (c : UInt8) : Bool := isL c || isD c || c == 95 || c == 36
def numC (c : UInt8) : Bool := isD c || c == 46
abbrev Tok := Sum Int (Sum (List UInt8) (Sum Ref (Sum (List UInt8 × List UInt8) (Sum (List UInt8) Nat))))
abbrev Tok.num (n : Int) : Tok := .inl n
abbrev Tok.str (s : List UInt8) : Tok := .inr (.inl s)
abbrev Tok.ref (r : Ref) : Tok := .inr (.inr (.inl r))
abbrev Tok.word (b s : List UInt8) : Tok := .inr (.inr (.inr (.inl (b, s))))
abbrev Tok.op (s : List UInt8) : Tok := .inr (.inr (.inr (.inr (.inl s))))
abbrev Tok.bad (n : Nat) : Tok := .inr (.inr (.inr (.inr (.inr n))))
theorem Tok.cs {motive : Tok → Prop} (num : ∀ n, motive (Tok.num n)) (str : ∀ s, motive (Tok.str s)) (ref : ∀ r, motive (Tok.ref r)) (word : ∀ b s, motive (Tok.word b s)) (op : ∀ s, motive (Tok.op s)) (bad : ∀ n, motive (Tok.bad n)) (t : Tok) : motive t := by
 rcases t with n | s | r | ⟨b, s⟩ | s | n
 ·exact num n
 ·exact str s
 ·exact ref r
 ·exact word b s
 ·exact op s
 ·exact bad n
def quoF : List UInt8 → Option (List UInt8 × List UInt8)
 | [] => none
 | [c] => if c = 34 then some ([], []) else none
 | c :: d :: r => if c = 34 then (if d = 34 then (quoF r).map fun p => (34 :: p.1, p.2) else some ([], d :: r)) else (quoF (d :: r)).map fun p => (c :: p.1, p.2)
def quoW : List UInt8 → List UInt8
 | [] => [34]
 | c :: r => if c = 34 then 34 :: 34 :: quoW r else c :: quoW r
def errN : Nat → List UInt8
 | 1 => [35, 68, 73, 86, 47, 48, 33]
 | 2 => [35, 86, 65, 76, 85, 69, 33]
 | 3 => [35, 82, 69, 70, 33]
 | 4 => [35, 78, 65, 77, 69, 63]
 | 5 => [35, 78, 85, 77, 33]
 | 6 => [35, 78, 47, 65]
 | 7 => [35, 67, 89, 67, 76, 69, 33]
 | 8 => [35, 76, 73, 78, 75, 33]
 | _ => []
def badF (l : List UInt8) : Option (Tok × List UInt8) := ([1, 2, 3, 4, 5, 6, 7, 8].find? fun i => (errN i).isPrefixOf l).map fun i => (.bad i, l.drop (errN i).length)
def ones : List UInt8 := [43, 45, 42, 47, 94, 38, 61, 60, 62, 37, 40, 41, 44, 58]
def two (c d : UInt8) : Bool := (c == 60 && d == 62) || (c == 60 && d == 61) || (c == 62 && d == 61)
def opF : List UInt8 → Option (Tok × List UInt8)
 | [] => none
 | [c] => if c ∈ ones then some (.op [c], []) else none
 | c :: d :: r => if two c d = true then some (.op [c, d], r) else if c ∈ ones then some (.op [c], d :: r) else none
section
variable (gn tru : List UInt8 → Bool) (pn : List UInt8 → Option Int) (wn : Int → List UInt8)
def tailN (b pre l : List UInt8) : Option (Tok × List UInt8) :=
 match l.dropWhile runC with
 | 33 :: r => (refP gn (pre ++ l.takeWhile runC ++ 33 :: r.takeWhile runC)).map fun x => (.ref x, r.dropWhile runC)
 | r => if b = [] then (match cellP (l.takeWhile runC) with
   | some c => some (.ref ⟨[], [], c⟩, r)
   | none => if gn (l.takeWhile runC) = true ∨ tru (l.takeWhile runC) = true then some (.word [] (l.takeWhile runC), r) else none)
  else if gn (l.takeWhile runC) = true then some (.word b (l.takeWhile runC), r) else none
def named (l : List UInt8) : Option (Tok × List UInt8) :=
 match l with
 | 91 :: m => match at_ 93 m with
  | none => none
  | some (a, r) => if gn a = true then tailN gn tru a (91 :: (a ++ [93])) r else none
 | l => tailN gn tru [] [] l
def one (l : List UInt8) : Option (Tok × List UInt8) :=
 match l with
 | [] => none
 | c :: r =>
  if isD c = true then (pn ((c :: r).takeWhile numC)).map fun n => (.num n, (c :: r).dropWhile numC)
  else if c = 34 then (quoF r).map fun p => (.str p.1, p.2)
  else if c = 35 then badF (c :: r)
  else if c = 91 ∨ c = 36 ∨ isL c = true then named gn tru (c :: r)
  else opF (c :: r)
def blank (c : UInt8) : Bool := c == 32 || c == 9
def lexN : Nat → List UInt8 → Option (List Tok)
 | 0, _ => none
 | _ + 1, [] => some []
 | k + 1, c :: r => if blank c = true then lexN k r else match one gn tru pn (c :: r) with
  | none => none
  | some (t, m) => (lexN k m).map (t :: ·)
def text : Tok → List UInt8
 | .inl n => wn n
 | .inr (.inl s) => 34 :: quoW s
 | .inr (.inr (.inl r)) => refW r
 | .inr (.inr (.inr (.inl (b, s)))) => if b = [] then s else 91 :: (b ++ 93 :: s)
 | .inr (.inr (.inr (.inr (.inl s)))) => s
 | .inr (.inr (.inr (.inr (.inr n)))) => errN n
end
theorem quo_len : ∀ (k : Nat) (l s r : List UInt8), l.length ≤ k → quoF l = some (s, r) → r.length < l.length
 | 0, l, s, r, hk, h => by
  have : l = [] := List.eq_nil_of_length_eq_zero (by omega)
  subst this; cases h
 | k + 1, [], s, r, hk, h => by cases h
 | k + 1, [c], s, r, hk, h => by
  unfold quoF at h
  split at h
  ·cases h; simp
  ·cases h
 | k + 1, c :: d :: l, s, r, hk, h => by
  unfold quoF at h
  simp only [List.length_cons] at hk ⊢
  split at h
  ·split at h
   ·cases hq : quoF l with
    | none => rw [hq] at h; cases h
    | some p =>
     rw [hq] at h
     cases h
     have := quo_len k l p.1 p.2 (by omega) hq
     omega
   ·cases h; simp
  ·cases hq : quoF (d :: l) with
   | none => rw [hq] at h; cases h
   | some p =>
    rw [hq] at h
    cases h
    have := quo_len k (d :: l) p.1 p.2 (by simp only [List.length_cons]; omega) hq
    simp only [List.length_cons] at this
    omega
theorem drop_le (p : UInt8 → Bool) : ∀ l : List UInt8, (l.dropWhile p).length ≤ l.length
 | [] => Nat.le_refl _
 | c :: r => by
  rw [List.dropWhile_cons]
  split
  ·have := drop_le p r; simp only [List.length_cons]; omega
  ·exact Nat.le_refl _
theorem drop_lt (p : UInt8 → Bool) {c : UInt8} {r : List UInt8} (h : p c = true) : ((c :: r).dropWhile p).length < (c :: r).length := by
 rw [List.dropWhile_cons, if_pos h]
 have := drop_le p r
 simp only [List.length_cons]; omega
theorem bad_len {l : List UInt8} {t : Tok} {r : List UInt8} (h : badF l = some (t, r)) : r.length < l.length := by
 unfold badF at h
 cases hf : [1, 2, 3, 4, 5, 6, 7, 8].find? fun i => (errN i).isPrefixOf l with
 | none => rw [hf] at h; cases h
 | some i =>
  rw [hf] at h
  cases h
  have h1 := List.find?_some hf
  have h2 := List.mem_of_find?_eq_some hf
  have h3 : 0 < (errN i).length ∧ (errN i).length ≤ l.length := by
   have := List.IsPrefix.length_le (List.isPrefixOf_iff_prefix.1 h1)
   refine ⟨?_, this⟩
   simp only [List.mem_cons, List.not_mem_nil, or_false] at h2
   rcases h2 with rfl | rfl | rfl | rfl | rfl | rfl | rfl | rfl <;> decide
  rw [List.length_drop]
  omega
theorem op_len {l : List UInt8} {t : Tok} {r : List UInt8} (h : opF l = some (t, r)) : r.length < l.length := by
 match l, h with
 | [], h => cases h
 | [c], h =>
  simp only [opF] at h
  split at h
  ·cases h; simp
  ·cases h
 | c :: d :: m, h =>
  simp only [opF] at h
  split at h
  ·cases h; simp; omega
  ·split at h
   ·cases h; simp
   ·cases h
theorem tail_len {gn tru : List UInt8 → Bool} {b pre l : List UInt8} {t : Tok} {r : List UInt8} (h : tailN gn tru b pre l = some (t, r)) : r.length ≤ l.length := by
 have hd := drop_le runC l
 unfold tailN at h
 split at h
 ·rename_i m hm
  rw [hm] at hd
  cases hr : refP gn (pre ++ l.takeWhile runC ++ 33 :: m.takeWhile runC) with
  | none => rw [hr] at h; cases h
  | some x =>
   rw [hr] at h
   cases h
   have := drop_le runC m
   simp only [List.length_cons] at hd
   omega
 ·split at h
  ·split at h
   ·cases h; exact hd
   ·split at h
    ·cases h; exact hd
    ·cases h
  ·split at h
   ·cases h; exact hd
   ·cases h
structure Ways (gn tru : List UInt8 → Bool) (pn : List UInt8 → Option Int) (wn : Int → List UInt8) (okN : Int → Prop) : Prop where
 names : Names gn
 first : ∀ c r, gn (c :: r) = true → isL c = true
 signs : ∀ l, gn l = true → ∀ x ∈ l, runC x = true
 nocell : ∀ l, gn l = true → cellP l = none
 truth : ∀ l, tru l = true → l ≠ [] ∧ (∀ x ∈ l, isL x = true) ∧ cellP l = none
 number : ∀ n, okN n → pn (wn n) = some n ∧ (∃ c r, wn n = c :: r ∧ isD c = true) ∧ ∀ x ∈ wn n, numC x = true
section
variable (gn tru : List UInt8 → Bool) (okN : Int → Prop)
def okT : Tok → Prop
 | .inl n => okN n
 | .inr (.inl _) => True
 | .inr (.inr (.inl r)) => goodR gn r
 | .inr (.inr (.inr (.inl (b, s)))) => (b = [] ∧ (gn s = true ∨ tru s = true)) ∨ (gn b = true ∧ gn s = true)
 | .inr (.inr (.inr (.inr (.inl s)))) => (∃ c, c ∈ ones ∧ s = [c]) ∨ (∃ c d, two c d = true ∧ s = [c, d])
 | .inr (.inr (.inr (.inr (.inr n)))) => 1 ≤ n ∧ n ≤ 8
end
theorem isL_run {c : UInt8} (h : isL c = true) : runC c = true := by unfold runC; rw [h]; rfl
end Go.Tk
