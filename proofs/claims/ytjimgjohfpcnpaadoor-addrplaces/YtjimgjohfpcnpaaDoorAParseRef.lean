/- ParseRef of the program. -/
import Derived.Test.YtjimgjohfpcnpaaDoorARefP
namespace Go.Proofs.YtjimgjohfpcnpaaDoor
open Go.RowKit
set_option maxRecDepth 100000
set_option linter.unusedVariables false
set_option linter.unusedSimpArgs false
set_option maxHeartbeats 2000000 in
theorem pn_plain {A A1 : ByteArray} {g : Bool} {w : World} (CP : ∀ u, Calls Tryd.prog 28 #[.string A, .string ⟨#[91]⟩] u fun e w' => e = .returned (.tuple #[.string A1, .bool false]) ∧ w' = u) (GN : RC w 11 #[.string A] (.bool g)) :
    Calls Tryd.prog 38 #[.string A] w fun e w' => e = .returned (.tuple #[.string ⟨#[]⟩, .string A, .bool g]) ∧ Below w.heap.size w w' := by
  have HB0 : Hid (Below w.heap.size w w) := Below.refl _ _
  go_enter Tryd.func38, Tryd.ntmps38
  go_wp2_with (first | (go_at_call 28; refine (CP _).mono ?_; rintro e w' ⟨rfl, hw⟩; obtain rfl := hw.symm; clear hw) | (go_at_call 11; refine (GN _ HB0.out).mono ?_; rintro e w1 ⟨rfl, hb⟩; have HB1 : Hid (Below w.heap.size w w1) := hb; clear hb))
  go_ret3
  exact ⟨rfl, HB1.out⟩
set_option maxHeartbeats 2000000 in
theorem pn_book {A A1 B S : ByteArray} {x g h : Bool} {w : World} (CP : ∀ u, Calls Tryd.prog 28 #[.string A, .string ⟨#[91]⟩] u fun e w' => e = .returned (.tuple #[.string A1, .bool true]) ∧ w' = u)
    (CU : RC w 37 #[.string A1, .string ⟨#[93]⟩] (.tuple #[.string B, .string S, .bool x])) (GB : RC w 11 #[.string B] (.bool g)) (GS : RC w 11 #[.string S] (.bool h)) :
    Calls Tryd.prog 38 #[.string A] w fun e w' => e = .returned (.tuple #[.string B, .string S, .bool (g && h)]) ∧ Below w.heap.size w w' := by
  have HB0 : Hid (Below w.heap.size w w) := Below.refl _ _
  cases g
  · go_enter Tryd.func38, Tryd.ntmps38
    go_wp2_with (first | (go_at_call 28; refine (CP _).mono ?_; rintro e w' ⟨rfl, hw⟩; obtain rfl := hw.symm; clear hw) | (go_at_call 37; refine (CU _ HB0.out).mono ?_; rintro e w1 ⟨rfl, hb⟩; have HB1 : Hid (Below w.heap.size w w1) := hb; clear hb) | (go_at_call_of 11 B; refine (GB _ HB1.out).mono ?_; rintro e w2 ⟨rfl, hb⟩; have HB2 : Hid (Below w.heap.size w w2) := hb; clear hb))
    go_ret3
    exact ⟨rfl, HB2.out⟩
  · go_enter Tryd.func38, Tryd.ntmps38
    go_wp2_with (first | (go_at_call 28; refine (CP _).mono ?_; rintro e w' ⟨rfl, hw⟩; obtain rfl := hw.symm; clear hw) | (go_at_call 37; refine (CU _ HB0.out).mono ?_; rintro e w1 ⟨rfl, hb⟩; have HB1 : Hid (Below w.heap.size w w1) := hb; clear hb) | (go_at_call_of 11 B; refine (GB _ HB1.out).mono ?_; rintro e w2 ⟨rfl, hb⟩; have HB2 : Hid (Below w.heap.size w w2) := hb; clear hb) | (go_at_call_of 11 S; refine (GS _ HB2.out).mono ?_; rintro e w3 ⟨rfl, hb⟩; have HB3 : Hid (Below w.heap.size w w3) := hb; clear hb))
    go_ret3
    exact ⟨rfl, HB3.out⟩
theorem gname_list (l : List UInt8) (hl : l.length ≤ 140737488355328) (w : World) (T : Tab8 w) : RC w 11 #[.string ⟨l.toArray⟩] (.bool (gnF l)) :=
  RC.of fun u hu => goodname_any ⟨l.toArray⟩ (by rw [size_mk]; omega) u (T.t.below hu)
theorem cutF_len (c : UInt8) (l : List UInt8) : (cutF c l).1.length ≤ l.length ∧ (cutF c l).2.1.length ≤ l.length := by
  cases h : Ad.at_ c l with
  | none => rw [cutF_none h]; simp
  | some p =>
    obtain ⟨a, b⟩ := p
    have := at_some_len h
    rw [cutF_some h]
    simp only
    omega
theorem names_any8 (l : List UInt8) (hl : l.length ≤ 140737488355328) (w : World) (T : Tab8 w) :
    Calls Tryd.prog 38 #[.string ⟨l.toArray⟩] w fun e w' => e = .returned (.tuple #[.string ⟨(nmsF l).1.toArray⟩, .string ⟨(nmsF l).2.1.toArray⟩, .bool (nmsF l).2.2]) ∧ Below w.heap.size w w' := by
  have CP := fun u => strip_any 91 l u
  have hs := Ad.strip_len 91 l
  unfold nmsF
  cases hx : (Ad.strip 91 l).1
  · rw [hx] at CP
    exact pn_plain CP (gname_list l hl w T)
  · rw [hx] at CP hs
    rw [if_pos rfl]
    have hl2 := cutF_len 93 (Ad.strip 91 l).2
    have g1 := gname_list (cutF 93 (Ad.strip 91 l).2).1 (by omega) w T
    have g2 := gname_list (cutF 93 (Ad.strip 91 l).2).2.1 (by omega) w T
    exact pn_book CP (RC.of fun u hu => cutc_any 93 (Ad.strip 91 l).2 u (by omega)) g1 g2
set_option maxHeartbeats 4000000 in
theorem pr_plain {A N X : ByteArray} {o : Option Ad.Cell} {w : World} (CU : RC (w.alloc ref0O) 37 #[.string A, .string ⟨#[33]⟩] (.tuple #[.string N, .string X, .bool false]))
    (PC : ∀ u, Below w.heap.size w u → Calls Tryd.prog 7 #[.string A] u fun e w' => e = .returned (.tuple #[cellR o, .bool o.isSome]) ∧ Below u.heap.size u w') :
    Calls Tryd.prog 9 #[.string A] w fun e w' => e = .returned (.tuple #[cellR o, .bool o.isSome]) ∧ Below w.heap.size w w' := by
  have HB0 : Hid (Below (w.alloc ref0O).heap.size (w.alloc ref0O) (w.alloc ref0O)) := Below.refl _ _
  cases o with
  | none =>
    go_enter Tryd.func9, Tryd.ntmps9
    go_wp2_with (go_at_call 37; refine (CU _ HB0.out).mono ?_; rintro e w1 ⟨rfl, hb⟩; have HB1 : Hid (Below (w.alloc ref0O).heap.size (w.alloc ref0O) w1) := hb; clear hb)
    refine (PC _ (bel1 HB1.out)).mono ?_
    rintro e w2 ⟨rfl, hb⟩
    have z1 := (hb.block _ (lt_of (new1 HB1.out))).trans (new1 HB1.out)
    have Z1 : Hid (w2.heap[w.heap.size]? = some ref0O) := z1
    have HB2 : Hid (Below w.heap.size w w2) := bel_step (bel1 HB1.out) hb
    obtain ⟨d0, d1, d2, d3, d4, d5⟩ := r_cells z1
    obtain ⟨e0, e1, e2, e3, e4, e5⟩ := r_free z1
    clear z1 hb
    unfold cellR
    go_wp2
    exact bodyPost_ret (res_ref rfl rfl (set6 Z1.out) rfl) rfl ⟨rfl, bel_set6 HB2.out (Nat.le_refl _)⟩
  | some c =>
    go_enter Tryd.func9, Tryd.ntmps9
    go_wp2_with (go_at_call 37; refine (CU _ HB0.out).mono ?_; rintro e w1 ⟨rfl, hb⟩; have HB1 : Hid (Below (w.alloc ref0O).heap.size (w.alloc ref0O) w1) := hb; clear hb)
    refine (PC _ (bel1 HB1.out)).mono ?_
    rintro e w2 ⟨rfl, hb⟩
    have z1 := (hb.block _ (lt_of (new1 HB1.out))).trans (new1 HB1.out)
    have Z1 : Hid (w2.heap[w.heap.size]? = some ref0O) := z1
    have HB2 : Hid (Below w.heap.size w w2) := bel_step (bel1 HB1.out) hb
    obtain ⟨d0, d1, d2, d3, d4, d5⟩ := r_cells z1
    obtain ⟨e0, e1, e2, e3, e4, e5⟩ := r_free z1
    clear z1 hb
    unfold cellR
    go_wp2
    exact bodyPost_ret (res_ref rfl rfl (set6 Z1.out) rfl) rfl ⟨rfl, bel_set6 HB2.out (Nat.le_refl _)⟩
/-- A block that is kept while another one is laid. -/
theorem kept_new {u : World} {g : Nat} {o : Obj} (h : u.heap[g]? = some o) (p : Obj) : (u.alloc p).heap[g]? = some o := (Below.heap_alloc u p _ (lt_of h)).trans h
set_option maxHeartbeats 4000000 in
theorem pr_no {A N X B S : ByteArray} {g k : Bool} {b s : ByteArray} {r c : Int} {fr fc : Bool} {w : World} (CU : RC (w.alloc ref0O) 37 #[.string A, .string ⟨#[33]⟩] (.tuple #[.string N, .string X, .bool true]))
    (NM : RC (w.alloc ref0O) 38 #[.string N] (.tuple #[.string B, .string S, .bool g])) (PC : ∀ u, Below w.heap.size w u → Calls Tryd.prog 7 #[.string X] u fun e w' => e = .returned (.tuple #[refV b s r c fr fc, .bool k]) ∧ Below u.heap.size u w') (hk : (g && k) = false) :
    Calls Tryd.prog 9 #[.string A] w fun e w' => e = .returned (.tuple #[ref0, .bool false]) ∧ Below w.heap.size w w' := by
  have HB0 : Hid (Below (w.alloc ref0O).heap.size (w.alloc ref0O) (w.alloc ref0O)) := Below.refl _ _
  cases g
  all_goals
    try (obtain rfl : k = false := hk)
    go_enter Tryd.func9, Tryd.ntmps9
    go_wp2_with (first | (go_at_call 37; refine (CU _ HB0.out).mono ?_; rintro e w1 ⟨rfl, hb⟩; have HB1 : Hid (Below (w.alloc ref0O).heap.size (w.alloc ref0O) w1) := hb; clear hb) | (go_at_call 38; refine (NM _ HB1.out).mono ?_; rintro e w2 ⟨rfl, hb⟩; have HB2 : Hid (Below (w.alloc ref0O).heap.size (w.alloc ref0O) w2) := hb; clear hb))
    refine (PC _ (bel1 HB2.out)).mono ?_
    rintro e w3 ⟨rfl, hb⟩
    have z1 := (hb.block _ (lt_of (new1 HB2.out))).trans (new1 HB2.out)
    have HB3 : Hid (Below w.heap.size w (w3.alloc (refO b s r c fr fc))) := bel_alloc (bel_step (bel1 HB2.out) hb) _
    have Z1 : Hid ((w3.alloc (refO b s r c fr fc)).heap[w.heap.size]? = some ref0O) := kept_new z1 _
    obtain ⟨d0, d1, d2, d3, d4, d5⟩ := r_cells Z1.out
    obtain ⟨e0, e1, e2, e3, e4, e5⟩ := r_free Z1.out
    clear z1 hb
    go_wp2
    exact bodyPost_ret (res_ref rfl rfl (set6 Z1.out) rfl) rfl ⟨rfl, bel_set6 HB3.out (Nat.le_refl _)⟩
set_option maxHeartbeats 4000000 in
theorem pr_yes {A N X B S : ByteArray} {b s : ByteArray} {r c : Int} {fr fc : Bool} {w : World} (CU : RC (w.alloc ref0O) 37 #[.string A, .string ⟨#[33]⟩] (.tuple #[.string N, .string X, .bool true]))
    (NM : RC (w.alloc ref0O) 38 #[.string N] (.tuple #[.string B, .string S, .bool true])) (PC : ∀ u, Below w.heap.size w u → Calls Tryd.prog 7 #[.string X] u fun e w' => e = .returned (.tuple #[refV b s r c fr fc, .bool true]) ∧ Below u.heap.size u w') :
    Calls Tryd.prog 9 #[.string A] w fun e w' => e = .returned (.tuple #[refV B S r c fr fc, .bool true]) ∧ Below w.heap.size w w' := by
  have HB0 : Hid (Below (w.alloc ref0O).heap.size (w.alloc ref0O) (w.alloc ref0O)) := Below.refl _ _
  go_enter Tryd.func9, Tryd.ntmps9
  go_wp2_with (first | (go_at_call 37; refine (CU _ HB0.out).mono ?_; rintro e w1 ⟨rfl, hb⟩; have HB1 : Hid (Below (w.alloc ref0O).heap.size (w.alloc ref0O) w1) := hb; clear hb) | (go_at_call 38; refine (NM _ HB1.out).mono ?_; rintro e w2 ⟨rfl, hb⟩; have HB2 : Hid (Below (w.alloc ref0O).heap.size (w.alloc ref0O) w2) := hb; clear hb))
  refine (PC _ (bel1 HB2.out)).mono ?_
  rintro e w3 ⟨rfl, hb⟩
  have z1 := (hb.block _ (lt_of (new1 HB2.out))).trans (new1 HB2.out)
  have HB3 : Hid (Below w.heap.size w (w3.alloc (refO B S r c fr fc))) := bel_alloc (bel_step (bel1 HB2.out) hb) _
  have Z1 : Hid ((w3.alloc (refO B S r c fr fc)).heap[w.heap.size]? = some ref0O) := kept_new z1 _
  obtain ⟨d0, d1, d2, d3, d4, d5⟩ := r_cells Z1.out
  obtain ⟨e0, e1, e2, e3, e4, e5⟩ := r_free Z1.out
  clear z1 hb
  go_wp2
  exact bodyPost_ret (res_ref rfl rfl (set6 Z1.out) rfl) rfl ⟨rfl, bel_set6 HB3.out (Nat.le_refl _)⟩
theorem parseref_any (l : List UInt8) (hl : l.length ≤ 140737488355328) (w : World) (T : Tab8 w) :
    Calls Tryd.prog 9 #[.string ⟨l.toArray⟩] w fun e w' => e = .returned (.tuple #[refR (Ad.refP gnF l), .bool (Ad.refP gnF l).isSome]) ∧ Below w.heap.size w w' := by
  rw [← prog_eq]
  unfold progP
  have CU : RC (w.alloc ref0O) 37 #[.string ⟨l.toArray⟩, .string ⟨#[33]⟩] _ := RC.of fun u hu => cutc_any 33 l u (by omega)
  have T1 : Tab8 (w.alloc ref0O) := T.below (bel_alloc (Below.refl _ _) _)
  cases h : Ad.at_ 33 l with
  | none =>
    rw [cutF_none h] at CU
    have := pr_plain (o := Ad.cellP l) CU fun u hu => parsecell_any l hl u (T.below hu)
    cases hc : Ad.cellP l with
    | none => rw [hc] at this; exact this
    | some c => rw [hc] at this; exact this
  | some p =>
    obtain ⟨a, x⟩ := p
    have hlen := at_some_len h
    rw [cutF_some h] at CU
    have NM : RC (w.alloc ref0O) 38 #[.string ⟨a.toArray⟩] _ := RC.of fun u hu => names_any8 a (by omega) u (T1.below hu)
    have PC := fun u (hu : Below w.heap.size w u) => parsecell_any x (by omega) u (T.below hu)
    simp only
    cases hg : (nmsF a).2.2
    · rw [hg] at NM
      simp only [Bool.false_eq_true, if_false]
      cases hc : Ad.cellP x with
      | none => rw [hc] at PC; exact pr_no CU NM PC rfl
      | some c => rw [hc] at PC; exact pr_no CU NM PC rfl
    · rw [hg] at NM
      simp only [if_true]
      cases hc : Ad.cellP x with
      | none => rw [hc] at PC; exact pr_no CU NM PC rfl
      | some c => rw [hc] at PC; exact pr_yes CU NM PC
end Go.Proofs.YtjimgjohfpcnpaaDoor
