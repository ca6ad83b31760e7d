/- ARIndex, AParseRef, ARParseRef, ARParseRefB, ARParseRefP, ARParseRefQ. -/
import Derived.Test.YtnibldnfbikipaaGreatDoorARefPBy
set_option linter.unusedVariables false
set_option linter.unusedSimpArgs false
set_option maxHeartbeats 16000000
set_option maxRecDepth 100000
namespace Go.Proofs.YtnibldnfbikipaaGreatDoor
open Go.RowKit
def idxF (c : UInt8) (l : List UInt8) : Int := match Ad.at_ c l with
 | none => -1
 | some p => (p.1.length : Nat)
theorem idx_yes {c : UInt8} (s : ByteArray) (k : Nat) (h : k < s.size) (hc : s[k] = c) (hn : ∀ x ∈ s.data.toList.take k, x ≠ c) : idxF c s.data.toList = k := by
 have hl := size_list s
 have e : s.data.toList = s.data.toList.take k ++ c :: s.data.toList.drop (k + 1) := by
  rw [← hc, byte_at s k h (by omega)]
  have := List.take_append_drop k s.data.toList
  conv => lhs; rw [← this, List.drop_eq_getElem_cons (by omega)]
 unfold idxF
 rw [e, Ad.at_app _ hn]
 simp
 omega
theorem idx_no {c : UInt8} {l : List UInt8} (hn : ∀ x ∈ l, x ≠ c) : idxF c l = -1 := by
 unfold idxF
 rw [Ad.at_none hn]
theorem ridx_any (s : ByteArray) (c : UInt8) (hs : s.size ≤ 9223372036854775807) (w : World) :
  Calls Tryz.prog 269 #[.string s, .int .u8 (c.toNat : Nat)] w fun e w' => e = .returned (.int .i64 (idxF c s.data.toList)) ∧ w' = w := by
 have hl := size_list s
 generalize hr : idxF c s.data.toList = r
 have HR : Hid (idxF c s.data.toList = r) := hr
 clear hr
 go_enter Tryz.func269, Tryz.ntmps269
 go_wp2
 go_loop [5] (fun i => ∃ k : Nat, k ≤ s.size ∧ i = .int .i64 k ∧ Hid (∀ x ∈ s.data.toList.take k, x ≠ c)) (fun i => s.size - (intOf i).toNat)
 case atStart => exact ⟨0, Nat.zero_le _, rfl, by intro x hx; simp at hx⟩
 case round =>
  obtain ⟨k, hk, rfl, ha⟩ := hrel
  by_cases hlt : k < s.size
  ·rcases ch_facts s[k] c with ⟨h3, h4⟩ | ⟨h3, h4⟩
   ·have HE : Hid (r = k) := by
     show _ = _
     rw [← HR.out]
     exact idx_yes s k hlt h3 ha.out
    clear h3
    go_wp2
    go_ret
    exact ⟨by rw [HE.out]; rfl, rfl⟩
   ·have HA : Hid (∀ x ∈ s.data.toList.take (k + 1), x ≠ c) := by
     intro x hx
     rw [take_snoc _ _ (by omega)] at hx
     rcases List.mem_append.1 hx with hx | hx
     ·exact ha.out x hx
     ·simp only [List.mem_singleton] at hx
      rw [hx, ← byte_at s k hlt (by omega)]
      exact h3
    clear h3
    go_wp2
    go_round
    case rel => exact ⟨k + 1, by omega, by go_num, HA.out⟩
    case measure => simp [intOf]; omega
  ·have HE : Hid (r = -1) := by
    show _ = _
    have hh := ha.out
    rw [List.take_of_length_le (by omega)] at hh
    rw [← HR.out]
    exact idx_no hh
   go_wp2
   go_ret
   exact ⟨by rw [HE.out]; rfl, rfl⟩
theorem pn_plain {A A1 : ByteArray} {g : Bool} {w : World} (CP : ∀ u, Calls Tryz.prog 73 #[.string A, .string ⟨#[91]⟩] u fun e w' => e = .returned (.tuple #[.string A1, .bool false]) ∧ w' = u) (GN : RC w 76 #[.string A] (.bool g)) :
  Calls Tryz.prog 266 #[.string A] w fun e w' => e = .returned (.tuple #[.string ⟨#[]⟩, .string A, .bool g]) ∧ Below w.heap.size w w' := by
 have HB0 : Hid (Below w.heap.size w w) := Below.refl _ _
 go_enter Tryz.func266, Tryz.ntmps266
 go_wp2_with (first | (go_at_call 73; refine (CP _).mono ?_; rintro e w' ⟨rfl, hw⟩; obtain rfl := hw.symm; clear hw) | (go_at_call 76; refine (GN _ HB0.out).mono ?_; rintro e w1 ⟨rfl, hb⟩; have HB1 : Hid (Below w.heap.size w w1) := hb; clear hb))
 go_ret3
 exact ⟨rfl, HB1.out⟩
theorem pn_book {A A1 B S : ByteArray} {x g h : Bool} {w : World} (CP : ∀ u, Calls Tryz.prog 73 #[.string A, .string ⟨#[91]⟩] u fun e w' => e = .returned (.tuple #[.string A1, .bool true]) ∧ w' = u)
  (CU : RC w 247 #[.string A1, .string ⟨#[93]⟩] (.tuple #[.string B, .string S, .bool x])) (GB : RC w 76 #[.string B] (.bool g)) (GS : RC w 76 #[.string S] (.bool h)) :
  Calls Tryz.prog 266 #[.string A] w fun e w' => e = .returned (.tuple #[.string B, .string S, .bool (g && h)]) ∧ Below w.heap.size w w' := by
 have HB0 : Hid (Below w.heap.size w w) := Below.refl _ _
 cases g
 ·go_enter Tryz.func266, Tryz.ntmps266
  go_wp2_with (first | (go_at_call 73; refine (CP _).mono ?_; rintro e w' ⟨rfl, hw⟩; obtain rfl := hw.symm; clear hw) | (go_at_call 247; refine (CU _ HB0.out).mono ?_; rintro e w1 ⟨rfl, hb⟩; have HB1 : Hid (Below w.heap.size w w1) := hb; clear hb) | (go_at_call_of 76 B; refine (GB _ HB1.out).mono ?_; rintro e w2 ⟨rfl, hb⟩; have HB2 : Hid (Below w.heap.size w w2) := hb; clear hb))
  go_ret3
  exact ⟨rfl, HB2.out⟩
 ·go_enter Tryz.func266, Tryz.ntmps266
  go_wp2_with (first | (go_at_call 73; refine (CP _).mono ?_; rintro e w' ⟨rfl, hw⟩; obtain rfl := hw.symm; clear hw) | (go_at_call 247; refine (CU _ HB0.out).mono ?_; rintro e w1 ⟨rfl, hb⟩; have HB1 : Hid (Below w.heap.size w w1) := hb; clear hb) | (go_at_call_of 76 B; refine (GB _ HB1.out).mono ?_; rintro e w2 ⟨rfl, hb⟩; have HB2 : Hid (Below w.heap.size w w2) := hb; clear hb) | (go_at_call_of 76 S; refine (GS _ HB2.out).mono ?_; rintro e w3 ⟨rfl, hb⟩; have HB3 : Hid (Below w.heap.size w w3) := hb; clear hb))
  go_ret3
  exact ⟨rfl, HB3.out⟩
theorem gname_list (l : List UInt8) (hl : l.length ≤ 140737488355328) (w : World) (T : Tab8 w) : RC w 76 #[.string ⟨l.toArray⟩] (.bool (gnF l)) :=
 RC.of fun u hu => goodname_any ⟨l.toArray⟩ (by rw [size_mk]; omega) u (T.t.below hu)
theorem cutF_len (c : UInt8) (l : List UInt8) : (cutF c l).1.length ≤ l.length ∧ (cutF c l).2.1.length ≤ l.length := by
 cases h : Ad.at_ c l with
 | none => rw [cutF_none h]; simp
 | some p =>
  obtain ⟨a, b⟩ := p
  have := at_some_len h
  rw [cutF_some h]
  simp only
  omega
theorem names_any8 (l : List UInt8) (hl : l.length ≤ 140737488355328) (w : World) (T : Tab8 w) :
  Calls Tryz.prog 266 #[.string ⟨l.toArray⟩] w fun e w' => e = .returned (.tuple #[.string ⟨(nmsF l).1.toArray⟩, .string ⟨(nmsF l).2.1.toArray⟩, .bool (nmsF l).2.2]) ∧ Below w.heap.size w w' := by
 have CP := fun u => strip_any 91 l u
 have hs := Ad.strip_len 91 l
 unfold nmsF
 cases hx : (Ad.strip 91 l).1
 ·rw [hx] at CP
  exact pn_plain CP (gname_list l hl w T)
 ·rw [hx] at CP hs
  rw [if_pos rfl]
  have hl2 := cutF_len 93 (Ad.strip 91 l).2
  have g1 := gname_list (cutF 93 (Ad.strip 91 l).2).1 (by omega) w T
  have g2 := gname_list (cutF 93 (Ad.strip 91 l).2).2.1 (by omega) w T
  exact pn_book CP (RC.of fun u hu => cutc_any 93 (Ad.strip 91 l).2 u (by omega)) g1 g2
theorem pr_plain {A N X : ByteArray} {o : Option Ad.Cell} {w : World} (CU : RC (w.alloc ref0O) 247 #[.string A, .string ⟨#[33]⟩] (.tuple #[.string N, .string X, .bool false]))
  (PC : ∀ u, Below w.heap.size w u → Calls Tryz.prog 233 #[.string A] u fun e w' => e = .returned (.tuple #[cellR o, .bool o.isSome]) ∧ Below u.heap.size u w') :
  Calls Tryz.prog 232 #[.string A] w fun e w' => e = .returned (.tuple #[cellR o, .bool o.isSome]) ∧ Below w.heap.size w w' := by
 have HB0 : Hid (Below (w.alloc ref0O).heap.size (w.alloc ref0O) (w.alloc ref0O)) := Below.refl _ _
 cases o with
 | none =>
  go_enter Tryz.func232, Tryz.ntmps232
  go_wp2_with (go_at_call 247; refine (CU _ HB0.out).mono ?_; rintro e w1 ⟨rfl, hb⟩; have HB1 : Hid (Below (w.alloc ref0O).heap.size (w.alloc ref0O) w1) := hb; clear hb)
  refine (PC _ (bel1 HB1.out)).mono ?_
  rintro e w2 ⟨rfl, hb⟩
  have z1 := (hb.block _ (lt_of (new1 HB1.out))).trans (new1 HB1.out)
  have Z1 : Hid (w2.heap[w.heap.size]? = some ref0O) := z1
  have HB2 : Hid (Below w.heap.size w w2) := bel_step (bel1 HB1.out) hb
  obtain ⟨d0, d1, d2, d3, d4, d5⟩ := r_cells z1
  obtain ⟨e0, e1, e2, e3, e4, e5⟩ := r_free z1
  clear z1 hb
  unfold cellR
  go_wp2
  exact bodyPost_ret (res_ref rfl rfl (set6 Z1.out) rfl) rfl ⟨rfl, bel_set6 HB2.out (Nat.le_refl _)⟩
 | some c =>
  go_enter Tryz.func232, Tryz.ntmps232
  go_wp2_with (go_at_call 247; refine (CU _ HB0.out).mono ?_; rintro e w1 ⟨rfl, hb⟩; have HB1 : Hid (Below (w.alloc ref0O).heap.size (w.alloc ref0O) w1) := hb; clear hb)
  refine (PC _ (bel1 HB1.out)).mono ?_
  rintro e w2 ⟨rfl, hb⟩
  have z1 := (hb.block _ (lt_of (new1 HB1.out))).trans (new1 HB1.out)
  have Z1 : Hid (w2.heap[w.heap.size]? = some ref0O) := z1
  have HB2 : Hid (Below w.heap.size w w2) := bel_step (bel1 HB1.out) hb
  obtain ⟨d0, d1, d2, d3, d4, d5⟩ := r_cells z1
  obtain ⟨e0, e1, e2, e3, e4, e5⟩ := r_free z1
  clear z1 hb
  unfold cellR
  go_wp2
  exact bodyPost_ret (res_ref rfl rfl (set6 Z1.out) rfl) rfl ⟨rfl, bel_set6 HB2.out (Nat.le_refl _)⟩
theorem kept_new {u : World} {g : Nat} {o : Obj} (h : u.heap[g]? = some o) (p : Obj) : (u.alloc p).heap[g]? = some o := (Below.heap_alloc u p _ (lt_of h)).trans h
theorem pr_no {A N X B S : ByteArray} {g k : Bool} {b s : ByteArray} {r c : Int} {fr fc : Bool} {w : World} (CU : RC (w.alloc ref0O) 247 #[.string A, .string ⟨#[33]⟩] (.tuple #[.string N, .string X, .bool true]))
  (NM : RC (w.alloc ref0O) 266 #[.string N] (.tuple #[.string B, .string S, .bool g])) (PC : ∀ u, Below w.heap.size w u → Calls Tryz.prog 233 #[.string X] u fun e w' => e = .returned (.tuple #[refV b s r c fr fc, .bool k]) ∧ Below u.heap.size u w') (hk : (g && k) = false) :
  Calls Tryz.prog 232 #[.string A] w fun e w' => e = .returned (.tuple #[ref0, .bool false]) ∧ Below w.heap.size w w' := by
 have HB0 : Hid (Below (w.alloc ref0O).heap.size (w.alloc ref0O) (w.alloc ref0O)) := Below.refl _ _
 cases g
 all_goals
  try (obtain rfl : k = false := hk)
  go_enter Tryz.func232, Tryz.ntmps232
  go_wp2_with (first | (go_at_call 247; refine (CU _ HB0.out).mono ?_; rintro e w1 ⟨rfl, hb⟩; have HB1 : Hid (Below (w.alloc ref0O).heap.size (w.alloc ref0O) w1) := hb; clear hb) | (go_at_call 266; refine (NM _ HB1.out).mono ?_; rintro e w2 ⟨rfl, hb⟩; have HB2 : Hid (Below (w.alloc ref0O).heap.size (w.alloc ref0O) w2) := hb; clear hb))
  refine (PC _ (bel1 HB2.out)).mono ?_
  rintro e w3 ⟨rfl, hb⟩
  have z1 := (hb.block _ (lt_of (new1 HB2.out))).trans (new1 HB2.out)
  have HB3 : Hid (Below w.heap.size w (w3.alloc (refO b s r c fr fc))) := bel_alloc (bel_step (bel1 HB2.out) hb) _
  have Z1 : Hid ((w3.alloc (refO b s r c fr fc)).heap[w.heap.size]? = some ref0O) := kept_new z1 _
  obtain ⟨d0, d1, d2, d3, d4, d5⟩ := r_cells Z1.out
  obtain ⟨e0, e1, e2, e3, e4, e5⟩ := r_free Z1.out
  clear z1 hb
  go_wp2
  exact bodyPost_ret (res_ref rfl rfl (set6 Z1.out) rfl) rfl ⟨rfl, bel_set6 HB3.out (Nat.le_refl _)⟩
theorem pr_yes {A N X B S : ByteArray} {b s : ByteArray} {r c : Int} {fr fc : Bool} {w : World} (CU : RC (w.alloc ref0O) 247 #[.string A, .string ⟨#[33]⟩] (.tuple #[.string N, .string X, .bool true]))
  (NM : RC (w.alloc ref0O) 266 #[.string N] (.tuple #[.string B, .string S, .bool true])) (PC : ∀ u, Below w.heap.size w u → Calls Tryz.prog 233 #[.string X] u fun e w' => e = .returned (.tuple #[refV b s r c fr fc, .bool true]) ∧ Below u.heap.size u w') :
  Calls Tryz.prog 232 #[.string A] w fun e w' => e = .returned (.tuple #[refV B S r c fr fc, .bool true]) ∧ Below w.heap.size w w' := by
 have HB0 : Hid (Below (w.alloc ref0O).heap.size (w.alloc ref0O) (w.alloc ref0O)) := Below.refl _ _
 go_enter Tryz.func232, Tryz.ntmps232
 go_wp2_with (first | (go_at_call 247; refine (CU _ HB0.out).mono ?_; rintro e w1 ⟨rfl, hb⟩; have HB1 : Hid (Below (w.alloc ref0O).heap.size (w.alloc ref0O) w1) := hb; clear hb) | (go_at_call 266; refine (NM _ HB1.out).mono ?_; rintro e w2 ⟨rfl, hb⟩; have HB2 : Hid (Below (w.alloc ref0O).heap.size (w.alloc ref0O) w2) := hb; clear hb))
 refine (PC _ (bel1 HB2.out)).mono ?_
 rintro e w3 ⟨rfl, hb⟩
 have z1 := (hb.block _ (lt_of (new1 HB2.out))).trans (new1 HB2.out)
 have HB3 : Hid (Below w.heap.size w (w3.alloc (refO B S r c fr fc))) := bel_alloc (bel_step (bel1 HB2.out) hb) _
 have Z1 : Hid ((w3.alloc (refO B S r c fr fc)).heap[w.heap.size]? = some ref0O) := kept_new z1 _
 obtain ⟨d0, d1, d2, d3, d4, d5⟩ := r_cells Z1.out
 obtain ⟨e0, e1, e2, e3, e4, e5⟩ := r_free Z1.out
 clear z1 hb
 go_wp2
 exact bodyPost_ret (res_ref rfl rfl (set6 Z1.out) rfl) rfl ⟨rfl, bel_set6 HB3.out (Nat.le_refl _)⟩
theorem parseref_any (l : List UInt8) (hl : l.length ≤ 140737488355328) (w : World) (T : Tab8 w) :
  Calls Tryz.prog 232 #[.string ⟨l.toArray⟩] w fun e w' => e = .returned (.tuple #[refR (Ad.refP gnF l), .bool (Ad.refP gnF l).isSome]) ∧ Below w.heap.size w w' := by
 rw [← prog_eq]
 unfold progP
 have CU : RC (w.alloc ref0O) 247 #[.string ⟨l.toArray⟩, .string ⟨#[33]⟩] _ := RC.of fun u hu => cutc_any 33 l u (by omega)
 have T1 : Tab8 (w.alloc ref0O) := T.below (bel_alloc (Below.refl _ _) _)
 cases h : Ad.at_ 33 l with
 | none =>
  rw [cutF_none h] at CU
  have := pr_plain (o := Ad.cellP l) CU fun u hu => parsecell_any l hl u (T.below hu)
  cases hc : Ad.cellP l with
  | none => rw [hc] at this; exact this
  | some c => rw [hc] at this; exact this
 | some p =>
  obtain ⟨a, x⟩ := p
  have hlen := at_some_len h
  rw [cutF_some h] at CU
  have NM : RC (w.alloc ref0O) 266 #[.string ⟨a.toArray⟩] _ := RC.of fun u hu => names_any8 a (by omega) u (T1.below hu)
  have PC := fun u (hu : Below w.heap.size w u) => parsecell_any x (by omega) u (T.below hu)
  simp only
  cases hg : (nmsF a).2.2
  ·rw [hg] at NM
   simp only [Bool.false_eq_true, if_false]
   cases hc : Ad.cellP x with
   | none => rw [hc] at PC; exact pr_no CU NM PC rfl
   | some c => rw [hc] at PC; exact pr_no CU NM PC rfl
  ·rw [hg] at NM
   simp only [if_true]
   cases hc : Ad.cellP x with
   | none => rw [hc] at PC; exact pr_no CU NM PC rfl
   | some c => rw [hc] at PC; exact pr_yes CU NM PC
abbrev CB (w : World) (f : Nat) (args : Array Value) (r : Value) : Prop := ∀ u, Below w.heap.size w u → Calls Tryz.prog f args u fun e w' => e = .returned r ∧ Below u.heap.size u w'
abbrev CS (f : Nat) (args : Array Value) (r : Value) : Prop := ∀ u, Calls Tryz.prog f args u fun e w' => e = .returned r ∧ w' = u
section
variable {S B S1 SH S2 : ByteArray} {w : World}
theorem rr_noclose (hz : 0 < S.size) (h91 : ((S[0].toNat : Int) == 91) = true) (IX : CS 269 #[.string S, .int .u8 93] (.int .i64 (-1))) :
  Calls Tryz.prog 241 #[.string S] w fun e w' => e = .returned (.tuple #[ref0, .bool false]) ∧ Below w.heap.size w w' := by
 have c1 : (0 : Int) < S.size := by omega
 go_enter Tryz.func241, Tryz.ntmps241
 go_wp2_with (go_at_call 269; refine (IX _).mono ?_; rintro e w' ⟨rfl, hw⟩; obtain rfl := hw.symm; clear hw)
 refine bodyPost_ret (v := .tuple #[ref0, .bool false]) (by simp [results, Tryz.results241, go_sem]) rfl ?_
 refine ⟨rfl, ?_⟩
 repeat (first | exact Below.refl _ _ | refine Below.drew ?_ | refine bel_alloc ?_ _ | refine Below.setCell ?_ (by simp) _)
theorem rr_badbook {k : Nat} (hz : 0 < S.size) (h91 : ((S[0].toNat : Int) == 91) = true) (IX : CS 269 #[.string S, .int .u8 93] (.int .i64 k)) (k1 : 1 ≤ k) (k2 : k ≤ S.size) (hB : S.extract 1 k = B) (GB : CB w 48 #[.string B] (.bool false)) :
  Calls Tryz.prog 241 #[.string S] w fun e w' => e = .returned (.tuple #[ref0, .bool false]) ∧ Below w.heap.size w w' := by
 have c1 : (0 : Int) < S.size := by omega
 have c2 : ¬ (k : Int) < 0 := by omega
 have c3 : (1 : Int) ≤ k := by omega
 have c4 : (k : Int) ≤ S.size := by omega
 go_enter Tryz.func241, Tryz.ntmps241
 go_wp2_with (go_at_call 269; refine (IX _).mono ?_; rintro e w' ⟨rfl, hw⟩; obtain rfl := hw.symm; clear hw)
 refine (GB _ (bel_alloc (Below.refl _ _) _)).mono ?_
 rintro e w1 ⟨rfl, hb⟩
 have z1 := new1 hb
 have Z1 : Hid (w1.heap[w.heap.size]? = some ref0O) := z1
 have HB1 : Hid (Below w.heap.size w w1) := bel1 hb
 obtain ⟨d0, d1, d2, d3, d4, d5⟩ := r_cells z1
 obtain ⟨e0, e1, e2, e3, e4, e5⟩ := r_free z1
 clear z1 hb
 go_wp2
 exact bodyPost_ret (res_ref rfl rfl (set6 Z1.out) rfl) rfl ⟨rfl, bel_set6 HB1.out (Nat.le_refl _)⟩
theorem rr_nosheet {k m : Nat} (hz : 0 < S.size) (h91 : ((S[0].toNat : Int) == 91) = true) (IX : CS 269 #[.string S, .int .u8 93] (.int .i64 k)) (k1 : 1 ≤ k) (k2 : k ≤ S.size) (hm : (k : Int) + 1 = m) (m2 : m ≤ S.size) (mx : S.size ≤ 9223372036854775807) (hB : S.extract 1 k = B) (hS : S.extract m S.size = S1) (GB : CB w 48 #[.string B] (.bool true)) (IY : CS 269 #[.string S1, .int .u8 33] (.int .i64 (-1))) :
  Calls Tryz.prog 241 #[.string S] w fun e w' => e = .returned (.tuple #[ref0, .bool false]) ∧ Below w.heap.size w w' := by
 have c1 : (0 : Int) < S.size := by omega
 have c2 : ¬ (k : Int) < 0 := by omega
 have c3 : (1 : Int) ≤ k := by omega
 have c4 : (k : Int) ≤ S.size := by omega
 have c5 : (0 : Int) ≤ m := by omega
 have c6 : (m : Int) ≤ ↑S.size := by omega
 have c7 : IntKind.i64.wrap (m : Int) = m := wrap_i64 (by omega) (by omega)
 go_enter Tryz.func241, Tryz.ntmps241
 go_wp2_with (go_at_call 269; refine (IX _).mono ?_; rintro e w' ⟨rfl, hw⟩; obtain rfl := hw.symm; clear hw)
 refine (GB _ (bel_alloc (Below.refl _ _) _)).mono ?_
 rintro e w1 ⟨rfl, hb⟩
 have Z1 : Hid (w1.drew.heap[w.heap.size]? = some ref0O) := new1 hb.drew
 have HB1 : Hid (Below w.heap.size w w1.drew) := (bel1 hb).drew
 clear hb IX GB
 go_wp2_with fail
 go_region
 generalize w1.drew = v1 at *
 obtain ⟨d0, d1, d2, d3, d4, d5⟩ := r_cells Z1.out
 obtain ⟨e0, e1, e2, e3, e4, e5⟩ := r_free Z1.out
 go_wp2_with (go_at_call 269; refine (IY _).mono ?_; rintro e w' ⟨rfl, hw⟩; obtain rfl := hw.symm; clear hw)
 exact bodyPost_ret (res_ref rfl rfl (set6 Z1.out) rfl) rfl ⟨rfl, bel_set6 HB1.out (Nat.le_refl _)⟩
end
section
variable {S B S1 SH S2 : ByteArray} {w : World}
theorem rr_book_bad {k m : Nat} (hz : 0 < S.size) (h91 : ((S[0].toNat : Int) == 91) = true) (IX : CS 269 #[.string S, .int .u8 93] (.int .i64 k)) (k1 : 1 ≤ k) (k2 : k ≤ S.size) (hm : (k : Int) + 1 = m) (m2 : m ≤ S.size) (mx : S.size ≤ 9223372036854775807) (hB : S.extract 1 k = B) (hS : S.extract m S.size = S1) (GB : CB w 48 #[.string B] (.bool true)) {j n : Nat} (IY : CS 269 #[.string S1, .int .u8 33] (.int .i64 j)) (j2 : j ≤ S1.size) (hn : (j : Int) + 1 = n) (n2 : n ≤ S1.size) (nx : S1.size ≤ 9223372036854775807) (hH : S1.extract 0 j = SH) (hX : S1.extract n S1.size = S2) (GS : CB w 48 #[.string SH] (.bool false)) :
  Calls Tryz.prog 241 #[.string S] w fun e w' => e = .returned (.tuple #[ref0, .bool false]) ∧ Below w.heap.size w w' := by
 have f1 : ¬ (j : Int) < 0 := by omega
 have f2 : (0 : Int) ≤ j := by omega
 have f3 : (j : Int) ≤ S1.size := by omega
 have f4 : (0 : Int) ≤ n := by omega
 have f5 : (n : Int) ≤ ↑S1.size := by omega
 have f6 : IntKind.i64.wrap (n : Int) = n := wrap_i64 (by omega) (by omega)
 have c1 : (0 : Int) < S.size := by omega
 have c2 : ¬ (k : Int) < 0 := by omega
 have c3 : (1 : Int) ≤ k := by omega
 have c4 : (k : Int) ≤ S.size := by omega
 have c5 : (0 : Int) ≤ m := by omega
 have c6 : (m : Int) ≤ ↑S.size := by omega
 have c7 : IntKind.i64.wrap (m : Int) = m := wrap_i64 (by omega) (by omega)
 go_enter Tryz.func241, Tryz.ntmps241
 go_wp2_with (go_at_call 269; refine (IX _).mono ?_; rintro e w' ⟨rfl, hw⟩; obtain rfl := hw.symm; clear hw)
 refine (GB _ (bel_alloc (Below.refl _ _) _)).mono ?_
 rintro e w1 ⟨rfl, hb⟩
 have Z1 : Hid (w1.drew.heap[w.heap.size]? = some ref0O) := new1 hb.drew
 have HB1 : Hid (Below w.heap.size w w1.drew) := (bel1 hb).drew
 clear hb IX GB
 go_wp2_with fail
 go_region
 generalize w1.drew = v1 at *
 go_wp2_with (go_at_call 269; refine (IY _).mono ?_; rintro e w' ⟨rfl, hw⟩; obtain rfl := hw.symm; clear hw)
 refine (GS _ HB1.out).mono ?_
 rintro e w3 ⟨rfl, hb⟩
 have Z3 : Hid (w3.heap[w.heap.size]? = some ref0O) := (hb.block _ (lt_of Z1.out)).trans Z1.out
 have HB3 : Hid (Below w.heap.size w w3) := bel_step HB1.out hb
 clear hb GS
 obtain ⟨d0, d1, d2, d3, d4, d5⟩ := r_cells Z3.out
 obtain ⟨e0, e1, e2, e3, e4, e5⟩ := r_free Z3.out
 go_wp2
 exact bodyPost_ret (res_ref rfl rfl (set6 Z3.out) rfl) rfl ⟨rfl, bel_set6 HB3.out (Nat.le_refl _)⟩
theorem rr_book_no {k m : Nat} (hz : 0 < S.size) (h91 : ((S[0].toNat : Int) == 91) = true) (IX : CS 269 #[.string S, .int .u8 93] (.int .i64 k)) (k1 : 1 ≤ k) (k2 : k ≤ S.size) (hm : (k : Int) + 1 = m) (m2 : m ≤ S.size) (mx : S.size ≤ 9223372036854775807) (hB : S.extract 1 k = B) (hS : S.extract m S.size = S1) (GB : CB w 48 #[.string B] (.bool true)) {j n : Nat} (IY : CS 269 #[.string S1, .int .u8 33] (.int .i64 j)) (j2 : j ≤ S1.size) (hn : (j : Int) + 1 = n) (n2 : n ≤ S1.size) (nx : S1.size ≤ 9223372036854775807) (hH : S1.extract 0 j = SH) (hX : S1.extract n S1.size = S2) (GS : CB w 48 #[.string SH] (.bool true)) {b s : ByteArray} {r c : Int} {fr fc : Bool} (PC : CB w 242 #[.string S2] (.tuple #[refV b s r c fr fc, .bool false])) :
  Calls Tryz.prog 241 #[.string S] w fun e w' => e = .returned (.tuple #[ref0, .bool false]) ∧ Below w.heap.size w w' := by
 have f1 : ¬ (j : Int) < 0 := by omega
 have f2 : (0 : Int) ≤ j := by omega
 have f3 : (j : Int) ≤ S1.size := by omega
 have f4 : (0 : Int) ≤ n := by omega
 have f5 : (n : Int) ≤ ↑S1.size := by omega
 have f6 : IntKind.i64.wrap (n : Int) = n := wrap_i64 (by omega) (by omega)
 have c1 : (0 : Int) < S.size := by omega
 have c2 : ¬ (k : Int) < 0 := by omega
 have c3 : (1 : Int) ≤ k := by omega
 have c4 : (k : Int) ≤ S.size := by omega
 have c5 : (0 : Int) ≤ m := by omega
 have c6 : (m : Int) ≤ ↑S.size := by omega
 have c7 : IntKind.i64.wrap (m : Int) = m := wrap_i64 (by omega) (by omega)
 go_enter Tryz.func241, Tryz.ntmps241
 go_wp2_with (go_at_call 269; refine (IX _).mono ?_; rintro e w' ⟨rfl, hw⟩; obtain rfl := hw.symm; clear hw)
 refine (GB _ (bel_alloc (Below.refl _ _) _)).mono ?_
 rintro e w1 ⟨rfl, hb⟩
 have Z1 : Hid (w1.drew.heap[w.heap.size]? = some ref0O) := new1 hb.drew
 have HB1 : Hid (Below w.heap.size w w1.drew) := (bel1 hb).drew
 clear hb IX GB
 go_wp2_with fail
 go_region
 generalize w1.drew = v1 at *
 go_wp2_with (go_at_call 269; refine (IY _).mono ?_; rintro e w' ⟨rfl, hw⟩; obtain rfl := hw.symm; clear hw)
 refine (GS _ HB1.out).mono ?_
 rintro e w3 ⟨rfl, hb⟩
 have Z3 : Hid (w3.heap[w.heap.size]? = some ref0O) := (hb.block _ (lt_of Z1.out)).trans Z1.out
 have HB3 : Hid (Below w.heap.size w w3) := bel_step HB1.out hb
 clear hb GS
 go_wp2_with fail
 go_region
 have Z3d : Hid (w3.drew.heap[w.heap.size]? = some ref0O) := Z3.out
 have HB3d : Hid (Below w.heap.size w w3.drew) := HB3.out.drew
 clear Z3 HB3
 generalize w3.drew = v3 at *
 go_wp2_with fail
 refine (PC _ HB3d.out).mono ?_
 rintro e w4 ⟨rfl, hb⟩
 have z4 := (hb.block _ (lt_of Z3d.out)).trans Z3d.out
 have HB4 : Hid (Below w.heap.size w (w4.alloc (refO b s r c fr fc))) := bel_alloc (bel_step HB3d.out hb) _
 have Z4 : Hid ((w4.alloc (refO b s r c fr fc)).heap[w.heap.size]? = some ref0O) := kept_new z4 _
 obtain ⟨d0, d1, d2, d3, d4, d5⟩ := r_cells Z4.out
 obtain ⟨e0, e1, e2, e3, e4, e5⟩ := r_free Z4.out
 clear z4 hb
 go_wp2
 exact bodyPost_ret (res_ref rfl rfl (set6 Z4.out) rfl) rfl ⟨rfl, bel_set6 HB4.out (Nat.le_refl _)⟩
theorem rr_book_yes {k m : Nat} (hz : 0 < S.size) (h91 : ((S[0].toNat : Int) == 91) = true) (IX : CS 269 #[.string S, .int .u8 93] (.int .i64 k)) (k1 : 1 ≤ k) (k2 : k ≤ S.size) (hm : (k : Int) + 1 = m) (m2 : m ≤ S.size) (mx : S.size ≤ 9223372036854775807) (hB : S.extract 1 k = B) (hS : S.extract m S.size = S1) (GB : CB w 48 #[.string B] (.bool true)) {j n : Nat} (IY : CS 269 #[.string S1, .int .u8 33] (.int .i64 j)) (j2 : j ≤ S1.size) (hn : (j : Int) + 1 = n) (n2 : n ≤ S1.size) (nx : S1.size ≤ 9223372036854775807) (hH : S1.extract 0 j = SH) (hX : S1.extract n S1.size = S2) (GS : CB w 48 #[.string SH] (.bool true)) {b s : ByteArray} {r c : Int} {fr fc : Bool} (PC : CB w 242 #[.string S2] (.tuple #[refV b s r c fr fc, .bool true])) :
  Calls Tryz.prog 241 #[.string S] w fun e w' => e = .returned (.tuple #[refV B SH r c fr fc, .bool true]) ∧ Below w.heap.size w w' := by
 have f1 : ¬ (j : Int) < 0 := by omega
 have f2 : (0 : Int) ≤ j := by omega
 have f3 : (j : Int) ≤ S1.size := by omega
 have f4 : (0 : Int) ≤ n := by omega
 have f5 : (n : Int) ≤ ↑S1.size := by omega
 have f6 : IntKind.i64.wrap (n : Int) = n := wrap_i64 (by omega) (by omega)
 have c1 : (0 : Int) < S.size := by omega
 have c2 : ¬ (k : Int) < 0 := by omega
 have c3 : (1 : Int) ≤ k := by omega
 have c4 : (k : Int) ≤ S.size := by omega
 have c5 : (0 : Int) ≤ m := by omega
 have c6 : (m : Int) ≤ ↑S.size := by omega
 have c7 : IntKind.i64.wrap (m : Int) = m := wrap_i64 (by omega) (by omega)
 go_enter Tryz.func241, Tryz.ntmps241
 go_wp2_with (go_at_call 269; refine (IX _).mono ?_; rintro e w' ⟨rfl, hw⟩; obtain rfl := hw.symm; clear hw)
 refine (GB _ (bel_alloc (Below.refl _ _) _)).mono ?_
 rintro e w1 ⟨rfl, hb⟩
 have Z1 : Hid (w1.drew.heap[w.heap.size]? = some ref0O) := new1 hb.drew
 have HB1 : Hid (Below w.heap.size w w1.drew) := (bel1 hb).drew
 clear hb IX GB
 go_wp2_with fail
 go_region
 generalize w1.drew = v1 at *
 go_wp2_with (go_at_call 269; refine (IY _).mono ?_; rintro e w' ⟨rfl, hw⟩; obtain rfl := hw.symm; clear hw)
 refine (GS _ HB1.out).mono ?_
 rintro e w3 ⟨rfl, hb⟩
 have Z3 : Hid (w3.heap[w.heap.size]? = some ref0O) := (hb.block _ (lt_of Z1.out)).trans Z1.out
 have HB3 : Hid (Below w.heap.size w w3) := bel_step HB1.out hb
 clear hb GS
 go_wp2_with fail
 go_region
 have Z3d : Hid (w3.drew.heap[w.heap.size]? = some ref0O) := Z3.out
 have HB3d : Hid (Below w.heap.size w w3.drew) := HB3.out.drew
 clear Z3 HB3
 generalize w3.drew = v3 at *
 go_wp2_with fail
 refine (PC _ HB3d.out).mono ?_
 rintro e w4 ⟨rfl, hb⟩
 have z4 := (hb.block _ (lt_of Z3d.out)).trans Z3d.out
 have HB4 : Hid (Below w.heap.size w (w4.alloc (refO B SH r c fr fc))) := bel_alloc (bel_step HB3d.out hb) _
 have Z4 : Hid ((w4.alloc (refO B SH r c fr fc)).heap[w.heap.size]? = some ref0O) := kept_new z4 _
 obtain ⟨d0, d1, d2, d3, d4, d5⟩ := r_cells Z4.out
 obtain ⟨e0, e1, e2, e3, e4, e5⟩ := r_free Z4.out
 clear z4 hb
 go_wp2
 exact bodyPost_ret (res_ref rfl rfl (set6 Z4.out) rfl) rfl ⟨rfl, bel_set6 HB4.out (Nat.le_refl _)⟩
end
section
variable {S B S1 SH S2 : ByteArray} {w : World}
theorem rr_sheet_bad (hq : (S.size = 0) ∨ ∃ hz : 0 < S.size, ((S[0].toNat : Int) == 91) = false) {j n : Nat} (IY : CS 269 #[.string S, .int .u8 33] (.int .i64 j)) (j2 : j ≤ S.size) (hn : (j : Int) + 1 = n) (n2 : n ≤ S.size) (nx : S.size ≤ 9223372036854775807) (hH : S.extract 0 j = SH) (hX : S.extract n S.size = S2) (GS : CB w 48 #[.string SH] (.bool false)) :
  Calls Tryz.prog 241 #[.string S] w fun e w' => e = .returned (.tuple #[ref0, .bool false]) ∧ Below w.heap.size w w' := by
 have f1 : ¬ (j : Int) < 0 := by omega
 have f2 : (0 : Int) ≤ j := by omega
 have f3 : (j : Int) ≤ S.size := by omega
 have f4 : (0 : Int) ≤ n := by omega
 have f5 : (n : Int) ≤ ↑S.size := by omega
 have f6 : IntKind.i64.wrap (n : Int) = n := wrap_i64 (by omega) (by omega)
 have hq' : (¬ (0 : Int) < S.size) ∨ ∃ hz : 0 < S.size, (0 : Int) < S.size ∧ ((S[0].toNat : Int) == 91) = false := by
  rcases hq with h | ⟨h, g⟩
  ·exact .inl (by omega)
  ·exact .inr ⟨h, by omega, g⟩
 clear hq
 have HB0 : Hid (Below w.heap.size w (w.alloc ref0O)) := bel_alloc (Below.refl _ _) _
 have Z0 : Hid ((w.alloc ref0O).heap[w.heap.size]? = some ref0O) := heap_alloc_new w _
 rcases hq' with h | ⟨hz, h, h'⟩
 ·exfalso
  omega
 ·go_enter Tryz.func241, Tryz.ntmps241
  go_wp2_with (go_at_call 269; refine (IY _).mono ?_; rintro e w' ⟨rfl, hw⟩; obtain rfl := hw.symm; clear hw)
  refine (GS _ HB0.out).mono ?_
  rintro e w3 ⟨rfl, hb⟩
  have Z3 : Hid (w3.heap[w.heap.size]? = some ref0O) := (hb.block _ (lt_of Z0.out)).trans Z0.out
  have HB3 : Hid (Below w.heap.size w w3) := bel_step HB0.out hb
  clear hb GS
  obtain ⟨d0, d1, d2, d3, d4, d5⟩ := r_cells Z3.out
  obtain ⟨e0, e1, e2, e3, e4, e5⟩ := r_free Z3.out
  go_wp2
  exact bodyPost_ret (res_ref rfl rfl (set6 Z3.out) rfl) rfl ⟨rfl, bel_set6 HB3.out (Nat.le_refl _)⟩
theorem rr_sheet_no (hq : (S.size = 0) ∨ ∃ hz : 0 < S.size, ((S[0].toNat : Int) == 91) = false) {j n : Nat} (IY : CS 269 #[.string S, .int .u8 33] (.int .i64 j)) (j2 : j ≤ S.size) (hn : (j : Int) + 1 = n) (n2 : n ≤ S.size) (nx : S.size ≤ 9223372036854775807) (hH : S.extract 0 j = SH) (hX : S.extract n S.size = S2) (GS : CB w 48 #[.string SH] (.bool true)) {b s : ByteArray} {r c : Int} {fr fc : Bool} (PC : CB w 242 #[.string S2] (.tuple #[refV b s r c fr fc, .bool false])) :
  Calls Tryz.prog 241 #[.string S] w fun e w' => e = .returned (.tuple #[ref0, .bool false]) ∧ Below w.heap.size w w' := by
 have f1 : ¬ (j : Int) < 0 := by omega
 have f2 : (0 : Int) ≤ j := by omega
 have f3 : (j : Int) ≤ S.size := by omega
 have f4 : (0 : Int) ≤ n := by omega
 have f5 : (n : Int) ≤ ↑S.size := by omega
 have f6 : IntKind.i64.wrap (n : Int) = n := wrap_i64 (by omega) (by omega)
 have hq' : (¬ (0 : Int) < S.size) ∨ ∃ hz : 0 < S.size, (0 : Int) < S.size ∧ ((S[0].toNat : Int) == 91) = false := by
  rcases hq with h | ⟨h, g⟩
  ·exact .inl (by omega)
  ·exact .inr ⟨h, by omega, g⟩
 clear hq
 have HB0 : Hid (Below w.heap.size w (w.alloc ref0O)) := bel_alloc (Below.refl _ _) _
 have Z0 : Hid ((w.alloc ref0O).heap[w.heap.size]? = some ref0O) := heap_alloc_new w _
 rcases hq' with h | ⟨hz, h, h'⟩
 ·exfalso
  omega
 ·go_enter Tryz.func241, Tryz.ntmps241
  go_wp2_with (go_at_call 269; refine (IY _).mono ?_; rintro e w' ⟨rfl, hw⟩; obtain rfl := hw.symm; clear hw)
  refine (GS _ HB0.out).mono ?_
  rintro e w3 ⟨rfl, hb⟩
  have Z3 : Hid (w3.heap[w.heap.size]? = some ref0O) := (hb.block _ (lt_of Z0.out)).trans Z0.out
  have HB3 : Hid (Below w.heap.size w w3) := bel_step HB0.out hb
  clear hb GS
  go_wp2_with fail
  go_region
  have Z3d : Hid (w3.drew.heap[w.heap.size]? = some ref0O) := Z3.out
  have HB3d : Hid (Below w.heap.size w w3.drew) := HB3.out.drew
  clear Z3 HB3
  generalize w3.drew = v3 at *
  go_wp2_with fail
  refine (PC _ HB3d.out).mono ?_
  rintro e w4 ⟨rfl, hb⟩
  have z4 := (hb.block _ (lt_of Z3d.out)).trans Z3d.out
  have HB4 : Hid (Below w.heap.size w (w4.alloc (refO b s r c fr fc))) := bel_alloc (bel_step HB3d.out hb) _
  have Z4 : Hid ((w4.alloc (refO b s r c fr fc)).heap[w.heap.size]? = some ref0O) := kept_new z4 _
  obtain ⟨d0, d1, d2, d3, d4, d5⟩ := r_cells Z4.out
  obtain ⟨e0, e1, e2, e3, e4, e5⟩ := r_free Z4.out
  clear z4 hb
  go_wp2
  exact bodyPost_ret (res_ref rfl rfl (set6 Z4.out) rfl) rfl ⟨rfl, bel_set6 HB4.out (Nat.le_refl _)⟩
theorem rr_sheet_yes (hq : (S.size = 0) ∨ ∃ hz : 0 < S.size, ((S[0].toNat : Int) == 91) = false) {j n : Nat} (IY : CS 269 #[.string S, .int .u8 33] (.int .i64 j)) (j2 : j ≤ S.size) (hn : (j : Int) + 1 = n) (n2 : n ≤ S.size) (nx : S.size ≤ 9223372036854775807) (hH : S.extract 0 j = SH) (hX : S.extract n S.size = S2) (GS : CB w 48 #[.string SH] (.bool true)) {b s : ByteArray} {r c : Int} {fr fc : Bool} (PC : CB w 242 #[.string S2] (.tuple #[refV b s r c fr fc, .bool true])) :
  Calls Tryz.prog 241 #[.string S] w fun e w' => e = .returned (.tuple #[refV ⟨#[]⟩ SH r c fr fc, .bool true]) ∧ Below w.heap.size w w' := by
 have f1 : ¬ (j : Int) < 0 := by omega
 have f2 : (0 : Int) ≤ j := by omega
 have f3 : (j : Int) ≤ S.size := by omega
 have f4 : (0 : Int) ≤ n := by omega
 have f5 : (n : Int) ≤ ↑S.size := by omega
 have f6 : IntKind.i64.wrap (n : Int) = n := wrap_i64 (by omega) (by omega)
 have hq' : (¬ (0 : Int) < S.size) ∨ ∃ hz : 0 < S.size, (0 : Int) < S.size ∧ ((S[0].toNat : Int) == 91) = false := by
  rcases hq with h | ⟨h, g⟩
  ·exact .inl (by omega)
  ·exact .inr ⟨h, by omega, g⟩
 clear hq
 have HB0 : Hid (Below w.heap.size w (w.alloc ref0O)) := bel_alloc (Below.refl _ _) _
 have Z0 : Hid ((w.alloc ref0O).heap[w.heap.size]? = some ref0O) := heap_alloc_new w _
 rcases hq' with h | ⟨hz, h, h'⟩
 ·exfalso
  omega
 ·go_enter Tryz.func241, Tryz.ntmps241
  go_wp2_with (go_at_call 269; refine (IY _).mono ?_; rintro e w' ⟨rfl, hw⟩; obtain rfl := hw.symm; clear hw)
  refine (GS _ HB0.out).mono ?_
  rintro e w3 ⟨rfl, hb⟩
  have Z3 : Hid (w3.heap[w.heap.size]? = some ref0O) := (hb.block _ (lt_of Z0.out)).trans Z0.out
  have HB3 : Hid (Below w.heap.size w w3) := bel_step HB0.out hb
  clear hb GS
  go_wp2_with fail
  go_region
  have Z3d : Hid (w3.drew.heap[w.heap.size]? = some ref0O) := Z3.out
  have HB3d : Hid (Below w.heap.size w w3.drew) := HB3.out.drew
  clear Z3 HB3
  generalize w3.drew = v3 at *
  go_wp2_with fail
  refine (PC _ HB3d.out).mono ?_
  rintro e w4 ⟨rfl, hb⟩
  have z4 := (hb.block _ (lt_of Z3d.out)).trans Z3d.out
  have HB4 : Hid (Below w.heap.size w (w4.alloc (refO ⟨#[]⟩ SH r c fr fc))) := bel_alloc (bel_step HB3d.out hb) _
  have Z4 : Hid ((w4.alloc (refO ⟨#[]⟩ SH r c fr fc)).heap[w.heap.size]? = some ref0O) := kept_new z4 _
  obtain ⟨d0, d1, d2, d3, d4, d5⟩ := r_cells Z4.out
  obtain ⟨e0, e1, e2, e3, e4, e5⟩ := r_free Z4.out
  clear z4 hb
  go_wp2
  exact bodyPost_ret (res_ref rfl rfl (set6 Z4.out) rfl) rfl ⟨rfl, bel_set6 HB4.out (Nat.le_refl _)⟩
end
section
variable {S B S1 SH S2 : ByteArray} {w : World}
theorem rr_cell_no (hq : (S.size = 0) ∨ ∃ hz : 0 < S.size, ((S[0].toNat : Int) == 91) = false) (IY : CS 269 #[.string S, .int .u8 33] (.int .i64 (-1))) {b s : ByteArray} {r c : Int} {fr fc : Bool} (PC : CB w 242 #[.string S] (.tuple #[refV b s r c fr fc, .bool false])) :
  Calls Tryz.prog 241 #[.string S] w fun e w' => e = .returned (.tuple #[ref0, .bool false]) ∧ Below w.heap.size w w' := by
 have hq' : (¬ (0 : Int) < S.size) ∨ ∃ hz : 0 < S.size, (0 : Int) < S.size ∧ ((S[0].toNat : Int) == 91) = false := by
  rcases hq with h | ⟨h, g⟩
  ·exact .inl (by omega)
  ·exact .inr ⟨h, by omega, g⟩
 clear hq
 have HB0 : Hid (Below w.heap.size w (w.alloc ref0O)) := bel_alloc (Below.refl _ _) _
 have Z0 : Hid ((w.alloc ref0O).heap[w.heap.size]? = some ref0O) := heap_alloc_new w _
 rcases hq' with h | ⟨hz, h, h'⟩
 ·go_enter Tryz.func241, Tryz.ntmps241
  go_wp2_with (go_at_call 269; refine (IY _).mono ?_; rintro e w' ⟨rfl, hw⟩; obtain rfl := hw.symm; clear hw)
  refine (PC _ HB0.out).mono ?_
  rintro e w4 ⟨rfl, hb⟩
  have z4 := (hb.block _ (lt_of Z0.out)).trans Z0.out
  have HB4 : Hid (Below w.heap.size w (w4.alloc (refO b s r c fr fc))) := bel_alloc (bel_step HB0.out hb) _
  have Z4 : Hid ((w4.alloc (refO b s r c fr fc)).heap[w.heap.size]? = some ref0O) := kept_new z4 _
  obtain ⟨d0, d1, d2, d3, d4, d5⟩ := r_cells Z4.out
  obtain ⟨e0, e1, e2, e3, e4, e5⟩ := r_free Z4.out
  clear z4 hb
  go_wp2
  exact bodyPost_ret (res_ref rfl rfl (set6 Z4.out) rfl) rfl ⟨rfl, bel_set6 HB4.out (Nat.le_refl _)⟩
 ·go_enter Tryz.func241, Tryz.ntmps241
  go_wp2_with (go_at_call 269; refine (IY _).mono ?_; rintro e w' ⟨rfl, hw⟩; obtain rfl := hw.symm; clear hw)
  refine (PC _ HB0.out).mono ?_
  rintro e w4 ⟨rfl, hb⟩
  have z4 := (hb.block _ (lt_of Z0.out)).trans Z0.out
  have HB4 : Hid (Below w.heap.size w (w4.alloc (refO b s r c fr fc))) := bel_alloc (bel_step HB0.out hb) _
  have Z4 : Hid ((w4.alloc (refO b s r c fr fc)).heap[w.heap.size]? = some ref0O) := kept_new z4 _
  obtain ⟨d0, d1, d2, d3, d4, d5⟩ := r_cells Z4.out
  obtain ⟨e0, e1, e2, e3, e4, e5⟩ := r_free Z4.out
  clear z4 hb
  go_wp2
  exact bodyPost_ret (res_ref rfl rfl (set6 Z4.out) rfl) rfl ⟨rfl, bel_set6 HB4.out (Nat.le_refl _)⟩
theorem rr_cell_yes (hq : (S.size = 0) ∨ ∃ hz : 0 < S.size, ((S[0].toNat : Int) == 91) = false) (IY : CS 269 #[.string S, .int .u8 33] (.int .i64 (-1))) {b s : ByteArray} {r c : Int} {fr fc : Bool} (PC : CB w 242 #[.string S] (.tuple #[refV b s r c fr fc, .bool true])) :
  Calls Tryz.prog 241 #[.string S] w fun e w' => e = .returned (.tuple #[refV ⟨#[]⟩ ⟨#[]⟩ r c fr fc, .bool true]) ∧ Below w.heap.size w w' := by
 have hq' : (¬ (0 : Int) < S.size) ∨ ∃ hz : 0 < S.size, (0 : Int) < S.size ∧ ((S[0].toNat : Int) == 91) = false := by
  rcases hq with h | ⟨h, g⟩
  ·exact .inl (by omega)
  ·exact .inr ⟨h, by omega, g⟩
 clear hq
 have HB0 : Hid (Below w.heap.size w (w.alloc ref0O)) := bel_alloc (Below.refl _ _) _
 have Z0 : Hid ((w.alloc ref0O).heap[w.heap.size]? = some ref0O) := heap_alloc_new w _
 rcases hq' with h | ⟨hz, h, h'⟩
 ·go_enter Tryz.func241, Tryz.ntmps241
  go_wp2_with (go_at_call 269; refine (IY _).mono ?_; rintro e w' ⟨rfl, hw⟩; obtain rfl := hw.symm; clear hw)
  refine (PC _ HB0.out).mono ?_
  rintro e w4 ⟨rfl, hb⟩
  have z4 := (hb.block _ (lt_of Z0.out)).trans Z0.out
  have HB4 : Hid (Below w.heap.size w (w4.alloc (refO ⟨#[]⟩ ⟨#[]⟩ r c fr fc))) := bel_alloc (bel_step HB0.out hb) _
  have Z4 : Hid ((w4.alloc (refO ⟨#[]⟩ ⟨#[]⟩ r c fr fc)).heap[w.heap.size]? = some ref0O) := kept_new z4 _
  obtain ⟨d0, d1, d2, d3, d4, d5⟩ := r_cells Z4.out
  obtain ⟨e0, e1, e2, e3, e4, e5⟩ := r_free Z4.out
  clear z4 hb
  go_wp2
  exact bodyPost_ret (res_ref rfl rfl (set6 Z4.out) rfl) rfl ⟨rfl, bel_set6 HB4.out (Nat.le_refl _)⟩
 ·go_enter Tryz.func241, Tryz.ntmps241
  go_wp2_with (go_at_call 269; refine (IY _).mono ?_; rintro e w' ⟨rfl, hw⟩; obtain rfl := hw.symm; clear hw)
  refine (PC _ HB0.out).mono ?_
  rintro e w4 ⟨rfl, hb⟩
  have z4 := (hb.block _ (lt_of Z0.out)).trans Z0.out
  have HB4 : Hid (Below w.heap.size w (w4.alloc (refO ⟨#[]⟩ ⟨#[]⟩ r c fr fc))) := bel_alloc (bel_step HB0.out hb) _
  have Z4 : Hid ((w4.alloc (refO ⟨#[]⟩ ⟨#[]⟩ r c fr fc)).heap[w.heap.size]? = some ref0O) := kept_new z4 _
  obtain ⟨d0, d1, d2, d3, d4, d5⟩ := r_cells Z4.out
  obtain ⟨e0, e1, e2, e3, e4, e5⟩ := r_free Z4.out
  clear z4 hb
  go_wp2
  exact bodyPost_ret (res_ref rfl rfl (set6 Z4.out) rfl) rfl ⟨rfl, bel_set6 HB4.out (Nat.le_refl _)⟩
end
end Go.Proofs.YtnibldnfbikipaaGreatDoor
