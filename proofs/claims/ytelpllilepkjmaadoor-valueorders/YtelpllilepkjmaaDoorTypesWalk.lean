/- The walk of the law ValueTypes. -/
import Derived.Test.YtelpllilepkjmaaDoorTellsWalk
import Derived.Test.YtelpllilepkjmaaDoorVCharsR
namespace Go.Proofs.YtelpllilepkjmaaDoor
open Go.RowKit
set_option maxRecDepth 100000
set_option linter.unusedVariables false
set_option linter.unusedSimpArgs false
/-- A call that tells a row of texts. -/
def RT (W : World) (f : Nat) (args : Array Value) (l : List ByteArray) : Prop := ∀ u, Below W.heap.size W u → Calls Tryd.prog f args u fun e w' => ∃ v, e = .returned v ∧ Sts w' v l ∧ Below u.heap.size u w'

set_option maxHeartbeats 4000000 in
theorem types_core {n k1 n1 k2 n2 k3 n3 k4 n4 : Int} {s s1 s2 s3 s4 X Y : ByteArray} {ok : Bool} {l : List ByteArray} {w : World} (hs : s.size ≤ 5000) (hl : l.length ≤ 5000)
    (A1 : RC w 19 #[.string s] (.agg #[.int .i64 k1, .int .i64 n1, .string s1]))
    (A2 : RC w 20 #[.string s] (.agg #[.int .i64 k1, .int .i64 n1, .string s1]))
    (B1 : RC w 21 #[.string s] (.string X))
    (B2 : RC w 22 #[.string s] (.string X))
    (C1 : RC w 23 #[.string s] (.string Y))
    (C2 : RC w 24 #[.string s] (.string Y))
    (H1 : RT w 26 #[.string s] l)
    (H2 : RT w 27 #[.string s] l)
    (D1 : RC w 28 #[.string s] (.agg #[.int .i64 k2, .int .i64 n2, .string s2]))
    (D2 : RC w 29 #[.string s] (.agg #[.int .i64 k2, .int .i64 n2, .string s2]))
    (E1 : RC w 30 #[.int .i64 n] (.agg #[.int .i64 k3, .int .i64 n3, .string s3]))
    (E2 : RC w 31 #[.int .i64 n] (.agg #[.int .i64 k3, .int .i64 n3, .string s3]))
    (F1 : RC w 32 #[.int .i64 n, .bool ok] (.agg #[.int .i64 k4, .int .i64 n4, .string s4]))
    (F2 : RC w 33 #[.int .i64 n, .bool ok] (.agg #[.int .i64 k4, .int .i64 n4, .string s4]))
    (LV : RC w 18 #[] (.bool true))
    : Calls Tryd.prog 4 #[.string s, .int .i64 n, .bool ok] w fun e w' => e = .returned (.bool true) ∧ Below w.heap.size w w' := by
  have HB : Hid (Below w.heap.size w w) := Below.refl _ _
  have hs' : ¬ 5000 < (s.size : Int) := by omega
  go_enter Tryd.func4, Tryd.ntmps4
  go_wp2_with fail
  refine (A1 _ HB.out).mono ?_
  rintro e w1 ⟨rfl, hb⟩
  replace HB : Hid (Below w.heap.size w w1) := hb
  clear hb
  go_wp2_with fail
  refine (A2 _ HB.out).mono ?_
  rintro e w2 ⟨rfl, hb⟩
  replace HB : Hid (Below w.heap.size w w2) := hb
  clear hb
  go_wp2_with fail
  refine (B1 _ HB.out).mono ?_
  rintro e w3 ⟨rfl, hb⟩
  replace HB : Hid (Below w.heap.size w w3) := hb
  clear hb
  go_wp2_with fail
  refine (B2 _ HB.out).mono ?_
  rintro e w4 ⟨rfl, hb⟩
  replace HB : Hid (Below w.heap.size w w4) := hb
  clear hb
  go_wp2_with fail
  refine (C1 _ HB.out).mono ?_
  rintro e w5 ⟨rfl, hb⟩
  replace HB : Hid (Below w.heap.size w w5) := hb
  clear hb
  go_wp2_with fail
  refine (C2 _ HB.out).mono ?_
  rintro e w6 ⟨rfl, hb⟩
  replace HB : Hid (Below w.heap.size w w6) := hb
  clear hb
  go_wp2_with fail
  refine (H1 _ HB.out).mono ?_
  rintro e w7 ⟨v1, rfl, hv1, hb⟩
  have HV1 : Hid (Sts w7 v1 l) := hv1
  replace HB : Hid (Below w.heap.size w w7) := bel_step HB.out hb
  clear hb hv1
  go_wp2_with fail
  refine (H2 _ HB.out).mono ?_
  rintro e w8 ⟨v2, rfl, hv2, hb⟩
  have HV2 : Hid (Sts w8 v2 l) := hv2
  replace HV1 : Hid (Sts w8 v1 l) := HV1.out.below hb
  replace HB : Hid (Below w.heap.size w w8) := bel_step HB.out hb
  clear hb hv2
  go_wp2_with fail
  refine (texts_any HV1.out HV2.out (by omega)).mono ?_
  rintro e w9 ⟨rfl, hb⟩
  replace HB : Hid (Below w.heap.size w w9) := bel_step HB.out hb
  clear hb HV1 HV2
  go_wp2_with fail
  refine (D1 _ HB.out).mono ?_
  rintro e w10 ⟨rfl, hb⟩
  replace HB : Hid (Below w.heap.size w w10) := hb
  clear hb
  go_wp2_with fail
  refine (D2 _ HB.out).mono ?_
  rintro e w11 ⟨rfl, hb⟩
  replace HB : Hid (Below w.heap.size w w11) := hb
  clear hb
  go_wp2_with fail
  refine (E1 _ HB.out).mono ?_
  rintro e w12 ⟨rfl, hb⟩
  replace HB : Hid (Below w.heap.size w w12) := hb
  clear hb
  go_wp2_with fail
  refine (E2 _ HB.out).mono ?_
  rintro e w13 ⟨rfl, hb⟩
  replace HB : Hid (Below w.heap.size w w13) := hb
  clear hb
  go_wp2_with fail
  refine (F1 _ HB.out).mono ?_
  rintro e w14 ⟨rfl, hb⟩
  replace HB : Hid (Below w.heap.size w w14) := hb
  clear hb
  go_wp2_with fail
  refine (F2 _ HB.out).mono ?_
  rintro e w15 ⟨rfl, hb⟩
  replace HB : Hid (Below w.heap.size w w15) := hb
  clear hb
  go_wp2_with fail
  refine (LV _ HB.out).mono ?_
  rintro e w16 ⟨rfl, hb⟩
  replace HB : Hid (Below w.heap.size w w16) := hb
  clear hb
  go_wp2
  go_ret
  exact ⟨rfl, HB.out⟩
set_option maxHeartbeats 1000000 in
theorem types_long {n : Int} {s : ByteArray} {ok : Bool} {w : World} (hs : 5000 < s.size) (LV : RC w 18 #[] (.bool true)) : Calls Tryd.prog 4 #[.string s, .int .i64 n, .bool ok] w fun e w' => e = .returned (.bool true) ∧ Below w.heap.size w w' := by
  have HB : Hid (Below w.heap.size w w) := Below.refl _ _
  have hs' : 5000 < (s.size : Int) := by omega
  go_enter Tryd.func4, Tryd.ntmps4
  go_wp2_with fail
  refine (LV _ HB.out).mono ?_
  rintro e w1 ⟨rfl, hb⟩
  replace HB : Hid (Below w.heap.size w w1) := hb
  clear hb
  go_wp2
  go_ret
  exact ⟨rfl, HB.out⟩
theorem strV (s : ByteArray) : ∃ k n t, (if lenB s = true then Value.agg #[.int .i64 2, .int .i64 0, .string s] else .agg #[.int .i64 4, .int .i64 2, .string ⟨#[]⟩]) = .agg #[.int .i64 k, .int .i64 n, .string t] := by
  split <;> exact ⟨_, _, _, rfl⟩
theorem ofVV (n : Int) (ok : Bool) : ∃ k m t, ofV n ok = .agg #[.int .i64 k, .int .i64 m, .string t] := by
  unfold ofV
  split <;> exact ⟨_, _, _, rfl⟩
theorem types_walk (s : ByteArray) (n : Int) (ok : Bool) (hs : s.size ≤ 9223372036854775807) (w : World) (T : Tabs w) :
    Calls Tryd.prog 4 #[.string s, .int .i64 n, .bool ok] w fun e w' => e = .returned (.bool true) ∧ Below w.heap.size w w' := by
  have TW : ∀ u, Below w.heap.size w u → Tabs u := fun u hu => T.below hu
  have LV : RC w 18 #[] (.bool true) := RC.of fun u hu => lives_any u (TW u hu)
  by_cases h5 : s.size ≤ 5000
  · obtain ⟨k2, n2, s2, e2⟩ := strV s
    obtain ⟨k4, n4, s4, e4⟩ := ofVV n ok
    have D1 : RC w 28 #[.string s] _ := RC.of fun u _ => str_any s u
    have D2 : RC w 29 #[.string s] _ := RC.of fun u _ => rstr_any s u
    have F1 : RC w 32 #[.int .i64 n, .bool ok] _ := RC.of fun u _ => of_any n ok u
    have F2 : RC w 33 #[.int .i64 n, .bool ok] _ := RC.of fun u _ => rof_any n ok u
    rw [e2] at D1 D2
    rw [e4] at F1 F2
    have hl : (chars s).length ≤ 5000 := by
      have := from_len s s.size 0 (by omega)
      rw [← chars_from] at this
      omega
    exact types_core h5 hl (RC.of fun u hu => typed_any s hs u (TW u hu)) (RC.of fun u _ => rtyped_any s hs u) (RC.of fun u _ => up_any s hs u) (RC.of fun u _ => rup_any s hs u) (RC.of fun u _ => low_any s hs u) (RC.of fun u _ => rlow_any s hs u)
      (fun u _ => chars_any s (by omega) u) (fun u _ => rchars_any s (by omega) u) D1 D2 (RC.of fun u _ => bad_any n u) (RC.of fun u _ => rbad_any n u) F1 F2 LV
  · exact types_long (by omega) LV

end Go.Proofs.YtelpllilepkjmaaDoor
