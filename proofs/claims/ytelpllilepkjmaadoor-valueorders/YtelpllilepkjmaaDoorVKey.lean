/- The order of values: keys, and how they are held against each other. -/
import Derived.Test.YtelpllilepkjmaaDoorVTyped
namespace Go.Proofs.YtelpllilepkjmaaDoor
open Go.RowKit
set_option maxRecDepth 100000
set_option linter.unusedVariables false
set_option linter.unusedSimpArgs false
theorem rescell70 {w w1 : World} {a b c : Value} (hb : Below (w.alloc (.cells #[a, b, c] 70)).heap.size (w.alloc (.cells #[a, b, c] 70)) w1) :
    (w1.cell? ⟨w.heap.size, 0, none⟩ = some a ∧ w1.cell? ⟨w.heap.size, 1, none⟩ = some b ∧ w1.cell? ⟨w.heap.size, 2, none⟩ = some c) ∧
    (w1.frozen? ⟨w.heap.size, 0, none⟩ = false ∧ w1.frozen? ⟨w.heap.size, 1, none⟩ = false ∧ w1.frozen? ⟨w.heap.size, 2, none⟩ = false) := by
  have h0 : w1.heap[w.heap.size]? = some (.cells #[a, b, c] 70 (0, 0)) := by
    rw [hb.block _ (by simp)]
    exact heap_alloc_new w _
  exact ⟨by simp [World.cell?, h0], by simp [World.frozen?, h0]⟩
abbrev key (r n : Int) (s : ByteArray) : Value := .agg #[.int .i64 r, .int .i64 n, .string s]

set_option maxHeartbeats 1000000 in
theorem key_blank  (w : World) : Calls Tryd.prog 55 #[.iface 46 (.agg #[])] w fun e w' => e = .returned (key 0 0 ⟨#[]⟩) ∧ Below w.heap.size w w' := by
  have ta47 := ta_46_47
  have ta48 := ta_46_48
  have ta51 := ta_46_51
  have ta53 := ta_46_53
  have ta76 := ta_46_76
  go_enter Tryd.func55, Tryd.ntmps55
  go_wp2
  exact bodyPost_ret (v := key 0 0 ⟨#[]⟩) (by simp [results, Tryd.results55, go_sem]) rfl ⟨rfl, (Below.refl _ _).alloc (Nat.le_refl _) _⟩
set_option maxHeartbeats 1000000 in
theorem key_num (n : Int) (w : World) : Calls Tryd.prog 55 #[.iface 47 (.int .i64 n)] w fun e w' => e = .returned (key 1 n ⟨#[]⟩) ∧ Below w.heap.size w w' := by
  have ta47 := ta_47_47
  have ta48 := ta_47_48
  have ta51 := ta_47_51
  have ta53 := ta_47_53
  have ta76 := ta_47_76
  go_enter Tryd.func55, Tryd.ntmps55
  go_wp2
  exact bodyPost_ret (v := key 1 n ⟨#[]⟩) (by simp [results, Tryd.results55, go_sem]) rfl ⟨rfl, (Below.refl _ _).alloc (Nat.le_refl _) _⟩
set_option maxHeartbeats 1000000 in
theorem key_bad (n : Int) (w : World) : Calls Tryd.prog 55 #[.iface 53 (.int .i64 n)] w fun e w' => e = .returned (key 4 n ⟨#[]⟩) ∧ Below w.heap.size w w' := by
  have ta47 := ta_53_47
  have ta48 := ta_53_48
  have ta51 := ta_53_51
  have ta53 := ta_53_53
  have ta76 := ta_53_76
  go_enter Tryd.func55, Tryd.ntmps55
  go_wp2
  exact bodyPost_ret (v := key 4 n ⟨#[]⟩) (by simp [results, Tryd.results55, go_sem]) rfl ⟨rfl, (Below.refl _ _).alloc (Nat.le_refl _) _⟩
set_option maxHeartbeats 1000000 in
theorem key_none (n : Int) (w : World) : Calls Tryd.prog 55 #[.iface 76 (.int .i64 n)] w fun e w' => e = .returned (key 4 n ⟨#[]⟩) ∧ Below w.heap.size w w' := by
  have ta47 := ta_76_47
  have ta48 := ta_76_48
  have ta51 := ta_76_51
  have ta53 := ta_76_53
  have ta76 := ta_76_76
  go_enter Tryd.func55, Tryd.ntmps55
  go_wp2
  exact bodyPost_ret (v := key 4 n ⟨#[]⟩) (by simp [results, Tryd.results55, go_sem]) rfl ⟨rfl, (Below.refl _ _).alloc (Nat.le_refl _) _⟩
set_option maxHeartbeats 1000000 in
theorem key_bool_true (w : World) : Calls Tryd.prog 55 #[.iface 51 (.bool true)] w fun e w' => e = .returned (key 3 1 ⟨#[]⟩) ∧ Below w.heap.size w w' := by
  have ta47 := ta_51_47
  have ta48 := ta_51_48
  have ta51 := ta_51_51
  have ta53 := ta_51_53
  have ta76 := ta_51_76
  go_enter Tryd.func55, Tryd.ntmps55
  go_wp2_with (go_at_call 37; refine (tcount_any _ _).mono ?_; rintro e w' ⟨rfl, hw⟩; obtain rfl := hw.symm; clear hw)
  exact bodyPost_ret (v := key 3 1 ⟨#[]⟩) (by simp [results, Tryd.results55, go_sem]) rfl ⟨rfl, (Below.refl _ _).alloc (Nat.le_refl _) _⟩
set_option maxHeartbeats 1000000 in
theorem key_bool_false (w : World) : Calls Tryd.prog 55 #[.iface 51 (.bool false)] w fun e w' => e = .returned (key 3 0 ⟨#[]⟩) ∧ Below w.heap.size w w' := by
  have ta47 := ta_51_47
  have ta48 := ta_51_48
  have ta51 := ta_51_51
  have ta53 := ta_51_53
  have ta76 := ta_51_76
  go_enter Tryd.func55, Tryd.ntmps55
  go_wp2_with (go_at_call 37; refine (tcount_any _ _).mono ?_; rintro e w' ⟨rfl, hw⟩; obtain rfl := hw.symm; clear hw)
  exact bodyPost_ret (v := key 3 0 ⟨#[]⟩) (by simp [results, Tryd.results55, go_sem]) rfl ⟨rfl, (Below.refl _ _).alloc (Nat.le_refl _) _⟩
set_option maxHeartbeats 1000000 in
theorem key_str (s X : ByteArray) (P : ∀ u : World, Calls Tryd.prog 21 #[.string s] u fun e w' => e = .returned (.string X) ∧ Below u.heap.size u w') (w : World) : Calls Tryd.prog 55 #[.iface 48 (.string s)] w fun e w' => e = .returned (key 2 0 X) ∧ Below w.heap.size w w' := by
  have ta47 := ta_48_47
  have ta48 := ta_48_48
  have ta51 := ta_48_51
  have ta53 := ta_48_53
  have ta76 := ta_48_76
  go_enter Tryd.func55, Tryd.ntmps55
  go_wp2_with (first | (go_at_call 21; refine (P _).mono ?_; rintro e w1 ⟨rfl, hb⟩; have HB : Hid (Below w.heap.size w w1) := bel1 hb; obtain ⟨⟨c0, c1, c2⟩, f0, f1, f2⟩ := rescell70 hb; clear hb))
  exact bodyPost_ret (v := key 2 0 X) (by simp [results, Tryd.results55, go_sem, c0, c1, c2]) rfl ⟨rfl, set3 HB.out⟩
theorem below3 (w : World) (a b c : Obj) : Below w.heap.size w (((w.alloc a).alloc b).alloc c) := bel_alloc (bel_alloc ((Below.refl _ _).alloc (Nat.le_refl _) _) _) _
/-- A Blank's key beside another one. -/
def besF (x y : Int × Int × ByteArray) : Int × Int × ByteArray := if x.1 = 0 ∧ y.1 ≠ 4 then (y.1, 0, ⟨#[]⟩) else x
set_option maxHeartbeats 1000000 in
theorem bes_yes (b n2 : Int) (n1 : Int) (s1 s2 : ByteArray) (hb : (b != 4) = true) (w : World) : Calls Tryd.prog 56 #[key 0 n1 s1, key b n2 s2] w fun e w' => e = .returned (key b 0 ⟨#[]⟩) ∧ Below w.heap.size w w' := by
  go_enter Tryd.func56, Tryd.ntmps56
  go_wp2
  exact bodyPost_ret (v := key b 0 ⟨#[]⟩) (by simp [results, Tryd.results56, go_sem]) rfl ⟨rfl, below3 _ _ _ _⟩
set_option maxHeartbeats 1000000 in
theorem bes_four (b n2 : Int) (n1 : Int) (s1 s2 : ByteArray) (hb : (b != 4) = false) (w : World) : Calls Tryd.prog 56 #[key 0 n1 s1, key b n2 s2] w fun e w' => e = .returned (key 0 n1 s1) ∧ Below w.heap.size w w' := by
  go_enter Tryd.func56, Tryd.ntmps56
  go_wp2
  exact bodyPost_ret (v := key 0 n1 s1) (by simp [results, Tryd.results56, go_sem]) rfl ⟨rfl, below3 _ _ _ _⟩
set_option maxHeartbeats 1000000 in
theorem bes_no (a b n2 : Int) (n1 : Int) (s1 s2 : ByteArray) (ha : (a == 0) = false) (w : World) : Calls Tryd.prog 56 #[key a n1 s1, key b n2 s2] w fun e w' => e = .returned (key a n1 s1) ∧ Below w.heap.size w w' := by
  go_enter Tryd.func56, Tryd.ntmps56
  go_wp2
  exact bodyPost_ret (v := key a n1 s1) (by simp [results, Tryd.results56, go_sem]) rfl ⟨rfl, below3 _ _ _ _⟩
theorem bes_any (x y : Int × Int × ByteArray) (w : World) : Calls Tryd.prog 56 #[key x.1 x.2.1 x.2.2, key y.1 y.2.1 y.2.2] w fun e w' => e = .returned (key (besF x y).1 (besF x y).2.1 (besF x y).2.2) ∧ Below w.heap.size w w' := by
  obtain ⟨a, n1, s1⟩ := x
  obtain ⟨b, n2, s2⟩ := y
  unfold besF
  by_cases h0 : a = 0
  · subst h0
    by_cases h4 : b = 4
    · rw [if_neg (by simp [h4])]
      exact bes_four b n2 n1 s1 s2 (by simpa using h4) w
    · rw [if_pos ⟨rfl, h4⟩]
      exact bes_yes b n2 n1 s1 s2 (by simpa using h4) w
  · rw [if_neg (by simp [h0])]
    exact bes_no a b n2 n1 s1 s2 (by simpa using h0) w
/-- A value's key. -/
def keyF (k n : Int) (s : ByteArray) : Int × Int × ByteArray :=
  if k = 0 then (0, 0, ⟨#[]⟩) else if k = 1 then (1, n, ⟨#[]⟩) else if k = 2 then (2, 0, ⟨(szF 97 65 s.data.toList).toArray⟩) else if k = 3 then (3, if (n != 0) = true then 1 else 0, ⟨#[]⟩) else (4, n, ⟨#[]⟩)
/-- A kind's value as kindOf tells it. -/
def kindV (k n : Int) (s : ByteArray) : Value :=
  if k = 0 then .iface 46 (.agg #[]) else if k = 1 then .iface 47 (.int .i64 n) else if k = 2 then .iface 48 (.string s) else if k = 3 then .iface 51 (.bool (n != 0)) else if k = 4 then .iface 53 (.int .i64 n) else .iface 76 (.int .i64 n)
theorem k_six (k : Int) : k = 0 ∨ k = 1 ∨ k = 2 ∨ k = 3 ∨ k = 4 ∨ (¬ k = 0 ∧ ¬ k = 1 ∧ ¬ k = 2 ∧ ¬ k = 3 ∧ ¬ k = 4) := by omega
theorem kind_any (k n : Int) (s : ByteArray) (w : World) : Calls Tryd.prog 35 #[.agg #[.int .i64 k, .int .i64 n, .string s]] w fun e w' => e = .returned (kindV k n s) ∧ Below w.heap.size w w' := by
  rcases k_six k with rfl | rfl | rfl | rfl | rfl | ⟨h0, h1, h2, h3, h4⟩
  · exact kind_blank n s w
  · exact kind_num n s w
  · exact kind_str n s w
  · exact kind_bool n s w
  · exact kind_bad n s w
  · have e : kindV k n s = .iface 76 (.int .i64 n) := by simp [kindV, h0, h1, h2, h3, h4]
    rw [e]
    exact kind_none k n s w (by simpa using h0) (by simpa using h1) (by simpa using h2) (by simpa using h3) (by simpa using h4)
theorem key_any (k n : Int) (s : ByteArray) (hs : s.size ≤ 9223372036854775807) (w : World) : Calls Tryd.prog 55 #[kindV k n s] w fun e w' => e = .returned (key (keyF k n s).1 (keyF k n s).2.1 (keyF k n s).2.2) ∧ Below w.heap.size w w' := by
  rcases k_six k with rfl | rfl | rfl | rfl | rfl | ⟨h0, h1, h2, h3, h4⟩
  · exact key_blank w
  · exact key_num n w
  · exact key_str s _ (fun u => up_any s hs u) w
  · show Calls Tryd.prog 55 #[.iface 51 (.bool (n != 0))] w fun e w' => e = .returned (key 3 (if (n != 0) = true then 1 else 0) ⟨#[]⟩) ∧ _
    cases (n != 0)
    · exact key_bool_false w
    · exact key_bool_true w
  · exact key_bad n w
  · have e : kindV k n s = .iface 76 (.int .i64 n) := by simp [kindV, h0, h1, h2, h3, h4]
    have e2 : keyF k n s = (4, n, ⟨#[]⟩) := by simp [keyF, h0, h1, h2, h3]
    rw [e, e2]
    exact key_none n w

end Go.Proofs.YtelpllilepkjmaaDoor
