/- The contracts of the reference's num (any reader), count and text. -/
import Derived.Test.YtcheikpmhdliiaaDoorRsNum
namespace Go.Proofs.YtcheikpmhdliiaaDoor
open Go.RowKit
set_option maxRecDepth 100000

theorem RS.cells {B : Nat} {w : World} {rb : Nat} {l : List UInt8} {wr : Bool} (h : RS B w rb l wr) : ∃ a c, w.heap[rb]? = some (.cells #[.slice a l.length c, .bool wr] 126 (0, 0)) ∧ Bts w (.slice a l.length c) l ∧ Low B (.slice a l.length c) l ∧ B ≤ rb := by
  obtain ⟨h0, v, h1, h2, h3⟩ := h
  obtain ⟨a, c, rfl, _, _⟩ := h2.slice
  exact ⟨a, c, h1, h2, h3, h0⟩

theorem rnum_nil {B : Nat} {w : World} {rb : Nat} {wr : Bool} (hB : B ≤ rb) (h1 : w.heap[rb]? = some (.cells #[.slice none 0 0, .bool wr] 126 (0, 0))) :
    Calls Tryd.prog 69 #[ptrOf rb] w fun e w' => TkR B w rb (Value.int .i64) (numR []) wr e w' := by
  obtain ⟨c0, f0, c1, f1⟩ := cells126 h1
  have HG : Hid _ := rs_gone hB h1
  clear hB h1
  go_enter Tryd.func69, Tryd.ntmps69
  go_wp2
  go_loop [12] (fun u12 => u12 = .int .i64 0) (fun _ => 0)
  case atStart => rfl
  case round =>
    subst hrel
    go_wp2
    go_ret
    exact ⟨0, [], true, rfl, HG.out.1, HG.out.2, .inr ⟨rfl, .inr rfl⟩, by simp⟩
theorem rnum_any {B : Nat} {w : World} {rb : Nat} {l : List UInt8} {wr : Bool} (h : RS B w rb l wr) (hl : l.length ≤ 1099511627776) :
    Calls Tryd.prog 69 #[ptrOf rb] w fun e w' => TkR B w rb (Value.int .i64) (numR l) wr e w' := by
  obtain ⟨h0, v, h1, h2, h3⟩ := h
  rcases h2 with ⟨rfl, rfl⟩ | ⟨a, cap, rfl, k2, k3, k4⟩
  · exact rnum_nil h0 h1
  · exact rnum_some h0 h1 k2 k3 k4 h3 hl

theorem countR_num {l : List UInt8} : countR l = match numR l with
    | some (x, r) => if x < 0 ∨ (r.length : Int) < x then none else some (x.toNat, r)
    | none => none := by
  unfold countR numR
  rcases numAux 0 0 l with _ | ⟨u, r⟩ <;> rfl

set_option maxHeartbeats 1000000 in
theorem rcount_any {B : Nat} {w : World} {rb : Nat} {l : List UInt8} {wr : Bool} (h : RS B w rb l wr) (hl : l.length ≤ 1099511627776) :
    Calls Tryd.prog 68 #[ptrOf rb] w fun e w' => TkR B w rb (fun n : Nat => Value.int .i64 (n : Int)) (countR l) wr e w' := by
  have C := rnum_any h hl
  clear h
  go_enter Tryd.func68, Tryd.ntmps68
  go_wp2_with fail
  refine C.mono ?_
  rintro e w1 ⟨x, l1, wr1, rfl, rs, g, sp, hl1⟩
  obtain ⟨a, c, h1, h2, h3, h4⟩ := rs.cells
  obtain ⟨c0, f0, c1, f1⟩ := cells126 h1
  by_cases hx : x < 0 ∨ (l1.length : Int) < x
  · have HW := rs_wrong h4 h1 h2 h3
    have HE : Hid (TkR B w rb (fun n : Nat => Value.int .i64 (n : Int)) (countR l) wr (.returned (.int .i64 0)) (w1.setCell ⟨rb, 1, none⟩ (.bool true))) := by
      refine ⟨0, l1, true, rfl, HW.1, grown_trans g HW.2, .inr ⟨rfl, ?_⟩, hl1⟩
      rcases sp with ⟨_, h5, h6⟩ | ⟨_, h5 | h5⟩
      · right
        rw [countR_num, h6]
        simp only
        rw [if_pos hx]
      · exact .inl h5
      · right
        rw [countR_num, h5]
    clear C rs g sp h1 h2 h3 h4 HW
    by_cases h0 : x < 0
    · clear hx
      go_wp2
      go_ret
      exact HE.out
    · have h5 : (l1.length : Int) < x := by omega
      clear hx
      go_wp2
      go_ret
      exact HE.out
  · obtain ⟨n, rfl⟩ := Int.eq_ofNat_of_zero_le (by omega : 0 ≤ x)
    have HE : Hid (TkR B w rb (fun n : Nat => Value.int .i64 (n : Int)) (countR l) wr (.returned (.int .i64 (n : Int))) w1) := by
      refine ⟨n, l1, wr1, rfl, rs, g, ?_, hl1⟩
      rcases sp with ⟨h5, h6, h7⟩ | ⟨h5, h6⟩
      · refine .inl ⟨h5, h6, ?_⟩
        rw [countR_num, h7]
        simp only
        rw [if_neg hx]
        simp
      · refine .inr ⟨h5, h6.imp id fun h => ?_⟩
        rw [countR_num, h]
    have h5 : ¬ ((l1.length : Int) < (n : Int)) := by omega
    clear C rs g sp h1 h2 h3 h4 hx
    go_wp2
    go_ret
    exact HE.out

set_option maxHeartbeats 2000000 in
theorem rtext_any {B : Nat} {w : World} {rb : Nat} {l : List UInt8} {wr : Bool} (h : RS B w rb l wr) (hl : l.length ≤ 1099511627776) :
    Calls Tryd.prog 70 #[ptrOf rb] w fun e w' => TkR B w rb Value.string (textR l) wr e w' := by
  have C := rcount_any h hl
  clear h
  go_enter Tryd.func70, Tryd.ntmps70
  go_wp2_with fail
  refine C.mono ?_
  rintro e w1 ⟨n, l1, wr1, rfl, rs, g, sp, hl1⟩
  obtain ⟨a, c, h1, h2, h3, h4⟩ := rs.cells
  obtain ⟨c0, f0, c1, f1⟩ := cells126 h1
  rcases wr1 with _ | _
  · have hq : wr = false ∧ countR l = some (n, l1) := by
      rcases sp with ⟨_, h5, h6⟩ | ⟨h5, _⟩
      · exact ⟨h5, h6⟩
      · cases h5
    obtain ⟨_, hn, _⟩ := countR_inv hq.2
    have HT : Hid (textR l = some (⟨(l1.take n).toArray⟩, l1.drop n)) := by show _ = _; unfold textR; rw [hq.2]; rfl
    have HWR : Hid (wr = false) := hq.1
    have HD : Hid ((l1.drop n).length ≤ 1099511627776) := by show _ ≤ _; rw [List.length_drop]; omega
    have HG : Hid (w.grownBy w1 (some rb)) := g
    rcases h2 with ⟨e, e2⟩ | ⟨a', cap', e, k2, k3, k4⟩
    · subst e2
      cases e
      have hn0 : n = 0 := by simpa using hn
      subst hn0
      have cv : (convert 24 9 (.slice none 0 0)).run Tryd.prog w1 = .ok (.string ⟨#[]⟩) w1 := conv_bts (.inl ⟨rfl, rfl⟩)
      have HE : Hid _ := rs_set h4 h1 (x := .slice none 0 0) (l := []) (.inl ⟨rfl, rfl⟩) (fun h => absurd rfl h)
      clear C rs g sp h1 h3 h4 hq hn
      go_wp2
      go_ret
      exact ⟨⟨#[]⟩, [], false, rfl, HE.out.1, grown_trans HG.out HE.out.2, .inl ⟨rfl, HWR.out, HT.out⟩, by simp⟩
    · cases e
      have k3' : c ≤ 9223372036854775807 := k3
      have n1 : (n : Int) ≤ (l1.length : Int) := by omega
      have n2 : (n : Int) ≤ (c : Int) := by omega
      have cv : (convert 24 9 (.slice (some a') n c)).run Tryd.prog w1 = .ok (.string ⟨(l1.take n).toArray⟩) w1 := conv_bts (Bts.part hn (by omega) k3 k4)
      by_cases hce : c = n
      · have HE : Hid (RS B (w1.setCell ⟨rb, 0, none⟩ (.slice (some a') 0 0)) rb (l1.drop n) false ∧ w1.grownBy (w1.setCell ⟨rb, 0, none⟩ (.slice (some a') 0 0)) (some rb)) := by
          have e0 : l1.drop n = [] := List.drop_eq_nil_of_le (by omega)
          rw [e0]
          exact rs_set h4 h1 (.inr ⟨a', 0, rfl, Nat.le_refl _, by decide, fun j u hj => by simp [bcells] at hj⟩) (fun h => absurd rfl h)
        have hll : l1.length - n = 0 := by omega
        clear C rs g sp h1 h3 h4 hq k3 k4
        subst hce
        go_wp2
        go_ret
        exact ⟨_, _, false, rfl, HE.out.1, grown_trans HG.out HE.out.2, .inl ⟨rfl, HWR.out, HT.out⟩, HD.out⟩
      · have HE : Hid (RS B (w1.setCell ⟨rb, 0, none⟩ (.slice (some (a'.add n)) (l1.length - n) (c - n))) rb (l1.drop n) false ∧ w1.grownBy (w1.setCell ⟨rb, 0, none⟩ (.slice (some (a'.add n)) (l1.length - n) (c - n))) (some rb)) := by
          refine rs_set h4 h1 ?_ (fun hne a2 n2 c2 e => by
            cases e
            rw [addr_block]
            exact h3 (by rintro rfl; simp at hne) _ _ _ rfl)
          rcases Nat.eq_zero_or_pos n with z | z
          · subst z
            rw [add_zero_addr]
            exact .inr ⟨a', c, by simp, by simpa using k2, k3, by simpa using k4⟩
          · have := Bts.later (m := n) (n := l1.length - n) (by omega) (by omega) (by omega) k3 k4
            rwa [List.take_of_length_le (by simp)] at this
        clear C rs g sp h1 h3 h4 hq k3 k4
        go_wp2
        go_ret
        exact ⟨_, _, false, rfl, HE.out.1, grown_trans HG.out HE.out.2, .inl ⟨rfl, HWR.out, HT.out⟩, HD.out⟩
  · have HE : Hid (TkR B w rb Value.string (textR l) wr (.returned (.string ⟨#[]⟩)) w1) := by
      refine ⟨⟨#[]⟩, l1, true, rfl, rs, g, .inr ⟨rfl, ?_⟩, hl1⟩
      rcases sp with ⟨h5, _⟩ | ⟨_, h5 | h5⟩
      · cases h5
      · exact .inl h5
      · right
        unfold textR
        rw [h5]
        rfl
    clear C rs g sp h1 h2 h3 h4
    go_wp2
    go_ret
    exact HE.out
end Go.Proofs.YtcheikpmhdliiaaDoor
