/- The contract of the reference's num. -/
import Derived.Test.YtohndhmhgdelmaaDoorRsBase
namespace Go.Proofs.YtohndhmhgdelmaaDoor
open Go.RowKit
set_option maxRecDepth 100000

theorem or_end {i U x : Nat} (hi : i ≤ 9) (h9 : i = 9 → x ≤ 1) (hx : x < 128) (hU : U < 128 ^ i) : bits .or .u64 (U : Int) (IntKind.u64.wrap ((x : Int) * 2 ^ (7 * i))) = ((U + x * 128 ^ i : Nat) : Int) ∧ U + x * 128 ^ i < 18446744073709551616 := by
  by_cases h : i = 9
  · subst h
    have hx1 := h9 rfl
    obtain ⟨o1, o2⟩ := or_last hU hx1
    refine ⟨?_, o2⟩
    rw [← o1]
    congr 1
    rw [IntKind.wrap_u64]
    omega
  · obtain ⟨o1, o2, _⟩ := or_digit (by omega) hU hx
    exact ⟨o1, o2⟩

set_option maxHeartbeats 4000000 in
theorem rnum_some {B : Nat} {w : World} {rb : Nat} {a : Addr} {cap : Nat} {l : List UInt8} {wr : Bool} (hB : B ≤ rb) (h1 : w.heap[rb]? = some (.cells #[.slice (some a) l.length cap, .bool wr] 75 (0, 0))) (h2 : l.length ≤ cap) (h3 : cap ≤ maxLen) (h4 : ∀ j u, (bcells l)[j]? = some u → w.cell? (a.add j) = some u) (hlow : Low B (.slice (some a) l.length cap) l) (hl : l.length ≤ 1099511627776) :
    Calls Tryd.prog 38 #[ptrOf rb] w fun e w' => TkR B w rb (Value.int .i64) (numR l) wr e w' := by
  have HB : Hid (B ≤ rb) := hB
  have H1 : Hid (w.heap[rb]? = some (.cells #[.slice (some a) l.length cap, .bool wr] 75 (0, 0))) := h1
  have HC : Hid (cap ≤ maxLen ∧ ∀ j u, (bcells l)[j]? = some u → w.cell? (a.add j) = some u) := ⟨h3, h4⟩
  have HLow : Hid (Low B (.slice (some a) l.length cap) l) := hlow
  obtain ⟨c0, f0, c1, f1⟩ := cells75 h1
  have HG : Hid _ := rs_gone hB h1
  have h3' : cap ≤ 9223372036854775807 := h3
  clear hB h1 h3 h4 hlow
  go_enter Tryd.func38, Tryd.ntmps38
  go_wp2
  go_loop [3, 4, 12] (fun u3 u4 u12 => ∃ i U : Nat, i ≤ 9 ∧ i ≤ l.length ∧ u3 = .int .u64 U ∧ u4 = .int .i64 ((7 * i : Nat) : Int) ∧ u12 = .int .i64 i ∧ Hid (U < 128 ^ i ∧ numAux 0 0 l = numAux i U (l.drop i))) (fun _ _ u12 => 10 - (intOf u12).toNat)
  case atStart => exact ⟨0, 0, by omega, by omega, rfl, rfl, rfl, by decide, by simp⟩
  case round =>
    obtain ⟨i, U, hi, hil, rfl, rfl, rfl, HD⟩ := hrel
    obtain ⟨hU, hn⟩ := HD.out
    clear HD
    by_cases hlt : i < l.length
    · have cc : w.cell? (a.add i) = some (.int .u8 (l[i].toNat : Int)) := HC.out.2 i _ (bcells_get hlt)
      have hd : l[i].toNat < 256 := l[i].toNat_lt
      rw [List.drop_eq_getElem_cons hlt] at hn
      have HN : Hid (numAux 0 0 l = numAux i U (l[i] :: l.drop (i + 1))) := hn
      have HU : Hid (U < 128 ^ i) := hU
      clear hn hU
      generalize l[i] = dd at *
      have fa := u8_and127 dd.toNat hd
      have hiI : (i : Int) < (l.length : Int) := by omega
      by_cases hp : (i = 9 ∧ 1 < dd.toNat) ∨ (dd.toNat = 0 ∧ 0 < i)
      · have NN : Hid (numR l = none) := by
          show _ = _
          unfold numR
          rw [HN.out, numAux]
          rcases hp with h | ⟨h1, h2⟩
          · rw [if_pos h]; rfl
          · rw [if_neg (by omega), if_neg (by omega), if_pos ⟨h1, h2⟩]; rfl
        clear HN HU
        by_cases h9 : i = 9
        · have b63 : (7 * (i : Int) == 63) = true := by rw [h9]; rfl
          have hi0 : 0 < i := by omega
          by_cases hx : 1 < dd.toNat
          · clear h9 hp
            generalize dd.toNat = x at *
            go_wp2
            go_ret
            exact ⟨0, [], true, rfl, HG.out.1, HG.out.2, .inr ⟨rfl, .inr NN.out⟩, by simp⟩
          · have hx0 : dd.toNat = 0 := by omega
            rw [hx0] at cc
            clear h9 hp hx hd fa hx0
            go_wp2
            go_ret
            exact ⟨0, [], true, rfl, HG.out.1, HG.out.2, .inr ⟨rfl, .inr NN.out⟩, by simp⟩
        · have b63 : (7 * (i : Int) == 63) = false := by simp; omega
          have hi0 : 0 < i := by omega
          have hx0 : dd.toNat = 0 := by omega
          rw [hx0] at cc
          clear h9 hp hd fa hx0
          go_wp2
          go_ret
          exact ⟨0, [], true, rfl, HG.out.1, HG.out.2, .inr ⟨rfl, .inr NN.out⟩, by simp⟩
      · by_cases hbig : 128 ≤ dd.toNat
        · have hi8 : i < 9 := by omega
          have HN2 : Hid (numAux 0 0 l = numAux (i + 1) (U + dd.toNat % 128 * 128 ^ i) (l.drop (i + 1))) := by
            show _ = _
            rw [HN.out, numAux, if_neg (by omega), if_pos hbig]
          obtain ⟨o1, o2, o3⟩ := or_digit (x := dd.toNat % 128) hi8 HU.out (by omega)
          have HO : Hid (U + dd.toNat % 128 * 128 ^ i < 128 ^ (i + 1)) := o3
          clear HN HU hp o3
          generalize dd.toNat = x at *
          generalize U + x % 128 * 128 ^ i = U2 at *
          have b63 : (7 * (i : Int) == 63) = false := by simp; omega
          have o1' : bits .or .u64 (U : Int) (IntKind.u64.wrap ((x : Int) % 128 * 2 ^ (7 * i))) = (U2 : Int) := by
            rw [← o1]; simp
          have hx0 : ¬ x = 0 := by omega
          have hx0b : ((x : Int) == 0) = false := by simp; omega
          clear o1
          go_wp2
          all_goals
            go_round
            case rel => exact ⟨i + 1, U2, by omega, by omega, rfl, by go_num, by go_num, HO.out, HN2.out⟩
            case measure => simp [intOf]; omega
        · have hx : dd.toNat % 128 = dd.toNat := by omega
          have NR : Hid (∀ y, y = unfoldI (U + dd.toNat * 128 ^ i) → (wr = false ∧ wr = false ∧ numR l = some (y, l.drop (i + 1))) ∨ (wr = true ∧ (wr = true ∨ numR l = none))) := fun y hy => by
            rcases wr with _ | _
            · left
              refine ⟨rfl, rfl, ?_⟩
              unfold numR
              rw [HN.out, numAux_end (by omega) (by omega) (by omega), hx, hy]
              rfl
            · exact .inr ⟨rfl, .inl rfl⟩
          obtain ⟨o1, o2⟩ := or_end (x := dd.toNat) hi (by omega) (by omega) HU.out
          have hb63 : (7 * (i : Int) == 63) = decide (i = 9) := by
            by_cases h : i = 9
            · rw [h]; rfl
            · simp [h]; omega
          have h9x : i = 9 → dd.toNat = 1 := by omega
          have hx0 : dd.toNat = 0 → i = 0 := by omega
          clear HN HU hp
          generalize dd.toNat = x at *
          generalize U + x * 128 ^ i = U2 at *
          have hxx : (x : Int) % 128 = (x : Int) := by omega
          clear hx
          by_cases h9 : i = 9
          · have b63 : (7 * (i : Int) == 63) = true := by rw [hb63]; simp [h9]
            have hx1 : ¬ 1 < x := by have := h9x h9; omega
            have hxe : ((x : Int) == 0) = false := by have := h9x h9; simp; omega
            have hi0 : 0 < i := by omega
            clear hb63 h9 h9x hx0
            by_cases hce : cap = i + 1
            · have HE : Hid (RS B (w.setCell ⟨rb, 0, none⟩ (.slice (some a) 0 0)) rb (l.drop (i + 1)) wr ∧ w.grownBy (w.setCell ⟨rb, 0, none⟩ (.slice (some a) 0 0)) (some rb)) := by
                have e0 : l.drop (i + 1) = [] := List.drop_eq_nil_of_le (by omega)
                rw [e0]
                exact rs_set HB.out H1.out (.inr ⟨a, 0, rfl, Nat.le_refl _, by decide, fun j u hj => by simp [bcells] at hj⟩) (fun h => absurd rfl h)
              have hll : l.length - (i + 1) = 0 := by omega
              subst hce
              by_cases hodd : U2 % 2 = 1
              · have a1 : bits .and .u64 (U2 : Int) 1 = 1 := by rw [Lib.u64_and1 _ (by omega) (by omega)]; omega
                have hdiv : ((U2 : Int) / 2) = ((U2 / 2 : Nat) : Int) := by omega
                have x1 := xor_top o2
                have x2 := unf_odd hodd o2
                have HX : Hid (∃ y, y = unfoldI U2) := ⟨_, rfl⟩
                obtain ⟨y, hy⟩ := HX.out
                rw [← hy] at x2
                have HY : Hid (y = unfoldI U2) := hy
                clear hodd hy HX
                generalize U2 / 2 = U3 at *
                go_wp2
                go_ret
                exact ⟨y, _, _, rfl, HE.out.1, HE.out.2, NR.out y HY.out, by rw [List.length_drop]; omega⟩
              · have a1 : bits .and .u64 (U2 : Int) 1 = 0 := by rw [Lib.u64_and1 _ (by omega) (by omega)]; omega
                have hdiv : ((U2 : Int) / 2) = ((U2 / 2 : Nat) : Int) := by omega
                have HY : Hid (((U2 / 2 : Nat) : Int) = unfoldI U2) := unf_even hodd
                have hU3 : U2 / 2 ≤ 9223372036854775807 := by omega
                clear hodd
                generalize U2 / 2 = U3 at *
                go_wp2
                go_ret
                exact ⟨(U3 : Int), _, _, rfl, HE.out.1, HE.out.2, NR.out _ HY.out, by rw [List.length_drop]; omega⟩
            · have HE : Hid (RS B (w.setCell ⟨rb, 0, none⟩ (.slice (some (a.add (i + 1))) (l.length - (i + 1)) (cap - (i + 1)))) rb (l.drop (i + 1)) wr ∧ w.grownBy (w.setCell ⟨rb, 0, none⟩ (.slice (some (a.add (i + 1))) (l.length - (i + 1)) (cap - (i + 1)))) (some rb)) := by
                refine rs_set HB.out H1.out ?_ (fun hne a' n' c' e => by
                  cases e
                  rw [addr_block]
                  exact HLow.out (by rintro rfl; simp at hne) _ _ _ rfl)
                have := Bts.later (m := i + 1) (n := l.length - (i + 1)) (by omega) (by omega) (by omega) HC.out.1 HC.out.2
                rwa [List.take_of_length_le (by simp)] at this
              by_cases hodd : U2 % 2 = 1
              · have a1 : bits .and .u64 (U2 : Int) 1 = 1 := by rw [Lib.u64_and1 _ (by omega) (by omega)]; omega
                have hdiv : ((U2 : Int) / 2) = ((U2 / 2 : Nat) : Int) := by omega
                have x1 := xor_top o2
                have x2 := unf_odd hodd o2
                have HX : Hid (∃ y, y = unfoldI U2) := ⟨_, rfl⟩
                obtain ⟨y, hy⟩ := HX.out
                rw [← hy] at x2
                have HY : Hid (y = unfoldI U2) := hy
                clear hodd hy HX
                generalize U2 / 2 = U3 at *
                go_wp2
                go_ret
                exact ⟨y, _, _, rfl, HE.out.1, HE.out.2, NR.out y HY.out, by rw [List.length_drop]; omega⟩
              · have a1 : bits .and .u64 (U2 : Int) 1 = 0 := by rw [Lib.u64_and1 _ (by omega) (by omega)]; omega
                have hdiv : ((U2 : Int) / 2) = ((U2 / 2 : Nat) : Int) := by omega
                have HY : Hid (((U2 / 2 : Nat) : Int) = unfoldI U2) := unf_even hodd
                have hU3 : U2 / 2 ≤ 9223372036854775807 := by omega
                clear hodd
                generalize U2 / 2 = U3 at *
                go_wp2
                go_ret
                exact ⟨(U3 : Int), _, _, rfl, HE.out.1, HE.out.2, NR.out _ HY.out, by rw [List.length_drop]; omega⟩
          · have b63 : (7 * (i : Int) == 63) = false := by rw [hb63]; simp [h9]
            clear hb63 h9x
            by_cases h0 : 0 < i
            · have hxe : ((x : Int) == 0) = false := by simp; omega
              clear hx0 h9
              by_cases hce : cap = i + 1
              · have HE : Hid (RS B (w.setCell ⟨rb, 0, none⟩ (.slice (some a) 0 0)) rb (l.drop (i + 1)) wr ∧ w.grownBy (w.setCell ⟨rb, 0, none⟩ (.slice (some a) 0 0)) (some rb)) := by
                  have e0 : l.drop (i + 1) = [] := List.drop_eq_nil_of_le (by omega)
                  rw [e0]
                  exact rs_set HB.out H1.out (.inr ⟨a, 0, rfl, Nat.le_refl _, by decide, fun j u hj => by simp [bcells] at hj⟩) (fun h => absurd rfl h)
                have hll : l.length - (i + 1) = 0 := by omega
                subst hce
                by_cases hodd : U2 % 2 = 1
                · have a1 : bits .and .u64 (U2 : Int) 1 = 1 := by rw [Lib.u64_and1 _ (by omega) (by omega)]; omega
                  have hdiv : ((U2 : Int) / 2) = ((U2 / 2 : Nat) : Int) := by omega
                  have x1 := xor_top o2
                  have x2 := unf_odd hodd o2
                  have HX : Hid (∃ y, y = unfoldI U2) := ⟨_, rfl⟩
                  obtain ⟨y, hy⟩ := HX.out
                  rw [← hy] at x2
                  have HY : Hid (y = unfoldI U2) := hy
                  clear hodd hy HX
                  generalize U2 / 2 = U3 at *
                  go_wp2
                  go_ret
                  exact ⟨y, _, _, rfl, HE.out.1, HE.out.2, NR.out y HY.out, by rw [List.length_drop]; omega⟩
                · have a1 : bits .and .u64 (U2 : Int) 1 = 0 := by rw [Lib.u64_and1 _ (by omega) (by omega)]; omega
                  have hdiv : ((U2 : Int) / 2) = ((U2 / 2 : Nat) : Int) := by omega
                  have HY : Hid (((U2 / 2 : Nat) : Int) = unfoldI U2) := unf_even hodd
                  have hU3 : U2 / 2 ≤ 9223372036854775807 := by omega
                  clear hodd
                  generalize U2 / 2 = U3 at *
                  go_wp2
                  go_ret
                  exact ⟨(U3 : Int), _, _, rfl, HE.out.1, HE.out.2, NR.out _ HY.out, by rw [List.length_drop]; omega⟩
              · have HE : Hid (RS B (w.setCell ⟨rb, 0, none⟩ (.slice (some (a.add (i + 1))) (l.length - (i + 1)) (cap - (i + 1)))) rb (l.drop (i + 1)) wr ∧ w.grownBy (w.setCell ⟨rb, 0, none⟩ (.slice (some (a.add (i + 1))) (l.length - (i + 1)) (cap - (i + 1)))) (some rb)) := by
                  refine rs_set HB.out H1.out ?_ (fun hne a' n' c' e => by
                    cases e
                    rw [addr_block]
                    exact HLow.out (by rintro rfl; simp at hne) _ _ _ rfl)
                  have := Bts.later (m := i + 1) (n := l.length - (i + 1)) (by omega) (by omega) (by omega) HC.out.1 HC.out.2
                  rwa [List.take_of_length_le (by simp)] at this
                by_cases hodd : U2 % 2 = 1
                · have a1 : bits .and .u64 (U2 : Int) 1 = 1 := by rw [Lib.u64_and1 _ (by omega) (by omega)]; omega
                  have hdiv : ((U2 : Int) / 2) = ((U2 / 2 : Nat) : Int) := by omega
                  have x1 := xor_top o2
                  have x2 := unf_odd hodd o2
                  have HX : Hid (∃ y, y = unfoldI U2) := ⟨_, rfl⟩
                  obtain ⟨y, hy⟩ := HX.out
                  rw [← hy] at x2
                  have HY : Hid (y = unfoldI U2) := hy
                  clear hodd hy HX
                  generalize U2 / 2 = U3 at *
                  go_wp2
                  go_ret
                  exact ⟨y, _, _, rfl, HE.out.1, HE.out.2, NR.out y HY.out, by rw [List.length_drop]; omega⟩
                · have a1 : bits .and .u64 (U2 : Int) 1 = 0 := by rw [Lib.u64_and1 _ (by omega) (by omega)]; omega
                  have hdiv : ((U2 : Int) / 2) = ((U2 / 2 : Nat) : Int) := by omega
                  have HY : Hid (((U2 / 2 : Nat) : Int) = unfoldI U2) := unf_even hodd
                  have hU3 : U2 / 2 ≤ 9223372036854775807 := by omega
                  clear hodd
                  generalize U2 / 2 = U3 at *
                  go_wp2
                  go_ret
                  exact ⟨(U3 : Int), _, _, rfl, HE.out.1, HE.out.2, NR.out _ HY.out, by rw [List.length_drop]; omega⟩
            · clear hx0 h9
              by_cases hce : cap = i + 1
              · have HE : Hid (RS B (w.setCell ⟨rb, 0, none⟩ (.slice (some a) 0 0)) rb (l.drop (i + 1)) wr ∧ w.grownBy (w.setCell ⟨rb, 0, none⟩ (.slice (some a) 0 0)) (some rb)) := by
                  have e0 : l.drop (i + 1) = [] := List.drop_eq_nil_of_le (by omega)
                  rw [e0]
                  exact rs_set HB.out H1.out (.inr ⟨a, 0, rfl, Nat.le_refl _, by decide, fun j u hj => by simp [bcells] at hj⟩) (fun h => absurd rfl h)
                have hll : l.length - (i + 1) = 0 := by omega
                subst hce
                by_cases hodd : U2 % 2 = 1
                · have a1 : bits .and .u64 (U2 : Int) 1 = 1 := by rw [Lib.u64_and1 _ (by omega) (by omega)]; omega
                  have hdiv : ((U2 : Int) / 2) = ((U2 / 2 : Nat) : Int) := by omega
                  have x1 := xor_top o2
                  have x2 := unf_odd hodd o2
                  have HX : Hid (∃ y, y = unfoldI U2) := ⟨_, rfl⟩
                  obtain ⟨y, hy⟩ := HX.out
                  rw [← hy] at x2
                  have HY : Hid (y = unfoldI U2) := hy
                  clear hodd hy HX
                  generalize U2 / 2 = U3 at *
                  go_wp2
                  go_ret
                  exact ⟨y, _, _, rfl, HE.out.1, HE.out.2, NR.out y HY.out, by rw [List.length_drop]; omega⟩
                · have a1 : bits .and .u64 (U2 : Int) 1 = 0 := by rw [Lib.u64_and1 _ (by omega) (by omega)]; omega
                  have hdiv : ((U2 : Int) / 2) = ((U2 / 2 : Nat) : Int) := by omega
                  have HY : Hid (((U2 / 2 : Nat) : Int) = unfoldI U2) := unf_even hodd
                  have hU3 : U2 / 2 ≤ 9223372036854775807 := by omega
                  clear hodd
                  generalize U2 / 2 = U3 at *
                  go_wp2
                  go_ret
                  exact ⟨(U3 : Int), _, _, rfl, HE.out.1, HE.out.2, NR.out _ HY.out, by rw [List.length_drop]; omega⟩
              · have HE : Hid (RS B (w.setCell ⟨rb, 0, none⟩ (.slice (some (a.add (i + 1))) (l.length - (i + 1)) (cap - (i + 1)))) rb (l.drop (i + 1)) wr ∧ w.grownBy (w.setCell ⟨rb, 0, none⟩ (.slice (some (a.add (i + 1))) (l.length - (i + 1)) (cap - (i + 1)))) (some rb)) := by
                  refine rs_set HB.out H1.out ?_ (fun hne a' n' c' e => by
                    cases e
                    rw [addr_block]
                    exact HLow.out (by rintro rfl; simp at hne) _ _ _ rfl)
                  have := Bts.later (m := i + 1) (n := l.length - (i + 1)) (by omega) (by omega) (by omega) HC.out.1 HC.out.2
                  rwa [List.take_of_length_le (by simp)] at this
                by_cases hodd : U2 % 2 = 1
                · have a1 : bits .and .u64 (U2 : Int) 1 = 1 := by rw [Lib.u64_and1 _ (by omega) (by omega)]; omega
                  have hdiv : ((U2 : Int) / 2) = ((U2 / 2 : Nat) : Int) := by omega
                  have x1 := xor_top o2
                  have x2 := unf_odd hodd o2
                  have HX : Hid (∃ y, y = unfoldI U2) := ⟨_, rfl⟩
                  obtain ⟨y, hy⟩ := HX.out
                  rw [← hy] at x2
                  have HY : Hid (y = unfoldI U2) := hy
                  clear hodd hy HX
                  generalize U2 / 2 = U3 at *
                  go_wp2
                  go_ret
                  exact ⟨y, _, _, rfl, HE.out.1, HE.out.2, NR.out y HY.out, by rw [List.length_drop]; omega⟩
                · have a1 : bits .and .u64 (U2 : Int) 1 = 0 := by rw [Lib.u64_and1 _ (by omega) (by omega)]; omega
                  have hdiv : ((U2 : Int) / 2) = ((U2 / 2 : Nat) : Int) := by omega
                  have HY : Hid (((U2 / 2 : Nat) : Int) = unfoldI U2) := unf_even hodd
                  have hU3 : U2 / 2 ≤ 9223372036854775807 := by omega
                  clear hodd
                  generalize U2 / 2 = U3 at *
                  go_wp2
                  go_ret
                  exact ⟨(U3 : Int), _, _, rfl, HE.out.1, HE.out.2, NR.out _ HY.out, by rw [List.length_drop]; omega⟩
    · have NN : Hid (numR l = none) := by
        show _ = _
        unfold numR
        rw [hn, List.drop_eq_nil_of_le (by omega)]
        rfl
      clear hU hn
      go_wp2
      go_ret
      exact ⟨0, [], true, rfl, HG.out.1, HG.out.2, .inr ⟨rfl, .inr NN.out⟩, by simp⟩
end Go.Proofs.YtohndhmhgdelmaaDoor
