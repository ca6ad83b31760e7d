/- The contract of the reader's number. -/
import Derived.Test.YtohndhmhgdelmaaDoorRead
namespace Go.Proofs.YtohndhmhgdelmaaDoor
open Go.RowKit
set_option maxRecDepth 100000

theorem grown_trans {w w1 w2 : World} {r : Option Nat} (h : w.grownBy w1 r) (k : w1.grownBy w2 r) : w.grownBy w2 r :=
  ⟨k.os.trans h.os, k.tape.trans h.tape, k.output.trans h.output, Nat.le_trans h.size k.size, fun i hi hne => (k.block i (Nat.lt_of_lt_of_le hi h.size) hne).trans (h.block i hi hne)⟩
theorem grown_refl (w : World) (r : Option Nat) : w.grownBy w r := ⟨rfl, rfl, rfl, Nat.le_refl _, fun _ _ _ => rfl⟩

theorem numAux_end {i u : Nat} {d : UInt8} {r : List UInt8} (h9 : ¬ (i = 9 ∧ 1 < d.toNat)) (h : d.toNat < 128) (h0 : ¬ (d.toNat = 0 ∧ 0 < i)) : numAux i u (d :: r) = some (u + d.toNat % 128 * 128 ^ i, r) := by
  rw [numAux, if_neg h9, if_neg (by omega), if_neg h0]

/-- What a call of the reader's may end in. -/
def Reads (B : Nat) (w : World) (rb : Nat) (o : Option (Nat × List UInt8)) (e : Ending) (w' : World) : Prop :=
  w.grownBy w' (some rb) ∧ match o with
    | none => e = .panicked noneP
    | some (u, r) => e = .returned (.int .i64 (unfoldI u)) ∧ Rd B w' rb r

theorem bts_one {w : World} {v : Value} {d : UInt8} (h : Bts w v [d]) : ∃ a c, v = .slice (some a) 1 c ∧ w.cell? a = some (.int .u8 (d.toNat : Int)) := by
  rcases h with ⟨_, h⟩ | ⟨a, cap, h1, _, _, h4⟩
  · cases h
  · exact ⟨a, cap, h1, by simpa [Addr.add] using h4 0 _ rfl⟩

theorem cut_byte {B : Nat} {w : World} {rb : Nat} {d : UInt8} {r : List UInt8} (h : Rd B w rb (d :: r)) :
    Calls Tryd.prog 79 #[ptrOf rb, .int .i64 1] w fun e w' => ∃ a c, e = .returned (.slice (some a) 1 c) ∧ w'.cell? a = some (.int .u8 (d.toNat : Int)) ∧ Hid (Rd B w' rb r ∧ w.grownBy w' (some rb)) := by
  refine (cut_some h 1 (by simp)).mono ?_
  rintro e w' ⟨v, rfl, b, rd, g⟩
  obtain ⟨a, c, rfl, hc⟩ := bts_one b
  exact ⟨a, c, rfl, hc, rd, g⟩

theorem or_digit {i U x : Nat} (hi : i < 9) (hU : U < 128 ^ i) (hx : x < 128) : bits .or .u64 (U : Int) (IntKind.u64.wrap ((x : Int) * 2 ^ (7 * i))) = ((U + x * 128 ^ i : Nat) : Int) ∧ U + x * 128 ^ i < 18446744073709551616 ∧ U + x * 128 ^ i < 128 ^ (i + 1) := by
  have e128 : (128 : Nat) ^ i = 2 ^ (7 * i) := by rw [Nat.pow_mul]
  have h9 : (128 : Nat) ^ (i + 1) ≤ 128 ^ 9 := Nat.pow_le_pow_right (by decide) (by omega)
  have hm : x * 128 ^ i ≤ 127 * 128 ^ i := Nat.mul_le_mul_right _ (by omega)
  have hs : (128 : Nat) ^ (i + 1) = 128 * 128 ^ i := by rw [Nat.pow_succ, Nat.mul_comm]
  have hb : (128 : Nat) ^ 9 = 9223372036854775808 := by decide
  have lt1 : U + x * 128 ^ i < 128 ^ (i + 1) := by omega
  have c1 : (x : Int) * 2 ^ (7 * i) = ((x * 128 ^ i : Nat) : Int) := by rw [e128]; simp
  refine ⟨?_, by omega, lt1⟩
  rw [c1, IntKind.wrap_u64, Int.emod_eq_of_lt (by omega) (by omega), u64_or_nat _ _ (by omega) (by omega)]
  congr 1
  rw [e128] at hU ⊢
  have := Nat.two_pow_add_eq_or_of_lt hU x
  rw [Nat.mul_comm] at this
  rw [Nat.or_comm, ← this]
  omega

theorem or_last {U x : Nat} (hU : U < 128 ^ 9) (hx : x ≤ 1) : bits .or .u64 (U : Int) ((x : Int) * 9223372036854775808) = ((U + x * 128 ^ 9 : Nat) : Int) ∧ U + x * 128 ^ 9 < 18446744073709551616 := by
  have hb : (128 : Nat) ^ 9 = 9223372036854775808 := by decide
  rw [hb] at hU ⊢
  refine ⟨?_, by omega⟩
  rw [show (x : Int) * 9223372036854775808 = ((x * 9223372036854775808 : Nat) : Int) by omega, u64_or_nat _ _ (by omega) (by omega)]
  congr 1
  have := Nat.two_pow_add_eq_or_of_lt (i := 63) (b := U) (by omega) x
  rw [show (2 : Nat) ^ 63 = 9223372036854775808 from by decide, Nat.mul_comm] at this
  rw [Nat.or_comm, ← this]
  omega

set_option maxHeartbeats 2000000 in
theorem number_any {B : Nat} {w : World} {rb : Nat} {l : List UInt8} (h : Rd B w rb l) : Calls Tryd.prog 71 #[ptrOf rb] w fun e w' => Reads B w rb (numAux 0 0 l) e w' := by
  have H : Hid (Rd B w rb l) := h
  clear h
  go_enter Tryd.func71, Tryd.ntmps71
  go_wp2_with fail
  go_loopw [3, 4] (fun u3 u4 wr => ∃ i U : Nat, i ≤ 9 ∧ u3 = .int .u64 U ∧ u4 = .int .i64 ((7 * i : Nat) : Int) ∧ Hid (U < 128 ^ i ∧ ∃ rest, numAux 0 0 l = numAux i U rest ∧ Rd B wr rb rest ∧ w.grownBy wr (some rb))) (fun _ u4 _ => 70 - (intOf u4).toNat)
  case atStart => exact ⟨0, 0, by omega, rfl, rfl, by decide, l, rfl, H.out, grown_refl _ _⟩
  case round =>
    obtain ⟨i, U, hi, rfl, rfl, HD⟩ := hrel
    obtain ⟨hU, rest, hn, hr, hg⟩ := HD.out
    clear H
    cases rest with
    | nil =>
      have C := cut_none hr 1 (by simp) (by decide)
      have HE : Hid (Reads B w rb (numAux 0 0 l) (.panicked noneP) wr) := ⟨hg, by rw [hn]; rfl⟩
      clear hr hn hg HD hU
      go_wp2_with (go_at_call 79; refine C.mono ?_; rintro e w' ⟨rfl, hw⟩; obtain rfl := hw.symm; clear hw)
      exact ⟨rfl, HE.out⟩
    | cons d r =>
      have C := cut_byte hr
      have HE : Hid (numAux 0 0 l = numAux i U (d :: r)) := hn
      have HU : Hid (U < 128 ^ i) := hU
      have HG : Hid (w.grownBy wr (some rb)) := hg
      clear hr hn hg HD hU
      have hd : d.toNat < 256 := d.toNat_lt
      by_cases hp : (i = 9 ∧ 1 < d.toNat) ∨ (d.toNat = 0 ∧ 0 < i)
      · have HN : Hid (∀ w1, wr.grownBy w1 (some rb) → Reads B w rb (numAux 0 0 l) (.panicked noneP) w1) := fun w1 hg => ⟨grown_trans HG.out hg, by
          rw [HE.out, numAux]
          rcases hp with h | ⟨h1, h2⟩
          · rw [if_pos h]
          · rw [if_neg (by omega), if_neg (by omega), if_pos ⟨h1, h2⟩]⟩
        clear HE HU HG
        rcases hp with ⟨rfl, h1⟩ | ⟨h1, h2⟩
        · generalize d.toNat = x at *
          go_wp2_with (go_at_call 79; refine C.mono ?_; rintro e w1 ⟨a1, c1, rfl, cc, RG⟩)
          exact ⟨rfl, HN.out _ RG.out.2⟩
        · rw [h1] at C
          clear hd h1
          have hi2 : 0 < 7 * i := by omega
          go_wp2_with (go_at_call 79; refine C.mono ?_; rintro e w1 ⟨a1, c1, rfl, cc, RG⟩)
          all_goals exact ⟨rfl, HN.out _ RG.out.2⟩
      · by_cases h1 : 128 ≤ d.toNat
        · have hi8 : i < 9 := by omega
          have HN : Hid (numAux 0 0 l = numAux (i + 1) (U + d.toNat % 128 * 128 ^ i) r) := by
            show _ = _
            rw [HE.out, numAux, if_neg (by omega), if_pos h1]
          have O := or_digit (x := d.toNat % 128) hi8 HU.out (by omega)
          obtain ⟨o1, o2, o3⟩ := O
          have HO : Hid (U + d.toNat % 128 * 128 ^ i < 128 ^ (i + 1)) := o3
          clear HE HU hp o3
          generalize d.toNat = x at *
          generalize U + x % 128 * 128 ^ i = U2 at *
          have hne : ¬ (7 * i = 63) := by omega
          have o1' : bits .or .u64 (U : Int) (IntKind.u64.wrap ((x : Int) % 128 * 2 ^ (7 * i))) = (U2 : Int) := by
            rw [← o1]; simp
          clear o1
          go_wp2_with (go_at_call 79; refine C.mono ?_; rintro e w1 ⟨a1, c1, rfl, cc, RG⟩)
          have HR : Hid (U2 < 128 ^ (i + 1) ∧ ∃ rest, numAux 0 0 l = numAux (i + 1) U2 rest ∧ Rd B w1 rb rest ∧ w.grownBy w1 (some rb)) := ⟨HO.out, r, HN.out, RG.out.1, grown_trans HG.out RG.out.2⟩
          clear HO HN RG HG
          go_roundw
          case rel => exact ⟨i + 1, U2, by omega, by rfl, by go_num, HR⟩
          case measure => simp [intOf]; omega
        · have hx : d.toNat % 128 = d.toNat := by omega
          have HN : Hid (∀ w1, (Rd B w1 rb r ∧ wr.grownBy w1 (some rb)) → Reads B w rb (numAux 0 0 l) (.returned (.int .i64 (unfoldI (U + d.toNat * 128 ^ i)))) w1) := fun w1 hg => ⟨grown_trans HG.out hg.2, by
            rw [HE.out, numAux_end (by omega) (by omega) (by omega), hx]
            exact ⟨rfl, hg.1⟩⟩
          by_cases hi9 : i = 9
          · subst hi9
            obtain ⟨o1, o2⟩ := or_last (x := d.toNat) HU.out (by omega)
            have UF := fun w => unfold_any _ o2 w
            clear HE HU HG hx
            have hx0 : ¬ (d.toNat = 0) := by omega
            have hx1 : ¬ (1 < d.toNat) := by omega
            clear hp
            generalize d.toNat = x at *
            generalize U + x * 128 ^ 9 = U2 at *
            have hx2 : x = 1 := by omega
            subst hx2
            have o1' : bits .or .u64 (U : Int) 9223372036854775808 = (U2 : Int) := by rw [← o1]; rfl
            clear o1
            go_wp2_with (first | (go_at_call 79; refine C.mono ?_; rintro e w1 ⟨a1, c1, rfl, cc, RG⟩) | (go_at_call 80; refine (UF _).mono ?_; rintro e w' ⟨rfl, hw⟩; obtain rfl := hw.symm; clear hw))
            go_ret
            exact HN.out _ RG.out
          · obtain ⟨o1, o2, _⟩ := or_digit (x := d.toNat) (by omega) HU.out (by omega)
            have UF := fun w => unfold_any _ o2 w
            clear HE HU HG hx
            have hx0 : d.toNat = 0 → i = 0 := by omega
            clear hp
            generalize d.toNat = x at *
            generalize U + x * 128 ^ i = U2 at *
            have hne : ¬ (7 * i = 63) := by omega
            have hxm : (x : Int) % 128 = (x : Int) := by omega
            by_cases hz : x = 0
            · have hi0 := hx0 hz
              subst hz
              subst hi0
              have o1' : bits .or .u64 (U : Int) 0 = (U2 : Int) := by rw [← o1]; simp; rfl
              clear o1 hxm
              go_wp2_with (first | (go_at_call 79; refine C.mono ?_; rintro e w1 ⟨a1, c1, rfl, cc, RG⟩) | (go_at_call 80; refine (UF _).mono ?_; rintro e w' ⟨rfl, hw⟩; obtain rfl := hw.symm; clear hw))
              go_ret
              exact HN.out _ RG.out
            · go_wp2_with (first | (go_at_call 79; refine C.mono ?_; rintro e w1 ⟨a1, c1, rfl, cc, RG⟩) | (go_at_call 80; refine (UF _).mono ?_; rintro e w' ⟨rfl, hw⟩; obtain rfl := hw.symm; clear hw))
              go_ret
              exact HN.out _ RG.out
end Go.Proofs.YtohndhmhgdelmaaDoor
