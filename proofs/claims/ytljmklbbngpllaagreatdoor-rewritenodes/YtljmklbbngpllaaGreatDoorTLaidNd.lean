/- TOp, TLaid. -/
import Derived.Handed
import Derived.HandedShaped
import Derived.LaidMore
import Derived.LaidSub
import Derived.Lay
import Derived.Lib.SmallJoins
import Derived.OpenShut
import Derived.ProofKit
import Derived.Stop.Joined
import Derived.Stop.LaidErr
import Derived.Test.YtljmklbbngpllaaGreatDoorRows
import Derived.Test.YtljmklbbngpllaaGreatDoorTFaultNd
set_option linter.unusedVariables false
set_option linter.unusedSimpArgs false
set_option maxHeartbeats 16000000
set_option maxRecDepth 100000
namespace Go.Proofs.YtljmklbbngpllaaGreatDoor
open Go.RowKit
def opn : Nat → List UInt8
 | 0 => [60, 62]
 | 1 => [60, 61]
 | 2 => [62, 61]
 | 3 => [43]
 | 4 => [45]
 | 5 => [42]
 | 6 => [47]
 | 7 => [94]
 | 8 => [38]
 | 9 => [61]
 | 10 => [60]
 | 11 => [62]
 | 12 => [37]
 | 13 => [40]
 | 14 => [41]
 | 15 => [44]
 | 16 => [58]
 | _ => []
def opsV : Array Value := #[.string (ba [60, 62]), .string (ba [60, 61]), .string (ba [62, 61]), .string (ba [43]), .string (ba [45]), .string (ba [42]), .string (ba [47]), .string (ba [94]), .string (ba [38]), .string (ba [61]), .string (ba [60]), .string (ba [62]), .string (ba [37]), .string (ba [40]), .string (ba [41]), .string (ba [44]), .string (ba [58])]
theorem aKH (W : World) : (Instr.index 180 (.agg opsV) (.int .i64 0)).run Tryz.prog W = .ok (.string (ba [60, 62])) W := by kernel_rfl
theorem aKI (W : World) : (Instr.index 180 (.agg opsV) (.int .i64 1)).run Tryz.prog W = .ok (.string (ba [60, 61])) W := by kernel_rfl
theorem aKJ (W : World) : (Instr.index 180 (.agg opsV) (.int .i64 2)).run Tryz.prog W = .ok (.string (ba [62, 61])) W := by kernel_rfl
theorem aKK (W : World) : (Instr.index 180 (.agg opsV) (.int .i64 3)).run Tryz.prog W = .ok (.string (ba [43])) W := by kernel_rfl
theorem aKL (W : World) : (Instr.index 180 (.agg opsV) (.int .i64 4)).run Tryz.prog W = .ok (.string (ba [45])) W := by kernel_rfl
theorem aKM (W : World) : (Instr.index 180 (.agg opsV) (.int .i64 5)).run Tryz.prog W = .ok (.string (ba [42])) W := by kernel_rfl
theorem aKN (W : World) : (Instr.index 180 (.agg opsV) (.int .i64 6)).run Tryz.prog W = .ok (.string (ba [47])) W := by kernel_rfl
theorem aKO (W : World) : (Instr.index 180 (.agg opsV) (.int .i64 7)).run Tryz.prog W = .ok (.string (ba [94])) W := by kernel_rfl
theorem aKP (W : World) : (Instr.index 180 (.agg opsV) (.int .i64 8)).run Tryz.prog W = .ok (.string (ba [38])) W := by kernel_rfl
theorem aKQ (W : World) : (Instr.index 180 (.agg opsV) (.int .i64 9)).run Tryz.prog W = .ok (.string (ba [61])) W := by kernel_rfl
theorem aJJ (W : World) : (Instr.index 180 (.agg opsV) (.int .i64 10)).run Tryz.prog W = .ok (.string (ba [60])) W := by kernel_rfl
theorem aJK (W : World) : (Instr.index 180 (.agg opsV) (.int .i64 11)).run Tryz.prog W = .ok (.string (ba [62])) W := by kernel_rfl
theorem aJL (W : World) : (Instr.index 180 (.agg opsV) (.int .i64 12)).run Tryz.prog W = .ok (.string (ba [37])) W := by kernel_rfl
theorem aJM (W : World) : (Instr.index 180 (.agg opsV) (.int .i64 13)).run Tryz.prog W = .ok (.string (ba [40])) W := by kernel_rfl
theorem aJN (W : World) : (Instr.index 180 (.agg opsV) (.int .i64 14)).run Tryz.prog W = .ok (.string (ba [41])) W := by kernel_rfl
theorem aJO (W : World) : (Instr.index 180 (.agg opsV) (.int .i64 15)).run Tryz.prog W = .ok (.string (ba [44])) W := by kernel_rfl
theorem aJP (W : World) : (Instr.index 180 (.agg opsV) (.int .i64 16)).run Tryz.prog W = .ok (.string (ba [58])) W := by kernel_rfl
theorem aCU (i : Nat) (h : i < 17) (W : World) : (Instr.index 180 (.agg opsV) (.int .i64 (i : Int))).run Tryz.prog W = .ok (.string (ba (opn i))) W := by
 have : i = 0 ∨ i = 1 ∨ i = 2 ∨ i = 3 ∨ i = 4 ∨ i = 5 ∨ i = 6 ∨ i = 7 ∨ i = 8 ∨ i = 9 ∨ i = 10 ∨ i = 11 ∨ i = 12 ∨ i = 13 ∨ i = 14 ∨ i = 15 ∨ i = 16 := by omega
 rcases this with rfl | rfl | rfl | rfl | rfl | rfl | rfl | rfl | rfl | rfl | rfl | rfl | rfl | rfl | rfl | rfl | rfl
 ·exact aKH W
 ·exact aKI W
 ·exact aKJ W
 ·exact aKK W
 ·exact aKL W
 ·exact aKM W
 ·exact aKN W
 ·exact aKO W
 ·exact aKP W
 ·exact aKQ W
 ·exact aJJ W
 ·exact aJK W
 ·exact aJL W
 ·exact aJM W
 ·exact aJN W
 ·exact aJO W
 ·exact aJP W
theorem aER (w : World) (T : dB w) (i : Nat) (h : i < 17) : w.cell? ⟨0, i, none⟩ = some (.string (ba (opn i))) := by
 rw [T.ops i h]
 have : i = 0 ∨ i = 1 ∨ i = 2 ∨ i = 3 ∨ i = 4 ∨ i = 5 ∨ i = 6 ∨ i = 7 ∨ i = 8 ∨ i = 9 ∨ i = 10 ∨ i = 11 ∨ i = 12 ∨ i = 13 ∨ i = 14 ∨ i = 15 ∨ i = 16 := by omega
 rcases this with rfl | rfl | rfl | rfl | rfl | rfl | rfl | rfl | rfl | rfl | rfl | rfl | rfl | rfl | rfl | rfl | rfl <;> rfl
theorem aES (w : World) (T : dB w) : (Instr.loadAt 180 (.pointer (some ⟨0, 0, none⟩))).run Tryz.prog w = .ok (.agg opsV) w := by
 have := run_loadAt_mid (P := Tryz.prog) w 0 0 180 opsV.toList _ (fun j v hj => by
  have hj2 : j < 17 := by
   rcases Nat.lt_or_ge j 17 with h | h
   ·exact h
   ·rw [List.getElem?_eq_none (by simpa [opsV] using h)] at hj; cases hj
  rw [Nat.zero_add, aER w T j hj2, ← hj]
  have : j = 0 ∨ j = 1 ∨ j = 2 ∨ j = 3 ∨ j = 4 ∨ j = 5 ∨ j = 6 ∨ j = 7 ∨ j = 8 ∨ j = 9 ∨ j = 10 ∨ j = 11 ∨ j = 12 ∨ j = 13 ∨ j = 14 ∨ j = 15 ∨ j = 16 := by omega
  rcases this with rfl | rfl | rfl | rfl | rfl | rfl | rfl | rfl | rfl | rfl | rfl | rfl | rfl | rfl | rfl | rfl | rfl <;> rfl) Tryz.underlying180 rfl (by kernel_rfl)
 simpa using this
theorem dS (c : UInt8) (l : List UInt8) : [c].isPrefixOf l = true ↔ ∃ t, l = c :: t := by
 cases l with
 | nil => simp [List.isPrefixOf]
 | cons d t =>
  simp only [List.isPrefixOf, Bool.and_true, beq_iff_eq]
  exact ⟨fun h => ⟨t, by rw [h]⟩, fun ⟨_, h⟩ => by cases h; rfl⟩
theorem vU (c d : UInt8) (l : List UInt8) : [c, d].isPrefixOf l = true ↔ ∃ t, l = c :: d :: t := by
 rcases l with _ | ⟨a, _ | ⟨e, t⟩⟩
 ·simp [List.isPrefixOf]
 ·simp [List.isPrefixOf]
 ·simp only [List.isPrefixOf, Bool.and_true, Bool.and_eq_true, beq_iff_eq]
  exact ⟨fun h => ⟨t, by rw [h.1, h.2]⟩, fun ⟨_, h⟩ => by cases h; exact ⟨rfl, rfl⟩⟩
theorem aAU {c d : UInt8} {t : List UInt8} (h : Tk.two c d = true) : Tk.opF (c :: d :: t) = some (.op [c, d], t) := by simp [Tk.opF, h]
theorem fG {c : UInt8} {t : List UInt8} (hm : c ∈ Tk.ones) (h0 : [60, 62].isPrefixOf (c :: t) = false) (h1 : [60, 61].isPrefixOf (c :: t) = false) (h2 : [62, 61].isPrefixOf (c :: t) = false) : Tk.opF (c :: t) = some (.op [c], t) := by
 cases t with
 | nil => show (if c ∈ Tk.ones then _ else none) = _; rw [if_pos hm]
 | cons d t =>
  have : Tk.two c d = false := by
   simp [List.isPrefixOf] at h0 h1 h2
   unfold Tk.two
   simp only [Bool.or_eq_false_iff, Bool.and_eq_false_iff, beq_eq_false_iff_ne]
   refine ⟨⟨?_, ?_⟩, ?_⟩
   ·by_cases e : c = 60
    ·exact .inr fun e2 => h0 e.symm e2.symm
    ·exact .inl e
   ·by_cases e : c = 60
    ·exact .inr fun e2 => h1 e.symm e2.symm
    ·exact .inl e
   ·by_cases e : c = 62
    ·exact .inr fun e2 => h2 e.symm e2.symm
    ·exact .inl e
  show (if Tk.two c d = true then _ else if c ∈ Tk.ones then _ else none) = _
  rw [this, if_neg (by decide), if_pos hm]
theorem aIO {l : List UInt8} {i : Nat} (hi : i < 17) (hb : ∀ j, j < i → (opn j).isPrefixOf l = false) (hp : (opn i).isPrefixOf l = true) : Tk.opF l = some (.op (opn i), l.drop (opn i).length) := by
 have : i = 0 ∨ i = 1 ∨ i = 2 ∨ i = 3 ∨ i = 4 ∨ i = 5 ∨ i = 6 ∨ i = 7 ∨ i = 8 ∨ i = 9 ∨ i = 10 ∨ i = 11 ∨ i = 12 ∨ i = 13 ∨ i = 14 ∨ i = 15 ∨ i = 16 := by omega
 rcases this with rfl | rfl | rfl | rfl | rfl | rfl | rfl | rfl | rfl | rfl | rfl | rfl | rfl | rfl | rfl | rfl | rfl
 ·obtain ⟨t, rfl⟩ := (vU 60 62 l).1 hp; exact aAU rfl
 ·obtain ⟨t, rfl⟩ := (vU 60 61 l).1 hp; exact aAU rfl
 ·obtain ⟨t, rfl⟩ := (vU 62 61 l).1 hp; exact aAU rfl
 ·obtain ⟨t, rfl⟩ := (dS 43 l).1 hp; exact fG (by decide) (hb 0 (by decide)) (hb 1 (by decide)) (hb 2 (by decide))
 ·obtain ⟨t, rfl⟩ := (dS 45 l).1 hp; exact fG (by decide) (hb 0 (by decide)) (hb 1 (by decide)) (hb 2 (by decide))
 ·obtain ⟨t, rfl⟩ := (dS 42 l).1 hp; exact fG (by decide) (hb 0 (by decide)) (hb 1 (by decide)) (hb 2 (by decide))
 ·obtain ⟨t, rfl⟩ := (dS 47 l).1 hp; exact fG (by decide) (hb 0 (by decide)) (hb 1 (by decide)) (hb 2 (by decide))
 ·obtain ⟨t, rfl⟩ := (dS 94 l).1 hp; exact fG (by decide) (hb 0 (by decide)) (hb 1 (by decide)) (hb 2 (by decide))
 ·obtain ⟨t, rfl⟩ := (dS 38 l).1 hp; exact fG (by decide) (hb 0 (by decide)) (hb 1 (by decide)) (hb 2 (by decide))
 ·obtain ⟨t, rfl⟩ := (dS 61 l).1 hp; exact fG (by decide) (hb 0 (by decide)) (hb 1 (by decide)) (hb 2 (by decide))
 ·obtain ⟨t, rfl⟩ := (dS 60 l).1 hp; exact fG (by decide) (hb 0 (by decide)) (hb 1 (by decide)) (hb 2 (by decide))
 ·obtain ⟨t, rfl⟩ := (dS 62 l).1 hp; exact fG (by decide) (hb 0 (by decide)) (hb 1 (by decide)) (hb 2 (by decide))
 ·obtain ⟨t, rfl⟩ := (dS 37 l).1 hp; exact fG (by decide) (hb 0 (by decide)) (hb 1 (by decide)) (hb 2 (by decide))
 ·obtain ⟨t, rfl⟩ := (dS 40 l).1 hp; exact fG (by decide) (hb 0 (by decide)) (hb 1 (by decide)) (hb 2 (by decide))
 ·obtain ⟨t, rfl⟩ := (dS 41 l).1 hp; exact fG (by decide) (hb 0 (by decide)) (hb 1 (by decide)) (hb 2 (by decide))
 ·obtain ⟨t, rfl⟩ := (dS 44 l).1 hp; exact fG (by decide) (hb 0 (by decide)) (hb 1 (by decide)) (hb 2 (by decide))
 ·obtain ⟨t, rfl⟩ := (dS 58 l).1 hp; exact fG (by decide) (hb 0 (by decide)) (hb 1 (by decide)) (hb 2 (by decide))
theorem aGS {l : List UInt8} (hb : ∀ j, j < 17 → (opn j).isPrefixOf l = false) : Tk.opF l = none := by
 rcases l with _ | ⟨c, t⟩
 ·rfl
 ·have hm : c ∉ Tk.ones := by
   intro h
   simp only [Tk.ones, List.mem_cons, List.not_mem_nil, or_false] at h
   rcases h with rfl | rfl | rfl | rfl | rfl | rfl | rfl | rfl | rfl | rfl | rfl | rfl | rfl | rfl
   ·exact absurd (hb 3 (by decide)) (by simp [opn, List.isPrefixOf])
   ·exact absurd (hb 4 (by decide)) (by simp [opn, List.isPrefixOf])
   ·exact absurd (hb 5 (by decide)) (by simp [opn, List.isPrefixOf])
   ·exact absurd (hb 6 (by decide)) (by simp [opn, List.isPrefixOf])
   ·exact absurd (hb 7 (by decide)) (by simp [opn, List.isPrefixOf])
   ·exact absurd (hb 8 (by decide)) (by simp [opn, List.isPrefixOf])
   ·exact absurd (hb 9 (by decide)) (by simp [opn, List.isPrefixOf])
   ·exact absurd (hb 10 (by decide)) (by simp [opn, List.isPrefixOf])
   ·exact absurd (hb 11 (by decide)) (by simp [opn, List.isPrefixOf])
   ·exact absurd (hb 12 (by decide)) (by simp [opn, List.isPrefixOf])
   ·exact absurd (hb 13 (by decide)) (by simp [opn, List.isPrefixOf])
   ·exact absurd (hb 14 (by decide)) (by simp [opn, List.isPrefixOf])
   ·exact absurd (hb 15 (by decide)) (by simp [opn, List.isPrefixOf])
   ·exact absurd (hb 16 (by decide)) (by simp [opn, List.isPrefixOf])
  cases t with
  | nil => show (if c ∈ Tk.ones then _ else none) = _; rw [if_neg hm]
  | cons d t =>
   have : Tk.two c d = false := by
    cases h : Tk.two c d
    ·rfl
    ·unfold Tk.two at h
     simp only [Bool.or_eq_true, Bool.and_eq_true, beq_iff_eq] at h
     rcases h with (⟨rfl, rfl⟩ | ⟨rfl, rfl⟩) | ⟨rfl, rfl⟩
     ·exact absurd (by decide) hm
     ·exact absurd (by decide) hm
     ·exact absurd (by decide) hm
   show (if Tk.two c d = true then _ else if c ∈ Tk.ones then _ else none) = _
   rw [this, if_neg (by decide), if_neg hm]
theorem vV {W w : World} {b : Nat} {l : List UInt8} (X : LX W b l w) : Calls Tryz.prog 118 #[.pointer (some ⟨b, 0, none⟩)] w (Ans W b w (Tk.opF l)) := by
 have hb := X.lt
 have H0 : Hid (St W b l (w.alloc tkO) (w.alloc tkO)) := St.refl (X.alloc tkO)
 have L0 : Hid _ := aES (w.alloc tkO) H0.out.1.t
 generalize ho : Tk.opF l = o
 have HO : Hid (Tk.opF l = o) := ho
 have HI : Hid (∀ (i : Nat) (h : i < 17) (W : World), (Instr.index 180 (.agg opsV) (.int .i64 (i : Int))).run Tryz.prog W = .ok (.string (ba (opn i))) W) := aCU
 clear ho X
 generalize opsV = V at *
 go_enter Tryz.func118, Tryz.ntmps118
 go_wp2_with (refine aB rfl 180 _ rfl _ _ rfl L0.out ?_)
 go_loopw [5, 7] (fun _ v wr => ∃ i : Nat, i ≤ 17 ∧ v = .int .i64 (i : Nat) ∧ Hid (∀ j, j < i → (opn j).isPrefixOf l = false) ∧ Hid (St W b l (w.alloc tkO) wr)) (fun _ v _ => 17 - (intOf v).toNat)
 case atStart => exact ⟨0, by decide, rfl, fun j h => by omega, H0⟩
 case round =>
  obtain ⟨i, h17, rfl, HJ, HS⟩ := hrel
  clear H0 L0
  by_cases hi : i < 17
  ·have hi2 : (i : Int) < 17 := by omega
   have IX := HI.out i hi
   have SK := fun u (Y : LX W b l u) => gF Y (opn i)
   cases hp : (opn i).isPrefixOf l
   ·rw [hp] at SK
    have HN : Hid (∀ j, j < i + 1 → (opn j).isPrefixOf l = false) := fun j h3 => by
     by_cases e : j = i
     ·rw [e]; exact hp
     ·exact HJ.out j (by omega)
    simp only [vT hp] at SK
    clear HJ HO HI
    generalize ba (opn i) = A at *
    go_wp2_with (go_at_call 147; refine (SK _ HS.out.1).mono ?_; rintro e w3 ⟨rfl, hs⟩; have HS3 : Hid (St W b l (w.alloc tkO) w3) := HS.out.step hs; clear hs)
    go_roundw
    case rel => exact ⟨i + 1, by omega, by simp, HN, HS3⟩
    case measure => simp [intOf]; omega
   ·rw [hp] at SK
    have HN : Hid (o = some (.op (opn i), l.drop (opn i).length)) := by
     show _ = _
     rw [← HO.out, aIO hi HJ.out hp]
    simp only [aBZ hp] at SK
    clear HJ HO HI
    obtain ⟨A, hA⟩ : ∃ A, A = ba (opn i) := ⟨_, rfl⟩
    rw [← hA] at SK IX
    have HA2 : Hid (tcs 5 0 A noB noB 0 0 false false = (tk (.op (opn i))).cs) := by
     show _ = _
     rw [hA]; rfl
    clear hA
    generalize l.drop (opn i).length = m at *
    go_wp2_with (first
     | (go_at_call 147; refine (SK _ HS.out.1).mono ?_; rintro e w3 ⟨rfl, hs⟩; have HS3 : Hid (St W b m (w.alloc tkO) w3) := HS.out.step hs; have R := HS3.out.put hb 5 0 A noB noB 0 0 false false; clear hs)
     | (refine aD rfl 123 _ _ rfl _ _ _ rfl rfl R.out ?_))
    refine bodyPost_ret (HS3.out.ans hb (tcs 5 0 A noB noB 0 0 false false) rfl rfl rfl rfl) rfl ?_
    rw [HN.out]
    exact ⟨by rw [← HA2.out]; rfl, HS3.out.fin hb _⟩
  ·have hi2 : ¬ (i : Int) < 17 := by omega
   have HN : Hid (o = none) := by
    show _ = _
    rw [← HO.out, aGS (fun j h => HJ.out j (by omega))]
   have R := HS.out.put hb 0 0 noB noB noB 0 0 false false
   clear HJ HO HI
   go_wp2_with (refine aD rfl 123 _ _ rfl _ _ _ rfl rfl R.out ?_)
   refine bodyPost_ret (HS.out.ans hb (tcs 0 0 noB noB noB 0 0 false false) rfl rfl rfl rfl) rfl ?_
   rw [HN.out]
   exact ⟨⟨⟨0, 0, noB, noB, noB, 0, 0, false, false⟩, rfl⟩, l, HS.out.fin hb _⟩
end Go.Proofs.YtljmklbbngpllaaGreatDoor
namespace Go.Proofs.YtljmklbbngpllaaGreatDoor
open Go.ChangeShapes Go.WideShapes Go.ChangeAt Go.WideElems Go.RowKit
abbrev gK : List (String × DataW Unit) := [("math/bits.deBruijn32tab", Rows.laid_math_bits_deBruijn32tab), ("math/bits.deBruijn64tab", Rows.laid_math_bits_deBruijn64tab), ("internal/strconv.uint64pow10", Rows.laid_internal_strconv_uint64pow10), ("unicode/utf8.acceptRanges", Rows.laid_unicode_utf8_acceptRanges), ("strconv.ErrRange", Rows.laid_strconv_ErrRange), ("strconv.ErrSyntax", Rows.laid_strconv_ErrSyntax), ("octavo/value.faults", Rows.laid_octavo_value_faults), ("octavo/token.operators", Rows.laid_octavo_token_operators), ("unicode/utf8.first", Rows.laid_unicode_utf8_first)]
theorem own : ownKnob Tryz.prog.godebug = none := by kernel_rfl
theorem aGT (os : Os) (args : Array Value) : laidMetH Tryz.prog gK ((World.laidAll Tryz.prog os gK).forCall (fun _ _ => 0) ⟨#[], args, []⟩).memory := by
 rw [MakeChecks.laidMetH_plain _ _ _ (by kernel_rfl)]
 exact laidMet_laidAll _ (by kernel_rfl) (by kernel_rfl)
theorem aET : (Rows.laid_internal_strconv_uint64pow10 : DataW Unit) = Lib.tabData .u64 Lib.pow10Tab := by kernel_rfl
theorem aCV {W : World} (h : laidMetH Tryz.prog gK W) : lG W := by
 have h1 := laidMetH.filter (fun x => x.1 == "internal/strconv.uint64pow10") h
 have e : gK.filter (fun x => x.1 == "internal/strconv.uint64pow10") = [("internal/strconv.uint64pow10", Lib.tabData .u64 Lib.pow10Tab)] := by
  rw [← aET]
  kernel_rfl
 rw [e, MakeChecks.laidMetH_plain _ _ _ (by kernel_rfl)] at h1
 exact Lib.tabIs_of_head (g := 5) (t := 253) (e := 195) (n := 20) (by kernel_rfl) (by kernel_rfl) Tryz.underlying253 Tryz.underlying195 (by kernel_rfl) (by kernel_rfl) h1
theorem aGU : Tryz.prog.globalNamed "octavo/value.faults" = some 1 := by kernel_rfl
theorem aGV : (Tryz.prog.globals[1]?).map (·.type) = some 172 := by kernel_rfl
theorem aCW {W : World} (h0 : laidMetH Tryz.prog gK W) : qR W := by
 have h := laidMetH.filter (fun x => x.1 == "octavo/value.faults") h0
 have e : gK.filter (fun x => x.1 == "octavo/value.faults") = [("octavo/value.faults", Rows.laid_octavo_value_faults)] := by kernel_rfl
 rw [e, MakeChecks.laidMetH_plain _ _ _ (by kernel_rfl)] at h
 obtain ⟨ps, ⟨g0, t0, cs0, f0, p0, q0, hg0, ht0, hv0, hd0, _, _⟩, _, _⟩ := h
 obtain rfl := Option.some.inj (aGU.symm.trans hg0)
 obtain rfl := Option.some.inj (aGV.symm.trans ht0)
 obtain ⟨xs, m1, rfl, hx1, hlen, hn3, hel⟩ := DataW.trod_array Tryz.underlying172 hd0
 have c9 : Tryz.prog.cellsOf 9 = 1 := by kernel_rfl
 simp only [Prod.mk.injEq] at hx1
 intro i hi
 have h1 := hel i hi
 have hxi : xs[i]? = some xs[i] := List.getElem?_eq_getElem (by omega)
 rw [hxi] at h1
 obtain ⟨b, e1, e2, _⟩ := DataW.trod_string Tryz.underlying9 h1
 rw [c9, Nat.mul_one] at e1
 have hk : b = fnm i := by
  have hy : (Rows.laid_octavo_value_faults : DataW Unit) = .agg ((List.range 9).map fun n => .lit (.string (fnm n).data.toList)) := by kernel_rfl
  have hz := hx1.1
  rw [hy] at hz
  have hz2 : ((List.range 9).map fun n => (DataW.lit (.string (fnm n).data.toList) : DataW Unit)) = xs.map (·.1) := by injection hz
  have hz3 := congrArg (fun l => l[i]?) hz2
  simp only [List.getElem?_map, hxi, Option.map_some, e2] at hz3
  rw [List.getElem?_range hi] at hz3
  simp at hz3
  exact (bytes_inj (congrArg Array.toList hz3)).symm
 have hc := World.var?_cell hg0 hv0 i
 rw [hc, ← hk]
 have : (cs0.toList.drop i)[0]? = some (.string b) := by
  have := congrArg (fun l => l[0]?) e1
  simpa using this
 simpa using this
theorem aKR : Tryz.prog.globalNamed "octavo/token.operators" = some 0 := by kernel_rfl
theorem aKS : (Tryz.prog.globals[0]?).map (·.type) = some 180 := by kernel_rfl
theorem aCX {W : World} (h0 : laidMetH Tryz.prog gK W) : ∀ i, i < 17 → W.cell? ⟨0, i, none⟩ = some (.string (ba (opn i))) := by
 have h := laidMetH.filter (fun x => x.1 == "octavo/token.operators") h0
 have e : gK.filter (fun x => x.1 == "octavo/token.operators") = [("octavo/token.operators", Rows.laid_octavo_token_operators)] := by kernel_rfl
 rw [e, MakeChecks.laidMetH_plain _ _ _ (by kernel_rfl)] at h
 obtain ⟨ps, ⟨g0, t0, cs0, f0, p0, q0, hg0, ht0, hv0, hd0, _, _⟩, _, _⟩ := h
 obtain rfl := Option.some.inj (aKR.symm.trans hg0)
 obtain rfl := Option.some.inj (aKS.symm.trans ht0)
 obtain ⟨xs, m1, rfl, hx1, hlen, hn3, hel⟩ := DataW.trod_array Tryz.underlying180 hd0
 have c9 : Tryz.prog.cellsOf 9 = 1 := by kernel_rfl
 simp only [Prod.mk.injEq] at hx1
 intro i hi
 have h1 := hel i hi
 have hxi : xs[i]? = some xs[i] := List.getElem?_eq_getElem (by omega)
 rw [hxi] at h1
 obtain ⟨b, e1, e2, _⟩ := DataW.trod_string Tryz.underlying9 h1
 rw [c9, Nat.mul_one] at e1
 have hk : b = ba (opn i) := by
  have hy : (Rows.laid_octavo_token_operators : DataW Unit) = .agg ((List.range 17).map fun n => .lit (.string (ba (opn n)).data.toList)) := by kernel_rfl
  have hz := hx1.1
  rw [hy] at hz
  have hz2 : ((List.range 17).map fun n => (DataW.lit (.string (ba (opn n)).data.toList) : DataW Unit)) = xs.map (·.1) := by injection hz
  have hz3 := congrArg (fun l => l[i]?) hz2
  simp only [List.getElem?_map, hxi, Option.map_some, e2] at hz3
  rw [List.getElem?_range hi] at hz3
  simp at hz3
  exact (bytes_inj (show (ba (opn i)).data.toList = b.data.toList from hz3)).symm
 have hc := World.var?_cell hg0 hv0 i
 rw [hc, ← hk]
 have : (cs0.toList.drop i)[0]? = some (.string b) := by
  have := congrArg (fun l => l[0]?) e1
  simpa using this
 simpa using this
theorem gES : Tryz.prog.globalNamed "strconv.ErrSyntax" = some 6 := by kernel_rfl
theorem aGW : (Tryz.prog.globals[6]?).map (·.type) = some 139 := by kernel_rfl
theorem gER : Tryz.prog.globalNamed "strconv.ErrRange" = some 7 := by kernel_rfl
theorem aGX : (Tryz.prog.globals[7]?).map (·.type) = some 139 := by kernel_rfl
theorem aB1 : Tryz.prog.cellsOf 268 = 1 := by kernel_rfl
theorem aEU : Tryz.prog.cellsOf 9 = 1 := by kernel_rfl
theorem star : "*" ++ "errors.errorString" = "*errors.errorString" := by decide
theorem aEV (u : TypeId) (h : Tryz.prog.typeName? 3 u = some "*errors.errorString") : u = 266 :=
 typeName_ptr_named (nm := "errors.errorString") (by rw [star]; kernel_rfl) (by kernel_rfl) (by decide) u (by rw [star]; exact h)
theorem aCY {W : World} (h0 : laidMetH Tryz.prog gK W) : aEJ W := by
 have h1 := laidMetH.filter (fun x => x.1 == "strconv.ErrSyntax") h0
 have e1 : gK.filter (fun x => x.1 == "strconv.ErrSyntax") = [("strconv.ErrSyntax", Rows.laid_strconv_ErrSyntax)] := by kernel_rfl
 rw [e1, MakeChecks.laidMetH_plain _ _ _ (by kernel_rfl)] at h1
 have h2 := laidMetH.filter (fun x => x.1 == "strconv.ErrRange") h0
 have e2 : gK.filter (fun x => x.1 == "strconv.ErrRange") = [("strconv.ErrRange", Rows.laid_strconv_ErrRange)] := by kernel_rfl
 rw [e2, MakeChecks.laidMetH_plain _ _ _ (by kernel_rfl)] at h2
 obtain ⟨a1, _, v1, -, -, -⟩ := laid_sentinel h1 gES aGW Tryz.underlying139 aEV Tryz.underlying266 Tryz.underlying268 rfl rfl Tryz.underlying9 aB1 aEU
 obtain ⟨a2, _, v2, -, -, -⟩ := laid_sentinel h2 gER aGX Tryz.underlying139 aEV Tryz.underlying266 Tryz.underlying268 rfl rfl Tryz.underlying9 aB1 aEU
 exact ⟨_, _, _, _, by have h0 := World.var?_cell gES v1 0; simpa using h0, by have h0 := World.var?_cell gER v2 0; simpa using h0⟩
theorem aAV {W : World} (h : W.ShapedOpen Tryz.prog) : ∃ m, W.cell? ⟨2, 0, none⟩ = some (.int .i64 m) :=
 Go.Proofs.cell_of_shapedOpen_int (zero := #[.int .i64 0]) (t := 3) h (of_decide_eq_true (by kernel_rfl)) (by kernel_rfl) rfl (by kernel_rfl) (by kernel_rfl) Tryz.underlying3
theorem aEW (i : Nat) (h : i < 17) : opn i = (([[60, 62], [60, 61], [62, 61], [43], [45], [42], [47], [94], [38], [61], [60], [62], [37], [40], [41], [44], [58]] : List (List UInt8))[i]'h) := by
 have : i = 0 ∨ i = 1 ∨ i = 2 ∨ i = 3 ∨ i = 4 ∨ i = 5 ∨ i = 6 ∨ i = 7 ∨ i = 8 ∨ i = 9 ∨ i = 10 ∨ i = 11 ∨ i = 12 ∨ i = 13 ∨ i = 14 ∨ i = 15 ∨ i = 16 := by omega
 rcases this with rfl | rfl | rfl | rfl | rfl | rfl | rfl | rfl | rfl | rfl | rfl | rfl | rfl | rfl | rfl | rfl | rfl <;> rfl
theorem aGY {W : World} (h : laidMetH Tryz.prog gK W) (hsh : W.ShapedOpen Tryz.prog) : dB W := ⟨⟨⟨aCV h, aCW h⟩, aCY h⟩, fun i hi => by rw [← aEW i hi]; exact aCX h i hi, aAV hsh⟩
theorem lW {H : Type} {enc : TypeId × Value → H} {a : Assume} {C : Checked} {os : Os} {f : FuncId} {fn : Func} {s : ChangeSpec} {conds : List PathCond} {apart fresh handsOn again : Bool} {X : World → Array Value → Prop}
  (hX : ∀ (w w' : World) (args : Array Value), w.heap = w'.heap → X w args → X w' args)
  (own : ownKnob C.prog.godebug = none) (started : os.Started) (noInit : C.prog.inits.idxOf? f = none) (hfn : C.prog.funcs[f]? = some fn)
  (witness : ∃ (w : World) (tape : Tape) (i : Input), w.os = os ∧ (w.forCall tape i).Shaped C.prog ∧ i.vars = [] ∧ Input.okWide C.prog (w.forCall tape i) .any w.heap.size f i ∧
   ((s.pre enc C.prog fn conds apart (w.forCall tape i).memory i.args ∧ X (w.forCall tape i).memory i.args) ∧ sizedMet enc C.prog fn (OpenSpec.ofChange s) apart (w.forCall tape i).memory i.args) ∧ a.holds C.prog (lone (Frame.enter C.prog f i.args .normal) [] (w.forCall tape i)))
  (contract : ∀ (W : World) (base : Nat) (args : Array Value) (ds gs : List (DataW H)) (before : List MemPlace),
   (∀ (j : Nat) t v, fn.params[j]? = some t → args[j]? = some v → Value.okWide C.prog W .any base t v) →
   DataW.Whole enc C.prog fn.params.toList s.vars apart W args.toList ds gs before →
   conds.all (PathCond.test C.prog ⟨fn.params.toList, ds, s.plain.varTypes C.prog, gs⟩) = true →
   (DataW.weightsEach C.prog (fn.params.toList ++ s.plain.varTypes C.prog) (ds ++ gs)).all (· ≤ reachBytes) = true → X W args → W.ShapedOpen C.prog →
   a.holds C.prog (lone (Frame.enter C.prog f args .normal) [] W) →
   Calls C.prog f args W fun e W' => ∃ v, e = .returned v ∧ s.post enc C.prog fn apart fresh handsOn again W args v W') :
  ReturnsInHanded a C os f .any (fun w args => (s.pre enc C.prog fn conds apart w args ∧ X w args) ∧ sizedMet enc C.prog fn (OpenSpec.ofChange s) apart w args) (s.post enc C.prog fn apart fresh handsOn again) := by
 refine returnsInHanded_of_calls own started noInit witness ?_
 intro w tape i _ hsh _ hok hpre hholds
 obtain ⟨_, _, _, fn', hfn', _, _, _, _, hval⟩ := hok
 have e : fn' = fn := Option.some.inj (hfn'.symm.trans hfn)
 subst e
 obtain ⟨⟨⟨ds, gs, before, hw, hc⟩, hx⟩, hz⟩ := hpre
 have hw' := DataW.Whole.of_heap (w' := w.forCall tape i) (by rfl) hw
 refine (contract (w.forCall tape i) w.heap.size i.args ds gs before hval hw' hc (hz.weights hw) (hX _ _ _ (by rfl) hx) hsh hholds).mono fun e W' ⟨v, he, hp⟩ => ?_
 subst he
 exact ChangeSpec.post_blind hp
end Go.Proofs.YtljmklbbngpllaaGreatDoor
