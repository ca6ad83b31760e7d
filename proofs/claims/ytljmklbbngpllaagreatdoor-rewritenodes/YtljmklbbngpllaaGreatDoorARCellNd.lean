/- AName, AGood, AGoodR, APrint, ADig, ARCell. -/
import Derived.Test.YtljmklbbngpllaaGreatDoorVJoinNd
set_option linter.unusedVariables false
set_option linter.unusedSimpArgs false
set_option maxHeartbeats 16000000
set_option maxRecDepth 100000
namespace Go.Proofs.YtljmklbbngpllaaGreatDoor
open Go.RowKit
def okC (c : UInt8) : Bool := Ad.isL c || Ad.isD c || (c == 95)
def jM (l : List UInt8) : Bool := match l with
 | [] => false
 | c :: _ => Ad.isL c
def spF (l : List UInt8) : Bool := decide (l.length ≤ 16) && jM l && l.all okC
def lcF (l : List UInt8) : Bool := (l.drop 1).all Ad.isD && decide (1 < l.length)
def gnF (l : List UInt8) : Bool := spF l && !lcF l && !(lS ⟨l.toArray⟩).2
theorem aBS (p : UInt8 → Bool) (s : ByteArray) (k : Nat) (h : k < s.size) (hall : s.data.toList.all p = true) : p s[k] = true := by
 rw [byte_at s k h (by rw [cZ]; exact h)]
 exact List.all_eq_true.1 hall _ (List.getElem_mem _)
theorem uD (p : UInt8 → Bool) (s : ByteArray) (k : Nat) (h : k < s.size) (ha : (s.data.toList.take k).all p = true) (hb : p s[k] = true) : (s.data.toList.take (k + 1)).all p = true := by
 rw [tL _ _ (by rw [cZ]; exact h), List.all_append, ha, ← byte_at s k h (by rw [cZ]; exact h)]
 simp [hb]
theorem aCM : ∀ (l : List UInt8) (h : 0 < l.length), jM l = Ad.isL l[0]
 | [], h => by simp at h
 | a :: r, h => rfl
theorem aGH (s : ByteArray) (h : 0 < s.size) : jM s.data.toList = Ad.isL s[0] := by
 rw [byte_at s 0 h (by rw [cZ]; exact h)]
 exact aCM _ _
theorem aEG (c d : UInt8) : (c = d ∧ ((c.toNat : Int) == (d.toNat : Int)) = true) ∨ (c ≠ d ∧ ((c.toNat : Int) == (d.toNat : Int)) = false) := by
 by_cases h : c = d
 ·subst h; left; exact ⟨rfl, by simp⟩
 ·right
  refine ⟨h, ?_⟩
  rw [beq_eq_false_iff_ne]
  intro e
  exact h (UInt8.toNat_inj.1 (by omega))
theorem yN (s : ByteArray) (hs : s.size ≤ 9223372036854775807) (w : World) :
  Calls Tryz.prog 197 #[.string s] w fun e w' => e = .returned (.bool (spF s.data.toList)) ∧ Below w.heap.size w w' := by
 have hl := cZ s
 generalize hr : spF s.data.toList = r
 have HR : Hid (spF s.data.toList = r) := hr
 clear hr
 by_cases h0 : s.size = 0
 ·have h1 : (s.size : Int) < 1 := by omega
  have HE : Hid (r = false) := by
   show _ = _
   have : s.data.toList = [] := List.eq_nil_of_length_eq_zero (by omega)
   rw [← HR.out, this]
   rfl
  go_enter Tryz.func197, Tryz.ntmps197
  go_wp2
  go_ret
  exact ⟨by rw [HE.out]; rfl, Below.refl _ _⟩
 have h1 : ¬ (s.size : Int) < 1 := by omega
 by_cases h16 : 16 < s.size
 ·have h2 : (16 : Int) < s.size := by omega
  have HE : Hid (r = false) := by
   show _ = _
   rw [← HR.out]
   unfold spF
   rw [decide_eq_false (show ¬ s.data.toList.length ≤ 16 by omega)]
   rfl
  go_enter Tryz.func197, Tryz.ntmps197
  go_wp2
  go_ret
  exact ⟨by rw [HE.out]; rfl, Below.refl _ _⟩
 have h2 : ¬ (16 : Int) < s.size := by omega
 have hz : 0 < s.size := by omega
 have L0 := fun u => iU s[0] u
 have hh := aGH s hz
 cases hL : Ad.isL s[0]
 ·rw [hL] at L0 hh
  have HE : Hid (r = false) := by
   show _ = _
   rw [← HR.out]
   unfold spF
   rw [hh]
   simp
  go_enter Tryz.func197, Tryz.ntmps197
  go_wp2_with (go_at_call 193; refine (L0 _).mono ?_; rintro e w' ⟨rfl, hw⟩; obtain rfl := hw.symm; clear hw)
  go_ret
  exact ⟨by rw [HE.out]; rfl, Below.refl _ _⟩
 rw [hL] at L0 hh
 have HE : Hid (r = s.data.toList.all okC) := by
  show _ = _
  rw [← HR.out]
  unfold spF
  rw [hh, decide_eq_true (show s.data.toList.length ≤ 16 by omega)]
  rfl
 clear hh HR
 obtain ⟨c, wb, hrun, hcell, hbel⟩ := lJ w s
 have HB : Hid (Below w.heap.size w wb) := hbel
 have HC : Hid (∀ (k : Nat) (h : k < s.size), wb.cell? ⟨w.heap.size, k, none⟩ = some (.int .u8 (s[k].toNat : Int))) := hcell
 clear hbel hcell
 go_enter Tryz.func197, Tryz.ntmps197
 go_wp2_with (go_at_call 193; refine (L0 _).mono ?_; rintro e w' ⟨rfl, hw⟩; obtain rfl := hw.symm; clear hw)
 go_loop [4, 22] (fun _ i => ∃ k : Nat, k ≤ s.size ∧ i = .int .i64 k ∧ Hid ((s.data.toList.take k).all okC = true)) (fun _ i => s.size - (intOf i).toNat)
 case atStart => exact ⟨0, Nat.zero_le _, rfl, by simp [Hid]⟩
 case round =>
  obtain ⟨k, hk, rfl, ha⟩ := hrel
  clear L0
  by_cases hlt : k < s.size
  ·have hck := HC.out k hlt
   have Lk := fun u => iU s[k] u
   have Dk := fun u => tJ s[k] u
   have HS : Hid (okC s[k] = true → (s.data.toList.take (k + 1)).all okC = true) := fun h => uD okC s k hlt ha.out h
   have HN : Hid (okC s[k] = false → r = false) := fun h => by
    rw [HE.out]
    cases hh : s.data.toList.all okC
    ·rfl
    ·rw [aBS okC s k hlt hh] at h; cases h
   have HO : Hid (okC s[k] = (Ad.isL s[k] || Ad.isD s[k] || (s[k] == 95))) := rfl
   cases h1 : Ad.isL s[k]
   ·rw [h1] at Lk HO
    cases h2 : Ad.isD s[k]
    ·rw [h2] at Dk HO
     rcases aEG s[k] 95 with ⟨h3, h4⟩ | ⟨h3, h4⟩
     ·have HA : Hid ((s.data.toList.take (k + 1)).all okC = true) := HS.out (by rw [HO.out, h3]; rfl)
      have h5 : ((s[k].toNat : Int) != 95) = false := by rw [h3]; rfl
      clear h1 h2 h3 h4 HN HS
      go_wp2_with (first | (go_at_call 193; refine (Lk _).mono ?_; rintro e w' ⟨rfl, hw⟩; obtain rfl := hw.symm; clear hw) | (go_at_call 221; refine (Dk _).mono ?_; rintro e w' ⟨rfl, hw⟩; obtain rfl := hw.symm; clear hw))
      go_round
      case rel => exact ⟨k + 1, by omega, by go_num, HA.out⟩
      case measure => simp [intOf]; omega
     ·have HF : Hid (r = false) := HN.out (by rw [HO.out]; simpa using h3)
      have h5 : ((s[k].toNat : Int) != 95) = true := by rw [bne, show ((s[k].toNat : Int) == 95) = false from h4]; rfl
      clear h1 h2 h3 h4 HN HS
      go_wp2_with (first | (go_at_call 193; refine (Lk _).mono ?_; rintro e w' ⟨rfl, hw⟩; obtain rfl := hw.symm; clear hw) | (go_at_call 221; refine (Dk _).mono ?_; rintro e w' ⟨rfl, hw⟩; obtain rfl := hw.symm; clear hw))
      go_ret
      exact ⟨by rw [HF.out]; rfl, HB.out⟩
    ·rw [h2] at Dk HO
     have HA : Hid ((s.data.toList.take (k + 1)).all okC = true) := HS.out (by rw [HO.out]; rfl)
     clear h1 h2 HN HS
     go_wp2_with (first | (go_at_call 193; refine (Lk _).mono ?_; rintro e w' ⟨rfl, hw⟩; obtain rfl := hw.symm; clear hw) | (go_at_call 221; refine (Dk _).mono ?_; rintro e w' ⟨rfl, hw⟩; obtain rfl := hw.symm; clear hw))
     go_round
     case rel => exact ⟨k + 1, by omega, by go_num, HA.out⟩
     case measure => simp [intOf]; omega
   ·rw [h1] at Lk HO
    have HA : Hid ((s.data.toList.take (k + 1)).all okC = true) := HS.out (by rw [HO.out]; rfl)
    clear h1 HN HS
    go_wp2_with (first | (go_at_call 193; refine (Lk _).mono ?_; rintro e w' ⟨rfl, hw⟩; obtain rfl := hw.symm; clear hw))
    go_round
    case rel => exact ⟨k + 1, by omega, by go_num, HA.out⟩
    case measure => simp [intOf]; omega
  ·have HT : Hid (r = true) := by
    show _ = _
    have hh := ha.out
    rw [List.take_of_length_le (by omega)] at hh
    rw [HE.out, hh]
   go_wp2
   go_ret
   exact ⟨by rw [HT.out]; rfl, HB.out⟩
theorem aAL (s : ByteArray) : (s.extract 1 s.size).data.toList = s.data.toList.drop 1 := by
 have := drop_mk s.data.toList
 rw [pY] at this
 rw [this]
theorem mW (s : ByteArray) (hz : 0 < s.size) (hs : s.size ≤ 9223372036854775807) (w : World) :
  Calls Tryz.prog 198 #[.string s] w fun e w' => e = .returned (.bool (lcF s.data.toList)) ∧ Below w.heap.size w w' := by
 have hl := cZ s
 generalize hr : lcF s.data.toList = r
 have HR : Hid (lcF s.data.toList = r) := hr
 clear hr
 have hx := aAL s
 have hxs : (s.extract 1 s.size).size = s.size - 1 := by simp
 have HE : Hid (r = ((s.extract 1 s.size).data.toList.all Ad.isD && decide (1 < s.size))) := by
  show _ = _
  rw [← HR.out]
  unfold lcF
  rw [hx, hl]
 obtain ⟨t, ht⟩ : ∃ t, s.extract 1 s.size = t := ⟨_, rfl⟩
 rw [ht] at hx hxs HE
 have hlt := cZ t
 clear HR hx
 obtain ⟨c, wb, hrun, hcell, hbel⟩ := lJ w t
 have HB : Hid (Below w.heap.size w wb) := hbel
 have HC : Hid (∀ (k : Nat) (h : k < t.size), wb.cell? ⟨w.heap.size, k, none⟩ = some (.int .u8 (t[k].toNat : Int))) := hcell
 clear hbel hcell
 rw [← ht] at hrun
 clear ht
 have c1 : (1 : Int) ≤ s.size := by omega
 go_enter Tryz.func198, Tryz.ntmps198
 go_wp2
 go_loop [4, 9] (fun _ i => ∃ k : Nat, k ≤ t.size ∧ i = .int .i64 k ∧ Hid ((t.data.toList.take k).all Ad.isD = true)) (fun _ i => t.size - (intOf i).toNat)
 case atStart => exact ⟨0, Nat.zero_le _, rfl, by simp [Hid]⟩
 case round =>
  obtain ⟨k, hk, rfl, ha⟩ := hrel
  by_cases hlt2 : k < t.size
  ·have hck := HC.out k hlt2
   have Dk := fun u => tJ t[k] u
   cases h2 : Ad.isD t[k]
   ·rw [h2] at Dk
    have HF : Hid (r = false) := by
     show _ = _
     rw [HE.out]
     cases hh : t.data.toList.all Ad.isD
     ·rfl
     ·rw [aBS Ad.isD t k hlt2 hh] at h2; cases h2
    clear h2
    go_wp2_with (go_at_call 221; refine (Dk _).mono ?_; rintro e w' ⟨rfl, hw⟩; obtain rfl := hw.symm; clear hw)
    go_ret
    exact ⟨by rw [HF.out]; rfl, HB.out⟩
   ·rw [h2] at Dk
    have HA : Hid ((t.data.toList.take (k + 1)).all Ad.isD = true) := uD Ad.isD t k hlt2 ha.out h2
    clear h2
    go_wp2_with (go_at_call 221; refine (Dk _).mono ?_; rintro e w' ⟨rfl, hw⟩; obtain rfl := hw.symm; clear hw)
    go_round
    case rel => exact ⟨k + 1, by omega, by go_num, HA.out⟩
    case measure => simp [intOf]; omega
  ·have HT : Hid (r = decide ((1 : Int) < s.size)) := by
    show _ = _
    have hh := ha.out
    rw [List.take_of_length_le (by omega)] at hh
    rw [HE.out, hh, Bool.true_and, decide_eq_decide]
    omega
   go_wp2
   go_ret
   exact ⟨by rw [HT.out]; rfl, HB.out⟩
theorem mX {l : List UInt8} (h : spF l = true) : l.length ≤ 16 ∧ jM l = true ∧ l.all okC = true := by
 unfold spF at h
 simp only [Bool.and_eq_true, decide_eq_true_eq] at h
 exact ⟨h.1.1, h.1.2, h.2⟩
theorem oD {c : UInt8} (h : Ad.isL c = true) : c ≠ 39 ∧ c ≠ 45 ∧ c ≠ 46 ∧ isD c = false := by
 unfold Ad.isL at h
 simp only [Bool.or_eq_true, Bool.and_eq_true, decide_eq_true_eq] at h
 refine ⟨?_, ?_, ?_, ?_⟩
 ·rintro rfl; revert h; decide
 ·rintro rfl; revert h; decide
 ·rintro rfl; revert h; decide
 ·unfold isD; rw [Bool.and_eq_false_iff, decide_eq_false_iff_not, decide_eq_false_iff_not]; omega
theorem mY {l : List UInt8} (h : jM l = true) : (bZ l).2 = false := by
 cases l with
 | nil => cases h
 | cons c r =>
  obtain ⟨_, h2, h3, h4⟩ := oD h
  have e1 : dash (c :: r) = false := by unfold dash; simpa using h2
  have e2 : body (c :: r) = c :: r := by unfold body; rw [e1]; rfl
  have e3 : jT (c :: r) = c :: jT r := by unfold jT; rw [List.takeWhile_cons, if_pos (by simpa using h3)]
  unfold bZ
  rw [e2, e3]
  have e4 : jS (c :: jT r) 1 12 = false := by unfold jS; rw [List.all_cons, h4]; rfl
  rw [if_neg (by rw [e4]; simp)]
theorem qV {s : ByteArray} (h : jM s.data.toList = true) : ((bO s).1 == 3) = (lS s).2 := by
 have hp := mY h
 have h0 : ¬ s.toList = [] := by
  rw [ByteArray.toList_eq]
  intro e
  rw [e] at h
  cases h
 have h1 : ¬ s.data.toList.head? = some 39 := by
  intro e
  cases hl : s.data.toList with
  | nil => rw [hl] at h; cases h
  | cons c r =>
   rw [hl] at h e
   simp only [List.head?_cons, Option.some.injEq] at e
   exact (oD h).1 e
 unfold bO
 rw [if_neg h0, if_neg h1, if_neg (by rw [hp]; decide)]
 cases ht : (lS s).2
 ·rw [if_neg (by decide)]
  split <;> rfl
 ·rw [if_pos rfl]
  rfl
theorem vM (W : World) (k n : Int) (x : ByteArray) : (Instr.field 23 (.agg #[.int .i64 k, .int .i64 n, .string x]) 0).run Tryz.prog W = .ok (.int .i64 k) W := by kernel_rfl
theorem sZ (s : ByteArray) (hs : s.size ≤ 9223372036854775807) (w : World) (T : eD w) :
  Calls Tryz.prog 199 #[.string s] w fun e w' => e = .returned (.bool ((bO s).1 == 3)) ∧ Below w.heap.size w w' := by
 have Y := kP s hs w T
 generalize (bO s).1 = k at *
 generalize (bO s).2.1 = n at *
 generalize (bO s).2.2 = x at *
 have FL := fun W => vM W k n x
 go_enter Tryz.func199, Tryz.ntmps199
 go_wp2_with (go_at_call 200; refine Y.mono ?_; rintro e w1 ⟨rfl, hb⟩; have HB : Hid (Below w.heap.size w w1) := hb; clear hb)
 go_ret
 exact ⟨rfl, HB.out⟩
theorem aEH (s : ByteArray) : (spF s.data.toList = false ∧ gnF s.data.toList = false) ∨ (spF s.data.toList = true ∧ 0 < s.size ∧ ((lcF s.data.toList = true ∧ gnF s.data.toList = false) ∨ (lcF s.data.toList = false ∧ gnF s.data.toList = !((bO s).1 == 3)))) := by
 unfold gnF
 rw [pY]
 cases h : spF s.data.toList
 ·left; exact ⟨rfl, rfl⟩
 ·right
  obtain ⟨h1, h2, h3⟩ := mX h
  refine ⟨rfl, ?_, ?_⟩
  ·rw [← cZ]
   cases hl : s.data.toList with
   | nil => rw [hl] at h2; cases h2
   | cons a r => simp
  ·cases hc : lcF s.data.toList
   ·right; rw [qV h2]; exact ⟨rfl, rfl⟩
   ·left; exact ⟨rfl, rfl⟩
theorem bU (s : ByteArray) (hs : s.size ≤ 9223372036854775807) (w : World) (T : eD w) :
  Calls Tryz.prog 154 #[.string s] w fun e w' => e = .returned (.bool (gnF s.data.toList)) ∧ Below w.heap.size w w' := by
 have SP := yN s hs w
 rcases aEH s with ⟨h1, h2⟩ | ⟨h1, hz, ⟨h3, h2⟩ | ⟨h3, h2⟩⟩
 ·rw [h1] at SP
  rw [h2]
  go_enter Tryz.func154, Tryz.ntmps154
  go_wp2_with (go_at_call 197; refine SP.mono ?_; rintro e w1 ⟨rfl, hb⟩; have HB : Hid (Below w.heap.size w w1) := hb; clear hb)
  go_ret
  exact ⟨rfl, HB.out⟩
 ·rw [h1] at SP
  rw [h2]
  have LC := fun u => mW s hz hs u
  rw [h3] at LC
  go_enter Tryz.func154, Tryz.ntmps154
  go_wp2_with (first | (go_at_call 197; refine SP.mono ?_; rintro e w1 ⟨rfl, hb⟩; have HB : Hid (Below w.heap.size w w1) := hb; clear hb) | (go_at_call 198; refine (LC _).mono ?_; rintro e w2 ⟨rfl, hb⟩; have HB2 : Hid (Below w.heap.size w w2) := aG HB.out hb; clear hb))
  go_ret
  exact ⟨rfl, HB2.out⟩
 ·rw [h1] at SP
  rw [h2]
  have LC := fun u => mW s hz hs u
  have LT := fun u hu => sZ s hs u hu
  rw [h3] at LC
  generalize ((bO s).1 == 3) = k at *
  go_enter Tryz.func154, Tryz.ntmps154
  go_wp2_with (first | (go_at_call 197; refine SP.mono ?_; rintro e w1 ⟨rfl, hb⟩; have HB : Hid (Below w.heap.size w w1) := hb; clear hb) | (go_at_call 198; refine (LC _).mono ?_; rintro e w2 ⟨rfl, hb⟩; have HB2 : Hid (Below w.heap.size w w2) := aG HB.out hb; clear hb) | (go_at_call 199; refine (LT _ (T.below HB2.out)).mono ?_; rintro e w3 ⟨rfl, hb⟩; have HB3 : Hid (Below w.heap.size w w3) := aG HB2.out hb; clear hb))
  go_ret
  exact ⟨rfl, HB3.out⟩
theorem yO : Ad.Names gnF := fun l h => by
 unfold gnF at h
 simp only [Bool.and_eq_true] at h
 obtain ⟨_, h2, h3⟩ := mX h.1.1
 refine ⟨fun e => ?_, fun x hx => ?_⟩
 ·rw [e] at h2; cases h2
 ·have hk := List.all_eq_true.1 h3 x hx
  refine ⟨?_, ?_, ?_⟩ <;> (rintro rfl; revert hk; decide)
def bB (b s : ByteArray) (r c : Int) : Bool := inB r c && (if s.toList = [] then decide (b.toList = []) else gnF s.data.toList && (decide (b.toList = []) || gnF b.data.toList))
theorem uE (b s : ByteArray) (r c : Int) : (inB r c = false ∧ bB b s r c = false) ∨ (inB r c = true ∧ s.toList = [] ∧ b.toList = [] ∧ bB b s r c = true) ∨
  (inB r c = true ∧ s.toList = [] ∧ (b.toList == []) = false ∧ bB b s r c = false) ∨ (inB r c = true ∧ (s.toList == []) = false ∧ gnF s.data.toList = false ∧ bB b s r c = false) ∨
  (inB r c = true ∧ (s.toList == []) = false ∧ gnF s.data.toList = true ∧ b.toList = [] ∧ bB b s r c = true) ∨ (inB r c = true ∧ (s.toList == []) = false ∧ gnF s.data.toList = true ∧ (b.toList == []) = false ∧ bB b s r c = gnF b.data.toList) := by
 unfold bB
 cases h : inB r c
 ·left; exact ⟨rfl, rfl⟩
 right
 by_cases hs : s.toList = []
 ·by_cases hb : b.toList = []
  ·left; simp [hs, hb]
  ·right; left; simp [hs, hb]
 ·right; right
  have hs2 : (s.toList == []) = false := by simpa using hs
  cases hg : gnF s.data.toList
  ·left; simp [hs]
  ·right
   by_cases hb : b.toList = []
   ·left; simp [hs, hb]
   ·right; simp [hs, hb]
theorem uF (b s : ByteArray) (r c : Int) (fr fc : Bool) (hb : b.size ≤ 9223372036854775807) (hs : s.size ≤ 9223372036854775807) (w : World) (T : eD w) :
  Calls Tryz.prog 162 #[bC b s r c fr fc] w fun e w' => e = .returned (.bool (bB b s r c)) ∧ Below w.heap.size w w' := by
 have IN := fun u => aD9 r c u
 have GS : RC (w.alloc (aU b s r c fr fc)) 154 #[.string s] _ := RC.of fun u hu => bU s hs u (T.below (aR hu))
 have GB : RC (w.alloc (aU b s r c fr fc)) 154 #[.string b] _ := RC.of fun u hu => bU b hb u (T.below (aR hu))
 have HB0 : Hid (Below (w.alloc (aU b s r c fr fc)).heap.size (w.alloc (aU b s r c fr fc)) (w.alloc (aU b s r c fr fc))) := Below.refl _ _
 rcases uE b s r c with ⟨h1, h2⟩ | ⟨h1, h3, h4, h2⟩ | ⟨h1, h3, h4, h2⟩ | ⟨h1, h3, h4, h2⟩ | ⟨h1, h3, h4, h5, h2⟩ | ⟨h1, h3, h4, h5, h2⟩
 ·rw [h2]
  rw [h1] at IN
  go_enter Tryz.func162, Tryz.ntmps162
  go_wp2_with (go_at_call 196; refine (IN _).mono ?_; rintro e w' ⟨rfl, hw⟩; obtain rfl := hw.symm; clear hw)
  go_ret
  exact ⟨rfl, aR HB0.out⟩
 ·rw [h2]
  rw [h1] at IN
  go_enter Tryz.func162, Tryz.ntmps162
  go_wp2_with (go_at_call 196; refine (IN _).mono ?_; rintro e w' ⟨rfl, hw⟩; obtain rfl := hw.symm; clear hw)
  go_ret
  exact ⟨rfl, aR HB0.out⟩
 ·rw [h2]
  rw [h1] at IN
  go_enter Tryz.func162, Tryz.ntmps162
  go_wp2_with (go_at_call 196; refine (IN _).mono ?_; rintro e w' ⟨rfl, hw⟩; obtain rfl := hw.symm; clear hw)
  go_ret
  exact ⟨rfl, aR HB0.out⟩
 ·rw [h2]
  rw [h1] at IN
  rw [h4] at GS
  clear GB
  go_enter Tryz.func162, Tryz.ntmps162
  go_wp2_with (first | (go_at_call 196; refine (IN _).mono ?_; rintro e w' ⟨rfl, hw⟩; obtain rfl := hw.symm; clear hw) | (go_at_call 154; refine (GS _ HB0.out).mono ?_; rintro e w1 ⟨rfl, hb⟩; have HB1 : Hid (Below (w.alloc (aU b s r c fr fc)).heap.size (w.alloc (aU b s r c fr fc)) w1) := hb; clear hb))
  go_ret
  exact ⟨rfl, aR HB1.out⟩
 ·rw [h2]
  rw [h1] at IN
  rw [h4] at GS
  clear GB
  go_enter Tryz.func162, Tryz.ntmps162
  go_wp2_with (first | (go_at_call 196; refine (IN _).mono ?_; rintro e w' ⟨rfl, hw⟩; obtain rfl := hw.symm; clear hw) | (go_at_call 154; refine (GS _ HB0.out).mono ?_; rintro e w1 ⟨rfl, hb⟩; have HB1 : Hid (Below (w.alloc (aU b s r c fr fc)).heap.size (w.alloc (aU b s r c fr fc)) w1) := hb; clear hb; obtain ⟨c0, c1, c2, c3, c4, c5⟩ := aP (new1 HB1.out)))
  go_ret
  exact ⟨rfl, aR HB1.out⟩
 ·rw [h2]
  rw [h1] at IN
  rw [h4] at GS
  generalize gnF b.data.toList = gb at *
  clear h2
  go_enter Tryz.func162, Tryz.ntmps162
  go_wp2_with (go_at_call 196; refine (IN _).mono ?_; rintro e w' ⟨rfl, hw⟩; obtain rfl := hw.symm; clear hw)
  refine (GS _ HB0.out).mono ?_
  rintro e w1 ⟨rfl, hb⟩
  have HB1 : Hid (Below (w.alloc (aU b s r c fr fc)).heap.size (w.alloc (aU b s r c fr fc)) w1) := hb
  clear hb GS
  obtain ⟨c0, c1, c2, c3, c4, c5⟩ := aP (new1 HB1.out)
  go_wp2_with fail
  refine (GB _ HB1.out).mono ?_
  rintro e w2 ⟨rfl, hb⟩
  have HB2 : Hid (Below (w.alloc (aU b s r c fr fc)).heap.size (w.alloc (aU b s r c fr fc)) w2) := hb
  clear hb
  go_wp2
  go_ret
  exact ⟨rfl, aR HB2.out⟩
theorem rn1 : Utf8.encode (65 + ((1 : Nat) : Int) - 1) = ⟨#[Ad.eT 1]⟩ := by kernel_rfl
theorem rn2 : Utf8.encode (65 + ((2 : Nat) : Int) - 1) = ⟨#[Ad.eT 2]⟩ := by kernel_rfl
theorem rn3 : Utf8.encode (65 + ((3 : Nat) : Int) - 1) = ⟨#[Ad.eT 3]⟩ := by kernel_rfl
theorem rn4 : Utf8.encode (65 + ((4 : Nat) : Int) - 1) = ⟨#[Ad.eT 4]⟩ := by kernel_rfl
theorem rn5 : Utf8.encode (65 + ((5 : Nat) : Int) - 1) = ⟨#[Ad.eT 5]⟩ := by kernel_rfl
theorem rn6 : Utf8.encode (65 + ((6 : Nat) : Int) - 1) = ⟨#[Ad.eT 6]⟩ := by kernel_rfl
theorem rn7 : Utf8.encode (65 + ((7 : Nat) : Int) - 1) = ⟨#[Ad.eT 7]⟩ := by kernel_rfl
theorem rn8 : Utf8.encode (65 + ((8 : Nat) : Int) - 1) = ⟨#[Ad.eT 8]⟩ := by kernel_rfl
theorem rn9 : Utf8.encode (65 + ((9 : Nat) : Int) - 1) = ⟨#[Ad.eT 9]⟩ := by kernel_rfl
theorem aKo : Utf8.encode (65 + ((10 : Nat) : Int) - 1) = ⟨#[Ad.eT 10]⟩ := by kernel_rfl
theorem aKp : Utf8.encode (65 + ((11 : Nat) : Int) - 1) = ⟨#[Ad.eT 11]⟩ := by kernel_rfl
theorem aKq : Utf8.encode (65 + ((12 : Nat) : Int) - 1) = ⟨#[Ad.eT 12]⟩ := by kernel_rfl
theorem aKr : Utf8.encode (65 + ((13 : Nat) : Int) - 1) = ⟨#[Ad.eT 13]⟩ := by kernel_rfl
theorem aKs : Utf8.encode (65 + ((14 : Nat) : Int) - 1) = ⟨#[Ad.eT 14]⟩ := by kernel_rfl
theorem aKt : Utf8.encode (65 + ((15 : Nat) : Int) - 1) = ⟨#[Ad.eT 15]⟩ := by kernel_rfl
theorem aKu : Utf8.encode (65 + ((16 : Nat) : Int) - 1) = ⟨#[Ad.eT 16]⟩ := by kernel_rfl
theorem aKv : Utf8.encode (65 + ((17 : Nat) : Int) - 1) = ⟨#[Ad.eT 17]⟩ := by kernel_rfl
theorem aKw : Utf8.encode (65 + ((18 : Nat) : Int) - 1) = ⟨#[Ad.eT 18]⟩ := by kernel_rfl
theorem aKx : Utf8.encode (65 + ((19 : Nat) : Int) - 1) = ⟨#[Ad.eT 19]⟩ := by kernel_rfl
theorem aKy : Utf8.encode (65 + ((20 : Nat) : Int) - 1) = ⟨#[Ad.eT 20]⟩ := by kernel_rfl
theorem aKz : Utf8.encode (65 + ((21 : Nat) : Int) - 1) = ⟨#[Ad.eT 21]⟩ := by kernel_rfl
theorem aKA : Utf8.encode (65 + ((22 : Nat) : Int) - 1) = ⟨#[Ad.eT 22]⟩ := by kernel_rfl
theorem aKB : Utf8.encode (65 + ((23 : Nat) : Int) - 1) = ⟨#[Ad.eT 23]⟩ := by kernel_rfl
theorem aKC : Utf8.encode (65 + ((24 : Nat) : Int) - 1) = ⟨#[Ad.eT 24]⟩ := by kernel_rfl
theorem aKD : Utf8.encode (65 + ((25 : Nat) : Int) - 1) = ⟨#[Ad.eT 25]⟩ := by kernel_rfl
theorem aKE : Utf8.encode (65 + ((26 : Nat) : Int) - 1) = ⟨#[Ad.eT 26]⟩ := by kernel_rfl
theorem aEI (n : Nat) (h1 : 1 ≤ n) (h2 : n ≤ 26) : Utf8.encode (65 + (n : Int) - 1) = ⟨#[Ad.eT n]⟩ := by
 have h : n = 1 ∨ n = 2 ∨ n = 3 ∨ n = 4 ∨ n = 5 ∨ n = 6 ∨ n = 7 ∨ n = 8 ∨ n = 9 ∨ n = 10 ∨ n = 11 ∨ n = 12 ∨ n = 13 ∨ n = 14 ∨ n = 15 ∨ n = 16 ∨ n = 17 ∨ n = 18 ∨ n = 19 ∨ n = 20 ∨ n = 21 ∨ n = 22 ∨ n = 23 ∨ n = 24 ∨ n = 25 ∨ n = 26 := by omega
 rcases h with rfl | rfl | rfl | rfl | rfl | rfl | rfl | rfl | rfl | rfl | rfl | rfl | rfl | rfl | rfl | rfl | rfl | rfl | rfl | rfl | rfl | rfl | rfl | rfl | rfl | rfl
 ·exact rn1
 ·exact rn2
 ·exact rn3
 ·exact rn4
 ·exact rn5
 ·exact rn6
 ·exact rn7
 ·exact rn8
 ·exact rn9
 ·exact aKo
 ·exact aKp
 ·exact aKq
 ·exact aKr
 ·exact aKs
 ·exact aKt
 ·exact aKu
 ·exact aKv
 ·exact aKw
 ·exact aKx
 ·exact aKy
 ·exact aKz
 ·exact aKA
 ·exact aKB
 ·exact aKC
 ·exact aKD
 ·exact aKE
theorem wrap_i64 {n : Int} (h1 : -9223372036854775808 ≤ n) (h2 : n ≤ 9223372036854775807) : IntKind.i64.wrap n = n := by
 rw [IntKind.wrap_i64]; omega
theorem wrap_i32 {n : Int} (h1 : -2147483648 ≤ n) (h2 : n ≤ 2147483647) : IntKind.i32.wrap n = n := by
 rw [IntKind.wrap_i32]; omega
def yP (f : Bool) : ByteArray := if f = true then ⟨#[36]⟩ else ⟨#[]⟩
theorem mZ (f : Bool) : (yP f).size ≤ 1 := by cases f <;> decide
theorem uG (n : Nat) (h : n ≤ 64) : (⟨(Lib.decDigits n).toArray⟩ : ByteArray).size ≤ 2 := by
 rw [size_mk]
 by_cases e : n < 10
 ·rw [Lib.decDigits_one e]; simp
 ·rw [Lib.decDigits, dif_neg e, Lib.decDigits_one (by omega)]; simp
def jN (R C : Nat) (fr fc : Bool) : ByteArray := ⟨(Ad.cellW ⟨R, C, fr, fc⟩).toArray⟩
theorem yQ (R C : Nat) (fr fc : Bool) : yP fc ++ ⟨#[Ad.eT C]⟩ ++ yP fr ++ ⟨(Lib.decDigits R).toArray⟩ = jN R C fr fc := by
 unfold jN Ad.cellW yP
 apply ByteArray.ext
 cases fr <;> cases fc <;> simp
theorem aCN (b s : ByteArray) (R C : Nat) (fr fc : Bool) (hR1 : 1 ≤ R) (hR2 : R ≤ 64) (hC1 : 1 ≤ C) (hC2 : C ≤ 26) (w : World) (T : eD w) :
  Calls Tryz.prog 174 #[bC b s R C fr fc] w fun e w' => e = .returned (.string (jN R C fr fc)) ∧ Below w.heap.size w w' := by
 have D1 : RC (w.alloc (aU b s R C fr fc)) 213 #[.bool fc] (.string (yP fc)) := RC.same fun u hu => qF fc u
 have D2 : RC (w.alloc (aU b s R C fr fc)) 213 #[.bool fr] (.string (yP fr)) := RC.same fun u hu => qF fr u
 have IT : RC (w.alloc (aU b s R C fr fc)) 170 #[.int .i64 R] (.string ⟨(Lib.decDigits R).toArray⟩) := RC.of fun u hu => qM R (by omega) u (T.below (aR hu)).p
 have CV := aEI C hC1 hC2
 obtain ⟨m1, e1⟩ : ∃ m1 : Int, 65 + (C : Int) = m1 := ⟨_, rfl⟩
 rw [e1] at CV
 obtain ⟨m2, e2⟩ : ∃ m2 : Int, m1 - 1 = m2 := ⟨_, rfl⟩
 rw [e2] at CV
 have k1 : IntKind.i64.wrap m1 = m1 := wrap_i64 (by omega) (by omega)
 have k2 : IntKind.i64.wrap m2 = m2 := wrap_i64 (by omega) (by omega)
 have k3 : IntKind.i32.wrap m2 = m2 := wrap_i32 (by omega) (by omega)
 have z1 := mZ fc
 have z2 := mZ fr
 have z3 := uG R hR2
 rw [← yQ]
 generalize yP fc = X1 at *
 generalize yP fr = X2 at *
 generalize (⟨(Lib.decDigits R).toArray⟩ : ByteArray) = X3 at *
 have z4 : (⟨#[Ad.eT C]⟩ : ByteArray).size ≤ 1 := Nat.le_refl 1
 generalize (⟨#[Ad.eT C]⟩ : ByteArray) = X4 at *
 have z5 : ¬ 9223372036854775807 < X1.size + X4.size := by omega
 have z6 : ¬ 9223372036854775807 < X1.size + X4.size + X2.size := by omega
 have z7 : ¬ 9223372036854775807 < X1.size + X4.size + X2.size + X3.size := by omega
 have HC : Hid (∀ u : World, Below (w.alloc (aU b s R C fr fc)).heap.size (w.alloc (aU b s R C fr fc)) u → u.cell? ⟨w.heap.size, 2, none⟩ = some (.int .i64 R) ∧ u.cell? ⟨w.heap.size, 3, none⟩ = some (.int .i64 C) ∧ u.cell? ⟨w.heap.size, 4, none⟩ = some (.bool fr) ∧ u.cell? ⟨w.heap.size, 5, none⟩ = some (.bool fc)) :=
  fun u hu => (aP (new1 hu)).2.2
 have HB : Hid (Below (w.alloc (aU b s R C fr fc)).heap.size (w.alloc (aU b s R C fr fc)) (w.alloc (aU b s R C fr fc)).drew) := (Below.refl _ _).drew
 go_enter Tryz.func174, Tryz.ntmps174
 go_wp2
 go_region_held_law (fun u => u.cell? ⟨w.heap.size, 2, none⟩ = some (.int .i64 R) ∧ u.cell? ⟨w.heap.size, 3, none⟩ = some (.int .i64 C) ∧ u.cell? ⟨w.heap.size, 4, none⟩ = some (.bool fr) ∧ u.cell? ⟨w.heap.size, 5, none⟩ = some (.bool fc))
  (exact HC.out _ HB.out) (first
  | (go_at_call_of 213 fc; refine (D1 _ HB.out).mono ?_; rintro e w7 ⟨rfl, hb⟩; have HB : Hid (Below (w.alloc (aU b s R C fr fc)).heap.size (w.alloc (aU b s R C fr fc)) w7) := hb; clear hb)
  | (go_at_call_of 213 fr; refine (D2 _ HB.out).mono ?_; rintro e w7 ⟨rfl, hb⟩; have HB : Hid (Below (w.alloc (aU b s R C fr fc)).heap.size (w.alloc (aU b s R C fr fc)) w7) := hb; clear hb)
  | (go_at_call 170; refine (IT _ HB.out).mono ?_; rintro e w7 ⟨rfl, hb⟩; have HB : Hid (Below (w.alloc (aU b s R C fr fc)).heap.size (w.alloc (aU b s R C fr fc)) w7) := hb; clear hb))
 all_goals (go_wp2; go_ret; exact ⟨rfl, aR HB.out⟩)
end Go.Proofs.YtljmklbbngpllaaGreatDoor
namespace Go.Proofs.YtljmklbbngpllaaGreatDoor.Dg
open Go.RowKit
theorem pY (t : ByteArray) : (⟨t.data.toList.toArray⟩ : ByteArray) = t := by
 cases t
 simp
end Go.Proofs.YtljmklbbngpllaaGreatDoor.Dg
namespace Go.Proofs.YtljmklbbngpllaaGreatDoor
open Go.RowKit
theorem aAM {r c : Int} (h : inB r c = true) : ∃ R C : Nat, r = R ∧ c = C ∧ 1 ≤ R ∧ R ≤ 64 ∧ 1 ≤ C ∧ C ≤ 26 := by
 unfold inB at h
 simp only [Bool.and_eq_true, decide_eq_true_eq] at h
 exact ⟨r.toNat, c.toNat, by omega, by omega, by omega, by omega, by omega, by omega⟩
end Go.Proofs.YtljmklbbngpllaaGreatDoor
