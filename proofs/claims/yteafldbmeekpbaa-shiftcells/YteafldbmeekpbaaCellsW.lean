/- The walk of the law ShiftCells. -/
import Derived.Test.YteafldbmeekpbaaCCells
import Derived.Test.YteafldbmeekpbaaCRCells
import Derived.Test.YteafldbmeekpbaaHLives
import Derived.Lib.BufferWrite
namespace Go.Proofs.Yteafldbmeekpbaa
open Go.RowKit
set_option maxRecDepth 100000
set_option linter.unusedVariables false
set_option linter.unusedSimpArgs false
/-- A row that may be written over. -/
def Wr (K u : World) (p : Option Addr) (n : Nat) : Prop := n = 0 ∨ ∃ g, p = some ⟨g, 0, none⟩ ∧ K.heap.size ≤ g ∧ ∀ k, k < n → u.there g (k * 3) 3
theorem OwnM.wr {K u : World} {p : Option Addr} {n c : Nat} {M : List CT} (h : OwnM K.heap.size u (.slice p n c) M) : Wr K u p n := by
  rcases h.2 with ⟨e, _⟩ | ⟨g, cap, cur, e, hg, hh, hle, _, hs, _⟩
  · cases e; exact .inl rfl
  · cases e
    refine .inr ⟨g, rfl, hg, fun k hk j hj => ⟨?_, ?_⟩⟩
    · rw [cell_of_row u g _ cur 45 _ hh]
      rw [Array.getElem?_eq_getElem (by rw [hs]; have : (k + 1) * 3 ≤ c * 3 := Nat.mul_le_mul_right _ (by omega); omega)]
      rfl
    · simp [World.frozen?, hh]
theorem ngrown_setCells (b : Nat) : ∀ (vs : List Value) (o : Nat) (w : World), w.grownBy (w.setCells b o vs) (some b)
  | [], _, w => World.grownBy.refl _ _
  | v :: r, o, w => (Go.Lib.grownBy_setCell w b o v).trans (ngrown_setCells b r (o + 1) _)
theorem Wr.set {K u : World} {p : Option Addr} {n : Nat} (h : Wr K u p n) (g o : Nat) (vs : List Value) : Wr K (u.setCells g o vs) p n :=
  h.imp id fun ⟨g', e, hg, ht⟩ => ⟨g', e, hg, fun k hk => World.there_setCells (ht k hk) g o vs⟩
/-- One of the row is written over. -/
theorem Wr.store {K u : World} {p : Option Addr} {n : Nat} (h : Wr K u p n) (hb : Below K.heap.size K u) {k : Nat} (hk : k < n) :
    ∃ a w', p = some a ∧ Hid ((Instr.storeAt 45 (.pointer (some (a.add (k * 3)))) (nmV nm0)).run Try.prog u = .ok () w') ∧ Below K.heap.size K w' ∧ ∀ q m, Wr K u q m → Wr K w' q m := by
  rcases h with h | ⟨g, rfl, hg, ht⟩
  · omega
  · refine ⟨_, u.setCells g (k * 3) (ncs nm0).toList, rfl, ?_, hb.grown (ngrown_setCells g _ _ _) hb.size (fun j e => by cases e; exact hg), fun q m hq => hq.set _ _ _⟩
    have := run_storeAt_mid (P := Try.prog) u g (k * 3) 45 (ncs nm0) (ht k hk) ninf (by simp [Value.oneCell'])
    show _ = _
    rw [Addr.add_mid, Nat.zero_add]
    exact this
def ansM (o : Option (List CT × List CT)) : List CT := (o.getD ([], [])).1
def ansG (o : Option (List CT × List CT)) : List CT := (o.getD ([], [])).2
theorem CAns.some {B : Nat} {w' : World} {e : Ending} {o : Option (List CT × List CT)} (h : CAns B w' e o) : ∃ mv gv, e = .returned (.tuple #[mv, gv, .bool o.isSome]) ∧ OwnM B w' mv (ansM o) ∧ OwnM B w' gv (ansG o) := by
  cases o with
  | none => exact ⟨_, _, h, OwnM.nil _ _, OwnM.nil _ _⟩
  | some s => obtain ⟨M, G⟩ := s; exact h
theorem cl_len {a n m : Int} {cols : Bool} {L : List CT} : (ansM (clF a n m cols L)).length ≤ L.length ∧ (ansG (clF a n m cols L)).length ≤ L.length := by
  cases hg : goodB a n m
  · have : clF a n m cols L = none := by unfold clF; rw [hg]; rfl
    rw [this]; exact ⟨Nat.zero_le _, Nat.zero_le _⟩
  · have e : clF a n m cols L = wkC a n m cols L := by unfold clF; rw [hg]; rfl
    rw [e]
    cases hw : wkC a n m cols L with
    | none => exact ⟨Nat.zero_le _, Nat.zero_le _⟩
    | some s =>
      obtain ⟨M, G⟩ := s
      have := wk_len (k := L.length) (Nat.le_refl _) (by rw [List.take_length]; exact hw)
      exact ⟨by show M.length ≤ _; omega, by show G.length ≤ _; omega⟩
theorem cells_any (a n m : Int) (cols : Bool) (L : List CT) (w : World) (p : Option Addr) (len c : Nat) (h : Rds w p len L) (hlen : len * 32 ≤ 140737488355328) :
    Calls Try.prog 17 #[shV a n m, .bool cols, .slice p len c] w fun e w' => CAns w.heap.size w' e (clF a n m cols L) ∧ Below w.heap.size w w' := by
  cases hg : goodB a n m <;> cases cols
  · exact cells_bad_false a n m L w _ hg
  · exact cells_bad_true a n m L w _ hg
  · exact cells_good_false a n m L w p len c h hlen hg
  · exact cells_good_true a n m L w p len c h hlen hg
theorem rcells_any (a n m : Int) (cols : Bool) (L : List CT) (w : World) (p : Option Addr) (len c : Nat) (h : Rds w p len L) (hlen : len * 32 ≤ 140737488355328) :
    Calls Try.prog 18 #[shV a n m, .bool cols, .slice p len c] w fun e w' => CAns w.heap.size w' e (clF a n m cols L) ∧ Below w.heap.size w w' := by
  cases hg : goodB a n m <;> cases cols
  · exact rcells_bad_false a n m L w _ hg
  · exact rcells_bad_true a n m L w _ hg
  · exact rcells_good_false a n m L w p len c h hlen hg
  · exact rcells_good_true a n m L w p len c h hlen hg
set_option maxHeartbeats 16000000 in
theorem cells_walk (a n m : Int) (cols : Bool) (L : List CT) (w : World) (p : Option Addr) (len c : Nat) (h : Rds w p len L) (hz : p = none → c = 0) (hlen : len * 32 ≤ 140737488355328) :
    Calls Try.prog 4 #[shV a n m, .bool cols, .slice p len c] w fun e w' => e = .returned (.bool true) ∧ Below w.heap.size w w' := by
  have b0 : Below w.heap.size w (w.alloc (shO a n m 23)) := bel_alloc (Below.refl _ _) _
  have RZ : Hid ((Instr.buildSlice 39 0 #[]).run Try.prog (w.alloc (shO a n m 23)) = .ok (.slice (some ⟨w.heap.size + 1, 0, none⟩) 0 0) ((w.alloc (shO a n m 23)).alloc (.cells #[] 45))) := by
    have := nslice_zero (w.alloc (shO a n m 23))
    rw [show (w.alloc (shO a n m 23)).heap.size = w.heap.size + 1 by simp] at this
    exact this
  have BZ : Below (w.alloc (shO a n m 23)).heap.size (w.alloc (shO a n m 23)) ((w.alloc (shO a n m 23)).alloc (.cells #[] 45)) := bel_alloc (Below.refl _ _) _
  have OZ : OwnM (w.alloc (shO a n m 23)).heap.size ((w.alloc (shO a n m 23)).alloc (.cells #[] 45)) (.slice (some ⟨w.heap.size + 1, 0, none⟩) 0 0) [] := by
    have := heap_alloc_new (w.alloc (shO a n m 23)) (.cells #[] 45)
    have e : (w.alloc (shO a n m 23)).heap.size = w.heap.size + 1 := by simp
    rw [e] at this ⊢
    exact ⟨rfl, .inr ⟨w.heap.size + 1, 0, #[], rfl, Nat.le_refl _, this, Nat.le_refl _, Nat.zero_le _, rfl, rfl⟩⟩
  obtain ⟨vk, K, RA, oK, gK, bK⟩ := ownM_cat (c := c) OZ ((h.below b0).below BZ) hz (by have := h.1; simp; omega) BZ.size
  rw [List.nil_append] at oK
  obtain ⟨pk, ck, rfl, sK⟩ := oK.slice
  have bSK : Below (w.alloc (shO a n m 23)).heap.size (w.alloc (shO a n m 23)) K := BZ.trans bK
  have HK : Hid (Below w.heap.size w K) := bel1 bSK
  have HSB : Hid (∀ u, Below K.heap.size K u → u.cell? ⟨w.heap.size, 0, none⟩ = some (.int .i64 a) ∧ u.cell? ⟨w.heap.size, 1, none⟩ = some (.int .i64 n) ∧ u.cell? ⟨w.heap.size, 2, none⟩ = some (.int .i64 m)) := fun u hu => box_cells (bel_step bSK hu)
  have hl : L.length = len := h.1.symm
  have HL1 : Hid (Rds K p len L) := (h.below b0).below bSK
  have HL2 : Hid (Rds K pk len L) := by rw [hl] at sK; exact sK
  rw [hl] at RA
  have hM := cl_len (a := a) (n := n) (m := m) (cols := cols) (L := L)
  rw [hl] at hM
  have HC17 : Hid (∀ u, Below K.heap.size K u → Calls Try.prog 17 #[shV a n m, .bool cols, .slice p len c] u fun e w' => CAns u.heap.size w' e (clF a n m cols L) ∧ Below u.heap.size u w') := fun u hu => cells_any a n m cols L u p len c (HL1.out.below hu) hlen
  have HC18 : Hid (∀ u, Below K.heap.size K u → Calls Try.prog 18 #[shV a n m, .bool cols, .slice p len c] u fun e w' => CAns u.heap.size w' e (clF a n m cols L) ∧ Below u.heap.size u w') := fun u hu => rcells_any a n m cols L u p len c (HL1.out.below hu) hlen
  have HC19 : Hid (∀ u, Below K.heap.size K u → Calls Try.prog 19 #[.slice p len c, .slice pk len ck] u fun e w' => e = .returned (.bool true) ∧ Below u.heap.size u w') := fun u hu => nsame_any L (by omega) u p pk len c len ck (HL1.out.below hu) (HL2.out.below hu)
  have C7 : Hid (∀ u, Calls Try.prog 7 #[shV a n m] u _) := fun u => plain_any a n m u
  have C16 : Hid (∀ u, Calls Try.prog 16 #[] u _) := fun u => lives_any u
  clear BZ OZ oK gK bK sK bSK b0 h hz
  generalize clF a n m cols L = R at *
  obtain ⟨c0, c1, c2⟩ := HSB.out K (Below.refl _ _)
  have q0 := box_cells (a := a) (n := n) (m := m) (t := 23) (Below.refl (w.alloc (shO a n m 23)).heap.size (w.alloc (shO a n m 23)))
  go_enter Try.func4, Try.ntmps4
  go_wp2_with (first
    | (refine nl_bslice rfl 39 0 _ rfl _ _ _ (by go_simp) RZ.out ?_; clear RZ)
    | (at_builtin; refine nl_append rfl _ _ 39 39 rfl _ _ _ _ rfl rfl RA.out ?_; clear RA))
  refine (HC17.out _ (Below.refl _ _)).mono ?_
  rintro e w1 ⟨ha, hb1⟩
  obtain ⟨mv, gv, rfl, o1, o2⟩ := ha.some
  obtain ⟨qa, da, rfl, ra⟩ := o1.slice
  obtain ⟨qb, db, rfl, rb⟩ := o2.slice
  have HB1 : Hid (Below K.heap.size K w1) := hb1
  have HW1 : Hid (Wr K w1 qa (ansM R).length) := o1.wr
  have HRa : Hid (Rds w1 qa (ansM R).length (ansM R)) := ra
  have HRb : Hid (Rds w1 qb (ansG R).length (ansG R)) := rb
  clear ha hb1 o1 o2 ra rb HC17 q0 c0 c1 c2
  obtain ⟨c0, c1, c2⟩ := HSB.out _ HB1.out
  go_wp2_with fail
  refine (C7.out _).mono ?_
  rintro e w2 ⟨rfl, hb2⟩
  have HB2 : Hid (Below w1.heap.size w1 w2) := hb2
  clear hb2 C7 c0 c1 c2
  go_wp2_with fail
  refine (HC18.out _ (bel_step HB1.out HB2.out)).mono ?_
  rintro e w3 ⟨ha, hb3⟩
  obtain ⟨mv, gv, rfl, o1, o2⟩ := ha.some
  obtain ⟨qc, dc, rfl, rc⟩ := o1.slice
  obtain ⟨qd, dd, rfl, rd⟩ := o2.slice
  have HB3 : Hid (Below w1.heap.size w1 w3) := bel_step HB2.out hb3
  have HRc : Hid (Rds w3 qc (ansM R).length (ansM R)) := rc
  have HRd : Hid (Rds w3 qd (ansG R).length (ansG R)) := rd
  have HS1 : Hid (∀ u, Below w3.heap.size w3 u → Calls Try.prog 19 #[.slice qa (ansM R).length da, .slice qc (ansM R).length dc] u fun e w' => e = .returned (.bool true) ∧ Below u.heap.size u w') := fun u hu => nsame_any (ansM R) (by omega) u qa qc _ da _ dc (HRa.out.below (bel_step HB3.out hu)) (HRc.out.below hu)
  have HS2 : Hid (∀ u, Below w3.heap.size w3 u → Calls Try.prog 19 #[.slice qb (ansG R).length db, .slice qd (ansG R).length dd] u fun e w' => e = .returned (.bool true) ∧ Below u.heap.size u w') := fun u hu => nsame_any (ansG R) (by omega) u qb qd _ db _ dd (HRb.out.below (bel_step HB3.out hu)) (HRd.out.below hu)
  clear ha hb3 o1 o2 rc rd HC18 HRa HRb HRc HRd HB2
  obtain ⟨hM1, hM2⟩ := hM
  generalize (ansM R).length = lm at *
  generalize (ansG R).length = lg at *
  generalize R.isSome = ok at *
  go_wp2_with fail
  refine (HS1.out _ (Below.refl _ _)).mono ?_
  rintro e w4 ⟨rfl, hb4⟩
  have HB4 : Hid (Below w3.heap.size w3 w4) := hb4
  clear hb4 HS1
  go_wp2_with fail
  refine (HS2.out _ HB4.out).mono ?_
  rintro e w5 ⟨rfl, hb5⟩
  have HB5 : Hid (Below w1.heap.size w1 w5) := bel_step HB3.out (bel_step HB4.out hb5)
  clear hb5 HS2 HB4 HB3
  have HW5 : Hid (Wr K w5 qa lm) := HW1.out.imp id fun ⟨g', e, hg, ht⟩ => ⟨g', e, hg, fun k hk j hj => by
    obtain ⟨h1, h2⟩ := ht k hk j hj
    obtain ⟨v, hv⟩ := Option.isSome_iff_exists.1 h1
    have hlt := World.block_lt_of_cell? w1 _ hv
    exact ⟨by rw [ncell_bel HB5.out hv]; rfl, by rw [World.frozen?_of_block (w := w1) (HB5.out.block _ hlt)]; exact h2⟩⟩
  have HBK : Hid (Below K.heap.size K w5) := bel_step HB1.out HB5.out
  clear HB1 HB5 HW1
  go_wp2_with fail
  go_loopw [52] (fun i wz => ∃ (k : Nat), k ≤ lm ∧ i = .int .i64 (k : Nat) ∧ Hid (Below K.heap.size K wz) ∧ Hid (Wr K wz qa lm)) (fun i _ => lm - (intOf i).toNat)
  case atStart => exact ⟨0, Nat.zero_le _, rfl, HBK, HW5⟩
  case round =>
    clear HBK HW5
    obtain ⟨k2, hk2, rfl, HB2, HWA⟩ := hrel
    by_cases hlt2 : k2 < lm
    · have hki2 : (k2 : Int) < lm := by omega
      obtain ⟨a2, u2, rfl, RS2, hb2, hq2⟩ := HWA.out.store HB2.out hlt2
      have RB2 : Hid _ := nbuild0 wr
      have HB3 : Hid _ := hb2
      have HWA2 : Hid _ := hq2 _ _ HWA.out
      clear hb2 hq2
      go_wp2_with (first
        | (refine nl_build rfl 45 _ rfl _ _ (by go_simp) RB2.out ?_; clear RB2)
        | (refine nl_store rfl 45 _ _ rfl _ _ _ rfl rfl RS2.out ?_; clear RS2))
      go_roundw
      case rel => exact ⟨k2 + 1, by omega, by go_num, HB3, HWA2⟩
      case measure => simp [intOf]; omega
    · have hki2 : ¬ (k2 : Int) < lm := by omega
      go_wp2_with (first
        | (go_at_call 19; refine (HC19.out _ HB2.out).mono ?_; clear HC19; rintro e w6 ⟨rfl, hb⟩; have HB6 : Hid (Below K.heap.size K w6) := bel_step HB2.out hb; clear hb)
        | (go_at_call 16; refine (C16.out _).mono ?_; clear C16; rintro e w7 ⟨rfl, hb⟩; have HB7 : Hid (Below K.heap.size K w7) := bel_step HB6.out hb; clear hb))
      go_ret
      exact ⟨rfl, bel_step HK.out HB7.out⟩
end Go.Proofs.Yteafldbmeekpbaa
