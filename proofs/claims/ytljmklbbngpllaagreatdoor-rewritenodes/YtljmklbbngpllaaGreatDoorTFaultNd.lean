/- TRune, TTake, TSkip, TFault. -/
import Derived.Test.YtljmklbbngpllaaGreatDoorTMemNd
set_option linter.unusedVariables false
set_option linter.unusedSimpArgs false
set_option maxHeartbeats 16000000
set_option maxRecDepth 100000
namespace Go.Proofs.YtljmklbbngpllaaGreatDoor
open Go.RowKit
structure aCS (f : Nat) (p : UInt8 → Bool) (hi : Bool) : Prop where
 low : ∀ (c : UInt8) (u : World), c.toNat < 128 → Calls Tryz.prog f #[.int .i32 (c.toNat : Nat)] u fun e w' => e = .returned (.bool (p c)) ∧ w' = u
 high : ∀ (r : Nat) (u : World), 128 ≤ r → Calls Tryz.prog f #[.int .i32 (r : Nat)] u fun e w' => e = .returned (.bool hi) ∧ w' = u
 byte : ∀ c : UInt8, 128 ≤ c.toNat → p c = hi
theorem lV (n : Nat) (w : World) : Calls Tryz.prog 112 #[.int .i32 (n : Nat)] w fun e w' => e = .returned (.bool (decide (48 ≤ n) && decide (n ≤ 57))) ∧ w' = w := by
 go_enter Tryz.func112, Tryz.ntmps112
 go_wp2
 all_goals (go_ret; refine ⟨bJ ?_, rfl⟩; rw [Bool.eq_iff_iff]; simp; omega)
theorem oZ (n : Nat) (w : World) : Calls Tryz.prog 116 #[.int .i32 (n : Nat)] w fun e w' => e = .returned (.bool ((decide (65 ≤ n) && decide (n ≤ 90)) || (decide (97 ≤ n) && decide (n ≤ 122)))) ∧ w' = w := by
 go_enter Tryz.func116, Tryz.ntmps116
 go_wp2
 all_goals (go_ret; refine ⟨bJ ?_, rfl⟩; rw [Bool.eq_iff_iff]; simp; omega)
theorem qZ (n : Nat) (w : World) : Calls Tryz.prog 120 #[.int .i32 (n : Nat)] w fun e w' => e = .returned (.bool (decide (n = 32) || decide (n = 9))) ∧ w' = w := by
 go_enter Tryz.func120, Tryz.ntmps120
 go_wp2
 all_goals (go_ret; refine ⟨bJ ?_, rfl⟩; rw [Bool.eq_iff_iff]; simp; omega)
theorem rA (n : Nat) (w : World) : Calls Tryz.prog 148 #[.int .i32 (n : Nat)] w fun e w' => e = .returned (.bool (!decide (n = 34))) ∧ w' = w := by
 go_enter Tryz.func148, Tryz.ntmps148
 go_wp2
 all_goals (go_ret; refine ⟨bJ ?_, rfl⟩; rw [Bool.eq_iff_iff]; simp; omega)
theorem rC (n : Nat) (w : World) : Calls Tryz.prog 146 #[.int .i32 (n : Nat)] w fun e w' => e = .returned (.bool ((decide (48 ≤ n) && decide (n ≤ 57)) || decide (n = 46))) ∧ w' = w := by
 have D := fun u => lV n u
 cases h : (decide (48 ≤ n) && decide (n ≤ 57))
 all_goals
  rw [h] at D
  go_enter Tryz.func146, Tryz.ntmps146
  go_wp2_with (go_at_call 112; refine (D _).mono ?_; rintro e w' ⟨rfl, hw⟩; obtain rfl := hw.symm; clear hw)
  all_goals (go_ret; refine ⟨bJ ?_, rfl⟩; rw [Bool.eq_iff_iff]; simp; try omega)
theorem yX (n : Nat) (w : World) : Calls Tryz.prog 151 #[.int .i32 (n : Nat)] w fun e w' => e = .returned (.bool ((((decide (65 ≤ n) && decide (n ≤ 90)) || (decide (97 ≤ n) && decide (n ≤ 122))) || (decide (48 ≤ n) && decide (n ≤ 57))) || decide (n = 95) || decide (n = 36))) ∧ w' = w := by
 have L := fun u => oZ n u
 have D := fun u => lV n u
 cases h : ((decide (65 ≤ n) && decide (n ≤ 90)) || (decide (97 ≤ n) && decide (n ≤ 122))) <;> cases k : (decide (48 ≤ n) && decide (n ≤ 57))
 all_goals
  rw [h] at L
  rw [k] at D
  go_enter Tryz.func151, Tryz.ntmps151
  go_wp2_with (first | (go_at_call 112; refine (D _).mono ?_; rintro e w' ⟨rfl, hw⟩; obtain rfl := hw.symm; clear hw) | (go_at_call 116; refine (L _).mono ?_; rintro e w' ⟨rfl, hw⟩; obtain rfl := hw.symm; clear hw))
  all_goals (go_ret; refine ⟨bJ ?_, rfl⟩; rw [Bool.eq_iff_iff]; simp; try omega)
theorem jO (c : UInt8) (d : UInt8) : (c == d) = decide (c.toNat = d.toNat) := by
 rw [Bool.eq_iff_iff]; simp [← UInt8.toNat_inj]
theorem aAP : aCS 120 Tk.blank false := ⟨fun c u _ => by
  have := qZ c.toNat u
  rw [show (decide (c.toNat = 32) || decide (c.toNat = 9)) = Tk.blank c by unfold Tk.blank; rw [jO, jO]; rfl] at this
  exact this,
 fun r u h => by
  have := qZ r u
  rw [show (decide (r = 32) || decide (r = 9)) = false by simp; omega] at this
  exact this,
 fun c h => by unfold Tk.blank; rw [jO, jO]; simp; omega⟩
theorem aAQ : aCS 146 Tk.eX false := ⟨fun c u _ => by
  have := rC c.toNat u
  rw [show ((decide (48 ≤ c.toNat) && decide (c.toNat ≤ 57)) || decide (c.toNat = 46)) = Tk.eX c by unfold Tk.eX Ad.isD; rw [jO]; rfl] at this
  exact this,
 fun r u h => by
  have := rC r u
  rw [show ((decide (48 ≤ r) && decide (r ≤ 57)) || decide (r = 46)) = false by simp; omega] at this
  exact this,
 fun c h => by unfold Tk.eX Ad.isD; rw [jO]; simp; omega⟩
theorem aAR : aCS 148 (fun c => !(c == 34)) true := ⟨fun c u _ => by
  have := rA c.toNat u
  rw [show (!decide (c.toNat = 34)) = !(c == 34) by rw [jO]; rfl] at this
  exact this,
 fun r u h => by
  have := rA r u
  rw [show (!decide (r = 34)) = true by simp; omega] at this
  exact this,
 fun c h => by rw [jO]; simp; omega⟩
theorem yY : aCS 151 Tk.bG false := ⟨fun c u _ => by
  have := yX c.toNat u
  rw [show ((((decide (65 ≤ c.toNat) && decide (c.toNat ≤ 90)) || (decide (97 ≤ c.toNat) && decide (c.toNat ≤ 122))) || (decide (48 ≤ c.toNat) && decide (c.toNat ≤ 57))) || decide (c.toNat = 95) || decide (c.toNat = 36)) = Tk.bG c by unfold Tk.bG Ad.isD Ad.isL; rw [jO, jO, Bool.or_comm (decide (65 ≤ c.toNat) && decide (c.toNat ≤ 90))]; rfl] at this
  exact this,
 fun r u h => by
  have := yX r u
  rw [show ((((decide (65 ≤ r) && decide (r ≤ 90)) || (decide (97 ≤ r) && decide (r ≤ 122))) || (decide (48 ≤ r) && decide (r ≤ 57))) || decide (r = 95) || decide (r = 36)) = false by simp; omega] at this
  exact this,
 fun c h => by unfold Tk.bG Ad.isD Ad.isL; rw [jO, jO]; simp; omega⟩
theorem uI {p : UInt8 → Bool} : ∀ {l : List UInt8}, l.all p = true → l.takeWhile p = l ∧ l.dropWhile p = []
 | [], _ => ⟨rfl, rfl⟩
 | c :: r, h => by
  rw [List.all_cons, Bool.and_eq_true] at h
  obtain ⟨a, b⟩ := uI h.2
  rw [List.takeWhile_cons, List.dropWhile_cons, if_pos h.1, if_pos h.1, a, b]
  exact ⟨rfl, rfl⟩
theorem rD {p : UInt8 → Bool} : ∀ {l : List UInt8} {k : Nat} (hk : k < l.length), (l.take k).all p = true → p l[k] = false → l.takeWhile p = l.take k ∧ l.dropWhile p = l.drop k
 | c :: r, 0, _, _, h => by
  have h' : p c = false := h
  rw [List.takeWhile_cons, List.dropWhile_cons, h']
  exact ⟨rfl, rfl⟩
 | c :: r, k + 1, hk, ha, h => by
  rw [List.take_succ_cons, List.all_cons, Bool.and_eq_true] at ha
  have hk' : k < r.length := by simpa using hk
  obtain ⟨a, b⟩ := rD hk' ha.2 (by simpa using h)
  rw [List.takeWhile_cons, List.dropWhile_cons, if_pos ha.1, if_pos ha.1, a, b]
  exact ⟨rfl, rfl⟩
theorem yZ {p : UInt8 → Bool} (l : List UInt8) (k d : Nat) (ha : (l.take k).all p = true) (hd : ∀ j, j < d → ∀ h : k + j < l.length, p l[k + j] = true) : (l.take (k + d)).all p = true := by
 rw [List.all_eq_true] at ha ⊢
 intro x hx
 obtain ⟨i, hi, rfl⟩ := List.getElem_of_mem hx
 rw [List.length_take] at hi
 rw [List.getElem_take]
 by_cases h : i < k
 ·exact ha _ (List.mem_take_iff_getElem.2 ⟨i, by omega, rfl⟩)
 ·have := hd (i - k) (by omega) (by omega)
  simp only [show k + (i - k) = i by omega] at this
  exact this
theorem aAS (l : List UInt8) (k : Nat) (h : k < l.length) (h2 : k < (ba l).size) : (ba l)[k] = l[k] := by
 simp [ba]; rfl
theorem aGP (l : List UInt8) (k : Nat) (h : k < l.length) : (ba l).get! k = l[k] := by
 have := yH (ba l) k h
 exact this
theorem qA (l : List UInt8) (k : Nat) : (ba l).extract 0 k = ba (l.take k) := by
 apply ByteArray.ext
 simp [ba]
theorem aBX (l : List UInt8) (k : Nat) : (ba l).extract k l.length = ba (l.drop k) := by
 apply ByteArray.ext
 simp [ba]
 rw [List.take_of_length_le (by simp)]
structure TW (W : World) (b : Nat) (l : List UInt8) (w : World) (q : Nat) (u : World) : Prop where
 it : u.heap[w.heap.size]? = some (.stringIter (ba l) q)
 bel : Below w.heap.size w u
 lx : LX W b l u
theorem TW.next {W w u : World} {b q : Nat} {l : List UInt8} (h : TW W b l w q u) (hb : b < w.heap.size) (hp : q < l.length) :
  ∃ u1, (∀ ty, (Instr.next (.pointer (some ⟨w.heap.size, 0, none⟩)) true ty).run Tryz.prog u = .ok (.tuple #[.bool true, .int .i64 q, .int .i32 (Utf8.decode (ba l) q).1]) u1) ∧ TW W b l w (q + (Utf8.decode (ba l) q).2) u1 := by
 have hq : q < (ba l).size := by rw [size_mk]; exact hp
 have hlt : w.heap.size < u.heap.size := (Array.getElem?_eq_some_iff.1 h.it).1
 have hB : Below w.heap.size w { u with heap := u.heap.setIfInBounds w.heap.size (.stringIter (ba l) (q + (Utf8.decode (ba l) q).2)) } := by
  obtain ⟨a, c, d, e, f⟩ := h.bel
  refine ⟨a, c, d, ?_, fun i hi => ?_⟩
  ·show w.heap.size ≤ (u.heap.setIfInBounds _ _).size
   simp; omega
  ·show (u.heap.setIfInBounds _ _)[i]? = _
   rw [Array.getElem?_setIfInBounds_ne (by omega)]
   exact f i hi
 have hG : u.grownBy { u with heap := u.heap.setIfInBounds w.heap.size (.stringIter (ba l) (q + (Utf8.decode (ba l) q).2)) } (some w.heap.size) := by
  refine ⟨rfl, rfl, rfl, ?_, fun i hi hne => ?_⟩
  ·show u.heap.size ≤ (u.heap.setIfInBounds _ _).size
   simp
  ·show (u.heap.setIfInBounds _ _)[i]? = _
   rw [Array.getElem?_setIfInBounds_ne (fun e => hne (by rw [e]))]
 refine ⟨_, fun ty => run_next_at h.it ty hq, ?_, hB, h.lx.grown hG (fun k hk => ?_)⟩
 ·show (u.heap.setIfInBounds w.heap.size _)[w.heap.size]? = _
  rw [Array.getElem?_setIfInBounds_self_of_lt hlt]
 ·cases hk
  exact ⟨by have := h.lx.lo; omega, by omega⟩
theorem TW.pos {W w u : World} {b q : Nat} {l : List UInt8} (h : TW W b l w q u) : u.iterPos w.heap.size = q := by simp [World.iterPos, h.it]
theorem TW.begin {W w : World} {b : Nat} {l : List UInt8} (X : LX W b l w) : TW W b l w 0 (w.iter (ba l) 0) :=
 ⟨by simpa using World.iter_heap w (ba l) 0, (Below.refl _ _).alloc (Nat.le_refl _) _, X.below ((Below.refl _ _).alloc (Nat.le_refl _) _)⟩
theorem TW.st {W w u : World} {b q : Nat} {l : List UInt8} (h : TW W b l w q u) (m : List UInt8) : St W b m w (u.setCell ⟨b, 0, none⟩ (.string (ba m))) :=
 St.set (l := l) ⟨h.lx, aZ h.bel⟩ m
theorem jZ {W w : World} {b : Nat} {l : List UInt8} (X : LX W b l w) (hl : l.length ≤ 255) {f : Nat} {p : UInt8 → Bool} {hi : Bool} (A : aCS f p hi)
  (hE : ∀ args u, (callFunc f args).run Tryz.prog u = .ok (.enter f args) u) :
  Calls Tryz.prog 119 #[.pointer (some ⟨b, 0, none⟩), .func (.func f) #[] #[]] w fun e w' => e = .returned (.string (ba (l.takeWhile p))) ∧ St W b (l.dropWhile p) w w' := by
 obtain ⟨c0, c1, f0⟩ := X.cells
 have hlt := X.lt
 have HX : Hid (LX W b l w) := X
 have HA : Hid (aCS f p hi) := A
 have hs' : (ba l).size = l.length := size_mk l
 have HB : Hid _ := TW.begin X
 clear X A
 go_enter Tryz.func119, Tryz.ntmps119
 go_wp2
 go_loopw [5, 6] (fun v i w' => v = .int .i64 l.length ∧ ∃ (q : Nat), q ≤ l.length ∧ Hid ((l.take q).all p = true) ∧ TW W b l w q w') (fun _ _ w' => l.length - w'.iterPos w.heap.size)
 case atStart => exact ⟨rfl, 0, Nat.zero_le _, by simp [Hid], HB.out⟩
 case round =>
  obtain ⟨rfl, q, hq, ha, hR⟩ := hrel
  have hpos := hR.pos
  by_cases hq2 : q < l.length
  ·obtain ⟨u1, hnx, hR1⟩ := hR.next hlt hq2
   have hqs : q < (ba l).size := by rw [hs']; exact hq2
   have hqi : (q : Int) ≤ l.length := by omega
   by_cases hasc : ((ba l)[q]'hqs).toNat < 128
   ·rw [decode_ascii (ba l) q hqs hasc] at hnx hR1
    have hc := aAS l q hq2 hqs
    have AL := fun u => HA.out.low _ u hasc
    rw [hc] at hnx AL
    obtain ⟨d0, d1, g0⟩ := hR1.lx.cells
    cases hp : p l[q]
    ·rw [hp] at AL
     obtain ⟨e1, e2⟩ := rD hq2 ha.out hp
     have HE : Hid ((ba l).extract 0 q = ba (l.takeWhile p) ∧ (ba l).extract q l.length = ba (l.dropWhile p)) := ⟨by rw [qA, e1], by rw [aBX, e2]⟩
     have HF : Hid (∀ v, v = ba (l.dropWhile p) → St W b (l.dropWhile p) w (u1.setCell ⟨b, 0, none⟩ (.string v))) := fun v hv => by rw [hv]; exact hR1.st _
     clear hR hR1 e1 e2 hasc
     generalize l[q] = c at *
     go_wp2_with (go_at_fn f; refine (AL _).mono ?_; rintro e w' ⟨rfl, hw⟩; obtain rfl := hw.symm; clear hw)
     go_ret
     exact ⟨by rw [← HE.out.1]; rfl, HF.out _ HE.out.2⟩
    ·rw [hp] at AL
     have HN : Hid ((l.take (q + 1)).all p = true) := yZ l q 1 ha.out (fun j hj h => by
      obtain rfl : j = 0 := by omega
      exact hp)
     have HR1 : Hid (TW W b l w (q + 1) u1) := hR1
     clear hR hR1 hasc d0 d1 g0
     generalize l[q] = c at *
     go_wp2_with (go_at_fn f; refine (AL _).mono ?_; rintro e w' ⟨rfl, hw⟩; obtain rfl := hw.symm; clear hw)
     go_roundw
     case rel => exact ⟨rfl, q + 1, by omega, HN, HR1.out⟩
     case measure =>
      have := HR1.out.pos
      rw [hpos, this]
      omega
   ·have dh := decode_high (ba l) q hqs (by omega)
    have db := mR (ba l) q hqs (by omega)
    rw [hs'] at db
    obtain ⟨r, hr, hr2⟩ : ∃ r : Nat, (Utf8.decode (ba l) q).1 = r ∧ 128 ≤ r := ⟨_, rfl, dh.1⟩
    have AL := fun u => HA.out.high r u hr2
    rw [hr] at hnx
    obtain ⟨d0, d1, g0⟩ := hR1.lx.cells
    have hd1 := dh.2
    have hd2 := db.1
    have hby := db.2
    clear hr dh db
    generalize (Utf8.decode (ba l) q).2 = d at *
    have hc := aAS l q hq2 hqs
    have hb8 := HA.out.byte l[q] (by rw [← hc]; omega)
    cases hi
    ·obtain ⟨e1, e2⟩ := rD hq2 ha.out hb8
     have HE : Hid ((ba l).extract 0 q = ba (l.takeWhile p) ∧ (ba l).extract q l.length = ba (l.dropWhile p)) := ⟨by rw [qA, e1], by rw [aBX, e2]⟩
     have HF : Hid (∀ v, v = ba (l.dropWhile p) → St W b (l.dropWhile p) w (u1.setCell ⟨b, 0, none⟩ (.string v))) := fun v hv => by rw [hv]; exact hR1.st _
     clear hR hR1 e1 e2 hasc hby hc hb8
     go_wp2_with (go_at_fn f; refine (AL _).mono ?_; rintro e w' ⟨rfl, hw⟩; obtain rfl := hw.symm; clear hw)
     go_ret
     exact ⟨by rw [← HE.out.1]; rfl, HF.out _ HE.out.2⟩
    ·have HN : Hid ((l.take (q + d)).all p = true) := yZ l q d ha.out (fun j hj h => by
      have := hby j hj
      rw [aGP l (q + j) h] at this
      exact HA.out.byte _ this)
     have HR1 : Hid (TW W b l w (q + d) u1) := hR1
     clear hR hR1 hasc hby hc hb8 d0 d1 g0
     go_wp2_with (go_at_fn f; refine (AL _).mono ?_; rintro e w' ⟨rfl, hw⟩; obtain rfl := hw.symm; clear hw)
     go_roundw
     case rel => exact ⟨rfl, q + d, hd2, HN, HR1.out⟩
     case measure =>
      have := HR1.out.pos
      rw [hpos, this]
      omega
  ·have hnx : ∀ ty, (Instr.next (.pointer (some ⟨w.heap.size, 0, none⟩)) true ty).run Tryz.prog wr = .ok (.tuple #[.bool false]) wr := fun ty => lK hR.it ty (by rw [hs']; exact hq2)
   obtain ⟨d0, d1, g0⟩ := hR.lx.cells
   have hall : l.all p = true := by
    have := ha.out
    rw [List.take_of_length_le (by omega)] at this
    exact this
   obtain ⟨e1, e2⟩ := uI hall
   have HE : Hid ((ba l).extract 0 l.length = ba (l.takeWhile p) ∧ ByteArray.empty = ba (l.dropWhile p)) := ⟨by rw [qA, e1, List.take_length], by rw [e2]; rfl⟩
   have HF : Hid (∀ v, v = ba (l.dropWhile p) → St W b (l.dropWhile p) w (wr.setCell ⟨b, 0, none⟩ (.string v))) := fun v hv => by rw [hv]; exact hR.st _
   clear hR e1 e2 hall
   go_wp2
   go_ret
   exact ⟨by rw [← HE.out.1]; rfl, HF.out _ HE.out.2⟩
def skF (s l : List UInt8) : List UInt8 := if s.isPrefixOf l = true then l.drop s.length else l
theorem gF {W w : World} {b : Nat} {l : List UInt8} (X : LX W b l w) (s : List UInt8) :
  Calls Tryz.prog 147 #[.pointer (some ⟨b, 0, none⟩), .string (ba s)] w fun e w' => e = .returned (.bool (s.isPrefixOf l)) ∧ St W b (skF s l) w w' := by
 have CP : ∀ u, Calls Tryz.prog 33 #[.string (ba l), .string (ba s)] u fun e w' => e = .returned (.tuple #[.string (ba (skF s l)), .bool (s.isPrefixOf l)]) ∧ w' = u := fun u => Tryz.strings_CutPrefix (ba l) (ba s) u
 obtain ⟨c0, c1, f0⟩ := X.cells
 have HS : Hid (St W b (skF s l) w (w.setCell ⟨b, 0, none⟩ (.string (ba (skF s l))))) := (St.refl X).set _
 clear X
 generalize ba (skF s l) = A at *
 generalize s.isPrefixOf l = q at *
 generalize ba l = L at *
 generalize ba s = S at *
 go_enter Tryz.func147, Tryz.ntmps147
 go_wp2_with (go_at_call 33; refine (CP _).mono ?_; rintro e w' ⟨rfl, hw⟩; obtain rfl := hw.symm; clear hw)
 go_ret
 exact ⟨rfl, HS.out⟩
theorem e32 : ∀ args u, (callFunc 120 args).run Tryz.prog u = .ok (.enter 120 args) u := enters_of Tryz.func120 (by kernel_rfl) rfl
theorem e51 : ∀ args u, (callFunc 146 args).run Tryz.prog u = .ok (.enter 146 args) u := enters_of Tryz.func146 (by kernel_rfl) rfl
theorem e53 : ∀ args u, (callFunc 148 args).run Tryz.prog u = .ok (.enter 148 args) u := enters_of Tryz.func148 (by kernel_rfl) rfl
theorem e56 : ∀ args u, (callFunc 151 args).run Tryz.prog u = .ok (.enter 151 args) u := enters_of Tryz.func151 (by kernel_rfl) rfl
theorem aBY (l : List UInt8) : ((ba l).toList == []) = l.isEmpty := by
 rw [ByteArray.toList_eq]
 cases l <;> rfl
theorem aEP {W w : World} {b : Nat} {l : List UInt8} (X : LX W b l w) (hl : l.length ≤ 255) :
  Calls Tryz.prog 77 #[.pointer (some ⟨b, 0, none⟩)] w fun e w' => e = .returned (.bool (!(l.dropWhile Tk.blank).isEmpty)) ∧ St W b (l.dropWhile Tk.blank) w w' := by
 have T := jZ X hl aAP e32
 have HE := aBY (l.dropWhile Tk.blank)
 generalize l.takeWhile Tk.blank = A at *
 generalize l.dropWhile Tk.blank = m at *
 cases hq : m.isEmpty
 all_goals
  rw [hq] at HE
  have HT : Hid _ := T
  clear T
  go_enter Tryz.func77, Tryz.ntmps77
  go_wp2_with (go_at_call 119; refine Calls.mono HT.out ?_; rintro e w1 ⟨rfl, hs⟩; have HS : Hid (St W b m w w1) := hs; obtain ⟨d0, d1, g0⟩ := hs.1.cells; clear hs)
  go_ret
  exact ⟨rfl, HS.out⟩
def Ans (W : World) (b : Nat) (w : World) (o : Option (Tk.Tok × List UInt8)) (e : Ending) (w' : World) : Prop :=
 match o with
 | some (t, m) => e = .returned (.tuple #[.agg (tk t).cs, .bool true]) ∧ St W b m w w'
 | none => (∃ t : TT, e = .returned (.tuple #[.agg t.cs, .bool false])) ∧ ∃ m, St W b m w w'
theorem St.fin {W w w1 : World} {b : Nat} {l : List UInt8} {o : Obj} (hb : b < w.heap.size) (h : St W b l (w.alloc o) w1) (es : Array Value) : St W b l w (w1.setRow w.heap.size es) :=
 St.grown (l := l) (w1 := w1) ⟨h.1, aM (World.grownBy_alloc w o _) h.2⟩ (aC _ _ _) (Nat.le_refl _) hb
theorem St.res {W w w1 : World} {b : Nat} {l : List UInt8} {o : Obj} (hb : b < w.heap.size) (h : St W b l (w.alloc o) w1) : w1.heap[w.heap.size]? = some o := h.kept (heap_alloc_new w o) (by omega)
theorem fF (k n : Int) (s b h : ByteArray) (r c : Int) (fr fc : Bool) : (tcs k n s b h r c fr fc).all (·.oneCell') = true := by simp [Value.oneCell']
abbrev tkO : Obj := .cells tk0 123
theorem St.put {W w w1 : World} {b : Nat} {l : List UInt8} (hb : b < w.heap.size) (h : St W b l (w.alloc tkO) w1) (k n : Int) (s b' h' : ByteArray) (r c : Int) (fr fc : Bool) :
  Hid ((Instr.storeAt 123 (.pointer (some ⟨w.heap.size, 0, none⟩)) (.agg (tcs k n s b' h' r c fr fc))).run Tryz.prog w1 = .ok () (w1.setRow w.heap.size (tcs k n s b' h' r c fr fc))) :=
 sto (h.res hb) dI rfl (fF k n s b' h' r c fr fc)
theorem St.ans {W w w1 : World} {b : Nat} {l : List UInt8} (hb : b < w.heap.size) (h : St W b l (w.alloc tkO) w1) (es : Array Value) (he : es.size = 9) {fn : Func} {p u : Tmp} (hr : fn.results = #[.cell p 123, .tmp u]) {tmps : Array Value} {v2 : Value}
  (hp : tmps.getD p undef = .pointer (some ⟨w.heap.size, 0, none⟩)) (hv : tmps.getD u undef = v2) : (results fn tmps).run Tryz.prog (w1.setRow w.heap.size es) = .ok (.tuple #[.agg es, v2]) (w1.setRow w.heap.size es) :=
 fE hr hp (setRow_heap _ _ _ es _ _ (h.res hb)) rfl Tryz.underlying123 (by rw [he]; exact dI) hv
def pnF (l : List UInt8) : Option Int := if (bZ l).2 = true then some (bZ l).1 else none
theorem zA {W w : World} {b : Nat} {l : List UInt8} (X : LX W b l w) (hl : l.length ≤ 255) :
  Calls Tryz.prog 113 #[.pointer (some ⟨b, 0, none⟩)] w fun e w' => e = .returned (.tuple #[.agg (tcs 1 (bZ (l.takeWhile Tk.eX)).1 noB noB noB 0 0 false false), .bool (bZ (l.takeWhile Tk.eX)).2]) ∧ St W b (l.dropWhile Tk.eX) w w' := by
 have HT : Hid _ := jZ (X.alloc tkO) hl aAQ e51
 have hlen : (l.takeWhile Tk.eX).length ≤ 255 := Nat.le_trans (List.takeWhile_sublist _).length_le hl
 have PA : ∀ u, Calls Tryz.prog 145 #[.string (ba (l.takeWhile Tk.eX))] u fun e w' => e = .returned (.tuple #[.int .i64 (bZ (l.takeWhile Tk.eX)).1, .bool (bZ (l.takeWhile Tk.eX)).2]) ∧ Below u.heap.size u w' := fun u => aBR (ba (l.takeWhile Tk.eX)) (by rw [size_mk]; omega) u
 have hb := X.lt
 clear X
 generalize (bZ (l.takeWhile Tk.eX)).1 = n at *
 generalize (bZ (l.takeWhile Tk.eX)).2 = ok at *
 generalize ba (l.takeWhile Tk.eX) = A at *
 generalize l.dropWhile Tk.eX = m at *
 go_enter Tryz.func113, Tryz.ntmps113
 go_wp2_with (first
  | (go_at_call 119; refine Calls.mono HT.out ?_; rintro e w1 ⟨rfl, hs⟩; have HS : Hid (St W b m (w.alloc tkO) w1) := hs; clear hs)
  | (go_at_call 145; refine (PA _).mono ?_; rintro e w2 ⟨rfl, hs⟩; have HS2 : Hid (St W b m (w.alloc tkO) w2) := HS.out.bel hs; have R := HS2.out.put hb 1 n noB noB noB 0 0 false false; clear hs HS)
  | (refine aD rfl 123 _ _ rfl _ _ _ rfl rfl R.out ?_))
 exact bodyPost_ret (HS2.out.ans hb (tcs 1 n noB noB noB 0 0 false false) rfl rfl rfl rfl) rfl ⟨rfl, HS2.out.fin hb _⟩
theorem aAT {W w : World} {b : Nat} {l : List UInt8} (X : LX W b l w) (hl : l.length ≤ 255) :
  Calls Tryz.prog 113 #[.pointer (some ⟨b, 0, none⟩)] w (Ans W b w ((pnF (l.takeWhile Tk.eX)).map fun n => (.num n, l.dropWhile Tk.eX))) := by
 refine (zA X hl).mono ?_
 rintro e w' ⟨rfl, h⟩
 unfold pnF
 cases hq : (bZ (l.takeWhile Tk.eX)).2
 ·exact ⟨⟨⟨1, _, noB, noB, noB, 0, 0, false, false⟩, rfl⟩, _, h⟩
 ·exact ⟨rfl, h⟩
theorem aGQ : ∀ i, i < 9 → fnm i = ba (Tk.gJ i) := by decide
theorem aGR {l : List UInt8} {i : Nat} (h1 : 1 ≤ i) (h8 : i ≤ 8) (hb : ∀ j, 1 ≤ j → j < i → (Tk.gJ j).isPrefixOf l = false) (hp : (Tk.gJ i).isPrefixOf l = true) : Tk.pQ l = some (.bad i, l.drop (Tk.gJ i).length) := by
 have hf : ([1, 2, 3, 4, 5, 6, 7, 8].find? fun i => (Tk.gJ i).isPrefixOf l) = some i := by
  have : i = 1 ∨ i = 2 ∨ i = 3 ∨ i = 4 ∨ i = 5 ∨ i = 6 ∨ i = 7 ∨ i = 8 := by omega
  rcases this with rfl | rfl | rfl | rfl | rfl | rfl | rfl | rfl
  ·simp [List.find?, hp]
  ·simp [List.find?, hp, hb 1 (by decide) (by decide)]
  ·simp [List.find?, hp, hb 1 (by decide) (by decide), hb 2 (by decide) (by decide)]
  ·simp [List.find?, hp, hb 1 (by decide) (by decide), hb 2 (by decide) (by decide), hb 3 (by decide) (by decide)]
  ·simp [List.find?, hp, hb 1 (by decide) (by decide), hb 2 (by decide) (by decide), hb 3 (by decide) (by decide), hb 4 (by decide) (by decide)]
  ·simp [List.find?, hp, hb 1 (by decide) (by decide), hb 2 (by decide) (by decide), hb 3 (by decide) (by decide), hb 4 (by decide) (by decide), hb 5 (by decide) (by decide)]
  ·simp [List.find?, hp, hb 1 (by decide) (by decide), hb 2 (by decide) (by decide), hb 3 (by decide) (by decide), hb 4 (by decide) (by decide), hb 5 (by decide) (by decide), hb 6 (by decide) (by decide)]
  ·simp [List.find?, hp, hb 1 (by decide) (by decide), hb 2 (by decide) (by decide), hb 3 (by decide) (by decide), hb 4 (by decide) (by decide), hb 5 (by decide) (by decide), hb 6 (by decide) (by decide), hb 7 (by decide) (by decide)]
 unfold Tk.pQ
 rw [hf]
 rfl
theorem aEQ {l : List UInt8} (hb : ∀ j, 1 ≤ j → j < 9 → (Tk.gJ j).isPrefixOf l = false) : Tk.pQ l = none := by
 unfold Tk.pQ
 simp [List.find?, hb 1 (by decide) (by decide), hb 2 (by decide) (by decide), hb 3 (by decide) (by decide), hb 4 (by decide) (by decide), hb 5 (by decide) (by decide), hb 6 (by decide) (by decide), hb 7 (by decide) (by decide), hb 8 (by decide) (by decide)]
theorem vT {s l : List UInt8} (h : s.isPrefixOf l = false) : skF s l = l := by unfold skF; rw [h]; rfl
theorem aBZ {s l : List UInt8} (h : s.isPrefixOf l = true) : skF s l = l.drop s.length := by unfold skF; rw [h]; rfl
theorem aB0 (i : Nat) (h1 : 1 ≤ i) (h8 : i ≤ 8) (w : World) (T : eD w) : Calls Tryz.prog 125 #[.agg #[.int .i64 4, .int .i64 (i : Nat), .string noB]] w fun e w' => e = .returned (.string (ba (Tk.gJ i))) ∧ Below w.heap.size w w' := by
 have := tZ 4 i noB ⟨by omega, by omega⟩ w T
 rw [show jW 4 (i : Int) noB = ba (Tk.gJ i) by
  rw [← aGQ i (by omega), ← aBP i h1 h8]; rfl] at this
 exact this
theorem aIN (i : Nat) (h1 : 1 ≤ i) (h8 : i ≤ 8) (w : World) : Calls Tryz.prog 149 #[.int .i64 (i : Nat)] w fun e w' => e = .returned (.agg #[.int .i64 4, .int .i64 (i : Nat), .string noB]) ∧ Below w.heap.size w w' := by
 have := mU (i : Int) w
 rw [show qU (i : Int) = (i : Nat) by unfold qU; rw [vL i h1 h8]; rfl] at this
 exact this
theorem aCT {W w : World} {b : Nat} {l : List UInt8} (X : LX W b l w) : Calls Tryz.prog 115 #[.pointer (some ⟨b, 0, none⟩)] w (Ans W b w (Tk.pQ l)) := by
 have hb := X.lt
 have H0 : Hid (St W b l (w.alloc tkO) (w.alloc tkO)) := St.refl (X.alloc tkO)
 generalize ho : Tk.pQ l = o
 have HO : Hid (Tk.pQ l = o) := ho
 clear ho X
 go_enter Tryz.func115, Tryz.ntmps115
 go_wp2
 go_loopw [4] (fun v wr => ∃ i : Nat, 1 ≤ i ∧ i ≤ 9 ∧ v = .int .i64 (i : Nat) ∧ Hid (∀ j, 1 ≤ j → j < i → (Tk.gJ j).isPrefixOf l = false) ∧ Hid (St W b l (w.alloc tkO) wr)) (fun v _ => 9 - (intOf v).toNat)
 case atStart => exact ⟨1, Nat.le_refl _, by decide, rfl, fun j h1 h2 => by omega, H0⟩
 case round =>
  obtain ⟨i, h1, h9, rfl, HJ, HS⟩ := hrel
  clear H0
  by_cases h8 : i ≤ 8
  ·have hi : (i : Int) ≤ 8 := by omega
   have BV := fun u => aIN i h1 h8 u
   have BT := fun u (T : eD u) => aB0 i h1 h8 u T
   have SK := fun u (Y : LX W b l u) => gF Y (Tk.gJ i)
   cases hp : (Tk.gJ i).isPrefixOf l
   ·rw [hp] at SK
    have HN : Hid (∀ j, 1 ≤ j → j < i + 1 → (Tk.gJ j).isPrefixOf l = false) := fun j h2 h3 => by
     by_cases e : j = i
     ·rw [e]; exact hp
     ·exact HJ.out j h2 (by omega)
    simp only [vT hp] at SK
    clear HJ HO
    generalize ba (Tk.gJ i) = A at *
    go_wp2_with (first
     | (go_at_call 149; refine (BV _).mono ?_; rintro e w1 ⟨rfl, hs⟩; have HS1 : Hid (St W b l (w.alloc tkO) w1) := HS.out.bel hs; clear hs)
     | (go_at_call 125; refine (BT _ HS1.out.1.t.t.t).mono ?_; rintro e w2 ⟨rfl, hs⟩; have HS2 : Hid (St W b l (w.alloc tkO) w2) := HS1.out.bel hs; clear hs)
     | (go_at_call 147; refine (SK _ HS2.out.1).mono ?_; rintro e w3 ⟨rfl, hs⟩; have HS3 : Hid (St W b l (w.alloc tkO) w3) := HS2.out.step hs; clear hs))
    go_roundw
    case rel => exact ⟨i + 1, by omega, by omega, by simp, HN, HS3⟩
    case measure => simp [intOf]; omega
   ·rw [hp] at SK
    have HN : Hid (o = some (.bad i, l.drop (Tk.gJ i).length)) := by
     show _ = _
     rw [← HO.out, aGR h1 h8 HJ.out hp]
    simp only [aBZ hp] at SK
    clear HJ HO
    generalize ba (Tk.gJ i) = A at *
    generalize l.drop (Tk.gJ i).length = m at *
    go_wp2_with (first
     | (go_at_call 149; refine (BV _).mono ?_; rintro e w1 ⟨rfl, hs⟩; have HS1 : Hid (St W b l (w.alloc tkO) w1) := HS.out.bel hs; clear hs)
     | (go_at_call 125; refine (BT _ HS1.out.1.t.t.t).mono ?_; rintro e w2 ⟨rfl, hs⟩; have HS2 : Hid (St W b l (w.alloc tkO) w2) := HS1.out.bel hs; clear hs)
     | (go_at_call 147; refine (SK _ HS2.out.1).mono ?_; rintro e w3 ⟨rfl, hs⟩; have HS3 : Hid (St W b m (w.alloc tkO) w3) := HS2.out.step hs; have R := HS3.out.put hb 6 (i : Nat) noB noB noB 0 0 false false; clear hs)
     | (refine aD rfl 123 _ _ rfl _ _ _ rfl rfl R.out ?_))
    refine bodyPost_ret (HS3.out.ans hb (tcs 6 (i : Nat) noB noB noB 0 0 false false) rfl rfl rfl rfl) rfl ?_
    rw [HN.out]
    exact ⟨rfl, HS3.out.fin hb _⟩
  ·have hi : ¬ (i : Int) ≤ 8 := by omega
   have HN : Hid (o = none) := by
    show _ = _
    rw [← HO.out, aEQ (fun j h2 h3 => HJ.out j h2 (by omega))]
   have R := HS.out.put hb 0 0 noB noB noB 0 0 false false
   clear HJ HO
   go_wp2_with (refine aD rfl 123 _ _ rfl _ _ _ rfl rfl R.out ?_)
   refine bodyPost_ret (HS.out.ans hb (tcs 0 0 noB noB noB 0 0 false false) rfl rfl rfl rfl) rfl ?_
   rw [HN.out]
   exact ⟨⟨⟨0, 0, noB, noB, noB, 0, 0, false, false⟩, rfl⟩, l, HS.out.fin hb _⟩
end Go.Proofs.YtljmklbbngpllaaGreatDoor
