/- As many signs as are asked for, cut off. -/
import Derived.Test.YtdgnodijmbeajaaGreatDoorTRune
namespace Go.Proofs.YtdgnodijmbeajaaGreatDoor
open Go.RowKit
set_option maxRecDepth 100000
set_option linter.unusedVariables false
set_option linter.unusedSimpArgs false
theorem while_all {p : UInt8 → Bool} : ∀ {l : List UInt8}, l.all p = true → l.takeWhile p = l ∧ l.dropWhile p = []
  | [], _ => ⟨rfl, rfl⟩
  | c :: r, h => by
    rw [List.all_cons, Bool.and_eq_true] at h
    obtain ⟨a, b⟩ := while_all h.2
    rw [List.takeWhile_cons, List.dropWhile_cons, if_pos h.1, if_pos h.1, a, b]
    exact ⟨rfl, rfl⟩
theorem while_at {p : UInt8 → Bool} : ∀ {l : List UInt8} {k : Nat} (hk : k < l.length), (l.take k).all p = true → p l[k] = false → l.takeWhile p = l.take k ∧ l.dropWhile p = l.drop k
  | c :: r, 0, _, _, h => by
    have h' : p c = false := h
    rw [List.takeWhile_cons, List.dropWhile_cons, h']
    exact ⟨rfl, rfl⟩
  | c :: r, k + 1, hk, ha, h => by
    rw [List.take_succ_cons, List.all_cons, Bool.and_eq_true] at ha
    have hk' : k < r.length := by simpa using hk
    obtain ⟨a, b⟩ := while_at hk' ha.2 (by simpa using h)
    rw [List.takeWhile_cons, List.dropWhile_cons, if_pos ha.1, if_pos ha.1, a, b]
    exact ⟨rfl, rfl⟩
theorem all_more {p : UInt8 → Bool} (l : List UInt8) (k d : Nat) (ha : (l.take k).all p = true) (hd : ∀ j, j < d → ∀ h : k + j < l.length, p l[k + j] = true) : (l.take (k + d)).all p = true := by
  rw [List.all_eq_true] at ha ⊢
  intro x hx
  obtain ⟨i, hi, rfl⟩ := List.getElem_of_mem hx
  rw [List.length_take] at hi
  rw [List.getElem_take]
  by_cases h : i < k
  · exact ha _ (List.mem_take_iff_getElem.2 ⟨i, by omega, rfl⟩)
  · have := hd (i - k) (by omega) (by omega)
    simp only [show k + (i - k) = i by omega] at this
    exact this
theorem ba_get (l : List UInt8) (k : Nat) (h : k < l.length) (h2 : k < (ba l).size) : (ba l)[k] = l[k] := by
  simp [ba]; rfl
theorem ba_get! (l : List UInt8) (k : Nat) (h : k < l.length) : (ba l).get! k = l[k] := by
  have := get_list (ba l) k h
  exact this
theorem ba_take (l : List UInt8) (k : Nat) : (ba l).extract 0 k = ba (l.take k) := by
  apply ByteArray.ext
  simp [ba]
theorem ba_drop (l : List UInt8) (k : Nat) : (ba l).extract k l.length = ba (l.drop k) := by
  apply ByteArray.ext
  simp [ba]
  rw [List.take_of_length_le (by simp)]
/-- The iterator over a text, and all else. -/
structure TW (W : World) (b : Nat) (l : List UInt8) (w : World) (q : Nat) (u : World) : Prop where
  it : u.heap[w.heap.size]? = some (.stringIter (ba l) q)
  bel : Below w.heap.size w u
  lx : LX W b l u
theorem TW.next {W w u : World} {b q : Nat} {l : List UInt8} (h : TW W b l w q u) (hb : b < w.heap.size) (hp : q < l.length) :
    ∃ u1, (∀ ty, (Instr.next (.pointer (some ⟨w.heap.size, 0, none⟩)) true ty).run Tryz.prog u = .ok (.tuple #[.bool true, .int .i64 q, .int .i32 (Utf8.decode (ba l) q).1]) u1) ∧ TW W b l w (q + (Utf8.decode (ba l) q).2) u1 := by
  have hq : q < (ba l).size := by rw [size_mk]; exact hp
  have hlt : w.heap.size < u.heap.size := (Array.getElem?_eq_some_iff.1 h.it).1
  have hB : Below w.heap.size w { u with heap := u.heap.setIfInBounds w.heap.size (.stringIter (ba l) (q + (Utf8.decode (ba l) q).2)) } := by
    obtain ⟨a, c, d, e, f⟩ := h.bel
    refine ⟨a, c, d, ?_, fun i hi => ?_⟩
    · show w.heap.size ≤ (u.heap.setIfInBounds _ _).size
      simp; omega
    · show (u.heap.setIfInBounds _ _)[i]? = _
      rw [Array.getElem?_setIfInBounds_ne (by omega)]
      exact f i hi
  have hG : u.grownBy { u with heap := u.heap.setIfInBounds w.heap.size (.stringIter (ba l) (q + (Utf8.decode (ba l) q).2)) } (some w.heap.size) := by
    refine ⟨rfl, rfl, rfl, ?_, fun i hi hne => ?_⟩
    · show u.heap.size ≤ (u.heap.setIfInBounds _ _).size
      simp
    · show (u.heap.setIfInBounds _ _)[i]? = _
      rw [Array.getElem?_setIfInBounds_ne (fun e => hne (by rw [e]))]
  refine ⟨_, fun ty => run_next_at h.it ty hq, ?_, hB, h.lx.grown hG (fun k hk => ?_)⟩
  · show (u.heap.setIfInBounds w.heap.size _)[w.heap.size]? = _
    rw [Array.getElem?_setIfInBounds_self_of_lt hlt]
  · cases hk
    exact ⟨by have := h.lx.lo; omega, by omega⟩
theorem TW.pos {W w u : World} {b q : Nat} {l : List UInt8} (h : TW W b l w q u) : u.iterPos w.heap.size = q := by simp [World.iterPos, h.it]
theorem TW.begin {W w : World} {b : Nat} {l : List UInt8} (X : LX W b l w) : TW W b l w 0 (w.iter (ba l) 0) :=
  ⟨by simpa using World.iter_heap w (ba l) 0, (Below.refl _ _).alloc (Nat.le_refl _) _, X.below ((Below.refl _ _).alloc (Nat.le_refl _) _)⟩
theorem TW.st {W w u : World} {b q : Nat} {l : List UInt8} (h : TW W b l w q u) (m : List UInt8) : St W b m w (u.setCell ⟨b, 0, none⟩ (.string (ba m))) :=
  St.set (l := l) ⟨h.lx, grown_below h.bel⟩ m
set_option maxHeartbeats 4000000 in
theorem take_any {W w : World} {b : Nat} {l : List UInt8} (X : LX W b l w) (hl : l.length ≤ 255) {f : Nat} {p : UInt8 → Bool} {hi : Bool} (A : Asks f p hi)
    (hE : ∀ args u, (callFunc f args).run Tryz.prog u = .ok (.enter f args) u) :
    Calls Tryz.prog 31 #[.pointer (some ⟨b, 0, none⟩), .func (.func f) #[] #[]] w fun e w' => e = .returned (.string (ba (l.takeWhile p))) ∧ St W b (l.dropWhile p) w w' := by
  obtain ⟨c0, c1, f0⟩ := X.cells
  have hlt := X.lt
  have HX : Hid (LX W b l w) := X
  have HA : Hid (Asks f p hi) := A
  have hs' : (ba l).size = l.length := size_mk l
  have HB : Hid _ := TW.begin X
  clear X A
  go_enter Tryz.func31, Tryz.ntmps31
  go_wp2
  go_loopw [5, 6] (fun v i w' => v = .int .i64 l.length ∧ ∃ (q : Nat), q ≤ l.length ∧ Hid ((l.take q).all p = true) ∧ TW W b l w q w') (fun _ _ w' => l.length - w'.iterPos w.heap.size)
  case atStart => exact ⟨rfl, 0, Nat.zero_le _, by simp [Hid], HB.out⟩
  case round =>
    obtain ⟨rfl, q, hq, ha, hR⟩ := hrel
    have hpos := hR.pos
    by_cases hq2 : q < l.length
    · obtain ⟨u1, hnx, hR1⟩ := hR.next hlt hq2
      have hqs : q < (ba l).size := by rw [hs']; exact hq2
      have hqi : (q : Int) ≤ l.length := by omega
      by_cases hasc : ((ba l)[q]'hqs).toNat < 128
      · rw [decode_ascii (ba l) q hqs hasc] at hnx hR1
        have hc := ba_get l q hq2 hqs
        have AL := fun u => HA.out.low _ u hasc
        rw [hc] at hnx AL
        obtain ⟨d0, d1, g0⟩ := hR1.lx.cells
        cases hp : p l[q]
        · rw [hp] at AL
          obtain ⟨e1, e2⟩ := while_at hq2 ha.out hp
          have HE : Hid ((ba l).extract 0 q = ba (l.takeWhile p) ∧ (ba l).extract q l.length = ba (l.dropWhile p)) := ⟨by rw [ba_take, e1], by rw [ba_drop, e2]⟩
          have HF : Hid (∀ v, v = ba (l.dropWhile p) → St W b (l.dropWhile p) w (u1.setCell ⟨b, 0, none⟩ (.string v))) := fun v hv => by rw [hv]; exact hR1.st _
          clear hR hR1 e1 e2 hasc
          generalize l[q] = c at *
          go_wp2_with (go_at_fn f; refine (AL _).mono ?_; rintro e w' ⟨rfl, hw⟩; obtain rfl := hw.symm; clear hw)
          go_ret
          exact ⟨by rw [← HE.out.1]; rfl, HF.out _ HE.out.2⟩
        · rw [hp] at AL
          have HN : Hid ((l.take (q + 1)).all p = true) := all_more l q 1 ha.out (fun j hj h => by
            obtain rfl : j = 0 := by omega
            exact hp)
          have HR1 : Hid (TW W b l w (q + 1) u1) := hR1
          clear hR hR1 hasc d0 d1 g0
          generalize l[q] = c at *
          go_wp2_with (go_at_fn f; refine (AL _).mono ?_; rintro e w' ⟨rfl, hw⟩; obtain rfl := hw.symm; clear hw)
          go_roundw
          case rel => exact ⟨rfl, q + 1, by omega, HN, HR1.out⟩
          case measure =>
            have := HR1.out.pos
            rw [hpos, this]
            omega
      · have dh := decode_high (ba l) q hqs (by omega)
        have db := decode_bytes (ba l) q hqs (by omega)
        rw [hs'] at db
        obtain ⟨r, hr, hr2⟩ : ∃ r : Nat, (Utf8.decode (ba l) q).1 = r ∧ 128 ≤ r := ⟨_, rfl, dh.1⟩
        have AL := fun u => HA.out.high r u hr2
        rw [hr] at hnx
        obtain ⟨d0, d1, g0⟩ := hR1.lx.cells
        have hd1 := dh.2
        have hd2 := db.1
        have hby := db.2
        clear hr dh db
        generalize (Utf8.decode (ba l) q).2 = d at *
        have hc := ba_get l q hq2 hqs
        have hb8 := HA.out.byte l[q] (by rw [← hc]; omega)
        cases hi
        · obtain ⟨e1, e2⟩ := while_at hq2 ha.out hb8
          have HE : Hid ((ba l).extract 0 q = ba (l.takeWhile p) ∧ (ba l).extract q l.length = ba (l.dropWhile p)) := ⟨by rw [ba_take, e1], by rw [ba_drop, e2]⟩
          have HF : Hid (∀ v, v = ba (l.dropWhile p) → St W b (l.dropWhile p) w (u1.setCell ⟨b, 0, none⟩ (.string v))) := fun v hv => by rw [hv]; exact hR1.st _
          clear hR hR1 e1 e2 hasc hby hc hb8
          go_wp2_with (go_at_fn f; refine (AL _).mono ?_; rintro e w' ⟨rfl, hw⟩; obtain rfl := hw.symm; clear hw)
          go_ret
          exact ⟨by rw [← HE.out.1]; rfl, HF.out _ HE.out.2⟩
        · have HN : Hid ((l.take (q + d)).all p = true) := all_more l q d ha.out (fun j hj h => by
            have := hby j hj
            rw [ba_get! l (q + j) h] at this
            exact HA.out.byte _ this)
          have HR1 : Hid (TW W b l w (q + d) u1) := hR1
          clear hR hR1 hasc hby hc hb8 d0 d1 g0
          go_wp2_with (go_at_fn f; refine (AL _).mono ?_; rintro e w' ⟨rfl, hw⟩; obtain rfl := hw.symm; clear hw)
          go_roundw
          case rel => exact ⟨rfl, q + d, hd2, HN, HR1.out⟩
          case measure =>
            have := HR1.out.pos
            rw [hpos, this]
            omega
    · have hnx : ∀ ty, (Instr.next (.pointer (some ⟨w.heap.size, 0, none⟩)) true ty).run Tryz.prog wr = .ok (.tuple #[.bool false]) wr := fun ty => run_next_done hR.it ty (by rw [hs']; exact hq2)
      obtain ⟨d0, d1, g0⟩ := hR.lx.cells
      have hall : l.all p = true := by
        have := ha.out
        rw [List.take_of_length_le (by omega)] at this
        exact this
      obtain ⟨e1, e2⟩ := while_all hall
      have HE : Hid ((ba l).extract 0 l.length = ba (l.takeWhile p) ∧ ByteArray.empty = ba (l.dropWhile p)) := ⟨by rw [ba_take, e1, List.take_length], by rw [e2]; rfl⟩
      have HF : Hid (∀ v, v = ba (l.dropWhile p) → St W b (l.dropWhile p) w (wr.setCell ⟨b, 0, none⟩ (.string v))) := fun v hv => by rw [hv]; exact hR.st _
      clear hR e1 e2 hall
      go_wp2
      go_ret
      exact ⟨by rw [← HE.out.1]; rfl, HF.out _ HE.out.2⟩
end Go.Proofs.YtdgnodijmbeajaaGreatDoor
