/- The reference reads a journal as the program does: plain data, no walk. -/
import Derived.Test.YtcheikpmhdliiaaDoorRsInts
import Derived.Test.YtcheikpmhdliiaaDoorJFol
namespace Go.Proofs.YtcheikpmhdliiaaDoor
open Go.RowKit

theorem word4_of (a b c d : UInt8) : word4 (a.toNat + 256 * b.toNat + 65536 * c.toNat + 16777216 * d.toNat) = [a, b, c, d] := by
  have ha := a.toNat_lt
  have hb := b.toNat_lt
  have hc := c.toNat_lt
  have hd := d.toNat_lt
  have e : ∀ (x : UInt8) (n : Nat), n % 256 = x.toNat → UInt8.ofNat n = x := fun x n h => by
    apply UInt8.toNat_inj.1
    simp [h]
  unfold word4
  rw [e a _ (by omega), e b _ (by omega), e c _ (by omega), e d _ (by omega)]
theorem word4_wordOf {l : List UInt8} {k : Nat} (h : k + 4 ≤ l.length) : word4 (wordOf l k) = (l.drop k).take 4 := by
  rw [wordOf_get h, word4_of]
  apply List.ext_getElem
  · simp; omega
  · intro i h1 h2
    simp at h1
    rcases i with _ | _ | _ | _ | i
    · simp
    · simp
    · simp
    · simp
    · omega
/-- What comes out of a frame lay in one. -/
theorem unframe_inv {l : List UInt8} (h : (unframeB l).2.2 = 0) : l = frameB (unframeB l).1 ++ l.drop (unframeB l).2.1 := by
  unfold unframeB at h ⊢
  split at h
  · cases h
  · split at h
    · cases h
    · split at h
      · cases h
      · split at h
        · cases h
        · rename_i h1 h2 h3 h4
          rw [if_neg h1, if_neg h2, if_neg h3, if_neg h4]
          dsimp only
          have h4' : wordOf l (wordOf l 0 + 4) = sumB (l.take (wordOf l 0 + 4)) := Classical.byContradiction h4
          have e0 : word4 (wordOf l 0) = l.take 4 := by have := word4_wordOf (l := l) (k := 0) (by omega); simpa using this
          have e1 := word4_wordOf (l := l) (k := wordOf l 0 + 4) (by omega)
          have e2 : ((l.drop 4).take (wordOf l 0)).length = wordOf l 0 := by simp; omega
          have e3 : l.take 4 ++ (l.drop 4).take (wordOf l 0) = l.take (wordOf l 0 + 4) := by
            rw [Nat.add_comm, List.take_add]
          unfold frameB
          rw [e2, e0, e3, ← h4', e1]
          generalize wordOf l 0 = k at *
          conv => lhs; rw [← List.take_append_drop (k + 4) l]
          rw [List.append_assoc]
          congr 1
          conv => lhs; rw [← List.take_append_drop 4 (l.drop (k + 4))]
          rw [List.drop_drop]
/-- The header of a journal is its beginning. -/
theorem own_inv {l : List UInt8} {id : Int} {n : Nat} (h : ownJ l = some (id, n)) : l = beginJ id ++ l.drop n ∧ n = (beginJ id).length ∧ In64 id := by
  unfold ownJ at h
  split at h
  · rename_i id' n' hq
    cases h
    unfold firstJ at hq
    split at hq
    · rename_i h0
      have hi := unframe_inv h0
      have hb := unframe_bound l
      rcases hr : recJ (unframeB l).1 with _ | r
      · rw [hr] at hq; cases hq
      · rw [hr] at hq
        simp only [Option.map_some, Option.some.injEq, Prod.mk.injEq] at hq
        obtain ⟨rfl, rfl⟩ := hq
        unfold recJ at hr
        split at hr
        · cases hr
        · rcases hh : readH (unframeB l).1 with _ | id2
          · rw [hh] at hr; cases hr
          · rw [hh] at hr
            simp only [Option.map_some, Option.some.injEq, Sum.inl.injEq] at hr
            subst hr
            unfold readH at hh
            split at hh
            · rename_i m id3 hI
              split at hh
              · rename_i hm
                cases hh
                subst hm
                obtain ⟨q1, q2⟩ := readI_inv hI
                have e : beginJ id2 = frameB (unframeB l).1 := by unfold beginJ; rw [q1]
                refine ⟨by rw [e]; exact hi, ?_, q2 _ (by simp)⟩
                have hlen := congrArg List.length hi
                rw [List.length_append, List.length_drop, ← e] at hlen
                have := hb.1
                omega
              · cases hh
            · cases hh
    · cases hq
  · cases h
theorem own_yes {l : List UInt8} {id : Int} (h : In64 id) (_hl : (beginJ id).length ≤ l.length) (he : l.take (beginJ id).length = beginJ id) : ownJ l = some (id, (beginJ id).length) := by
  have : l = beginJ id ++ l.drop (beginJ id).length := by
    conv => lhs; rw [← List.take_append_drop (beginJ id).length l]
    rw [he]
  rw [this]
  exact own_head h _
theorem own_no {l : List UInt8} {id : Int} (hn : l.length < (beginJ id).length ∨ l.take (beginJ id).length ≠ beginJ id) : ∀ n, ownJ l ≠ some (id, n) := by
  intro n h
  obtain ⟨h1, h2, _⟩ := own_inv h
  have hlen := congrArg List.length h1
  rw [List.length_append] at hlen
  rcases hn with hn | hn
  · omega
  · apply hn
    rw [h1]
    simp
theorem scan_no {l : List UInt8} {id : Int} (hn : ∀ n, ownJ l ≠ some (id, n)) : scanJ l id = ⟨[], 0, false⟩ := by
  unfold scanJ
  rcases hq : ownJ l with _ | ⟨o, n⟩
  · rfl
  · dsimp only
    rw [if_neg]
    rintro rfl
    exact hn n hq
/-- A group as the reference takes it apart. -/
theorem readG_ref {c : List UInt8} {s : Int} {L : List OpT} : readG c = some (s, L) ↔ ∃ r, lstR numR c = some ([s], r) ∧ readO r = some L ∧ L ≠ [] := by
  constructor
  · intro h
    unfold readG at h
    split at h
    · rename_i s' hI
      split at h
      · rename_i o os hO
        cases h
        obtain ⟨q1, q2⟩ := readI_inv hI
        refine ⟨_, ?_, hO, by simp⟩
        have e : c = lstB numB [s] ++ c.drop (endOne c) := by
          conv => lhs; rw [← List.take_append_drop (endOne c) c]
          rw [q1]
          rfl
        have := lstR_B (R := numR) (B := numB) (fun x => ?_) [s] (fun x hx r => numR_B (q2 x hx) r) ?_ (c.drop (endOne c))
        · rw [← e] at this
          exact this
        · exact numB_pos x
        · have a1 := numB_length (q2 s (by simp))
          have a2 : (numB (([s] : List Int).length : Int)).length ≤ 10 := numB_length (by constructor <;> simp)
          simp only [lstB, List.length_append, List.flatMap_cons, List.flatMap_nil, List.length_nil]
          omega
      · cases h
    · cases h
  · rintro ⟨r, h1, h2, h3⟩
    have hi := lstR_inv (B := numB) (P := In64) (fun l x r h => numR_inv h) h1
    have e : c = listB [s] ++ r := hi.1
    obtain ⟨o, os, rfl⟩ := List.exists_cons_of_ne_nil h3
    unfold readG
    rw [e, endOne_group, List.take_left, List.drop_left, read_list [s] (by simpa using hi.2) (by simp), h2]
theorem own_err {l : List UInt8} (h : (unframeB l).2.2 ≠ 0) : ownJ l = none := by
  unfold ownJ firstJ
  rw [if_neg h]
theorem own_two {l : List UInt8} (h : (unframeB l).2.2 = 0) {id : Int} (hI : readI (unframeB l).1 = some [7, id]) : ownJ l = some (id, (unframeB l).2.1) := by
  unfold ownJ firstJ
  rw [if_pos h]
  simp only [recJ, readG_two hI, readH, hI, if_true, Option.map_some]
theorem own_bad {l : List UInt8} (h : (unframeB l).2.2 = 0) (hI : ∀ id, readI (unframeB l).1 ≠ some [7, id]) : ownJ l = none := by
  have hH : readH (unframeB l).1 = none := by
    unfold readH
    split
    · rename_i m id hq
      rw [if_neg]
      rintro rfl
      exact hI id hq
    · rfl
  unfold ownJ firstJ
  rw [if_pos h]
  unfold recJ
  rw [hH]
  rcases readG (unframeB l).1 with _ | ⟨s, L⟩ <;> rfl
/-- The next group, as the reference finds it. -/
theorem next_err {l : List UInt8} (h : (unframeB l).2.2 ≠ 0) (k : Nat) : nextJ l k = none := by
  unfold nextJ firstJ
  rw [if_neg h]
theorem next_ref {l : List UInt8} (h : (unframeB l).2.2 = 0) {k : Nat} {L : List OpT} (hG : readG (unframeB l).1 = some ((k : Int) + 1, L)) : nextJ l k = some (L, (unframeB l).2.1) := by
  unfold nextJ firstJ
  rw [if_pos h]
  simp [recJ, hG]
theorem next_bad {l : List UInt8} (h : (unframeB l).2.2 = 0) {k : Nat} (hG : ∀ L, readG (unframeB l).1 ≠ some ((k : Int) + 1, L)) : nextJ l k = none := by
  unfold nextJ firstJ
  rw [if_pos h]
  unfold recJ
  rcases hq : readG (unframeB l).1 with _ | ⟨s, L⟩
  · dsimp only
    rcases readH (unframeB l).1 with _ | id <;> rfl
  · dsimp only [Option.map_some]
    rw [if_neg]
    rintro rfl
    exact hG L hq
end Go.Proofs.YtcheikpmhdliiaaDoor
