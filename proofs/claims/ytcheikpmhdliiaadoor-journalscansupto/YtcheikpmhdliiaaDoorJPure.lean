/- A journal as plain data: what its bytes are, what they tell, cut anywhere; no walk. -/
import Derived.Test.YtcheikpmhdliiaaDoorOpPure
import Derived.Test.YtcheikpmhdliiaaDoorCrc
namespace Go.Proofs.YtcheikpmhdliiaaDoor

/-- A record: a header's number, or a group's number and changes. -/
abbrev Rc := Sum Int (Int × List OpT)
abbrev Rc.hdr (id : Int) : Rc := .inl id
abbrev Rc.grp (seq : Int) (ops : List OpT) : Rc := .inr (seq, ops)

/-- Where a list of one number ends. -/
def endAux : Nat → List UInt8 → Nat
  | n, [] => n
  | n, d :: r => if d.toNat < 128 then n + 1 else endAux (n + 1) r
def endOne (l : List UInt8) : Nat := match l with
  | [] => 0
  | _ :: r => endAux 1 r
def readG (l : List UInt8) : Option (Int × List OpT) :=
  match readI (l.take (endOne l)) with
  | some [s] => match readO (l.drop (endOne l)) with
    | some (o :: os) => some (s, o :: os)
    | _ => none
  | _ => none
def readH (l : List UInt8) : Option Int :=
  match readI l with
  | some [m, id] => if m = 7 then some id else none
  | _ => none
def recJ (l : List UInt8) : Option Rc :=
  match readG l with
  | some p => some (.grp p.1 p.2)
  | none => (readH l).map Rc.hdr
def firstJ (l : List UInt8) : Option (Rc × Nat) :=
  if (unframeB l).2.2 = 0 then (recJ (unframeB l).1).map fun r => (r, (unframeB l).2.1) else none
/-- The next group, if it is the one behind k. -/
def nextJ (l : List UInt8) (k : Nat) : Option (List OpT × Nat) :=
  match firstJ l with
  | some (.inr (s, os), n) => if s = (k : Int) + 1 then some (os, n) else none
  | _ => none
def followF : Nat → List UInt8 → Nat → List (List OpT) × Nat
  | 0, _, _ => ([], 0)
  | f + 1, l, k => match nextJ l k with
    | some (os, n) => (os :: (followF f (l.drop n) (k + 1)).1, n + (followF f (l.drop n) (k + 1)).2)
    | none => ([], 0)
structure LogT where
  groups : List (List OpT)
  good : Nat
  bound : Bool
def ownJ (l : List UInt8) : Option (Int × Nat) :=
  match firstJ l with
  | some (.inl id, n) => some (id, n)
  | _ => none
def followJ (l : List UInt8) (n : Nat) : LogT := ⟨(followF (l.length + 1) (l.drop n) 0).1, n + (followF (l.length + 1) (l.drop n) 0).2, true⟩
def scanJ (l : List UInt8) (id : Int) : LogT :=
  match ownJ l with
  | some (own, n) => if own = id then followJ l n else ⟨[], 0, false⟩
  | none => ⟨[], 0, false⟩
def groupC (seq : Int) (L : List OpT) : List UInt8 := listB [seq] ++ opsB L
def groupJ (seq : Int) (L : List OpT) : List UInt8 × Nat :=
  if seq < 1 ∨ L.length = 0 then ([], 2) else if 131072 < (groupC seq L).length then ([], 9) else (frameB (groupC seq L), 0)
def beginJ (id : Int) : List UInt8 := frameB (listB [7, id])
def addJ (l : List UInt8) (L : List OpT) : List UInt8 × Nat :=
  match ownJ l with
  | some (id, _) => if (scanJ l id).good < l.length then ([], 12) else groupJ ((scanJ l id).groups.length + 1 : Nat) L
  | none => ([], 12)

/-! ### Frames -/
theorem unframe_bound (l : List UInt8) : (unframeB l).2.1 ≤ l.length ∧ ((unframeB l).2.2 = 0 → 8 ≤ (unframeB l).2.1) ∧ (unframeB l).1.length ≤ 131072 := by
  unfold unframeB
  split
  · simp
  · split
    · simp
    · split
      · simp
      · split
        · simp
        · simp; omega
theorem firstJ_bound {l : List UInt8} {r : Rc} {n : Nat} (h : firstJ l = some (r, n)) : 8 ≤ n ∧ n ≤ l.length := by
  unfold firstJ at h
  have hb := unframe_bound l
  split at h
  · rename_i h0
    rcases hq : recJ (unframeB l).1 with _ | r'
    · rw [hq] at h; cases h
    · rw [hq] at h
      cases h
      exact ⟨hb.2.1 h0, hb.1⟩
  · cases h
theorem nextJ_bound {l : List UInt8} {k : Nat} {os : List OpT} {n : Nat} (h : nextJ l k = some (os, n)) : 8 ≤ n ∧ n ≤ l.length := by
  unfold nextJ at h
  split at h
  · rename_i s os' n' hq
    split at h
    · cases h; exact firstJ_bound hq
    · cases h
  · cases h
theorem followF_bound : ∀ (f : Nat) (l : List UInt8) (k : Nat), (followF f l k).2 ≤ l.length ∧ 8 * (followF f l k).1.length ≤ (followF f l k).2 := by
  intro f
  induction f with
  | zero => intro l k; simp [followF]
  | succ f ih =>
    intro l k
    rw [followF]
    rcases hq : nextJ l k with _ | ⟨os, n⟩
    · simp
    · have h1 := nextJ_bound hq
      have h2 := ih (l.drop n) (k + 1)
      simp only [List.length_drop, List.length_cons] at *
      omega

/-! ### What is written is read -/
theorem endAux_digits (u n : Nat) (r : List UInt8) : endAux n (digits u ++ r) = n + (digits u).length := by
  induction u using Nat.strongRecOn generalizing n with
  | _ u ih =>
    by_cases hs : u < 128
    · rw [digits_small hs]
      have ht : (UInt8.ofNat u).toNat = u := by simp; omega
      show endAux n (UInt8.ofNat u :: r) = _
      rw [endAux, ht, if_pos hs]
      rfl
    · rw [digits_big (by omega)]
      have ht : (UInt8.ofNat (u % 128 + 128)).toNat = u % 128 + 128 := by simp; omega
      show endAux n (UInt8.ofNat (u % 128 + 128) :: (digits (u / 128) ++ r)) = _
      rw [endAux, ht, if_neg (by omega), ih (u / 128) (by omega)]
      simp
      omega
theorem numB_one : numB 1 = [2] := by
  unfold numB foldN
  rw [digits_small (by decide)]
  rfl
theorem numB_two : numB 2 = [4] := by
  unfold numB foldN
  rw [digits_small (by decide)]
  rfl
theorem listB_one (s : Int) : listB [s] = 2 :: numB s := by
  unfold listB
  have : (([s] : List Int).length : Int) = 1 := rfl
  rw [this, numB_one]
  simp
theorem endOne_group (s : Int) (r : List UInt8) : endOne (listB [s] ++ r) = (listB [s]).length := by
  rw [listB_one]
  show endAux 1 (numB s ++ r) = _
  unfold numB
  rw [endAux_digits]
  simp
  omega
theorem readG_group {s : Int} (hs : In64 s) {L : List OpT} (ok : ∀ o ∈ L, o.Ok) (hL : L ≠ []) (hl : (opsB L).length ≤ 9223372036854775807) : readG (groupC s L) = some (s, L) := by
  obtain ⟨o, os, rfl⟩ := List.exists_cons_of_ne_nil hL
  unfold readG groupC
  rw [endOne_group, List.take_left, List.drop_left, read_list [s] (by simpa using hs) (by simp), readO_B ok hl]
/-- What is read as numbers was written so. -/
theorem takeN_items (n : Nat) : ∀ l, takeN n l = itemsR numR n l := by
  induction n with
  | zero => intro l; rfl
  | succ n ih =>
    intro l
    rw [itemsR]
    rcases hq : numAux 0 0 l with _ | ⟨u, r⟩
    · rw [takeN_none hq]
      unfold numR
      rw [hq]
      rfl
    · rw [takeN_cons hq, ih]
      have e : numR l = some (unfoldI u, r) := by unfold numR; rw [hq]; rfl
      rw [e, Option.bind_some]
      rcases itemsR numR n r with _ | ⟨xs, t⟩ <;> rfl
theorem readI_inv {l : List UInt8} {ns : List Int} (h : readI l = some ns) : l = listB ns ∧ ∀ n ∈ ns, In64 n := by
  unfold readI at h
  rcases hq : listR l with _ | ⟨ms, r⟩
  · rw [hq] at h; cases h
  · rw [hq] at h
    rcases r with _ | ⟨d, r⟩
    · cases h
      have e : lstR numR l = some (ns, []) := by
        unfold lstR
        unfold listR at hq
        rcases hc : countR l with _ | ⟨n, t⟩
        · rw [hc] at hq; cases hq
        · rw [hc] at hq
          dsimp only at hq
          rw [takeN_items] at hq
          exact hq
      have := lstR_inv (B := numB) (P := In64) (fun l x r h => numR_inv h) e
      simpa [lstB, listB] using this
    · cases h
/-- A header is no group: its count is another. -/
theorem readG_two {l : List UInt8} {a b : Int} (h : readI l = some [a, b]) : readG l = none := by
  obtain ⟨h1, _⟩ := readI_inv h
  unfold readG
  rcases hq : readI (l.take (endOne l)) with _ | ns
  · rfl
  · rcases ns with _ | ⟨s, _ | ⟨t, r⟩⟩
    · rfl
    · exfalso
      obtain ⟨h2, _⟩ := readI_inv hq
      rw [listB_one, h1] at h2
      have e1 : listB [a, b] = 4 :: (numB a ++ numB b) := by
        unfold listB
        have e1 : (([a, b] : List Int).length : Int) = 2 := rfl
        rw [e1, numB_two]
        simp
      rw [e1] at h2
      rcases hk : endOne (4 :: (numB a ++ numB b)) with _ | k
      · rw [hk] at h2; simp at h2
      · rw [hk, List.take_succ_cons] at h2
        injection h2 with h3 _
        exact absurd h3 (by decide)
    · rfl
theorem readG_head (id : Int) : readG (listB [7, id]) = none := by
  have e : listB [7, id] = 4 :: 14 :: numB id := by
    unfold listB
    have e1 : (([7, id] : List Int).length : Int) = 2 := rfl
    have e2 : numB 7 = [14] := by unfold numB foldN; rw [digits_small (by decide)]; rfl
    rw [e1, numB_two]
    simp [e2]
  unfold readG
  rw [e]
  have e3 : endOne (4 :: 14 :: numB id) = 2 := rfl
  rw [e3]
  have e4 : readI (List.take 2 (4 :: 14 :: numB id)) = none := by
    show readI [4, 14] = none
    decide
  rw [e4]
theorem readH_head {id : Int} (h : In64 id) : readH (listB [7, id]) = some id := by
  unfold readH
  rw [read_list [7, id] (by intro n hn; simp at hn; rcases hn with rfl | rfl; · constructor <;> decide
                            · exact h) (by simp)]
  simp
theorem listB_two_len {id : Int} (h : In64 id) : (listB [7, id]).length ≤ 30 := by
  have h1 := numB_length (n := 7) (by constructor <;> decide)
  have h2 := numB_length h
  have h3 : (numB ([7, id] : List Int).length).length ≤ 10 := numB_length (by constructor <;> simp)
  simp only [listB, List.length_append, List.flatMap_cons, List.flatMap_nil, List.length_nil]
  omega
theorem first_head {id : Int} (h : In64 id) (r : List UInt8) : firstJ (beginJ id ++ r) = some (.hdr id, (beginJ id).length) := by
  have hl := listB_two_len h
  unfold firstJ beginJ
  rw [unframe_frame (by omega)]
  simp only [if_true, recJ, readG_head, readH_head h, Option.map_some, frameB_length]
theorem own_head {id : Int} (h : In64 id) (r : List UInt8) : ownJ (beginJ id ++ r) = some (id, (beginJ id).length) := by
  unfold ownJ
  rw [first_head h]
theorem first_group {s : Int} (hs : In64 s) {L : List OpT} (ok : ∀ o ∈ L, o.Ok) (hL : L ≠ []) (hl : (groupC s L).length ≤ 131072) (r : List UInt8) : firstJ (frameB (groupC s L) ++ r) = some (.grp s L, (frameB (groupC s L)).length) := by
  unfold firstJ
  rw [unframe_frame hl]
  have h1 : (opsB L).length ≤ 9223372036854775807 := by
    simp only [groupC, List.length_append] at hl
    omega
  simp only [if_true, recJ, readG_group hs ok hL h1, Option.map_some, frameB_length]
theorem first_cut {c : List UInt8} (hl : c.length ≤ 131072) {k : Nat} (hk : k < (frameB c).length) : firstJ ((frameB c).take k) = none := by
  rw [frameB_length] at hk
  unfold firstJ
  rw [unframe_cut hl hk]
  rfl
theorem first_nil : firstJ [] = none := by
  unfold firstJ unframeB
  simp

/-! ### A journal's groups -/
def Fit (k : Nat) (g : List OpT) : Prop := (∀ o ∈ g, o.Ok) ∧ g ≠ [] ∧ (groupC ((k : Int) + 1) g).length ≤ 131072
def Fits : Nat → List (List OpT) → Prop
  | _, [] => True
  | k, g :: gs => Fit k g ∧ Fits (k + 1) gs
def flatJ : Nat → List (List OpT) → List UInt8
  | _, [] => []
  | k, g :: gs => frameB (groupC ((k : Int) + 1) g) ++ flatJ (k + 1) gs
def jrn (id : Int) (gs : List (List OpT)) : List UInt8 := beginJ id ++ flatJ 0 gs

theorem next_group {k : Nat} (hk : k ≤ 1000000) {g : List OpT} (h : Fit k g) (r : List UInt8) : nextJ (frameB (groupC ((k : Int) + 1) g) ++ r) k = some (g, (frameB (groupC ((k : Int) + 1) g)).length) := by
  unfold nextJ
  rw [first_group (by constructor <;> omega) h.1 h.2.1 h.2.2]
  simp
theorem next_cut {c : List UInt8} (hl : c.length ≤ 131072) {m : Nat} (j : Nat) (hk : m < (frameB c).length) : nextJ ((frameB c).take m) j = none := by
  unfold nextJ
  rw [first_cut hl hk]
theorem next_nil (k : Nat) : nextJ [] k = none := by
  unfold nextJ
  rw [first_nil]
theorem flatJ_append (k : Nat) (gs hs : List (List OpT)) : flatJ k (gs ++ hs) = flatJ k gs ++ flatJ (k + gs.length) hs := by
  induction gs generalizing k with
  | nil => simp [flatJ]
  | cons g gs ih =>
    simp only [List.cons_append, flatJ, ih, List.append_assoc, List.length_cons]
    rw [show k + 1 + gs.length = k + (gs.length + 1) by omega]
theorem Fits_append {k : Nat} {gs hs : List (List OpT)} : Fits k (gs ++ hs) ↔ Fits k gs ∧ Fits (k + gs.length) hs := by
  induction gs generalizing k with
  | nil => simp [Fits]
  | cons g gs ih =>
    simp only [List.cons_append, Fits, ih, List.length_cons]
    rw [show k + 1 + gs.length = k + (gs.length + 1) by omega]
    constructor
    · rintro ⟨a, b, c⟩; exact ⟨⟨a, b⟩, c⟩
    · rintro ⟨⟨a, b⟩, c⟩; exact ⟨a, b, c⟩
theorem followF_flat (gs : List (List OpT)) : ∀ (f k : Nat) (r : List UInt8), gs.length ≤ f → k + gs.length ≤ 1000000 → Fits k gs → followF f (flatJ k gs ++ r) k = (gs ++ (followF (f - gs.length) r (k + gs.length)).1, (flatJ k gs).length + (followF (f - gs.length) r (k + gs.length)).2) := by
  induction gs with
  | nil => intro f k r _ _ _; simp [flatJ]
  | cons g gs ih =>
    intro f k r hf hk h
    obtain ⟨f, rfl⟩ : ∃ f', f = f' + 1 := ⟨f - 1, by simp at hf; omega⟩
    simp only [List.length_cons] at hf hk
    have e : f + 1 - (g :: gs).length = f - gs.length := by simp
    rw [e, List.length_cons, flatJ, List.append_assoc, followF, next_group (by omega) h.1]
    simp only [List.drop_left]
    rw [ih f (k + 1) r (by omega) (by omega) h.2, show k + 1 + gs.length = k + (gs.length + 1) by omega]
    simp
    omega
/-- Cut anywhere: whole groups alone, from the first on. -/
theorem followF_cut (gs : List (List OpT)) : ∀ (f k n : Nat), gs.length < f → k + gs.length ≤ 1000000 → Fits k gs → n ≤ (flatJ k gs).length →
    ∃ j, j ≤ gs.length ∧ followF f ((flatJ k gs).take n) k = (gs.take j, (flatJ k (gs.take j)).length) ∧ (flatJ k (gs.take j)).length ≤ n ∧ (n = (flatJ k gs).length → j = gs.length) := by
  induction gs with
  | nil =>
    intro f k n hf _ _ hn
    obtain ⟨f, rfl⟩ : ∃ f', f = f' + 1 := ⟨f - 1, by simp at hf; omega⟩
    refine ⟨0, Nat.le_refl _, ?_, by simp [flatJ], fun _ => rfl⟩
    simp [flatJ, followF, next_nil]
  | cons g gs ih =>
    intro f k n hf hk h hn
    obtain ⟨f, rfl⟩ : ∃ f', f = f' + 1 := ⟨f - 1, by simp at hf; omega⟩
    simp only [List.length_cons] at hf hk
    by_cases hc : n < (frameB (groupC ((k : Int) + 1) g)).length
    · refine ⟨0, Nat.zero_le _, ?_, by simp [flatJ], fun e => ?_⟩
      · rw [flatJ, List.take_append_of_le_length (by omega), followF, next_cut h.1.2.2 k hc]
        simp [flatJ]
      · rw [flatJ, List.length_append] at e
        omega
    · have hn' : n - (frameB (groupC ((k : Int) + 1) g)).length ≤ (flatJ (k + 1) gs).length := by
        rw [flatJ, List.length_append] at hn
        omega
      obtain ⟨j, h1, h2, h3, h4⟩ := ih f (k + 1) (n - (frameB (groupC ((k : Int) + 1) g)).length) (by omega) (by omega) h.2 hn'
      refine ⟨j + 1, by simp; omega, ?_, ?_, fun e => ?_⟩
      · rw [flatJ, List.take_append, List.take_of_length_le (by omega), followF, next_group (by omega) h.1]
        simp only [List.drop_left]
        rw [h2]
        simp [flatJ]
      · simp only [List.take_succ_cons, flatJ, List.length_append]
        omega
      · rw [flatJ, List.length_append] at e
        have := h4 (by omega)
        simp; omega
theorem flatJ_ge (gs : List (List OpT)) (k : Nat) : gs.length ≤ (flatJ k gs).length := by
  induction gs generalizing k with
  | nil => simp
  | cons g gs ih =>
    have := ih (k + 1)
    simp only [flatJ, List.length_append, frameB_length, List.length_cons]
    omega
/-- Of a whole journal all is told. -/
theorem scan_jrn {id : Int} (hid : In64 id) {gs : List (List OpT)} (h : Fits 0 gs) (hk : gs.length ≤ 1000000) : scanJ (jrn id gs) id = ⟨gs, (jrn id gs).length, true⟩ := by
  unfold scanJ jrn
  rw [own_head hid]
  simp only [if_true, followJ]
  have e := followF_flat gs ((beginJ id ++ flatJ 0 gs).length + 1) 0 [] (by have := flatJ_ge gs 0; rw [List.length_append]; omega) (by omega) h
  rw [List.append_nil] at e
  rw [List.drop_left, e]
  have e2 : ∀ f k, followF f [] k = ([], 0) := fun f k => by
    cases f
    · rfl
    · rw [followF, next_nil]
  rw [e2]
  simp
theorem scan_other {id id2 : Int} (hid : In64 id) (gs : List (List OpT)) (hne : id ≠ id2) : scanJ (jrn id gs) id2 = ⟨[], 0, false⟩ := by
  unfold scanJ jrn
  rw [own_head hid]
  simp [hne]
theorem add_jrn {id : Int} (hid : In64 id) {gs : List (List OpT)} (h : Fits 0 gs) (hk : gs.length ≤ 1000000) (L : List OpT) : addJ (jrn id gs) L = groupJ (gs.length + 1 : Nat) L := by
  unfold addJ
  have e : ownJ (jrn id gs) = some (id, (beginJ id).length) := own_head hid _
  rw [e]
  simp only [scan_jrn hid h hk]
  simp
end Go.Proofs.YtcheikpmhdliiaaDoor
