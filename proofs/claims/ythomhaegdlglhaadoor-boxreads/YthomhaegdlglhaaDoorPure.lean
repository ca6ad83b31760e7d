/- What a container is: chunks in bytes, and back; no walk. -/
import Derived.Test.YthomhaegdlglhaaDoorCrc
namespace Go.Proofs.YthomhaegdlglhaaDoor

abbrev Chk := ByteArray × List UInt8
def markB : List UInt8 := [79, 67, 84, 65, 86, 79, 49, 10]
def goodT (t : ByteArray) : Bool := t.data.toList.all (fun c => decide (65 ≤ c.toNat ∧ c.toNat ≤ 90)) && decide (t.size = 4)
def totalD (L : List Chk) : Nat := (L.map fun c => c.2.length).sum
def datas (L : List Chk) : List UInt8 := L.flatMap (·.2)
def entryB (c : Chk) : List UInt8 := c.1.data.toList ++ (word4 c.2.length ++ word4 (sumB c.2))
def dirB (L : List Chk) : List UInt8 := L.flatMap entryB
def boxB (L : List Chk) : List UInt8 := markB ++ (datas L ++ (frameB (dirB L) ++ word4 ((dirB L).length + 8)))
abbrev distinct (L : List Chk) : Prop := (L.map (·.1)).Nodup
def goodAll (L : List Chk) : Bool := L.all fun c => goodT c.1
def wrongB (L : List Chk) : Nat := if goodAll L = false then 8 else if ¬ distinct L then 7 else if 32 < L.length ∨ 131072 < totalD L then 9 else 0
def writeB (L : List Chk) : List UInt8 × Nat := if wrongB L = 0 then (boxB L, 0) else ([], wrongB L)

def openB (b : List UInt8) : Option (List UInt8 × List UInt8) :=
  if b.length < 12 then none
  else if b.take 8 ≠ markB then none
  else if b.length < wordOf b (b.length - 4) + 12 then none
  else
    let size := wordOf b (b.length - 4)
    let u := unframeB ((b.drop (b.length - 4 - size)).take size)
    if u.2.2 = 0 ∧ u.2.1 = size then some (u.1, (b.drop 8).take (b.length - 12 - size)) else none

def splitF : Nat → List UInt8 → List UInt8 → Option (List Chk)
  | 0, en, da => if en = [] ∧ da = [] then some [] else none
  | f + 1, en, da =>
    if en.length < 12 then (if en = [] ∧ da = [] then some [] else none)
    else if da.length < wordOf en 4 then none
    else if sumB (da.take (wordOf en 4)) ≠ wordOf en 8 then none
    else (splitF f (en.drop 12) (da.drop (wordOf en 4))).map fun L => ((⟨(en.take 4).toArray⟩, da.take (wordOf en 4)) : Chk) :: L
theorem splitF_fuel : ∀ (f g : Nat) (en da : List UInt8), en.length ≤ f → en.length ≤ g → splitF f en da = splitF g en da := by
  intro f
  induction f with
  | zero =>
    intro g en da h _
    have he : en = [] := List.length_eq_zero_iff.mp (by omega)
    subst he
    cases g with
    | zero => rfl
    | succ g => unfold splitF; simp
  | succ f ih =>
    intro g en da h h'
    cases g with
    | zero =>
      have he : en = [] := List.length_eq_zero_iff.mp (by omega)
      subst he
      unfold splitF; simp
    | succ g =>
      unfold splitF
      rw [ih g (en.drop 12) (da.drop (wordOf en 4)) (by rw [List.length_drop]; omega) (by rw [List.length_drop]; omega)]
def splitB (en da : List UInt8) : Option (List Chk) := splitF en.length en da
theorem splitB_eq (en da : List UInt8) : splitB en da =
    if en.length < 12 then (if en = [] ∧ da = [] then some [] else none)
    else if da.length < wordOf en 4 then none
    else if sumB (da.take (wordOf en 4)) ≠ wordOf en 8 then none
    else (splitB (en.drop 12) (da.drop (wordOf en 4))).map fun L => ((⟨(en.take 4).toArray⟩, da.take (wordOf en 4)) : Chk) :: L := by
  unfold splitB
  by_cases h : en.length < 12
  · rw [if_pos h]
    cases hn : en.length with
    | zero => rfl
    | succ n => unfold splitF; rw [if_pos (by omega)]
  · cases hn : en.length with
    | zero => omega
    | succ n =>
      rw [← hn, if_neg h]
      conv => lhs; rw [hn]; unfold splitF; rw [if_neg h]
      rw [splitF_fuel n (en.drop 12).length (en.drop 12) (da.drop (wordOf en 4)) (by rw [List.length_drop]; omega) (Nat.le_refl _)]

def readB (b : List UInt8) : Option (List Chk) :=
  match openB b with
  | none => none
  | some (en, da) => match splitB en da with
    | none => none
    | some L => if wrongB L = 0 then some L else none

theorem wrong_zero {L : List Chk} (h : wrongB L = 0) : goodAll L = true ∧ distinct L ∧ L.length ≤ 32 ∧ totalD L ≤ 131072 := by
  unfold wrongB at h
  split at h
  · simp at h
  split at h
  · simp at h
  split at h
  · simp at h
  · rename_i h1 h2 h3
    exact ⟨by simpa using h1, by simpa using h2, by omega, by omega⟩

theorem good_size {t : ByteArray} (h : goodT t = true) : t.data.toList.length = 4 := by
  unfold goodT at h
  simp at h
  simpa using h.2
theorem entry_length {c : Chk} (h : goodT c.1 = true) : (entryB c).length = 12 := by
  have := good_size h
  simp only [entryB, List.length_append, word4_length, this]
theorem dir_length : ∀ {L : List Chk}, goodAll L = true → (dirB L).length = 12 * L.length
  | [], _ => rfl
  | c :: L, h => by
    simp only [goodAll, List.all_cons, Bool.and_eq_true] at h
    have := dir_length (L := L) h.2
    have e := entry_length h.1
    simp only [dirB, List.flatMap_cons, List.length_append, List.length_cons] at this ⊢
    omega
theorem datas_length (L : List Chk) : (datas L).length = totalD L := by
  simp only [datas, totalD, List.length_flatMap]
theorem total_cons (c : Chk) (L : List Chk) : totalD (c :: L) = c.2.length + totalD L := by simp [totalD]
theorem datas_cons (c : Chk) (L : List Chk) : datas (c :: L) = c.2 ++ datas L := by simp [datas]
theorem dir_cons (c : Chk) (L : List Chk) : dirB (c :: L) = entryB c ++ dirB L := by simp [dirB]

theorem wordOf_app (l r : List UInt8) (n k : Nat) (h : n < 4294967296) (hk : k = l.length) : wordOf (l ++ (word4 n ++ r)) k = n := by
  subst hk; exact wordOf_word4 l r n h

/-- A directory is gone through, and its chunks are there. -/
theorem split_dir : ∀ {L : List Chk}, goodAll L = true → totalD L ≤ 131072 → splitB (dirB L) (datas L) = some L
  | [], _, _ => by rw [splitB_eq]; simp [dirB, datas]
  | c :: L, h, ht => by
    have h' := h
    simp only [goodAll, List.all_cons, Bool.and_eq_true] at h
    rw [total_cons] at ht
    have ih := split_dir (L := L) h.2 (by omega)
    have hs := good_size h.1
    have hl : ((c.1.data.toList) ++ (word4 c.2.length ++ word4 (sumB c.2))).length = 12 := entry_length h.1
    have e : dirB (c :: L) = c.1.data.toList ++ (word4 c.2.length ++ (word4 (sumB c.2) ++ dirB L)) := by simp only [dir_cons, entryB, List.append_assoc]
    have e2 : dirB (c :: L) = (c.1.data.toList ++ word4 c.2.length) ++ (word4 (sumB c.2) ++ dirB L) := by rw [e, List.append_assoc]
    have e3 : dirB (c :: L) = entryB c ++ dirB L := dir_cons c L
    have w4 : wordOf (dirB (c :: L)) 4 = c.2.length := by rw [e]; exact wordOf_app _ _ _ _ (by omega) hs.symm
    have w8 : wordOf (dirB (c :: L)) 8 = sumB c.2 := by rw [e2]; exact wordOf_app _ _ _ _ (sumB_lt _) (by rw [List.length_append, hs]; rfl)
    have len := dir_length h'
    simp only [List.length_cons] at len
    have t4 : (dirB (c :: L)).take 4 = c.1.data.toList := by rw [e, ← hs, List.take_left]
    have d12 : (dirB (c :: L)).drop 12 = dirB L := by
      rw [e3]
      have : (entryB c).length = 12 := hl
      rw [← this, List.drop_left]
    have td : (datas (c :: L)).take c.2.length = c.2 := by rw [datas_cons, List.take_left]
    have dd : (datas (c :: L)).drop c.2.length = datas L := by rw [datas_cons, List.drop_left]
    rw [splitB_eq, if_neg (by omega), w4, w8, td, dd, d12, t4, ih]
    rw [if_neg (by rw [datas_cons, List.length_append]; omega), if_neg (by simp)]
    rfl

theorem wordOf_self (l : List UInt8) (k : Nat) (h : k + 4 ≤ l.length) : word4 (wordOf l k) = (l.drop k).take 4 := by
  have h0 := l[k].toNat_lt
  have h1 := l[k + 1].toNat_lt
  have h2 := l[k + 2].toNat_lt
  have h3 := l[k + 3].toNat_lt
  have e : (l.drop k).take 4 = [l[k], l[k + 1], l[k + 2], l[k + 3]] := by
    apply List.ext_getElem
    · simp; omega
    · intro i hi1 hi2
      have : i = 0 ∨ i = 1 ∨ i = 2 ∨ i = 3 := by simp at hi2; omega
      rcases this with rfl | rfl | rfl | rfl <;> simp
  rw [e, wordOf_get h]
  unfold word4
  congr 1
  · apply UInt8.toNat_inj.1; simp
  congr 1
  · apply UInt8.toNat_inj.1; simp; omega
  congr 1
  · apply UInt8.toNat_inj.1; simp; omega
  congr 1
  · apply UInt8.toNat_inj.1; simp; omega

/-- What is gone through is a directory and its chunks' data. -/
theorem of_split : ∀ (n : Nat) {en da : List UInt8} {L : List Chk}, en.length ≤ n → splitB en da = some L → dirB L = en ∧ datas L = da := by
  intro n
  induction n with
  | zero =>
    intro en da L hn h
    rw [splitB_eq, if_pos (by omega)] at h
    split at h
    · rename_i e; obtain ⟨rfl, rfl⟩ := e; cases h; exact ⟨rfl, rfl⟩
    · cases h
  | succ n ih =>
    intro en da L hn h
    rw [splitB_eq] at h
    split at h
    · split at h
      · rename_i e; obtain ⟨rfl, rfl⟩ := e; cases h; exact ⟨rfl, rfl⟩
      · cases h
    split at h
    · cases h
    split at h
    · cases h
    rename_i h1 h2 h3
    simp only [Option.map_eq_some_iff] at h
    obtain ⟨L', h4, rfl⟩ := h
    obtain ⟨i1, i2⟩ := ih (by simp; omega) h4
    have hl : (da.take (wordOf en 4)).length = wordOf en 4 := by simp; omega
    have h3' : sumB (da.take (wordOf en 4)) = wordOf en 8 := by simpa using h3
    constructor
    · rw [dir_cons, i1]
      simp only [entryB, hl, h3']
      rw [wordOf_self en 4 (by omega), wordOf_self en 8 (by omega)]
      have a1 : (en.drop 8).take 4 ++ en.drop 12 = en.drop 8 := by
        have := List.take_append_drop 4 (en.drop 8); rwa [List.drop_drop] at this
      have a2 : (en.drop 4).take 4 ++ en.drop 8 = en.drop 4 := by
        have := List.take_append_drop 4 (en.drop 4); rwa [List.drop_drop] at this
      rw [List.append_assoc, List.append_assoc, a1, a2]
      exact List.take_append_drop 4 en
    · rw [datas_cons, i2]; exact List.take_append_drop _ _

/-- What is unframed whole is a frame. -/
theorem of_unframe {l : List UInt8} (h : (unframeB l).2.2 = 0) (hn : (unframeB l).2.1 = l.length) : l = frameB (unframeB l).1 ∧ (unframeB l).1.length ≤ 131072 ∧ l.length = (unframeB l).1.length + 8 := by
  unfold unframeB at h hn ⊢
  split at h
  · simp at h
  split at h
  · simp at h
  split at h
  · simp at h
  split at h
  · simp at h
  rename_i h1 h2 h3 h4
  rw [if_neg h1, if_neg h2, if_neg h3, if_neg h4] at hn ⊢
  simp only at hn ⊢
  have h4' : wordOf l (wordOf l 0 + 4) = sumB (l.take (wordOf l 0 + 4)) := by simpa using h4
  have hl : ((l.drop 4).take (wordOf l 0)).length = wordOf l 0 := by simp; omega
  have e0 : word4 (wordOf l 0) ++ (l.drop 4).take (wordOf l 0) = l.take (wordOf l 0 + 4) := by
    rw [wordOf_self l 0 (by omega), List.drop_zero, Nat.add_comm, List.take_add]
  refine ⟨?_, by omega, by omega⟩
  unfold frameB
  rw [hl, e0, ← h4', wordOf_self l _ (by omega)]
  have : ((l.drop (wordOf l 0 + 4)).take 4) = l.drop (wordOf l 0 + 4) := List.take_of_length_le (by simp; omega)
  rw [this]
  exact (List.take_append_drop _ l).symm

theorem box_length (L : List Chk) : (boxB L).length = totalD L + (dirB L).length + 20 := by
  simp only [boxB, List.length_append, datas_length, frameB_length, word4_length]
  have : markB.length = 8 := rfl
  omega

/-- A container is opened. -/
theorem open_box {L : List Chk} (h : wrongB L = 0) : openB (boxB L) = some (dirB L, datas L) := by
  obtain ⟨h1, _, h3, h4⟩ := wrong_zero h
  have hd := dir_length h1
  have hl := box_length L
  have hm : markB.length = 8 := rfl
  have e1 : boxB L = (markB ++ (datas L ++ frameB (dirB L))) ++ (word4 ((dirB L).length + 8) ++ []) := by simp [boxB]
  have hw : wordOf (boxB L) ((boxB L).length - 4) = (dirB L).length + 8 := by
    have hk : (boxB L).length - 4 = (markB ++ (datas L ++ frameB (dirB L))).length := by
      simp only [List.length_append, datas_length, frameB_length]; omega
    rw [hk]
    conv => lhs; rw [e1]
    exact wordOf_word4 _ _ _ (by omega)
  have ht : (boxB L).take 8 = markB := by
    unfold boxB
    rw [← hm, List.take_left]
  have hf : ((boxB L).drop ((boxB L).length - 4 - ((dirB L).length + 8))).take ((dirB L).length + 8) = frameB (dirB L) := by
    have hk : (boxB L).length - 4 - ((dirB L).length + 8) = (markB ++ datas L).length := by
      simp only [List.length_append, datas_length]; omega
    have e2 : boxB L = (markB ++ datas L) ++ (frameB (dirB L) ++ word4 ((dirB L).length + 8)) := by simp [boxB]
    rw [hk]
    conv => lhs; rw [e2]
    rw [List.drop_left, ← frameB_length, List.take_left]
  have hdt : ((boxB L).drop 8).take ((boxB L).length - 12 - ((dirB L).length + 8)) = datas L := by
    have hk : (boxB L).length - 12 - ((dirB L).length + 8) = (datas L).length := by rw [datas_length]; omega
    rw [hk]
    unfold boxB
    rw [← hm, List.drop_left, List.take_left]
  have hu := unframe_frame (b := dirB L) (by omega) []
  rw [List.append_nil] at hu
  unfold openB
  rw [if_neg (by omega), if_neg (by simp [ht]), hw, if_neg (by omega)]
  simp only [hf, hu, hdt, and_self, if_true]

theorem read_box {L : List Chk} (h : wrongB L = 0) : readB (boxB L) = some L := by
  obtain ⟨h1, _, h3, h4⟩ := wrong_zero h
  unfold readB
  rw [open_box h]
  simp only [split_dir h1 h4, h, if_true]

theorem of_open {b en da : List UInt8} (h : openB b = some (en, da)) : b = markB ++ (da ++ (frameB en ++ word4 (en.length + 8))) ∧ en.length ≤ 131072 := by
  unfold openB at h
  split at h
  · cases h
  split at h
  · cases h
  split at h
  · cases h
  rename_i h1 h2 h3
  have h2' : b.take 8 = markB := by simpa using h2
  simp only at h
  split at h
  · rename_i h4
    simp only [Option.some.injEq, Prod.mk.injEq] at h
    generalize hs : wordOf b (b.length - 4) = s at *
    have hl : ((b.drop (b.length - 4 - s)).take s).length = s := by simp; omega
    obtain ⟨u1, u2, u3⟩ := of_unframe h4.1 (by rw [h4.2, hl])
    rw [h.1] at u1 u2 u3
    rw [hl] at u3
    refine ⟨?_, u2⟩
    rw [← u1, ← u3, ← h.2, ← h2']
    have a1 : word4 s = b.drop (b.length - 4) := by
      rw [← hs, wordOf_self b _ (by omega)]
      exact List.take_of_length_le (by simp; omega)
    have a2 : (b.drop (b.length - 4 - s)).take s ++ b.drop (b.length - 4) = b.drop (b.length - 4 - s) := by
      have := List.take_append_drop s (b.drop (b.length - 4 - s))
      rw [List.drop_drop] at this
      have hk : b.length - 4 - s + s = b.length - 4 := by omega
      rwa [hk] at this
    have a3 : (b.drop 8).take (b.length - 12 - s) ++ b.drop (b.length - 4 - s) = b.drop 8 := by
      have := List.take_append_drop (b.length - 12 - s) (b.drop 8)
      rw [List.drop_drop] at this
      have hk : 8 + (b.length - 12 - s) = b.length - 4 - s := by omega
      rwa [hk] at this
    rw [a1, a2, a3]
    exact (List.take_append_drop 8 b).symm
  · cases h

/-- The chunks that are read are those of which the bytes are the container. -/
theorem of_read {b : List UInt8} {L : List Chk} (h : readB b = some L) : wrongB L = 0 ∧ boxB L = b := by
  unfold readB at h
  split at h
  · cases h
  rename_i en da ho
  split at h
  · cases h
  rename_i L' hs
  split at h
  · rename_i hw
    cases h
    refine ⟨hw, ?_⟩
    obtain ⟨e1, e2⟩ := of_split _ (Nat.le_refl _) hs
    obtain ⟨e3, _⟩ := of_open ho
    rw [e3, ← e1, ← e2]
    rfl
  · cases h
end Go.Proofs.YthomhaegdlglhaaDoor
