/- A container of which a byte is another, or that has a byte more, is none; no walk. -/
import Derived.Test.YthomhaegdlglhaaDoorPure
namespace Go.Proofs.YthomhaegdlglhaaDoor

theorem set_self {l : List UInt8} {p : Nat} {y : UInt8} (hp : p < l.length) (h : l.set p y = l) : l[p]? = some y := by
  rw [← h]
  simp [hp]
theorem word4_inj {m n : Nat} (hm : m < 4294967296) (hn : n < 4294967296) (h : word4 m = word4 n) : m = n := by
  have h1 := wordOf_word4 [] [] m hm
  have h2 := wordOf_word4 [] [] n hn
  rw [h] at h1
  exact h1.symm.trans h2
theorem frameB_inj {b b' : List UInt8} (hb : b.length ≤ 131072) (hb' : b'.length ≤ 131072) (h : frameB b = frameB b') : b = b' := by
  have h1 := unframe_frame hb []
  rw [h, unframe_frame hb' []] at h1
  exact (congrArg Prod.fst h1).symm
theorem sum_same {l : List UInt8} {p : Nat} {y : UInt8} (hp : p < l.length) (h : sumB (l.set p y) = sumB l) : l[p]? = some y := by
  rw [List.getElem?_eq_getElem hp]
  by_cases e : y = l[p]
  · rw [e]
  · exact absurd h (sum_set hp e)

theorem data_turned : ∀ (L L' : List Chk) (q : Nat) (y : UInt8), goodAll L = true → goodAll L' = true → dirB L = dirB L' → totalD L ≤ 131072 → totalD L' ≤ 131072 → q < (datas L).length → (datas L).set q y = datas L' → (datas L)[q]? = some y
  | [], _, q, y, _, _, _, _, _, hq, _ => by simp [datas] at hq
  | c :: L, [], q, y, h1, _, hd, _, _, _, _ => by
    have := dir_length h1
    rw [hd] at this
    simp [dirB] at this
  | c :: L, c' :: L', q, y, h1, h2, hd, ht, ht', hq, hs => by
    simp only [goodAll, List.all_cons, Bool.and_eq_true] at h1 h2
    rw [dir_cons, dir_cons] at hd
    obtain ⟨e1, e2⟩ := List.append_inj hd (by rw [entry_length h1.1, entry_length h2.1])
    unfold entryB at e1
    obtain ⟨_, e3⟩ := List.append_inj e1 (by rw [good_size h1.1, good_size h2.1])
    obtain ⟨e4, e5⟩ := List.append_inj e3 rfl
    rw [total_cons] at ht ht'
    have hlen : c.2.length = c'.2.length := word4_inj (by omega) (by omega) e4
    have hsum : sumB c.2 = sumB c'.2 := word4_inj (sumB_lt _) (sumB_lt _) e5
    rw [datas_cons, datas_cons] at hs
    rw [datas_cons] at hq ⊢
    by_cases hlt : q < c.2.length
    · rw [List.set_append_left _ _ hlt] at hs
      obtain ⟨e6, _⟩ := List.append_inj hs (by rw [List.length_set, hlen])
      rw [List.getElem?_append_left hlt]
      exact sum_same hlt (by rw [e6, hsum])
    · rw [List.set_append_right _ _ (by omega)] at hs
      obtain ⟨_, e7⟩ := List.append_inj hs hlen
      rw [List.getElem?_append_right (by omega)]
      exact data_turned L L' (q - c.2.length) y h1.2 h2.2 e2 (by omega) (by omega) (by rw [List.length_append] at hq; omega) e7

theorem frame_turned {b b' : List UInt8} {q : Nat} {y : UInt8} (hl : b.length = b'.length) (_hb : b.length ≤ 131072) (hq : q < (frameB b).length) (h : (frameB b).set q y = frameB b') : (frameB b)[q]? = some y := by
  rw [frameB_length] at hq
  have hw : (word4 b.length ++ b).length = b.length + 4 := by rw [List.length_append, word4_length]; omega
  have hw' : (word4 b'.length ++ b').length = b.length + 4 := by rw [List.length_append, word4_length]; omega
  unfold frameB at h ⊢
  by_cases h1 : q < b.length + 4
  · rw [List.set_append_left _ _ (by rw [hw]; exact h1)] at h
    obtain ⟨e1, e2⟩ := List.append_inj h (by rw [List.length_set, hw, hw'])
    have e3 := word4_inj (sumB_lt _) (sumB_lt _) e2
    rw [List.getElem?_append_left (by rw [hw]; exact h1)]
    exact sum_same (by rw [hw]; exact h1) (by rw [e1, e3])
  · rw [List.set_append_right _ _ (by rw [hw]; omega)] at h
    obtain ⟨e1, e2⟩ := List.append_inj h (by rw [hw, hw'])
    rw [List.getElem?_append_right (by rw [hw]; omega)]
    rw [← e1] at e2
    exact set_self (by rw [hw, word4_length]; omega) e2

theorem box_last (L : List Chk) (h : wrongB L = 0) : wordOf (boxB L) ((boxB L).length - 4) = (dirB L).length + 8 := by
  obtain ⟨h1, _, h3, h4⟩ := wrong_zero h
  have hd := dir_length h1
  have hl := box_length L
  have hm : markB.length = 8 := rfl
  have e1 : boxB L = (markB ++ (datas L ++ frameB (dirB L))) ++ (word4 ((dirB L).length + 8) ++ []) := by simp [boxB]
  have hk : (boxB L).length - 4 = (markB ++ (datas L ++ frameB (dirB L))).length := by
    simp only [List.length_append, datas_length, frameB_length]; omega
  rw [hk]
  conv => lhs; rw [e1]
  exact wordOf_word4 _ _ _ (by omega)

theorem wordOf_set {l : List UInt8} {p k : Nat} {y : UInt8} (h : p < k) : wordOf (l.set p y) k = wordOf l k := by
  unfold wordOf
  rw [getD_set (by omega), getD_set (by omega), getD_set (by omega), getD_set (by omega)]

theorem read_turned {L : List Chk} (h : wrongB L = 0) {p : Nat} (hp : p + 4 < (boxB L).length) {y : UInt8} (hy : (boxB L)[p]? ≠ some y) : readB ((boxB L).set p y) = none := by
  cases e : readB ((boxB L).set p y) with
  | none => rfl
  | some L' =>
    exfalso
    apply hy
    obtain ⟨hw', hb⟩ := of_read e
    obtain ⟨g1, _, n1, t1⟩ := wrong_zero h
    obtain ⟨g2, _, n2, t2⟩ := wrong_zero hw'
    have l1 := box_length L
    have l2 := box_length L'
    have hll : (boxB L').length = (boxB L).length := by rw [hb, List.length_set]
    have w1 := box_last L h
    have w2 := box_last L' hw'
    rw [hll, hb, wordOf_set (by omega), w1] at w2
    have hdl : (dirB L).length = (dirB L').length := by omega
    have d1 := dir_length g1
    have htt : totalD L = totalD L' := by omega
    have hm : markB.length = 8 := rfl
    have k1 := datas_length L
    have k2 := datas_length L'
    have f1 := frameB_length (dirB L)
    have f2 := frameB_length (dirB L')
    have hb' := hb.symm
    rw [l1] at hp
    unfold boxB at hb' ⊢
    by_cases c1 : p < 8
    · rw [List.set_append_left _ _ (by rw [hm]; exact c1)] at hb'
      obtain ⟨e1, _⟩ := List.append_inj hb' (by rw [List.length_set])
      rw [List.getElem?_append_left (by rw [hm]; exact c1)]
      exact set_self (by rw [hm]; exact c1) e1
    rw [List.set_append_right _ _ (by rw [hm]; omega), hm] at hb'
    obtain ⟨_, e2⟩ := List.append_inj hb' rfl
    rw [List.getElem?_append_right (by rw [hm]; omega), hm]
    by_cases c2 : p - 8 < (datas L).length
    · rw [List.set_append_left _ _ c2] at e2
      obtain ⟨e3, e4⟩ := List.append_inj e2 (by rw [List.length_set]; omega)
      obtain ⟨e5, _⟩ := List.append_inj e4 (by omega)
      have e6 := frameB_inj (by omega) (by omega) e5
      rw [List.getElem?_append_left c2]
      exact data_turned L L' _ y g1 g2 e6 t1 t2 c2 e3
    · rw [List.set_append_right _ _ (by omega)] at e2
      obtain ⟨_, e4⟩ := List.append_inj e2 (by omega)
      have c3 : p - 8 - (datas L).length < (frameB (dirB L)).length := by omega
      rw [List.set_append_left _ _ c3] at e4
      obtain ⟨e5, _⟩ := List.append_inj e4 (by rw [List.length_set]; omega)
      rw [List.getElem?_append_right (by omega), List.getElem?_append_left c3]
      exact frame_turned hdl (by omega) c3 e5

theorem read_more {L : List Chk} (h : wrongB L = 0) : readB (boxB L ++ [0]) = none := by
  cases e : readB (boxB L ++ [0]) with
  | none => rfl
  | some L' =>
    exfalso
    obtain ⟨hw', hb⟩ := of_read e
    obtain ⟨g1, _, n1, t1⟩ := wrong_zero h
    have l1 := box_length L
    have l2 := box_length L'
    have hll : (boxB L').length = (boxB L).length + 1 := by rw [hb, List.length_append]; rfl
    have w2 := box_last L' hw'
    have d1 := dir_length g1
    have e1 : boxB L ++ [0] = (markB ++ (datas L ++ frameB (dirB L)) ++ [UInt8.ofNat ((dirB L).length + 8)]) ++ [UInt8.ofNat (((dirB L).length + 8) / 256), UInt8.ofNat (((dirB L).length + 8) / 65536), UInt8.ofNat (((dirB L).length + 8) / 16777216), 0] := by
      simp [boxB, word4]
    have hm : markB.length = 8 := rfl
    have hk : (boxB L').length - 4 = (markB ++ (datas L ++ frameB (dirB L)) ++ [UInt8.ofNat ((dirB L).length + 8)]).length := by
      simp only [List.length_append, datas_length, frameB_length, List.length_cons, List.length_nil]; omega
    rw [hk, hb, e1] at w2
    have hn : (dirB L).length + 8 ≤ 392 := by omega
    generalize (dirB L).length + 8 = n at *
    generalize markB ++ (datas L ++ frameB (dirB L)) ++ [UInt8.ofNat n] = X at *
    have : wordOf (X ++ [UInt8.ofNat (n / 256), UInt8.ofNat (n / 65536), UInt8.ofNat (n / 16777216), 0]) X.length = (UInt8.ofNat (n / 256)).toNat + 256 * (UInt8.ofNat (n / 65536)).toNat + 65536 * (UInt8.ofNat (n / 16777216)).toNat := by
      simp [wordOf, List.getD_eq_getElem?_getD]
    rw [this] at w2
    simp at w2
    omega
theorem read_none : readB [] = none := by decide
end Go.Proofs.YthomhaegdlglhaaDoor
