/- The document's way to go through a directory, held against readB; no walk. -/
import Derived.Test.YthomhaegdlglhaaDoorTurned
namespace Go.Proofs.YthomhaegdlglhaaDoor

/-- What the document's loop has, if the bytes are a container. -/
def Parsed (b : List UInt8) (L' : List Chk) (dir : List UInt8) (at_ : Nat) : Prop :=
  ∀ L, readB b = some L → ∃ R, L = L' ++ R ∧ dir = dirB R ∧ at_ = 8 + totalD L'

theorem total_append (L R : List Chk) : totalD (L ++ R) = totalD L + totalD R := by simp [totalD]
theorem datas_append (L R : List Chk) : datas (L ++ R) = datas L ++ datas R := by simp [datas]
theorem dirB_nil {R : List Chk} (hg : goodAll R = true) (h : dirB R = []) : R = [] := by
  have := dir_length hg
  rw [h] at this
  exact List.eq_nil_of_length_eq_zero (by simp at this; omega)
theorem goodAll_append {L R : List Chk} (h : goodAll (L ++ R) = true) : goodAll L = true ∧ goodAll R = true := by
  unfold goodAll at *
  rw [List.all_append, Bool.and_eq_true] at h
  exact h

theorem parsed_start {b en da : List UInt8} (h : openB b = some (en, da)) : Parsed b [] en 8 := by
  intro L hr
  obtain ⟨hw, rfl⟩ := of_read hr
  rw [open_box hw] at h
  injection h with h
  injection h with h1 h2
  exact ⟨L, by simp, h1.symm, by simp [totalD]⟩

/-- The next entry of a container's directory. -/
theorem parsed_next {b : List UInt8} {L' : List Chk} {dir : List UInt8} {at_ : Nat} (h : Parsed b L' dir at_) (hd : 12 ≤ dir.length) :
    Parsed b (L' ++ [(⟨(dir.take 4).toArray⟩, (b.drop at_).take (wordOf dir 4))]) (dir.drop 12) (at_ + wordOf dir 4) ∧
      ∀ L, readB b = some L → at_ + wordOf dir 4 + (dirB L).length + 12 ≤ b.length := by
  have key : ∀ L, readB b = some L → ∃ c R, L = L' ++ c :: R ∧ dir = entryB c ++ dirB R ∧ at_ = 8 + totalD L' ∧ goodT c.1 = true ∧ c.2.length ≤ 131072 ∧ wrongB L = 0 ∧ boxB L = b := by
    intro L hr
    obtain ⟨R, rfl, rfl, hat⟩ := h L hr
    obtain ⟨hw, hb⟩ := of_read hr
    obtain ⟨g, _, _, t⟩ := wrong_zero hw
    obtain ⟨_, g2⟩ := goodAll_append g
    cases R with
    | nil => simp [dirB] at hd
    | cons c R =>
      refine ⟨c, R, rfl, dir_cons c R, hat, ?_, ?_, hw, hb⟩
      · simp only [goodAll, List.all_cons, Bool.and_eq_true] at g2
        exact g2.1
      · rw [total_append, total_cons] at t; omega
  have facts : ∀ L c R, L = L' ++ c :: R → dir = entryB c ++ dirB R → at_ = 8 + totalD L' → goodT c.1 = true → c.2.length ≤ 131072 → boxB L = b →
      dir.take 4 = c.1.data.toList ∧ wordOf dir 4 = c.2.length ∧ dir.drop 12 = dirB R ∧ (b.drop at_).take c.2.length = c.2 := by
    intro L c R hL hdir hat hg hc hb
    have hs := good_size hg
    have he := entry_length hg
    have e : dir = c.1.data.toList ++ (word4 c.2.length ++ (word4 (sumB c.2) ++ dirB R)) := by rw [hdir]; simp only [entryB, List.append_assoc]
    refine ⟨by rw [e, ← hs, List.take_left], by rw [e]; exact wordOf_app _ _ _ _ (by omega) hs.symm, by rw [hdir, ← he, List.drop_left], ?_⟩
    have e2 : b = (markB ++ datas L') ++ (c.2 ++ (datas R ++ (frameB (dirB L) ++ word4 ((dirB L).length + 8)))) := by
      rw [← hb]
      unfold boxB
      rw [hL, datas_append, datas_cons]
      simp only [List.append_assoc]
    have e3 : at_ = (markB ++ datas L').length := by rw [List.length_append, datas_length, hat]; rfl
    rw [e3, e2, List.drop_left, List.take_left]
  constructor
  · intro L hr
    obtain ⟨c, R, hL, hdir, hat, hg, hc, hw, hb⟩ := key L hr
    obtain ⟨f1, f2, f3, f4⟩ := facts L c R hL hdir hat hg hc hb
    have hcc : ((⟨(dir.take 4).toArray⟩, (b.drop at_).take (wordOf dir 4)) : Chk) = c := by
      rw [f1, f2, f4]
    refine ⟨R, by rw [hcc, hL]; simp, f3, ?_⟩
    rw [hcc, f2, total_append, total_cons, hat]
    simp only [totalD, List.map_nil, List.sum_nil]
    omega
  · intro L hr
    obtain ⟨c, R, hL, hdir, hat, hg, hc, hw, hb⟩ := key L hr
    obtain ⟨f1, f2, f3, f4⟩ := facts L c R hL hdir hat hg hc hb
    have hl := box_length L
    rw [hb] at hl
    have ht : totalD L = totalD L' + (c.2.length + totalD R) := by rw [hL, total_append, total_cons]
    rw [f2]
    omega

theorem parsed_end {b : List UInt8} {L' : List Chk} {at_ : Nat} (h : Parsed b L' [] at_) : readB b = if writeB L' = (b, 0) then some L' else none := by
  by_cases e : writeB L' = (b, 0)
  · rw [if_pos e]
    unfold writeB at e
    split at e
    · rename_i hw
      injection e with e1 _
      rw [← e1]; exact read_box hw
    · rename_i hw
      injection e with _ e2
      exact absurd e2 hw
  · rw [if_neg e]
    cases hr : readB b with
    | none => rfl
    | some L =>
      exfalso
      apply e
      obtain ⟨R, rfl, hd, _⟩ := h L hr
      obtain ⟨hw, hb⟩ := of_read hr
      have hR := dirB_nil (goodAll_append (wrong_zero hw).1).2 hd.symm
      subst hR
      rw [List.append_nil] at hw hb
      unfold writeB
      rw [if_pos hw, hb]

theorem read_of_open {b : List UInt8} (h : openB b = none) : readB b = none := by unfold readB; rw [h]
theorem read_rem {b en da : List UInt8} (h : openB b = some (en, da)) (hr : en.length % 12 ≠ 0) : readB b = none := by
  cases e : readB b with
  | none => rfl
  | some L =>
    exfalso
    obtain ⟨R, hL, rfl, _⟩ := parsed_start h L e
    rw [List.nil_append] at hL
    subst hL
    obtain ⟨hw, _⟩ := of_read e
    have := dir_length (wrong_zero hw).1
    omega
end Go.Proofs.YthomhaegdlglhaaDoor
