/- Books as plain data: their bytes, and how bytes are read; no walk. -/
import Derived.Test.YtohndhmhgdelmaaDoorOpPure
namespace Go.Proofs.YtohndhmhgdelmaaDoor
set_option linter.unusedVariables false

structure SheetT where
  name : ByteArray
  cells : List CellT
structure BookT where
  sheets : List SheetT
  names : List NameT
  links : List LinkT

def SheetT.Ok (s : SheetT) : Prop := ∀ c ∈ s.cells, c.Ok
def BookT.Ok (x : BookT) : Prop := (∀ s ∈ x.sheets, s.Ok) ∧ ∀ y ∈ x.links, y.Ok
def sheetB (s : SheetT) : List UInt8 := textB s.name ++ lstB cellB s.cells
def bookB (x : BookT) : List UInt8 := lstB sheetB x.sheets ++ (lstB nameB x.names ++ lstB linkB x.links)
theorem sheetB_pos (c : SheetT) : 1 ≤ (sheetB c).length := by have := numB_pos c.name.size; simp [sheetB, textB]; omega

def sheetR : Rdr SheetT := fun l => (textR l).bind fun a => (lstR cellR a.2).bind fun b => some (⟨a.1, b.1⟩, b.2)
def bookR : Rdr BookT := fun l => (lstR sheetR l).bind fun a => (lstR nameR a.2).bind fun b => (lstR linkR b.2).bind fun c => some (⟨a.1, b.1, c.1⟩, c.2)
def readK (l : List UInt8) : Option BookT :=
  match bookR l with
  | some (x, []) => some x
  | _ => none

theorem cellsR_B {l : List CellT} (h : ∀ c ∈ l, c.Ok) (hl : (lstB cellB l).length ≤ 9223372036854775807) (r : List UInt8) : lstR cellR (lstB cellB l ++ r) = some (l, r) :=
  lstR_B cellB_pos l (fun o ho r => cellR_B (h o ho) (by
    have := part_le (B := cellB) ho
    simp only [lstB, List.length_append] at hl
    omega) r) hl r
theorem sheetR_B {c : SheetT} (h : c.Ok) (hl : (sheetB c).length ≤ 9223372036854775807) (r : List UInt8) : sheetR (sheetB c ++ r) = some (c, r) := by
  simp only [sheetB, List.length_append] at hl
  simp only [sheetR, sheetB, List.append_assoc, Option.bind_some, textR_B (s := c.name) (by omega), cellsR_B h (by omega)]
theorem sheetsR_B {l : List SheetT} (h : ∀ c ∈ l, c.Ok) (hl : (lstB sheetB l).length ≤ 9223372036854775807) (r : List UInt8) : lstR sheetR (lstB sheetB l ++ r) = some (l, r) :=
  lstR_B sheetB_pos l (fun o ho r => sheetR_B (h o ho) (by
    have := part_le (B := sheetB) ho
    simp only [lstB, List.length_append] at hl
    omega) r) hl r
theorem namesR_B {l : List NameT} (hl : (lstB nameB l).length ≤ 9223372036854775807) (r : List UInt8) : lstR nameR (lstB nameB l ++ r) = some (l, r) :=
  lstR_B nameB_pos l (fun o ho r => nameR_B (by
    have := part_le (B := nameB) ho
    simp only [lstB, List.length_append] at hl
    omega) r) hl r
theorem linksR_B {l : List LinkT} (h : ∀ c ∈ l, c.Ok) (hl : (lstB linkB l).length ≤ 9223372036854775807) (r : List UInt8) : lstR linkR (lstB linkB l ++ r) = some (l, r) :=
  lstR_B linkB_pos l (fun o ho r => linkR_B (h o ho) (by
    have := part_le (B := linkB) ho
    simp only [lstB, List.length_append] at hl
    omega) r) hl r
theorem bookR_B {x : BookT} (h : x.Ok) (hl : (bookB x).length ≤ 9223372036854775807) (r : List UInt8) : bookR (bookB x ++ r) = some (x, r) := by
  simp only [bookB, List.length_append] at hl
  simp only [bookR, bookB, List.append_assoc, Option.bind_some, sheetsR_B h.1 (by omega), namesR_B (l := x.names) (by omega), linksR_B h.2 (by omega)]
theorem readK_B {x : BookT} (h : x.Ok) (hl : (bookB x).length ≤ 9223372036854775807) : readK (bookB x) = some x := by
  have := bookR_B h hl []
  rw [List.append_nil] at this
  unfold readK
  rw [this]

theorem sheetR_inv (l : List UInt8) (x : SheetT) (r : List UInt8) (h : sheetR l = some (x, r)) : l = sheetB x ++ r ∧ x.Ok := by
  unfold sheetR at h
  obtain ⟨⟨a, l1⟩, ha, h⟩ := bind_inv h
  obtain ⟨⟨b, l2⟩, hb, h⟩ := bind_inv h
  cases h
  have e1 := textR_inv ha
  obtain ⟨e2, i2⟩ := lstR_inv cellR_inv hb
  dsimp only at *
  refine ⟨?_, i2⟩
  simp only [sheetB, List.append_assoc]
  rw [← e2, ← e1]
theorem bookR_inv (l : List UInt8) (x : BookT) (r : List UInt8) (h : bookR l = some (x, r)) : l = bookB x ++ r ∧ x.Ok := by
  unfold bookR at h
  obtain ⟨⟨a, l1⟩, ha, h⟩ := bind_inv h
  obtain ⟨⟨b, l2⟩, hb, h⟩ := bind_inv h
  obtain ⟨⟨c, l3⟩, hc, h⟩ := bind_inv h
  cases h
  obtain ⟨e1, i1⟩ := lstR_inv sheetR_inv ha
  obtain ⟨e2, _⟩ := lstR_inv nameR_inv hb
  obtain ⟨e3, i3⟩ := lstR_inv linkR_inv hc
  dsimp only at *
  refine ⟨?_, i1, i3⟩
  simp only [bookB, List.append_assoc]
  rw [← e3, ← e2, ← e1]
theorem readK_inv {l : List UInt8} {x : BookT} (h : readK l = some x) : l = bookB x ∧ x.Ok := by
  unfold readK at h
  split at h
  · rename_i os hq
    cases h
    have := bookR_inv _ _ _ hq
    simpa using this
  · cases h
theorem readK_bad {l : List UInt8} (h : bookR l = none) : readK l = none := by unfold readK; rw [h]
theorem readK_no {l : List UInt8} {x : BookT} {li : List UInt8} (h : bookR l = some (x, li)) (hz : 0 < li.length) : readK l = none := by
  unfold readK
  rw [h]
  rcases li with _ | ⟨d, r⟩
  · simp at hz
  · rfl
theorem readK_yes {l : List UInt8} {x : BookT} (h : bookR l = some (x, [])) : readK l = some x := by unfold readK; rw [h]
end Go.Proofs.YtohndhmhgdelmaaDoor
