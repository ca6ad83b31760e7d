/- SRt, SEq. -/
import Derived.Test.YtpafokmkcblcnaaGreatDoorSAddCr
import Derived.Test.YtpafokmkcblcnaaGreatDoorSGetCr
import Derived.Test.YtpafokmkcblcnaaGreatDoorSBinCr
import Derived.Laws.StructEq
set_option linter.unusedVariables false
set_option linter.unusedSimpArgs false
namespace Go.Proofs.YtpafokmkcblcnaaGreatDoor.Sh
open Go.RowKit Go.Fm
set_option maxRecDepth 100000
def Apart (L : List SheetT) : Prop := L.Pairwise fun a b => a.name.toList ≠ b.name.toList
structure Right (L : List SheetT) : Prop where
  lo : 1 ≤ L.length
  hi : L.length ≤ 4
  gn : ∀ s ∈ L, gnF s.name.data.toList = true
  ap : Apart L
  ld : ∀ s ∈ L, laidB s.cells = true
  tx : ∀ s ∈ L, ∀ c ∈ s.cells, mayF c.text = 0
  ct : cntL L ≤ 200
theorem idxI_neg {o : Option Nat} : ¬ 0 ≤ idxI o ↔ o = none := by
  cases o with
  | none => simp [idxI]
  | some i => simp [idxI]
theorem textsF_zero {L : List CellT} : textsF L = 0 ↔ ∀ c ∈ L, mayF c.text = 0 := by
  induction L with
  | nil => simp [textsF]
  | cons a r ih =>
    unfold textsF
    by_cases h : mayF a.text = 0
    · simp [h, ih]
    · simp [h]
theorem textsS_zero {L : List SheetT} : textsS L = 0 ↔ ∀ s ∈ L, textsF s.cells = 0 := by
  induction L with
  | nil => simp [textsS]
  | cons a r ih =>
    unfold textsS
    by_cases h : textsF a.cells = 0
    · simp [h, ih]
    · simp [h]
theorem tw_apart {L : List SheetT} : twB L = false ↔ Apart L := by
  unfold Apart
  rw [List.pairwise_iff_getElem]
  constructor
  · intro h i j hi hj hij e
    have h1 : twAt L j = false := by
      cases hc : twAt L j with
      | false => rfl
      | true => rw [tw_yes hj hc] at h; cases h
    unfold twAt at h1
    simp only [List.getElem?_eq_getElem hj, Bool.not_eq_false', beq_iff_eq] at h1
    cases hx : idxN L L[j].name with
    | none => rw [hx] at h1; simp [idxI] at h1
    | some k =>
      rw [hx] at h1
      simp only [idxI] at h1
      obtain rfl : k = j := by omega
      unfold idxN at hx
      rw [List.findIdx?_eq_some_iff_getElem] at hx
      obtain ⟨_, _, h3⟩ := hx
      exact h3 i hij (by simpa using e)
  · intro h
    refine tw_no fun j hj => ?_
    unfold twAt
    simp only [List.getElem?_eq_getElem hj]
    have : idxN L L[j].name = some j := findIdx_some hj (fun i hi => by
      have := h i j (by omega) hj hi
      simpa using this) (by simp)
    rw [this]
    simp [idxI]
theorem check_right {L : List SheetT} : checkF L = 0 ↔ Right L := by
  unfold checkF
  constructor
  · intro h
    by_cases h1 : L.length = 0 ∨ 4 < L.length
    · rw [if_pos h1] at h; simp at h
    rw [if_neg h1] at h
    by_cases h2 : 0 ≤ idxI (L.findIdx? misB)
    · rw [if_pos h2] at h; simp at h
    rw [if_neg h2] at h
    by_cases h3 : twB L = true
    · rw [if_pos h3] at h; simp at h
    rw [if_neg h3] at h
    by_cases h4 : 0 ≤ idxI (L.findIdx? mlB)
    · rw [if_pos h4] at h; simp at h
    rw [if_neg h4] at h
    by_cases h5 : textsS L ≠ 0
    · rw [if_pos h5] at h; exact absurd h h5
    rw [if_neg h5] at h
    by_cases h6 : 200 < cntL L
    · rw [if_pos h6] at h; simp at h
    have g2 := idxI_neg.1 h2
    have g4 := idxI_neg.1 h4
    rw [List.findIdx?_eq_none_iff] at g2 g4
    have g5 : textsS L = 0 := Classical.byContradiction h5
    refine ⟨by omega, by omega, fun s hs => ?_, tw_apart.1 (by simpa using h3), fun s hs => ?_, fun s hs => textsF_zero.1 (textsS_zero.1 g5 s hs), by omega⟩
    · have := g2 s hs
      simpa [misB] using this
    · have := g4 s hs
      simpa [mlB] using this
  · intro h
    have a := h.lo
    have b := h.hi
    rw [if_neg (by omega)]
    have g2 : L.findIdx? misB = none := by
      rw [List.findIdx?_eq_none_iff]
      intro s hs
      simp [misB, h.gn s hs]
    have g4 : L.findIdx? mlB = none := by
      rw [List.findIdx?_eq_none_iff]
      intro s hs
      simp [mlB, h.ld s hs]
    have g3 := tw_apart.2 h.ap
    have g5 : textsS L = 0 := textsS_zero.2 fun s hs => textsF_zero.2 (h.tx s hs)
    have c := h.ct
    rw [g2, g4, g3, g5, if_neg (show ¬ 0 ≤ idxI none by decide), if_neg (show ¬ false = true by decide), if_neg (show ¬ 0 ≤ idxI none by decide), if_neg (show ¬ ((0 : Int) ≠ 0) by simp), if_neg (show ¬ 200 < cntL L by omega)]
theorem cnt_app (L M : List SheetT) : cntL (L ++ M) = cntL L + cntL M := by unfold cntL; simp
theorem cnt_cons (s : SheetT) (L : List SheetT) : cntL (s :: L) = s.cells.length + cntL L := by unfold cntL; simp
theorem erase_parts {L : List SheetT} {i : Nat} (hi : i < L.length) : L = L.take i ++ L[i] :: L.drop (i + 1) ∧ L.eraseIdx i = L.take i ++ L.drop (i + 1) := by
  refine ⟨by rw [← List.drop_eq_getElem_cons hi, List.take_append_drop], List.eraseIdx_eq_take_drop_succ L i⟩
theorem drop_right {L : List SheetT} {i : Nat} (h : Right L) (hi : i < L.length) (h1 : L.length ≠ 1) : Right (L.eraseIdx i) := by
  have hl : (L.eraseIdx i).length = L.length - 1 := by simp [List.length_eraseIdx, hi]
  have hs : ∀ s ∈ L.eraseIdx i, s ∈ L := fun s hs => List.mem_of_mem_eraseIdx hs
  have a := h.lo
  have b := h.hi
  refine ⟨by omega, by omega, fun s m => h.gn s (hs s m), ?_, fun s m => h.ld s (hs s m), fun s m => h.tx s (hs s m), ?_⟩
  · exact h.ap.sublist (List.eraseIdx_sublist L i)
  · have c := h.ct
    obtain ⟨e1, e2⟩ := erase_parts hi
    rw [e2, cnt_app]
    rw [e1, cnt_app, cnt_cons] at c
    omega
theorem add_right {L : List SheetT} {i : Nat} {s : ByteArray} (h : Right L) (hi : i ≤ L.length) (hg : gnF s.data.toList = true) (hn : idxN L s = none) (h4 : L.length < 4) : Right (L.take i ++ ⟨s, []⟩ :: L.drop i) := by
  have hm : ∀ t ∈ L.take i ++ ⟨s, []⟩ :: L.drop i, t = ⟨s, []⟩ ∨ t ∈ L := by
    intro t ht
    rw [List.mem_append, List.mem_cons] at ht
    rcases ht with ht | ht | ht
    · exact .inr (List.mem_of_mem_take ht)
    · exact .inl ht
    · exact .inr (List.mem_of_mem_drop ht)
  have hne : ∀ t ∈ L, t.name.toList ≠ s.toList := by
    unfold idxN at hn
    rw [List.findIdx?_eq_none_iff] at hn
    intro t ht
    have := hn t ht
    simpa using this
  have hl : (L.take i ++ (⟨s, []⟩ : SheetT) :: L.drop i).length = L.length + 1 := by simp; omega
  refine ⟨by omega, by omega, fun t ht => ?_, ?_, fun t ht => ?_, fun t ht c hc => ?_, ?_⟩
  · rcases hm t ht with rfl | ht
    · exact hg
    · exact h.gn t ht
  · unfold Apart
    have hp := h.ap
    unfold Apart at hp
    rw [← List.take_append_drop i L, List.pairwise_append] at hp
    rw [List.pairwise_append]
    refine ⟨hp.1, List.pairwise_cons.2 ⟨fun t ht => (hne t (List.mem_of_mem_drop ht)).symm, hp.2.1⟩, fun t ht u hu => ?_⟩
    rcases List.mem_cons.1 hu with rfl | hu
    · exact hne t (List.mem_of_mem_take ht)
    · exact hp.2.2 t ht u hu
  · rcases hm t ht with rfl | ht
    · rfl
    · exact h.ld t ht
  · rcases hm t ht with rfl | ht
    · cases hc
    · exact h.tx t ht c hc
  · have c := h.ct
    rw [cnt_app, cnt_cons]
    rw [← List.take_append_drop i L, cnt_app] at c
    simp only [List.length_nil]
    omega
theorem getL_none {L : List CellT} {r c : Int} (h : L.any (atB r c) = false) : getL L r c = ⟨#[]⟩ := by
  unfold getL
  rw [List.any_eq_false] at h
  rw [List.find?_eq_none.2 (fun d hd => by simpa using h d hd)]
theorem getL_some {L : List CellT} {r c : Int} (h : L.any (atB r c) = true) : ∃ d ∈ L, getL L r c = d.text := by
  unfold getL
  rw [List.any_eq_true] at h
  cases e : L.find? (atB r c) with
  | none =>
    rw [List.find?_eq_none] at e
    obtain ⟨d, hd, h1⟩ := h
    exact absurd h1 (e d hd)
  | some d => exact ⟨d, List.mem_of_find?_eq_some e, rfl⟩
theorem any_parts {L : List CellT} {t : CellT} (hR : Rise L) : (L.any (atB t.row t.col) = true → (L.filter fun d => ltB d t).length + (L.filter fun d => ltB t d).length + 1 = L.length) ∧ (L.any (atB t.row t.col) = false → (L.filter fun d => ltB d t).length + (L.filter fun d => ltB t d).length = L.length) := by
  induction L with
  | nil => simp
  | cons a r ih =>
    unfold Rise at hR
    rw [List.pairwise_cons] at hR
    obtain ⟨i1, i2⟩ := ih hR.2
    rcases ordC_ways a t with ⟨_, e⟩ | ⟨_, e1, e2⟩ | ⟨_, e⟩
    · have f1 : ltB a t = true := ltB_iff.2 e
      have f2 : ltB t a = false := ltB_no e.ne
      have f3 : atB t.row t.col a = false := by unfold Lt at e; simp [atB]; omega
      rw [List.any_cons, f3, Bool.false_or, List.filter_cons, if_pos f1, List.filter_cons, if_neg (by simp [f2]), List.length_cons, List.length_cons]
      exact ⟨fun h => by have := i1 h; omega, fun h => by have := i2 h; omega⟩
    · have f1 : ltB a t = false := ltB_no (by unfold Lt; omega)
      have f2 : ltB t a = false := ltB_no (by unfold Lt; omega)
      have f3 : atB t.row t.col a = true := by simp [atB, e1, e2]
      have f4 : r.any (atB t.row t.col) = false := by
        rw [List.any_eq_false]
        intro d hd
        have := hR.1 d hd
        unfold Lt at this
        simp [atB]
        omega
      rw [List.any_cons, f3, Bool.true_or, List.filter_cons, if_neg (by simp [f1]), List.filter_cons, if_neg (by simp [f2]), List.length_cons]
      exact ⟨fun _ => by have := i2 f4; omega, fun h => by cases h⟩
    · have f1 : ltB a t = false := ltB_no e.ne
      have f2 : ltB t a = true := ltB_iff.2 e
      have f3 : atB t.row t.col a = false := by unfold Lt at e; simp [atB]; omega
      rw [List.any_cons, f3, Bool.false_or, List.filter_cons, if_neg (by simp [f1]), List.filter_cons, if_pos f2, List.length_cons, List.length_cons]
      exact ⟨fun h => by have := i1 h; omega, fun h => by have := i2 h; omega⟩
theorem put_len {L : List CellT} {t : CellT} (hR : Rise L) : ((putC L t).length : Int) = L.length + (if t.text.toList == [] then 0 else 1) - (if L.any (atB t.row t.col) then 1 else 0) := by
  obtain ⟨h1, h2⟩ := any_parts (t := t) hR
  unfold putC
  rw [List.length_append, List.length_append]
  cases ha : L.any (atB t.row t.col) with
  | true =>
    have := h1 ha
    cases ht : t.text.toList == [] <;> simp <;> omega
  | false =>
    have := h2 ha
    cases ht : t.text.toList == [] <;> simp <;> omega
theorem put_mem {L : List CellT} {t d : CellT} (h : d ∈ putC L t) : d ∈ L ∨ (d = t ∧ t.text.toList ≠ []) := by
  unfold putC at h
  rw [List.mem_append, List.mem_append] at h
  rcases h with h | h | h
  · exact .inl (List.mem_filter.1 h).1
  · split at h
    · cases h
    · rename_i hne
      exact .inr ⟨List.mem_singleton.1 h, by simpa using hne⟩
  · exact .inl (List.mem_filter.1 h).1
theorem put_get {L : List CellT} {t : CellT} : (t.text.toList = [] → (putC L t).any (atB t.row t.col) = false) ∧ (t.text.toList ≠ [] → (putC L t).find? (atB t.row t.col) = some t) := by
  have hf1 : ∀ d ∈ L.filter (fun d => ltB d t), atB t.row t.col d = false := fun d hd => by
    have := ltB_iff.1 (List.mem_filter.1 hd).2
    unfold Lt at this
    simp [atB]
    omega
  have hf2 : ∀ d ∈ L.filter (fun d => ltB t d), atB t.row t.col d = false := fun d hd => by
    have := ltB_iff.1 (List.mem_filter.1 hd).2
    unfold Lt at this
    simp [atB]
    omega
  constructor
  · intro h
    have hb : (t.text.toList == []) = true := by simp [h]
    unfold putC
    rw [hb, if_pos rfl, List.nil_append, List.any_append, Bool.or_eq_false_iff, List.any_eq_false, List.any_eq_false]
    exact ⟨fun d hd => by simp [hf1 d hd], fun d hd => by simp [hf2 d hd]⟩
  · intro h
    have hb : (t.text.toList == []) = false := by simpa using h
    unfold putC
    rw [hb, if_neg (by decide), List.find?_append, List.find?_eq_none.2 (fun d hd => by simp [hf1 d hd]), Option.none_or, List.singleton_append, List.find?_cons]
    simp [atB]
abbrev putS (L : List SheetT) (i : Nat) (t : CellT) : List SheetT := L.modify i fun s => ⟨s.name, putC s.cells t⟩
theorem putS_parts {L : List SheetT} {i : Nat} (hi : i < L.length) (t : CellT) : putS L i t = L.take i ++ ⟨L[i].name, putC L[i].cells t⟩ :: L.drop (i + 1) := by
  rw [putS, List.modify_eq_take_cons_drop hi]
theorem putS_mem {L : List SheetT} {i : Nat} (hi : i < L.length) {t : CellT} {s : SheetT} (h : s ∈ putS L i t) : s ∈ L ∨ s = ⟨L[i].name, putC L[i].cells t⟩ := by
  rw [putS_parts hi, List.mem_append, List.mem_cons] at h
  rcases h with h | h | h
  · exact .inl (List.mem_of_mem_take h)
  · exact .inr h
  · exact .inl (List.mem_of_mem_drop h)
theorem putS_names (L : List SheetT) (i : Nat) (t : CellT) : (putS L i t).map (·.name) = L.map (·.name) := by
  apply List.ext_getElem?
  intro k
  simp only [List.getElem?_map, putS, List.getElem?_modify]
  cases L[k]? with
  | none => rfl
  | some s => by_cases e : i = k <;> simp [e]
theorem putS_cnt {L : List SheetT} {i : Nat} (hi : i < L.length) (t : CellT) : cntL (putS L i t) + L[i].cells.length = cntL L + (putC L[i].cells t).length := by
  obtain ⟨e1, _⟩ := erase_parts hi
  have hc : cntL L = cntL (L.take i) + (L[i].cells.length + cntL (L.drop (i + 1))) := by
    conv => lhs; rw [e1]
    rw [cnt_app, cnt_cons]
  rw [putS_parts hi, cnt_app, cnt_cons]
  dsimp only
  omega
theorem apart_names {L : List SheetT} : Apart L ↔ (L.map fun s => s.name).Pairwise fun a b => a.toList ≠ b.toList := by
  unfold Apart
  rw [List.pairwise_map]
theorem rises_right {L : List SheetT} (h : Right L) : ∀ s ∈ L, Rise s.cells := fun s hs => (laid_iff.1 (h.ld s hs)).2
theorem put_right {L : List SheetT} {i : Nat} (h : Right L) (hi : i < L.length) {t : CellT} (hin : insB t.row t.col = true) (hm : mayF t.text = 0) (hf : t.text.toList ≠ [] → 200 ≤ cntL L → L[i].cells.any (atB t.row t.col) = true) : Right (putS L i t) := by
  have hl : (putS L i t).length = L.length := by simp [putS]
  have a := h.lo
  have b := h.hi
  have hR := rises_right h _ (List.getElem_mem hi)
  have hld := laid_iff.1 (h.ld _ (List.getElem_mem hi))
  refine ⟨by omega, by omega, fun s hs => ?_, ?_, fun s hs => ?_, fun s hs c hc => ?_, ?_⟩
  · rcases putS_mem hi hs with hs | rfl
    · exact h.gn s hs
    · exact h.gn L[i] (List.getElem_mem hi)
  · rw [apart_names, putS_names]
    exact apart_names.1 h.ap
  · rcases putS_mem hi hs with hs | rfl
    · exact h.ld s hs
    · refine laid_iff.2 ⟨fun c hc => ?_, put_rise hR⟩
      rcases put_mem hc with hc | ⟨rfl, hne⟩
      · exact hld.1 c hc
      · exact ⟨hin, hne⟩
  · rcases putS_mem hi hs with hs | rfl
    · exact h.tx s hs c hc
    · rcases put_mem hc with hc | ⟨rfl, _⟩
      · exact h.tx _ (List.getElem_mem hi) c hc
      · exact hm
  · have c := h.ct
    have e := putS_cnt hi t
    have p := put_len (t := t) hR
    cases ht : t.text.toList == [] with
    | true =>
      rw [ht] at p
      simp only [if_true] at p
      split at p <;> omega
    | false =>
      have htn : t.text.toList ≠ [] := by simpa using ht
      rw [ht] at p
      by_cases hc : 200 ≤ cntL L
      · rw [hf htn hc] at p
        simp at p
        omega
      · simp at p
        split at p <;> omega
theorem put_count {L : List SheetT} {i : Nat} (h : Right L) (hi : i < L.length) (t : CellT) :
    (cntL (putS L i t) : Int) = cntL L + (if (getL L[i].cells t.row t.col).toList == [] && !(t.text.toList == []) then 1 else 0) - (if !((getL L[i].cells t.row t.col).toList == []) && t.text.toList == [] then 1 else 0) := by
  have hR := rises_right h _ (List.getElem_mem hi)
  have hld := laid_iff.1 (h.ld _ (List.getElem_mem hi))
  have e := putS_cnt hi t
  have p := put_len (t := t) hR
  cases ha : L[i].cells.any (atB t.row t.col) with
  | true =>
    obtain ⟨d, hd, hg⟩ := getL_some ha
    have hne : ((getL L[i].cells t.row t.col).toList == []) = false := by
      rw [hg]
      simpa using (hld.1 d hd).2
    rw [ha] at p
    rw [hne]
    cases ht : t.text.toList == [] <;> rw [ht] at p <;> simp at p ⊢ <;> omega
  | false =>
    have hg := getL_none ha
    have hne : ((getL L[i].cells t.row t.col).toList == []) = true := by rw [hg]; kernel_rfl
    rw [ha] at p
    rw [hne]
    cases ht : t.text.toList == [] <;> rw [ht] at p <;> simp at p ⊢ <;> omega
theorem idx_names {L M : List SheetT} (h : L.map (·.name) = M.map (·.name)) (s : ByteArray) : idxN L s = idxN M s := by
  have : ∀ L : List SheetT, idxN L s = (L.map (·.name)).findIdx? fun n => n.toList == s.toList := fun L => by
    unfold idxN
    rw [List.findIdx?_map]
    rfl
  rw [this L, this M, h]
theorem put_told {L : List SheetT} {i : Nat} {s : ByteArray} (hx : idxN L s = some i) (t : CellT) : (getL (cellsO (putS L i t) s) t.row t.col).toList = t.text.toList := by
  have hi := idx_lt hx
  have e : idxN (putS L i t) s = some i := by rw [idx_names (putS_names L i t), hx]
  unfold cellsO
  rw [e]
  have hg : (putS L i t)[i]? = some ⟨L[i].name, putC L[i].cells t⟩ := by
    simp [putS, List.getElem?_modify, List.getElem?_eq_getElem hi]
  dsimp only
  rw [hg]
  simp only [Option.map_some, Option.getD_some]
  by_cases ht : t.text.toList = []
  · have e0 : (⟨#[]⟩ : ByteArray).toList = [] := by kernel_rfl
    rw [getL_none (put_get.1 ht), ht, e0]
  · unfold getL
    rw [put_get.2 ht]
end Go.Proofs.YtpafokmkcblcnaaGreatDoor.Sh

namespace Go.Proofs.YtpafokmkcblcnaaGreatDoor.Sh
open Go.RowKit
set_option maxRecDepth 100000
theorem cstr : Tryz.prog.underlying 57 = some (.struct (Tryz.prog.fieldsOf 57)) := by kernel_rfl
theorem cheld : Tryz.prog.stoodInHeld 57 = false := by kernel_rfl
theorem cfields : (Tryz.prog.fieldsOf 57).toList = [{ name := "Row", type := 3, offset := 0, embedded := false, tag := "", pkgPath := "", byteOffset := 0 }, { name := "Col", type := 3, offset := 1, embedded := false, tag := "", pkgPath := "", byteOffset := 8 }, { name := "Text", type := 9, offset := 2, embedded := false, tag := "", pkgPath := "", byteOffset := 16 }] := by kernel_rfl
theorem nstr : Tryz.prog.underlying 89 = some (.struct (Tryz.prog.fieldsOf 89)) := by kernel_rfl
theorem nheld : Tryz.prog.stoodInHeld 89 = false := by kernel_rfl
theorem nfields : (Tryz.prog.fieldsOf 89).toList = [{ name := "Scope", type := 9, offset := 0, embedded := false, tag := "", pkgPath := "", byteOffset := 0 }, { name := "Name", type := 9, offset := 1, embedded := false, tag := "", pkgPath := "", byteOffset := 16 }, { name := "Text", type := 9, offset := 2, embedded := false, tag := "", pkgPath := "", byteOffset := 32 }] := by kernel_rfl
theorem vstr : Tryz.prog.underlying 62 = some (.struct (Tryz.prog.fieldsOf 62)) := by kernel_rfl
theorem vheld : Tryz.prog.stoodInHeld 62 = false := by kernel_rfl
theorem vfields : (Tryz.prog.fieldsOf 62).toList = [{ name := "Kind", type := 3, offset := 0, embedded := false, tag := "", pkgPath := "", byteOffset := 0 }, { name := "N", type := 3, offset := 1, embedded := false, tag := "", pkgPath := "", byteOffset := 8 }, { name := "S", type := 9, offset := 2, embedded := false, tag := "", pkgPath := "", byteOffset := 16 }] := by kernel_rfl
theorem lstr : Tryz.prog.underlying 91 = some (.struct (Tryz.prog.fieldsOf 91)) := by kernel_rfl
theorem lheld : Tryz.prog.stoodInHeld 91 = false := by kernel_rfl
theorem lfields : (Tryz.prog.fieldsOf 91).toList = [{ name := "Book", type := 9, offset := 0, embedded := false, tag := "", pkgPath := "", byteOffset := 0 }, { name := "Sheet", type := 9, offset := 1, embedded := false, tag := "", pkgPath := "", byteOffset := 16 }, { name := "Row", type := 3, offset := 2, embedded := false, tag := "", pkgPath := "", byteOffset := 32 }, { name := "Col", type := 3, offset := 3, embedded := false, tag := "", pkgPath := "", byteOffset := 40 }, { name := "Value", type := 62, offset := 4, embedded := false, tag := "", pkgPath := "", byteOffset := 48 }] := by kernel_rfl
def cellEq (a b : CellT) : Bool := a.row == b.row && (a.col == b.col && a.text.toList == b.text.toList)
def nameEq (a b : NameT) : Bool := a.scope.toList == b.scope.toList && (a.name.toList == b.name.toList && a.text.toList == b.text.toList)
def valEq (a b : ValT) : Bool := a.kind == b.kind && (a.n == b.n && a.s.toList == b.s.toList)
def linkEq (a b : LinkT) : Bool := a.book.toList == b.book.toList && (a.sheet.toList == b.sheet.toList && (a.row == b.row && (a.col == b.col && valEq a.value b.value)))
theorem ceqn (a b : CellT) (W : World) : (Op.equalIn 10000 57 (cellV a) (cellV b)).run Tryz.prog W = .ok (cellEq a b) W := by
  rw [run_equalIn_struct W 9999 57 _ _ cstr cheld, cfields]
  have h9 := Tryz.underlying9
  have a9 := Tryz.isAgg9
  have z9 := Tryz.sizeOf9
  have h3 := Tryz.underlying3
  have a3 := Tryz.isAgg3
  have z3 := Tryz.sizeOf3
  obtain ⟨r1, c1, t1⟩ := a
  obtain ⟨r2, c2, t2⟩ := b
  unfold cellEq
  simp only [Op.eqFields]
  cases e1 : r1 == r2
  · go_simp
  · cases e2 : c1 == c2
    · go_simp
    · cases e3 : t1.toList == t2.toList
      · go_simp
      · go_simp
theorem cne (a b : CellT) (W : World) : (binOp .neq 57 (cellV a) (cellV b)).run Tryz.prog W = .ok (.bool (!cellEq a b)) W := by
  rw [run_neq_struct, ceqn]
  rfl
theorem neqn (a b : NameT) (W : World) : (Op.equalIn 10000 89 (nameV a) (nameV b)).run Tryz.prog W = .ok (nameEq a b) W := by
  rw [run_equalIn_struct W 9999 89 _ _ nstr nheld, nfields]
  have h9 := Tryz.underlying9
  have a9 := Tryz.isAgg9
  have z9 := Tryz.sizeOf9
  obtain ⟨r1, c1, t1⟩ := a
  obtain ⟨r2, c2, t2⟩ := b
  unfold nameEq
  simp only [Op.eqFields]
  cases e1 : r1.toList == r2.toList
  · go_simp
  · cases e2 : c1.toList == c2.toList
    · go_simp
    · cases e3 : t1.toList == t2.toList
      · go_simp
      · go_simp
theorem nne (a b : NameT) (W : World) : (binOp .neq 89 (nameV a) (nameV b)).run Tryz.prog W = .ok (.bool (!nameEq a b)) W := by
  rw [run_neq_struct, neqn]
  rfl
theorem veqn (k : Nat) (a b : ValT) (W : World) : (Op.equalIn (k + 1 + 1) 62 (valV a) (valV b)).run Tryz.prog W = .ok (valEq a b) W := by
  rw [run_equalIn_struct W (k + 1) 62 _ _ vstr vheld, vfields]
  have h9 := Tryz.underlying9
  have a9 := Tryz.isAgg9
  have z9 := Tryz.sizeOf9
  have h3 := Tryz.underlying3
  have a3 := Tryz.isAgg3
  have z3 := Tryz.sizeOf3
  obtain ⟨r1, c1, t1⟩ := a
  obtain ⟨r2, c2, t2⟩ := b
  unfold valEq
  simp only [Op.eqFields]
  cases e1 : r1 == r2
  · go_simp
  · cases e2 : c1 == c2
    · go_simp
    · cases e3 : t1.toList == t2.toList
      · go_simp
      · go_simp
theorem leqn (a b : LinkT) (W : World) : (Op.equalIn 10000 91 (linkV a) (linkV b)).run Tryz.prog W = .ok (linkEq a b) W := by
  rw [run_equalIn_struct W 9999 91 _ _ lstr lheld, lfields]
  have h9 := Tryz.underlying9
  have a9 := Tryz.isAgg9
  have z9 := Tryz.sizeOf9
  have h3 := Tryz.underlying3
  have a3 := Tryz.isAgg3
  have z3 := Tryz.sizeOf3
  have a62 := Tryz.isAgg62
  have z62 := Tryz.sizeOf62
  obtain ⟨b1, s1, r1, c1, v1⟩ := a
  obtain ⟨b2, s2, r2, c2, v2⟩ := b
  have hv : ∀ W, (Op.equalIn 9999 62 (.agg #[.int .i64 v1.kind, .int .i64 v1.n, .string v1.s]) (.agg #[.int .i64 v2.kind, .int .i64 v2.n, .string v2.s])).run Tryz.prog W = .ok (valEq v1 v2) W := fun W => veqn 9997 v1 v2 W
  unfold linkEq
  simp only [Op.eqFields]
  cases e1 : b1.toList == b2.toList
  · go_simp
  · cases e2 : s1.toList == s2.toList
    · go_simp
    · cases e3 : r1 == r2
      · go_simp
      · cases e4 : c1 == c2
        · go_simp
        · generalize valEq v1 v2 = ve at *
          cases ve <;> go_simp
theorem lne (a b : LinkT) (W : World) : (binOp .neq 91 (linkV a) (linkV b)).run Tryz.prog W = .ok (.bool (!linkEq a b)) W := by
  rw [run_neq_struct, leqn]
  rfl
def eqAt {α : Type} (eq : α → α → Bool) (L M : List α) (i : Nat) : Bool := match L[i]?, M[i]? with
  | some x, some y => eq x y
  | _, _ => true
def eqL {α : Type} (eq : α → α → Bool) (L M : List α) : Bool := decide (L.length = M.length) && (List.range L.length).all (eqAt eq L M)
theorem eqL_len {α : Type} {eq : α → α → Bool} {L M : List α} (h : L.length ≠ M.length) : eqL eq L M = false := by unfold eqL; simp [h]
theorem eqL_yes {α : Type} {eq : α → α → Bool} {L M : List α} (h : L.length = M.length) (k : ∀ i, i < L.length → eqAt eq L M i = true) : eqL eq L M = true := by
  unfold eqL
  simp only [h, decide_true, Bool.true_and]
  rw [List.all_eq_true]
  intro i hi
  exact k i (by rw [h]; exact List.mem_range.1 hi)
theorem eqL_no {α : Type} {eq : α → α → Bool} {L M : List α} {i : Nat} (hi : i < L.length) (k : eqAt eq L M i = false) : eqL eq L M = false := by
  unfold eqL
  rw [Bool.and_eq_false_iff]
  right
  rw [List.all_eq_false]
  exact ⟨i, List.mem_range.2 hi, by simp [k]⟩
end Go.Proofs.YtpafokmkcblcnaaGreatDoor.Sh
