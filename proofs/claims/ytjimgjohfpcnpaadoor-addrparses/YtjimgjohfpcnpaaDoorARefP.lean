/- Refs as texts: the program's way, plainly. -/
import Derived.Test.YtjimgjohfpcnpaaDoorARParse2
namespace Go.Proofs.YtjimgjohfpcnpaaDoor
open Go.RowKit
set_option maxRecDepth 100000
set_option linter.unusedVariables false
set_option linter.unusedSimpArgs false
def refR (o : Option Ad.Ref) : Value := match o with
  | none => ref0
  | some r => refV ⟨r.book.toArray⟩ ⟨r.sheet.toArray⟩ r.cell.row r.cell.col r.cell.fr r.cell.fc
/-- What stands ahead of the !: a book, a sheet, and whether they are good. -/
def nmsF (l : List UInt8) : List UInt8 × List UInt8 × Bool :=
  if (Ad.strip 91 l).1 = true then ((cutF 93 (Ad.strip 91 l).2).1, (cutF 93 (Ad.strip 91 l).2).2.1, gnF (cutF 93 (Ad.strip 91 l).2).1 && gnF (cutF 93 (Ad.strip 91 l).2).2.1) else ([], l, gnF l)
def progP (l : List UInt8) : Option Ad.Ref := match Ad.at_ 33 l with
  | none => (Ad.cellP l).map fun c => ⟨[], [], c⟩
  | some p => if (nmsF p.1).2.2 = true then (Ad.cellP p.2).map fun c => ⟨(nmsF p.1).1, (nmsF p.1).2.1, c⟩ else none
theorem gn_nil : gnF [] = false := rfl
theorem gn_no33 {l : List UInt8} (h : 33 ∈ l) : gnF l = false := by
  cases hg : gnF l
  · rfl
  · exact absurd rfl ((gn_names l hg).2 33 h).1
theorem cell_br (m : List UInt8) : Ad.cellP (91 :: m) = none := rfl
theorem at_cons_ne {c x : UInt8} {r : List UInt8} (h : x ≠ c) : Ad.at_ c (x :: r) = (Ad.at_ c r).map fun p => (x :: p.1, p.2) := by
  rw [Ad.at_, if_neg h]
theorem at_long {c : UInt8} : ∀ {l m : List UInt8}, (∀ x ∈ l, x ≠ c) → Ad.at_ c (l ++ m) = (Ad.at_ c m).map fun p => (l ++ p.1, p.2)
  | [], m, _ => by rw [List.nil_append]; cases Ad.at_ c m <;> rfl
  | x :: l, m, h => by
    rw [List.cons_append, at_cons_ne (h x (List.mem_cons_self ..)), at_long (l := l) (m := m) fun y hy => h y (List.mem_cons_of_mem _ hy)]
    cases Ad.at_ c m <;> rfl
theorem prog_eq (l : List UInt8) : progP l = Ad.refP gnF l := by
  cases l with
  | nil => rfl
  | cons x m =>
    by_cases hx : x = 91
    · subst hx
      have e1 : Ad.refP gnF (91 :: m) = match Ad.at_ 93 m with
        | none => none
        | some (a, r) => if gnF a = true ∧ (Ad.at_ 33 r).isSome = true then Ad.sheetP gnF a r else none := rfl
      rw [e1]
      unfold progP
      rw [at_cons_ne (show (91 : UInt8) ≠ 33 by decide)]
      cases h3 : Ad.at_ 33 m with
      | none =>
        simp only [Option.map_none]
        rw [cell_br]
        cases h9 : Ad.at_ 93 m with
        | none => rfl
        | some p =>
          obtain ⟨a, r⟩ := p
          have e2 := (Ad.at_some h9).1
          have : Ad.at_ 33 r = none := by
            by_cases ha : 33 ∈ a
            · exfalso
              rw [e2] at h3
              have key : ∀ l : List UInt8, (33 : UInt8) ∈ l → Ad.at_ 33 l ≠ none := by
                intro l
                induction l with
                | nil => intro h; cases h
                | cons y q ih =>
                  intro h e
                  unfold Ad.at_ at e
                  by_cases hy : y = 33
                  · rw [if_pos hy] at e; cases e
                  · rw [if_neg hy] at e
                    rcases List.mem_cons.1 h with h | h
                    · exact hy h.symm
                    · cases hq : Ad.at_ 33 q with
                      | none => exact ih h hq
                      | some z => rw [hq] at e; cases e
              exact key _ (List.mem_append_left _ ha) h3
            · rw [e2, at_long (c := 33) (l := a) (fun y hy e => ha (by rw [← e]; exact hy)), at_cons_ne (show (93 : UInt8) ≠ 33 by decide)] at h3
              cases hr : Ad.at_ 33 r with
              | none => rfl
              | some z => rw [hr] at h3; cases h3
          simp only [this]
          rw [if_neg (by simp)]
          rfl
      | some p =>
        obtain ⟨a', rest⟩ := p
        obtain ⟨e2, n2⟩ := Ad.at_some h3
        simp only [Option.map_some]
        have es : Ad.strip 91 (91 :: a') = (true, a') := Ad.strip_yes 91 a'
        unfold nmsF
        rw [es]
        simp only [if_true]
        cases h9 : Ad.at_ 93 a' with
        | none =>
          rw [cutF_none h9]
          simp only [gn_nil, Bool.and_false, Bool.false_eq_true, if_false]
          cases hm : Ad.at_ 93 m with
          | none => rfl
          | some q =>
            obtain ⟨a, r⟩ := q
            have h33 : 33 ∈ a := by
              rw [e2] at hm
              have nA : ∀ x ∈ a', x ≠ 93 := by
                intro x hx e
                subst e
                have key : ∀ l : List UInt8, (93 : UInt8) ∈ l → Ad.at_ 93 l ≠ none := by
                  intro l
                  induction l with
                  | nil => intro h; cases h
                  | cons y q ih =>
                    intro h e
                    unfold Ad.at_ at e
                    by_cases hy : y = 93
                    · rw [if_pos hy] at e; cases e
                    · rw [if_neg hy] at e
                      rcases List.mem_cons.1 h with h | h
                      · exact hy h.symm
                      · cases hq : Ad.at_ 93 q with
                        | none => exact ih h hq
                        | some z => rw [hq] at e; cases e
                exact key _ hx h9
              rw [at_long nA, at_cons_ne (show (33 : UInt8) ≠ 93 by decide)] at hm
              cases hr : Ad.at_ 93 rest with
              | none => rw [hr] at hm; cases hm
              | some z =>
                rw [hr] at hm
                simp only [Option.map_some, Option.some.injEq, Prod.mk.injEq] at hm
                rw [← hm.1]
                exact List.mem_append_right _ (List.mem_cons_self ..)
            simp only [gn_no33 h33, Bool.false_eq_true, false_and, if_false]
        | some q =>
          obtain ⟨b, s'⟩ := q
          obtain ⟨e3, n3⟩ := Ad.at_some h9
          rw [cutF_some h9]
          have hm : Ad.at_ 93 m = some (b, s' ++ 33 :: rest) := by
            rw [e2, e3, List.append_assoc, List.cons_append]
            exact Ad.at_app _ n3
          have hs : Ad.at_ 33 (s' ++ 33 :: rest) = some (s', rest) := Ad.at_app _ fun y hy => n2 y (by rw [e3]; exact List.mem_append_right _ (List.mem_cons_of_mem _ hy))
          rw [hm]
          simp only [hs]
          unfold Ad.sheetP
          simp only [hs]
          cases gnF b <;> cases gnF s' <;> simp
    · rw [Ad.refP_plain (by simpa using hx)]
      unfold progP Ad.sheetP
      cases h3 : Ad.at_ 33 (x :: m) with
      | none => rfl
      | some p =>
        obtain ⟨a, r⟩ := p
        obtain ⟨e2, n2⟩ := Ad.at_some h3
        have es : nmsF a = ([], a, gnF a) := by
          unfold nmsF
          have : (Ad.strip 91 a).1 = false := by
            cases a with
            | nil => rfl
            | cons y q =>
              simp only [List.cons_append, List.cons.injEq] at e2
              rw [Ad.strip_cons, if_neg (by rw [← e2.1]; exact hx)]
          rw [this]
          rfl
        simp only [es]
theorem at_some_len {c : UInt8} {l a b : List UInt8} (h : Ad.at_ c l = some (a, b)) : a.length + b.length + 1 = l.length := by
  rw [(Ad.at_some h).1]
  simp
  omega
end Go.Proofs.YtjimgjohfpcnpaaDoor
