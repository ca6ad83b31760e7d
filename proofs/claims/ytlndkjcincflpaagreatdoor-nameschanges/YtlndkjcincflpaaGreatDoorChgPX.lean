/- What NamesChanges calls, of both, where names rise. -/
import Derived.Test.YtlndkjcincflpaaGreatDoorNmOpenX
import Derived.Test.YtlndkjcincflpaaGreatDoorNmSameX
import Derived.Test.YtlndkjcincflpaaGreatDoorNmRChkX
import Derived.Test.YtlndkjcincflpaaGreatDoorNmRDefX
namespace Go.Proofs.YtlndkjcincflpaaGreatDoor
open Go.RowKit Go.Nm
set_option maxRecDepth 100000
set_option linter.unusedVariables false
set_option linter.unusedSimpArgs false
def defE (L : List NM) (x : NM) : Int := if wrN x ≠ 0 then wrN x else if (findK x L).isSome = false ∧ 32 ≤ L.length then 9 else 0
def defM (L : List NM) (x : NM) : List NM := if wrN x ≠ 0 then [] else if (findK x L).isSome = false ∧ 32 ≤ L.length then [] else insR x L false
def remE (L : List NM) (x : NM) : Int := if (findK x L).isSome = false then 6 else 0
def remM (L : List NM) (x : NM) : List NM := if (findK x L).isSome = false then [] else remR x L
theorem ins_len (x : NM) : ∀ (L : List NM) (d : Bool), (insR x L d).length ≤ 2 * L.length + 1
  | [], d => by unfold insR; split <;> simp
  | y :: L, d => by
    have := ins_len x L (d || decide (0 ≤ cmpK y x))
    unfold insR
    simp only [List.length_append, List.length_cons]
    have h1 : (if 0 ≤ cmpK y x ∧ d = false then [x] else []).length ≤ 1 := by split <;> simp
    have h2 : (if cmpK y x ≠ 0 then [y] else []).length ≤ 1 := by split <;> simp
    omega
theorem defM_len (L : List NM) (x : NM) : (defM L x).length ≤ 2 * L.length + 1 := by
  unfold defM
  split
  · simp
  · split
    · simp
    · exact ins_len x L false
theorem remM_len (L : List NM) (x : NM) : (remM L x).length ≤ L.length := by
  unfold remM
  split
  · simp
  · exact rem_len x L
section
variable {L : List NM} {x : NM} {u : World} {p : Option Addr} {n c : Nat}
theorem prog_def (hr : Rise L) (hz : ZN x) (T : Tab9 u) (h : Slc u p n c L) (hn : L.length ≤ 100) : Calls Tryz.prog 10 #[.slice p n c, nmV x] u fun e w' => OutM u.heap.size w' e (defM L x) (defE L x) ∧ Below u.heap.size u w' := by
  obtain ⟨er, M, hD, C⟩ := define_any L x hz u T p n c h (by omega)
  have key : er = defE L x ∧ M = defM L x := by
    unfold defE defM
    rcases def_rise hr hD with ⟨rfl, hw, hM, _, _, _, hf, _⟩ | ⟨_, rfl, ⟨hw, rfl⟩ | ⟨hw, hf, hm, rfl⟩⟩
    · have hw' : ¬ (wrN x ≠ 0) := fun e => e hw
      rw [if_neg hw', if_neg hw']
      have : ¬ ((findK x L).isSome = false ∧ 32 ≤ L.length) := by
        rintro ⟨h1, h2⟩
        rcases hf with h | h
        · rw [h] at h1; cases h1
        · omega
      rw [if_neg this, if_neg this]
      exact ⟨rfl, hM⟩
    · rw [if_pos hw, if_pos hw]
      exact ⟨rfl, rfl⟩
    · have hw' : ¬ (wrN x ≠ 0) := fun e => e hw
      have hf2 : (findK x L).isSome = false ∧ 32 ≤ L.length := ⟨by rw [hf]; rfl, hm⟩
      rw [if_neg hw', if_neg hw', if_pos hf2, if_pos hf2]
      exact ⟨rfl, rfl⟩
  rw [← key.1, ← key.2]
  exact C
theorem ref_def (hz : ZN x) (T : Tab9 u) (h : Rds u p n L) (hn : L.length ≤ 100) : Calls Tryz.prog 11 #[.slice p n c, nmV x] u fun e w' => OutM u.heap.size w' e (defM L x) (defE L x) ∧ Below u.heap.size u w' := by
  unfold defE defM
  by_cases hw : wrN x = 0
  · have hw' : ¬ (wrN x ≠ 0) := fun e => e hw
    rw [if_neg hw', if_neg hw']
    by_cases hf : (findK x L).isSome = false ∧ 32 ≤ L.length
    · rw [if_pos hf, if_pos hf]
      exact rdef_much hw hz T h (by omega) hf.2 (by simpa using hf.1)
    · rw [if_neg hf, if_neg hf]
      refine rdef_put hw hz T h (by omega) _ rfl fun e => ?_
      rw [e] at hf
      simp at hf
      exact hf
  · rw [if_pos hw, if_pos hw]
    exact rdef_wrong hw hz T
theorem prog_rem (hr : Rise L) (h : Slc u p n c L) (hn : L.length ≤ 100) : Calls Tryz.prog 12 #[.slice p n c, .string x.s, .string x.n] u fun e w' => OutM u.heap.size w' e (remM L x) (remE L x) ∧ Below u.heap.size u w' := by
  obtain ⟨er, M, ⟨k, b, hP, hR⟩, C⟩ := remove_any L x.s x.n u p n c h (by omega)
  have key : er = remE L x ∧ M = remM L x := by
    unfold remE remM
    have hk := find_kn x.s x.n x.t L
    rcases hR with ⟨rfl, rfl, rfl⟩ | ⟨rfl, rfl, rfl⟩
    · rcases find_place hP with ⟨_, e⟩ | ⟨y, e, _⟩
      · rw [hk] at e
        have e2 : findK x L = none := e
        rw [e2]; exact ⟨rfl, rfl⟩
      · cases e
    · rcases find_place hP with ⟨e, _⟩ | ⟨y, _, _, e⟩
      · cases e
      · rw [hk] at e
        have e2 : findK x L = some y := e
        rw [e2]
        refine ⟨rfl, ?_⟩
        rw [if_neg (by simp)]
        exact (rem_same hr hP).1
  rw [← key.1, ← key.2]
  exact C
theorem ref_rem (h : Rds u p n L) (hn : L.length ≤ 100) : Calls Tryz.prog 13 #[.slice p n c, .string x.s, .string x.n] u fun e w' => OutM u.heap.size w' e (remM L x) (remE L x) ∧ Below u.heap.size u w' := by
  unfold remE remM
  have hk := find_kn x.s x.n x.t L
  cases hf : findK x L with
  | none =>
    have hf2 : findK ⟨x.s, x.n, ⟨#[]⟩⟩ L = none := hk.trans hf
    exact rrem_none L x.s x.n (by omega) u p n c h hf2
  | some y =>
    have hf2 : findK ⟨x.s, x.n, ⟨#[]⟩⟩ L = some y := hk.trans hf
    exact rrem_some L x.s x.n (by omega) u p n c h y hf2
end
/-- Rows of one's own behind a world. -/
structure RWN (K u : World) (R : List (Value × List NM)) : Prop where
  b : Below K.heap.size K u
  r : ∀ y ∈ R, OwnM K.heap.size u y.1 y.2
theorem RWN.below {K u u' : World} {R : List (Value × List NM)} (h : RWN K u R) (hb : Below u.heap.size u u') : RWN K u' R := ⟨bel_step h.b hb, fun y hy => (h.r y hy).below hb⟩
theorem RWN.more {K u u' : World} {R : List (Value × List NM)} {v : Value} {M : List NM} (h : RWN K u R) (hb : Below u.heap.size u u') (ho : OwnM u.heap.size u' v M) : RWN K u' ((v, M) :: R) := ⟨bel_step h.b hb, fun y hy => by
  rcases List.mem_cons.1 hy with rfl | hy
  · exact ho.base h.b.size
  · exact (h.r y hy).below hb⟩
/-- A row that may be written over. -/
def Wr (K u : World) (p : Option Addr) (n : Nat) : Prop := n = 0 ∨ ∃ g, p = some ⟨g, 0, none⟩ ∧ K.heap.size ≤ g ∧ ∀ k, k < n → u.there g (k * 3) 3
theorem OwnM.wr {K u : World} {p : Option Addr} {n c : Nat} {M : List NM} (h : OwnM K.heap.size u (.slice p n c) M) : Wr K u p n := by
  rcases h.2 with ⟨e, _⟩ | ⟨g, cap, cur, e, hg, hh, hle, _, hs, _⟩
  · cases e; exact .inl rfl
  · cases e
    refine .inr ⟨g, rfl, hg, fun k hk j hj => ⟨?_, ?_⟩⟩
    · rw [cell_of_row u g _ cur 24 _ hh]
      rw [Array.getElem?_eq_getElem (by rw [hs]; have : (k + 1) * 3 ≤ c * 3 := Nat.mul_le_mul_right _ (by omega); omega)]
      rfl
    · simp [World.frozen?, hh]
theorem ngrown_setCells (b : Nat) : ∀ (vs : List Value) (o : Nat) (w : World), w.grownBy (w.setCells b o vs) (some b)
  | [], _, w => World.grownBy.refl _ _
  | v :: r, o, w => (Go.Lib.grownBy_setCell w b o v).trans (ngrown_setCells b r (o + 1) _)
theorem Wr.set {K u : World} {p : Option Addr} {n : Nat} (h : Wr K u p n) (g o : Nat) (vs : List Value) : Wr K (u.setCells g o vs) p n :=
  h.imp id fun ⟨g', e, hg, ht⟩ => ⟨g', e, hg, fun k hk => World.there_setCells (ht k hk) g o vs⟩
theorem Wr.below {K u u' : World} {p : Option Addr} {n : Nat} (h : Wr K u p n) (hb : Below u.heap.size u u') : Wr K u' p n :=
  h.imp id fun ⟨g', e, hg, ht⟩ => ⟨g', e, hg, fun k hk j hj => by
    obtain ⟨h1, h2⟩ := ht k hk j hj
    obtain ⟨v, hv⟩ := Option.isSome_iff_exists.1 h1
    have hlt := World.block_lt_of_cell? u _ hv
    exact ⟨by rw [ncell_bel hb hv]; rfl, by rw [World.frozen?_of_block (w := u) (hb.block _ hlt)]; exact h2⟩⟩
/-- One of the row is written over. -/
theorem Wr.store {K u : World} {p : Option Addr} {n : Nat} (h : Wr K u p n) (hb : Below K.heap.size K u) {k : Nat} (hk : k < n) :
    ∃ a w', p = some a ∧ Hid ((Instr.storeAt 24 (.pointer (some (a.add (k * 3)))) (nmV nm0)).run Tryz.prog u = .ok () w') ∧ Below K.heap.size K w' ∧ ∀ q m, Wr K u q m → Wr K w' q m := by
  rcases h with h | ⟨g, rfl, hg, ht⟩
  · omega
  · refine ⟨_, u.setCells g (k * 3) (ncs nm0).toList, rfl, ?_, hb.grown (ngrown_setCells g _ _ _) hb.size (fun j e => by cases e; exact hg), fun q m hq => hq.set _ _ _⟩
    have := run_storeAt_mid (P := Tryz.prog) u g (k * 3) 24 (ncs nm0) (ht k hk) ninf (by simp [Value.oneCell'])
    show _ = _
    rw [Addr.add_mid, Nat.zero_add]
    exact this
end Go.Proofs.YtlndkjcincflpaaGreatDoor
