/- SOrd, VDraw. -/
import Derived.Test.YtpafokmkcblcnaaGreatDoorSGetCr
import Derived.Test.YtpafokmkcblcnaaGreatDoorNLoopCr
import Derived.Deep.RegionHeldLaw
import Derived.OrdersHeld
import Derived.Deep.RegionHeld
import Derived.WalkKit
set_option linter.unusedVariables false
set_option linter.unusedSimpArgs false
namespace Go.Proofs.YtpafokmkcblcnaaGreatDoor.Sh
open Go.RowKit
set_option maxRecDepth 100000
set_option maxHeartbeats 1000000 in
theorem nanI_any (x : Int) (w : World) : Calls Tryz.prog 209 #[.int .i64 x] w fun e w' => e = .returned (.bool false) ∧ w' = w := by
  go_enter Tryz.func209, Tryz.ntmps209
  go_wp2
  go_ret
  exact ⟨by simp, rfl⟩
set_option maxHeartbeats 1000000 in
theorem cpI_any (x y : Int) (w : World) : Calls Tryz.prog 162 #[.int .i64 x, .int .i64 y] w fun e w' => e = .returned (.int .i64 (cpI x y)) ∧ w' = w := by
  rcases cpI_ways x y with ⟨h1, h2⟩ | ⟨h1, h2⟩ | ⟨h1, h2⟩
  · rw [h1]
    go_enter Tryz.func162, Tryz.ntmps162
    go_wp2_with (go_at_call 209; refine (nanI_any _ _).mono ?_; rintro e w' ⟨rfl, hw⟩; obtain rfl := hw.symm; clear hw)
    go_ret
    exact ⟨rfl, rfl⟩
  · rw [h1]
    subst h2
    go_enter Tryz.func162, Tryz.ntmps162
    go_wp2_with (go_at_call 209; refine (nanI_any _ _).mono ?_; rintro e w' ⟨rfl, hw⟩; obtain rfl := hw.symm; clear hw)
    go_ret
    exact ⟨rfl, rfl⟩
  · rw [h1]
    have h3 : ¬ x < y := by omega
    go_enter Tryz.func162, Tryz.ntmps162
    go_wp2_with (go_at_call 209; refine (nanI_any _ _).mono ?_; rintro e w' ⟨rfl, hw⟩; obtain rfl := hw.symm; clear hw)
    go_ret
    exact ⟨rfl, rfl⟩
def or2 (a b : Int) : Int := if a ≠ 0 then a else b
theorem or2_cases (a b : Int) : ((a != 0) = true ∧ or2 a b = a) ∨ (a = 0 ∧ (b != 0) = true ∧ or2 a b = b) ∨ (a = 0 ∧ b = 0 ∧ or2 a b = 0) := by
  unfold or2
  by_cases ha : a = 0
  · by_cases hb : b = 0 <;> simp [ha, hb]
  · simp [ha]
set_option maxHeartbeats 2000000 in
theorem or2_any {w : World} {g : Nat} {a b : Int} (h0 : w.cell? ⟨g, 0, none⟩ = some (.int .i64 a)) (h1 : w.cell? ⟨g, 1, none⟩ = some (.int .i64 b)) :
    Calls Tryz.prog 161 #[.slice (some ⟨g, 0, none⟩) 2 2] w fun e w' => e = .returned (.int .i64 (or2 a b)) ∧ w' = w := by
  rcases or2_cases a b with ⟨t1, e⟩ | ⟨t1, t2, e⟩ | ⟨t1, t2, e⟩
  all_goals
    rw [e]
    clear e
    try subst t1
    try subst t2
    go_enter Tryz.func161, Tryz.ntmps161
    go_wp2
    refine wp_loop_rounds 6 ?_
    rw [rounds_succ]
    go_wp2
    try (rw [rounds_succ]; go_wp2)
    try (rw [rounds_succ]; go_wp2)
    go_ret
    exact ⟨rfl, rfl⟩
theorem or2_new (u : World) (x y : Int) : Calls Tryz.prog 161 #[.slice (some ⟨u.heap.size, 0, none⟩) 2 2] (u.alloc (.cells #[.int .i64 x, .int .i64 y] 3)).drew fun e w' => e = .returned (.int .i64 (or2 x y)) ∧ w' = (u.alloc (.cells #[.int .i64 x, .int .i64 y] 3)).drew := by
  have hz : (u.alloc (.cells #[.int .i64 x, .int .i64 y] 3)).drew.heap[u.heap.size]? = some (.cells #[.int .i64 x, .int .i64 y] 3 (0, 0)) := heap_alloc_new u _
  have c := fun j => cell_of_row _ u.heap.size j _ 3 _ hz
  exact or2_any ((c 0).trans rfl) ((c 1).trans rfl)
abbrev ceO (y : CellT) : Obj := .cells (cellC y).toArray 57
set_option maxHeartbeats 4000000 in
theorem order_any (a b : CellT) (w : World) : Calls Tryz.prog 113 #[cellV a, cellV b] w fun e w' => e = .returned (.int .i64 (ordC a b)) ∧ Below w.heap.size w w' := by
  obtain ⟨r1, c1, t1⟩ := a
  obtain ⟨r2, c2, t2⟩ := b
  have C1 := fun u => cpI_any r1 r2 u
  have C2 := fun u => cpI_any c1 c2 u
  have HK : Hid (ordC ⟨r1, c1, t1⟩ ⟨r2, c2, t2⟩ = or2 (cpI r1 r2) (cpI c1 c2)) := rfl
  generalize ordC ⟨r1, c1, t1⟩ ⟨r2, c2, t2⟩ = R at *
  generalize cpI r1 r2 = x1 at *
  generalize cpI c1 c2 = x2 at *
  obtain ⟨V, hV⟩ : ∃ V, V = (w.alloc (ceO ⟨r1, c1, t1⟩)).alloc (ceO ⟨r2, c2, t2⟩) := ⟨_, rfl⟩
  have HC : Hid (∀ u : World, Below V.heap.size V u → (u.cell? ⟨w.heap.size, 0, none⟩ = some (.int .i64 r1) ∧ u.cell? ⟨w.heap.size, 1, none⟩ = some (.int .i64 c1)) ∧ (u.cell? ⟨w.heap.size + 1, 0, none⟩ = some (.int .i64 r2) ∧ u.cell? ⟨w.heap.size + 1, 1, none⟩ = some (.int .i64 c2))) := by
    intro u hu
    rw [hV] at hu
    obtain ⟨q1, q2, _⟩ := c_cells (new2 hu).1
    obtain ⟨q3, q4, _⟩ := c_cells (new2 hu).2
    exact ⟨⟨q1, q2⟩, q3, q4⟩
  have HB : Hid (Below V.heap.size V V.drew) := (Below.refl _ _).drew
  have HO : Hid (Below V.heap.size V (V.alloc (.cells #[.int .i64 x1, .int .i64 x2] 3)).drew) := (Sh.bel_alloc (Below.refl _ _) (Nat.le_refl _) _).drew
  have OR := or2_new V x1 x2
  rw [show V.heap.size = w.heap.size + 2 by rw [hV]; simp] at OR
  rw [hV] at HC HB HO OR
  simp only [ceO, cellC] at HC HB HO OR
  clear hV
  go_enter Tryz.func113, Tryz.ntmps113
  go_wp2
  go_region_held_law (fun u => (u.cell? ⟨w.heap.size, 0, none⟩ = some (.int .i64 r1) ∧ u.cell? ⟨w.heap.size, 1, none⟩ = some (.int .i64 c1)) ∧ (u.cell? ⟨w.heap.size + 1, 0, none⟩ = some (.int .i64 r2) ∧ u.cell? ⟨w.heap.size + 1, 1, none⟩ = some (.int .i64 c2)))
    (first | exact HC.out _ HB.out | exact HC.out _ HO.out) (first
    | (go_at_call_of 162 r1; refine (C1 _).mono ?_; rintro e w' ⟨rfl, hw⟩; obtain rfl := hw.symm; clear hw)
    | (go_at_call_of 162 c1; refine (C2 _).mono ?_; rintro e w' ⟨rfl, hw⟩; obtain rfl := hw.symm; clear hw)
    | (go_at_call 161; refine OR.mono ?_; rintro e w' ⟨rfl, hw⟩; obtain rfl := hw.symm; clear hw))
  go_wp2
  go_ret
  exact ⟨by rw [HK.out]; rfl, bel2 HO.out⟩
set_option maxHeartbeats 1000000 in
theorem inside_any (r c : Int) (w : World) : Calls Tryz.prog 56 #[.int .i64 r, .int .i64 c] w fun e w' => e = .returned (.bool (insB r c)) ∧ w' = w := by
  unfold insB
  by_cases h1 : 1 ≤ r
  · by_cases h2 : r ≤ 64
    · by_cases h3 : 1 ≤ c
      · by_cases h4 : c ≤ 26
        all_goals
          go_enter Tryz.func56, Tryz.ntmps56
          go_wp2
          go_ret
          exact ⟨by congr 2; simp; omega, rfl⟩
      · go_enter Tryz.func56, Tryz.ntmps56
        go_wp2
        go_ret
        exact ⟨by congr 2; simp; omega, rfl⟩
    · go_enter Tryz.func56, Tryz.ntmps56
      go_wp2
      go_ret
      exact ⟨by congr 2; simp; omega, rfl⟩
  · go_enter Tryz.func56, Tryz.ntmps56
    go_wp2
    go_ret
    exact ⟨by congr 2; simp; omega, rfl⟩
end Go.Proofs.YtpafokmkcblcnaaGreatDoor.Sh

namespace Go

section
variable {P : Program} {ops : Array Oper} {Q : Exit → Act → World → Prop} {md : Region.Mode} {S S2 : World → Prop} {D : Nat → Bool}

def wpAnyD (P : Program) (md : Region.Mode) (ops : Array Oper) (Q : Exit → Act → World → Prop) (S : World → Prop) (D : Nat → Bool) : Nat → Array Bool → Act → World → Prop
  | 0, listed, a, w => Region.ready md ops listed = [] ∧ Q .normal a w
  | fuel + 1, listed, a, w =>
    (Region.ready md ops listed = [] → Q .normal a w) ∧
    ∀ i ∈ Region.ready md ops listed, wpOp P ops Q i (fun a' w' => (D i = true ∨ (S w → S w')) ∧ wpAnyD P md ops Q S D fuel (listed.setIfInBounds i true) a' w') a w

theorem wpAny_of_d : ∀ (fuel : Nat) (listed : Array Bool) (a : Act) (w : World), wpAnyD P md ops Q S D fuel listed a w → wpAny P md ops Q fuel listed a w
  | 0, _, _, _, h => h
  | fuel + 1, _, _, _, h => ⟨h.1, fun i hi => wpOp_mono (fun a' w' h' => wpAny_of_d fuel _ a' w' h'.2) (h.2 i hi)⟩

theorem wpAnyD_first {i : Nat} {oi : Oper} {v : Value} (hi : ops[i]? = some oi) (hsel : ∀ (j : Nat) (o : Oper) cs b, ops[j]? = some o → o.op ≠ .select cs b)
    (hQ : ∀ c a w, Q (.panic c) (a.put oi.dst v) w → Q (.panic c) a w)
    (hk : ∀ (j : Nat) (oj : Oper), ops[j]? = some oj → (∀ e ∈ oj.after, Region.binds md e = true → e.on ≠ i) → ∀ w w', S2 w → (D j = true ∨ (S w → S w')) → S2 w') :
    ∀ (fuel : Nat) (listed : Array Bool) (a : Act) (w : World),
      (∀ j oj, ops[j]? = some oj → j ≠ i → listed.getD j true = false → (∀ e ∈ oj.after, Region.binds md e = true → e.on ≠ i) → oi.apart ops oj = true) →
      i ∈ Region.ready md ops listed → YieldsIf P ops S2 oi v a → S2 w →
      wpAnyD P md ops Q S D fuel (listed.setIfInBounds i true) (a.put oi.dst v) w → wpAnyD P md ops Q S D (fuel + 1) listed a w := by
  intro fuel
  induction fuel with
  | zero =>
    intro listed a w _ hr hy hS H
    refine ⟨fun h => (by rw [h] at hr; cases hr), fun j hj => ?_⟩
    by_cases hji : j = i
    · subst hji; exact hy.wpOp hi hS ⟨.inr id, H⟩
    · have := ready_mono hj hji
      rw [H.1] at this
      cases this
  | succ fuel ih =>
    intro listed a w hfree hr hy hS H
    refine ⟨fun h => (by rw [h] at hr; cases hr), fun j hj => ?_⟩
    by_cases hji : j = i
    · subst hji; exact hy.wpOp hi hS ⟨.inr id, H⟩
    · have h1 := H.2 j (ready_mono hj hji)
      obtain ⟨hjun, oj, hoj, hall⟩ := mem_ready.1 hj
      have hnot : ∀ e ∈ oj.after, Region.binds md e = true → e.on ≠ i := fun e he hb heq => by
        have h1 := hall e he hb
        have h0 := (mem_ready.1 hr).1
        rw [heq] at h1
        rcases Nat.lt_or_ge i listed.size with h' | h'
        · simp [h'] at h0 h1; rw [h0] at h1; cases h1
        · simp [Array.getElem?_eq_none h'] at h1
      have h2 := wpOp_putIf hoj (hfree j oj hoj hji hjun hnot) (fun cs b => hsel i oi cs b hi) (fun cs b => hsel j oj cs b hoj) hQ hy h1
      have hfree' : ∀ k ok, ops[k]? = some ok → k ≠ i → (listed.setIfInBounds j true).getD k true = false →
          (∀ e ∈ ok.after, Region.binds md e = true → e.on ≠ i) → oi.apart ops ok = true := fun k ok hk hki hun hno => by
        refine hfree k ok hk hki ?_ hno
        by_cases hjk : j = k
        · subst hjk; exact hjun
        · rw [getD_set_ne true hjk] at hun; exact hun
      refine wpOp_mono (fun a' w' h3 => ⟨h3.2.1, ih (listed.setIfInBounds j true) a' w' hfree' (ready_mono hr (Ne.symm hji)) h3.1 (hk j oj hoj hnot w w' hS h3.2.1) ?_⟩) h2
      rw [Array.setIfInBounds_comm _ _ hji]
      exact h3.2.2

theorem wpAnyD_pure {i : Nat} {oi : Oper} {v : Value} {fuel : Nat} {listed : Array Bool} {a : Act} {w : World} (hi : ops[i]? = some oi)
    (hs : Region.noSelect ops = true) (hf : Region.free md ops listed i = true) (hr : (Region.ready md ops listed).contains i = true)
    (hQ : ∀ c a w, Q (.panic c) (a.put oi.dst v) w → Q (.panic c) a w) (hg : Region.wanted oi (yielded ops a.tmps) = true) (hy : ∀ w, (execOp a.eval oi).run P w = .ok (.value v) w)
    (h : wpAnyD P md ops Q S D fuel (listed.setIfInBounds i true) (a.put oi.dst v) w) : wpAnyD P md ops Q S D (fuel + 1) listed a w :=
  wpAnyD_first (S2 := fun _ => True) hi (Region.noSelect_spec hs) hQ (fun _ _ _ _ _ _ _ _ => trivial) fuel listed a w (Region.free_spec hi hf) (by simpa using hr) (.inl ⟨hg, fun w _ => hy w⟩) trivial h

theorem wpAnyD_load {i : Nat} {oi : Oper} {v : Value} {fuel : Nat} {listed : Array Bool} {a : Act} {w : World} (hi : ops[i]? = some oi)
    (hs : Region.noSelect ops = true) (hf : Region.free md ops listed i = true) (hr : (Region.ready md ops listed).contains i = true)
    (hD : ((List.range ops.size).all fun j => !D j || ((ops[j]?.map fun o => o.after.any fun e => Region.binds md e && e.on == i).getD false)) = true)
    (hQ : ∀ c a w, Q (.panic c) (a.put oi.dst v) w → Q (.panic c) a w) (hg : Region.wanted oi (yielded ops a.tmps) = true) (hy : ∀ w, S w → (execOp a.eval oi).run P w = .ok (.value v) w) (hS : S w)
    (h : wpAnyD P md ops Q S D fuel (listed.setIfInBounds i true) (a.put oi.dst v) w) : wpAnyD P md ops Q S D (fuel + 1) listed a w := by
  refine wpAnyD_first (S2 := S) hi (Region.noSelect_spec hs) hQ (fun j oj hj hno w w' hS hc => ?_) fuel listed a w (Region.free_spec hi hf) (by simpa using hr) (.inl ⟨hg, hy⟩) hS h
  rcases hc with hc | hc
  · exfalso
    rw [List.all_eq_true] at hD
    have hlt : j < ops.size := (Array.getElem?_eq_some_iff.1 hj).1
    have := hD j (by simpa using hlt)
    rw [hc, hj] at this
    simp only [Bool.not_true, Bool.false_or, Option.map_some, Option.getD_some, Array.any_eq_true] at this
    obtain ⟨q, hq, hb⟩ := this
    simp only [Bool.and_eq_true, beq_iff_eq] at hb
    exact hno _ (Array.getElem_mem hq) hb.1 hb.2
  · exact hc hS

theorem wpAnyD_skip {i : Nat} {oi : Oper} {fuel : Nat} {listed : Array Bool} {a : Act} {w : World} (hi : ops[i]? = some oi)
    (hs : Region.noSelect ops = true) (hf : Region.free md ops listed i = true) (hr : (Region.ready md ops listed).contains i = true)
    (hQ : ∀ c a w, Q (.panic c) (a.put oi.dst undef) w → Q (.panic c) a w) (hg : Region.wanted oi (yielded ops a.tmps) = false)
    (h : wpAnyD P md ops Q S D fuel (listed.setIfInBounds i true) (a.put oi.dst undef) w) : wpAnyD P md ops Q S D (fuel + 1) listed a w :=
  wpAnyD_first (S2 := fun _ => True) hi (Region.noSelect_spec hs) hQ (fun _ _ _ _ _ _ _ _ => trivial) fuel listed a w (Region.free_spec hi hf) (by simpa using hr) (.inr ⟨hg, rfl⟩) trivial h

theorem wpAnyD_one {i : Nat} {o : Oper} {fuel : Nat} {listed : Array Bool} {a : Act} {w : World} (hr : Region.ready md ops listed = [i]) (ho : ops[i]? = some o)
    (h : ∀ K' : Act → World → Prop, (∀ a' w', (D i = true ∨ (S w → S w')) → wpAnyD P md ops Q S D fuel (listed.setIfInBounds i true) a' w' → K' a' w') → if Region.wanted o (yielded ops a.tmps) = true then Oper.wp P o a w K' Q else K' (a.put o.dst undef) w) :
    wpAnyD P md ops Q S D (fuel + 1) listed a w := by
  refine ⟨fun h0 => (by rw [hr] at h0; cases h0), fun j hj => ?_⟩
  rw [hr] at hj
  obtain rfl : j = i := by simpa using hj
  exact wpOp_step ho fun K' hK => h K' fun a' w' h1 h2 => hK a' w' ⟨h1, h2⟩
theorem wpAnyD_done {listed : Array Bool} {a : Act} {w : World} (hr : Region.ready md ops listed = []) (h : Q .normal a w) :
    ∀ fuel, wpAnyD P md ops Q S D fuel listed a w
  | 0 => ⟨hr, h⟩
  | _ + 1 => ⟨fun _ => h, by rw [hr]; simp⟩
theorem wp_region_d {id : Nat} {a : Act} {w : World} (S : World → Prop) (D : Nat → Bool) (hm : P.follows .mixedOrders = true)
    (h : wpAnyD P .any ops Q S D ops.size (Array.replicate ops.size false) a w.drew) : (Code.region id ops true).wp P Q a w :=
  wp_region_any hm (wpAny_of_d _ _ _ _ h)
theorem wpAnyD_pured {i d : Nat} {oi : Oper} {v : Value} {fuel : Nat} {listed : Array Bool} {a : Act} {w : World} (hi : ops[i]? = some oi)
    (hd : oi.dst = some d) (hs : Region.noSelect ops = true) (hf : Region.free md ops listed i = true) (hr : (Region.ready md ops listed).contains i = true)
    (hQ : ∀ c a w, Q (.panic c) (a.put (some d) v) w → Q (.panic c) a w) (hg : Region.wanted oi (yielded ops a.tmps) = true) (hy : ∀ w, (execOp a.eval oi).run P w = .ok (.value v) w)
    (h : wpAnyD P md ops Q S D fuel (listed.setIfInBounds i true) (a.put (some d) v) w) : wpAnyD P md ops Q S D (fuel + 1) listed a w :=
  wpAnyD_pure hi hs hf hr (hd ▸ hQ) hg hy (hd ▸ h)
theorem wpAnyD_loadd {i d : Nat} {oi : Oper} {v : Value} {fuel : Nat} {listed : Array Bool} {a : Act} {w : World} (hi : ops[i]? = some oi)
    (hd : oi.dst = some d) (hs : Region.noSelect ops = true) (hf : Region.free md ops listed i = true) (hr : (Region.ready md ops listed).contains i = true)
    (hD : ((List.range ops.size).all fun j => !D j || ((ops[j]?.map fun o => o.after.any fun e => Region.binds md e && e.on == i).getD false)) = true)
    (hQ : ∀ c a w, Q (.panic c) (a.put (some d) v) w → Q (.panic c) a w) (hg : Region.wanted oi (yielded ops a.tmps) = true) (hy : ∀ w, S w → (execOp a.eval oi).run P w = .ok (.value v) w) (hS : S w)
    (h : wpAnyD P md ops Q S D fuel (listed.setIfInBounds i true) (a.put (some d) v) w) : wpAnyD P md ops Q S D (fuel + 1) listed a w :=
  wpAnyD_load hi hs hf hr hD (hd ▸ hQ) hg hy hS (hd ▸ h)
theorem wpAnyD_skipd {i d : Nat} {oi : Oper} {fuel : Nat} {listed : Array Bool} {a : Act} {w : World} (hi : ops[i]? = some oi)
    (hd : oi.dst = some d) (hs : Region.noSelect ops = true) (hf : Region.free md ops listed i = true) (hr : (Region.ready md ops listed).contains i = true)
    (hQ : ∀ c a w, Q (.panic c) (a.put (some d) undef) w → Q (.panic c) a w) (hg : Region.wanted oi (yielded ops a.tmps) = false)
    (h : wpAnyD P md ops Q S D fuel (listed.setIfInBounds i true) (a.put (some d) undef) w) : wpAnyD P md ops Q S D (fuel + 1) listed a w :=
  wpAnyD_skip hi hs hf hr (hd ▸ hQ) hg (hd ▸ h)
end
end Go
