/- VDraw, TNext, TSeq, TSame. -/
import Derived.Deep.RegionHeld
import Derived.OrdersHeld
import Derived.Test.YtljmklbbngpllaaGreatDoorTText2Nd
set_option linter.unusedVariables false
set_option linter.unusedSimpArgs false
set_option maxHeartbeats 16000000
set_option maxRecDepth 100000
namespace Go
section
variable {P : Program} {ops : Array Oper} {Q : Exit → Act → World → Prop} {md : Region.Mode} {S S2 : World → Prop} {D : Nat → Bool}
def bK (P : Program) (md : Region.Mode) (ops : Array Oper) (Q : Exit → Act → World → Prop) (S : World → Prop) (D : Nat → Bool) : Nat → Array Bool → Act → World → Prop
 | 0, listed, a, w => Region.ready md ops listed = [] ∧ Q .normal a w
 | fuel + 1, listed, a, w =>
  (Region.ready md ops listed = [] → Q .normal a w) ∧
  ∀ i ∈ Region.ready md ops listed, wpOp P ops Q i (fun a' w' => (D i = true ∨ (S w → S w')) ∧ bK P md ops Q S D fuel (listed.setIfInBounds i true) a' w') a w
theorem rH : ∀ (fuel : Nat) (listed : Array Bool) (a : Act) (w : World), bK P md ops Q S D fuel listed a w → wpAny P md ops Q fuel listed a w
 | 0, _, _, _, h => h
 | fuel + 1, _, _, _, h => ⟨h.1, fun i hi => wpOp_mono (fun a' w' h' => rH fuel _ a' w' h'.2) (h.2 i hi)⟩
theorem jA {i : Nat} {oi : Oper} {v : Value} (hi : ops[i]? = some oi) (hsel : ∀ (j : Nat) (o : Oper) cs b, ops[j]? = some o → o.op ≠ .select cs b)
  (hQ : ∀ c a w, Q (.panic c) (a.put oi.dst v) w → Q (.panic c) a w)
  (hk : ∀ (j : Nat) (oj : Oper), ops[j]? = some oj → (∀ e ∈ oj.after, Region.binds md e = true → e.on ≠ i) → ∀ w w', S2 w → (D j = true ∨ (S w → S w')) → S2 w') :
  ∀ (fuel : Nat) (listed : Array Bool) (a : Act) (w : World),
   (∀ j oj, ops[j]? = some oj → j ≠ i → listed.getD j true = false → (∀ e ∈ oj.after, Region.binds md e = true → e.on ≠ i) → oi.apart ops oj = true) →
   i ∈ Region.ready md ops listed → YieldsIf P ops S2 oi v a → S2 w →
   bK P md ops Q S D fuel (listed.setIfInBounds i true) (a.put oi.dst v) w → bK P md ops Q S D (fuel + 1) listed a w := by
 intro fuel
 induction fuel with
 | zero =>
  intro listed a w _ hr hy hS H
  refine ⟨fun h => (by rw [h] at hr; cases hr), fun j hj => ?_⟩
  by_cases hji : j = i
  ·subst hji; exact hy.wpOp hi hS ⟨.inr id, H⟩
  ·have := ready_mono hj hji
   rw [H.1] at this
   cases this
 | succ fuel ih =>
  intro listed a w hfree hr hy hS H
  refine ⟨fun h => (by rw [h] at hr; cases hr), fun j hj => ?_⟩
  by_cases hji : j = i
  ·subst hji; exact hy.wpOp hi hS ⟨.inr id, H⟩
  ·have h1 := H.2 j (ready_mono hj hji)
   obtain ⟨hjun, oj, hoj, hall⟩ := mem_ready.1 hj
   have hnot : ∀ e ∈ oj.after, Region.binds md e = true → e.on ≠ i := fun e he hb heq => by
    have h1 := hall e he hb
    have h0 := (mem_ready.1 hr).1
    rw [heq] at h1
    rcases Nat.lt_or_ge i listed.size with h' | h'
    ·simp [h'] at h0 h1; rw [h0] at h1; cases h1
    ·simp [Array.getElem?_eq_none h'] at h1
   have h2 := wpOp_putIf hoj (hfree j oj hoj hji hjun hnot) (fun cs b => hsel i oi cs b hi) (fun cs b => hsel j oj cs b hoj) hQ hy h1
   have hfree' : ∀ k ok, ops[k]? = some ok → k ≠ i → (listed.setIfInBounds j true).getD k true = false →
     (∀ e ∈ ok.after, Region.binds md e = true → e.on ≠ i) → oi.apart ops ok = true := fun k ok hk hki hun hno => by
    refine hfree k ok hk hki ?_ hno
    by_cases hjk : j = k
    ·subst hjk; exact hjun
    ·rw [getD_set_ne true hjk] at hun; exact hun
   refine wpOp_mono (fun a' w' h3 => ⟨h3.2.1, ih (listed.setIfInBounds j true) a' w' hfree' (ready_mono hr (Ne.symm hji)) h3.1 (hk j oj hoj hnot w w' hS h3.2.1) ?_⟩) h2
   rw [Array.setIfInBounds_comm _ _ hji]
   exact h3.2.2
theorem zJ {i : Nat} {oi : Oper} {v : Value} {fuel : Nat} {listed : Array Bool} {a : Act} {w : World} (hi : ops[i]? = some oi)
  (hs : Region.noSelect ops = true) (hf : Region.free md ops listed i = true) (hr : (Region.ready md ops listed).contains i = true)
  (hQ : ∀ c a w, Q (.panic c) (a.put oi.dst v) w → Q (.panic c) a w) (hg : Region.wanted oi (yielded ops a.tmps) = true) (hy : ∀ w, (execOp a.eval oi).run P w = .ok (.value v) w)
  (h : bK P md ops Q S D fuel (listed.setIfInBounds i true) (a.put oi.dst v) w) : bK P md ops Q S D (fuel + 1) listed a w :=
 jA (S2 := fun _ => True) hi (Region.noSelect_spec hs) hQ (fun _ _ _ _ _ _ _ _ => trivial) fuel listed a w (Region.free_spec hi hf) (by simpa using hr) (.inl ⟨hg, fun w _ => hy w⟩) trivial h
theorem zK {i : Nat} {oi : Oper} {v : Value} {fuel : Nat} {listed : Array Bool} {a : Act} {w : World} (hi : ops[i]? = some oi)
  (hs : Region.noSelect ops = true) (hf : Region.free md ops listed i = true) (hr : (Region.ready md ops listed).contains i = true)
  (hD : ((List.range ops.size).all fun j => !D j || ((ops[j]?.map fun o => o.after.any fun e => Region.binds md e && e.on == i).getD false)) = true)
  (hQ : ∀ c a w, Q (.panic c) (a.put oi.dst v) w → Q (.panic c) a w) (hg : Region.wanted oi (yielded ops a.tmps) = true) (hy : ∀ w, S w → (execOp a.eval oi).run P w = .ok (.value v) w) (hS : S w)
  (h : bK P md ops Q S D fuel (listed.setIfInBounds i true) (a.put oi.dst v) w) : bK P md ops Q S D (fuel + 1) listed a w := by
 refine jA (S2 := S) hi (Region.noSelect_spec hs) hQ (fun j oj hj hno w w' hS hc => ?_) fuel listed a w (Region.free_spec hi hf) (by simpa using hr) (.inl ⟨hg, hy⟩) hS h
 rcases hc with hc | hc
 ·exfalso
  rw [List.all_eq_true] at hD
  have hlt : j < ops.size := (Array.getElem?_eq_some_iff.1 hj).1
  have := hD j (by simpa using hlt)
  rw [hc, hj] at this
  simp only [Bool.not_true, Bool.false_or, Option.map_some, Option.getD_some, Array.any_eq_true] at this
  obtain ⟨q, hq, hb⟩ := this
  simp only [Bool.and_eq_true, beq_iff_eq] at hb
  exact hno _ (Array.getElem_mem hq) hb.1 hb.2
 ·exact hc hS
theorem zL {i : Nat} {oi : Oper} {fuel : Nat} {listed : Array Bool} {a : Act} {w : World} (hi : ops[i]? = some oi)
  (hs : Region.noSelect ops = true) (hf : Region.free md ops listed i = true) (hr : (Region.ready md ops listed).contains i = true)
  (hQ : ∀ c a w, Q (.panic c) (a.put oi.dst undef) w → Q (.panic c) a w) (hg : Region.wanted oi (yielded ops a.tmps) = false)
  (h : bK P md ops Q S D fuel (listed.setIfInBounds i true) (a.put oi.dst undef) w) : bK P md ops Q S D (fuel + 1) listed a w :=
 jA (S2 := fun _ => True) hi (Region.noSelect_spec hs) hQ (fun _ _ _ _ _ _ _ _ => trivial) fuel listed a w (Region.free_spec hi hf) (by simpa using hr) (.inr ⟨hg, rfl⟩) trivial h
theorem aH {i : Nat} {o : Oper} {fuel : Nat} {listed : Array Bool} {a : Act} {w : World} (hr : Region.ready md ops listed = [i]) (ho : ops[i]? = some o)
  (h : ∀ K' : Act → World → Prop, (∀ a' w', (D i = true ∨ (S w → S w')) → bK P md ops Q S D fuel (listed.setIfInBounds i true) a' w' → K' a' w') → if Region.wanted o (yielded ops a.tmps) = true then Oper.wp P o a w K' Q else K' (a.put o.dst undef) w) :
  bK P md ops Q S D (fuel + 1) listed a w := by
 refine ⟨fun h0 => (by rw [hr] at h0; cases h0), fun j hj => ?_⟩
 rw [hr] at hj
 obtain rfl : j = i := by simpa using hj
 exact wpOp_step ho fun K' hK => h K' fun a' w' h1 h2 => hK a' w' ⟨h1, h2⟩
theorem aK {listed : Array Bool} {a : Act} {w : World} (hr : Region.ready md ops listed = []) (h : Q .normal a w) :
  ∀ fuel, bK P md ops Q S D fuel listed a w
 | 0 => ⟨hr, h⟩
 | _ + 1 => ⟨fun _ => h, by rw [hr]; simp⟩
theorem aQ {id : Nat} {a : Act} {w : World} (S : World → Prop) (D : Nat → Bool) (hm : P.follows .mixedOrders = true)
  (h : bK P .any ops Q S D ops.size (Array.replicate ops.size false) a w.drew) : (Code.region id ops true).wp P Q a w :=
 wp_region_any hm (rH _ _ _ _ h)
theorem vX {i d : Nat} {oi : Oper} {v : Value} {fuel : Nat} {listed : Array Bool} {a : Act} {w : World} (hi : ops[i]? = some oi)
  (hd : oi.dst = some d) (hs : Region.noSelect ops = true) (hf : Region.free md ops listed i = true) (hr : (Region.ready md ops listed).contains i = true)
  (hQ : ∀ c a w, Q (.panic c) (a.put (some d) v) w → Q (.panic c) a w) (hg : Region.wanted oi (yielded ops a.tmps) = true) (hy : ∀ w, (execOp a.eval oi).run P w = .ok (.value v) w)
  (h : bK P md ops Q S D fuel (listed.setIfInBounds i true) (a.put (some d) v) w) : bK P md ops Q S D (fuel + 1) listed a w :=
 zJ hi hs hf hr (hd ▸ hQ) hg hy (hd ▸ h)
theorem dO {i d : Nat} {oi : Oper} {v : Value} {fuel : Nat} {listed : Array Bool} {a : Act} {w : World} (hi : ops[i]? = some oi)
  (hd : oi.dst = some d) (hs : Region.noSelect ops = true) (hf : Region.free md ops listed i = true) (hr : (Region.ready md ops listed).contains i = true)
  (hD : ((List.range ops.size).all fun j => !D j || ((ops[j]?.map fun o => o.after.any fun e => Region.binds md e && e.on == i).getD false)) = true)
  (hQ : ∀ c a w, Q (.panic c) (a.put (some d) v) w → Q (.panic c) a w) (hg : Region.wanted oi (yielded ops a.tmps) = true) (hy : ∀ w, S w → (execOp a.eval oi).run P w = .ok (.value v) w) (hS : S w)
  (h : bK P md ops Q S D fuel (listed.setIfInBounds i true) (a.put (some d) v) w) : bK P md ops Q S D (fuel + 1) listed a w :=
 zK hi hs hf hr hD (hd ▸ hQ) hg hy hS (hd ▸ h)
theorem vY {i d : Nat} {oi : Oper} {fuel : Nat} {listed : Array Bool} {a : Act} {w : World} (hi : ops[i]? = some oi)
  (hd : oi.dst = some d) (hs : Region.noSelect ops = true) (hf : Region.free md ops listed i = true) (hr : (Region.ready md ops listed).contains i = true)
  (hQ : ∀ c a w, Q (.panic c) (a.put (some d) undef) w → Q (.panic c) a w) (hg : Region.wanted oi (yielded ops a.tmps) = false)
  (h : bK P md ops Q S D fuel (listed.setIfInBounds i true) (a.put (some d) undef) w) : bK P md ops Q S D (fuel + 1) listed a w :=
 zL hi hs hf hr (hd ▸ hQ) hg (hd ▸ h)
theorem dwp (i : Nat) (v : Value) {d : Nat} {oi : Oper} {fuel : Nat} {listed : Array Bool} {a a' : Act} {w : World} (h : bK P md ops Q S D fuel (listed.setIfInBounds i true) a' w) (hi : ops[i]? = some oi := by exact rfl)
  (hd : oi.dst = some d := by exact rfl) (hs : Region.noSelect ops = true := by kernel_rfl) (hf : Region.free md ops listed i = true := by kernel_rfl) (hr : (Region.ready md ops listed).contains i = true := by kernel_rfl)
  (hQ : ∀ c a w, Q (.panic c) (a.put (some d) v) w → Q (.panic c) a w := by exact fun _ _ _ h => h) (hg : Region.wanted oi (yielded ops a.tmps) = true := by go_simp) (hy : ∀ w, (execOp a.eval oi).run P w = .ok (.value v) w := by (intro u; go_simp))
  (ha : a.put (some d) v = a' := by (simp only [Act.put, List.setIfInBounds_toArray, List.set_cons_zero, List.set_cons_succ]; rfl)) : bK P md ops Q S D (fuel + 1) listed a w :=
 vX hi hd hs hf hr hQ hg hy (ha ▸ h)
theorem dws (i : Nat) {d : Nat} {oi : Oper} {fuel : Nat} {listed : Array Bool} {a a' : Act} {w : World} (h : bK P md ops Q S D fuel (listed.setIfInBounds i true) a' w) (hi : ops[i]? = some oi := by exact rfl)
  (hd : oi.dst = some d := by exact rfl) (hs : Region.noSelect ops = true := by kernel_rfl) (hf : Region.free md ops listed i = true := by kernel_rfl) (hr : (Region.ready md ops listed).contains i = true := by kernel_rfl)
  (hQ : ∀ c a w, Q (.panic c) (a.put (some d) undef) w → Q (.panic c) a w := by exact fun _ _ _ h => h) (hg : Region.wanted oi (yielded ops a.tmps) = false := by (go_simp <;> simp [undef]))
  (ha : a.put (some d) undef = a' := by (simp only [Act.put, List.setIfInBounds_toArray, List.set_cons_zero, List.set_cons_succ]; rfl)) : bK P md ops Q S D (fuel + 1) listed a w :=
 vY hi hd hs hf hr hQ hg (ha ▸ h)
theorem dwl (i : Nat) (v : Value) {d : Nat} {oi : Oper} {fuel : Nat} {listed : Array Bool} {a a' : Act} {w : World} (h : bK P md ops Q S D fuel (listed.setIfInBounds i true) a' w) (hi : ops[i]? = some oi := by exact rfl)
  (hd : oi.dst = some d := by exact rfl) (hs : Region.noSelect ops = true := by kernel_rfl) (hf : Region.free md ops listed i = true := by kernel_rfl) (hr : (Region.ready md ops listed).contains i = true := by kernel_rfl)
  (hD : ((List.range ops.size).all fun j => !D j || ((ops[j]?.map fun o => o.after.any fun e => Region.binds md e && e.on == i).getD false)) = true := by kernel_rfl)
  (hQ : ∀ c a w, Q (.panic c) (a.put (some d) v) w → Q (.panic c) a w := by exact fun _ _ _ h => h) (hg : Region.wanted oi (yielded ops a.tmps) = true := by go_simp) (hS : S w) (hy : ∀ w, S w → (execOp a.eval oi).run P w = .ok (.value v) w)
  (ha : a.put (some d) v = a' := by (simp only [Act.put, List.setIfInBounds_toArray, List.set_cons_zero, List.set_cons_succ]; rfl)) : bK P md ops Q S D (fuel + 1) listed a w :=
 dO hi hd hs hf hr hD hQ hg hy hS (ha ▸ h)
end
end Go
namespace Go.Proofs.YtljmklbbngpllaaGreatDoor
open Go.RowKit
def aJS (W : World) (b : Nat) (w : World) (o : Option (Tk.Tok × List UInt8)) (e : Ending) (w' : World) : Prop :=
 ∃ (t : TT) (ok : Bool) (m : List UInt8), e = .returned (.tuple #[.agg (tcs t.k t.n t.s t.b t.h t.r t.c t.fr t.fc), .bool ok]) ∧ St W b m w w' ∧ ∀ v v', St W b m v v' → Ans W b v o (.returned (.tuple #[.agg (tcs t.k t.n t.s t.b t.h t.r t.c t.fr t.fc), .bool ok])) v'
theorem Ans.e {W : World} {b : Nat} {w : World} {o : Option (Tk.Tok × List UInt8)} {e : Ending} {w' : World} (h : Ans W b w o e w') : aJS W b w o e w' := by
 rcases o with _ | ⟨t, m⟩
 ·obtain ⟨⟨t, rfl⟩, m, hs⟩ := h
  exact ⟨t, false, m, rfl, hs, fun v v' hv => ⟨⟨t, rfl⟩, m, hv⟩⟩
 ·obtain ⟨rfl, hs⟩ := h
  exact ⟨tk t, true, m, rfl, hs, fun v v' hv => ⟨rfl, hv⟩⟩
theorem e13 : ∀ args u, (callFunc 76 args).run Tryz.prog u = .ok (.enter 76 args) u := enters_of Tryz.func76 (by kernel_rfl) rfl
theorem eM (c : UInt8) : ∀ args u, (callFunc (zG c) args).run Tryz.prog u = .ok (.enter (zG c) args) u := by
 unfold zG
 split
 ·exact enters_of Tryz.func113 (by kernel_rfl) rfl
 ·split
  ·exact enters_of Tryz.func114 (by kernel_rfl) rfl
  ·split
   ·exact enters_of Tryz.func115 (by kernel_rfl) rfl
   ·split
    ·exact enters_of Tryz.func117 (by kernel_rfl) rfl
    ·exact enters_of Tryz.func118 (by kernel_rfl) rfl
theorem aFb {W w : World} {b : Nat} {c : UInt8} {r : List UInt8} (X : LX W b (c :: r) w) (hl : (c :: r).length ≤ 255) :
  Calls Tryz.prog (zG c) #[.pointer (some ⟨b, 0, none⟩)] w (Ans W b w (Tk.one gnF trB pnF (c :: r))) := by
 unfold zG Tk.one
 simp only
 by_cases hd : Ad.isD c = true
 ·rw [if_pos hd, if_pos hd]
  exact aAT X hl
 rw [if_neg hd, if_neg hd]
 by_cases h34 : c = 34
 ·rw [if_pos h34, if_pos h34]
  subst h34
  exact aE9 X hl
 rw [if_neg h34, if_neg h34]
 by_cases h35 : c = 35
 ·rw [if_pos h35, if_pos h35]
  exact aCT X
 rw [if_neg h35, if_neg h35]
 by_cases hn : c = 91 ∨ c = 36 ∨ Ad.isL c = true
 ·rw [if_pos hn, if_pos hn]
  exact aE6 X hl
 rw [if_neg hn, if_neg hn]
 exact vV X
theorem aC1 {W w : World} {b k n : Nat} {l : List UInt8} {A : ByteArray} {o : Option (Tk.Tok × List UInt8)} (X : LX W b l w) (hA : A = ba l) (hz : 0 < A.size) (hn : (A[0].toNat : Int) = (n : Int)) (h8 : n < 256)
  (hE : ∀ args u, (callFunc k args).run Tryz.prog u = .ok (.enter k args) u)
  (SG : ∀ u, Calls Tryz.prog 76 #[.int .i32 (n : Int)] u fun e w' => e = .returned (.func (.func k) #[] #[]) ∧ w' = u)
  (M : ∀ u, LX W b l u → Calls Tryz.prog k #[.pointer (some ⟨b, 0, none⟩)] u (aJS W b u o)) :
  Calls Tryz.prog 78 #[.pointer (some ⟨b, 0, none⟩)] w (Ans W b w o) := by
 have hb := X.lt
 have e13 := e13
 obtain ⟨c0, c1, f0⟩ := X.cells
 obtain ⟨a0, a1, a2⟩ := (X.alloc tkO).cells
 have H0 : Hid (LX W b l (w.alloc tkO)) := X.alloc tkO
 have SG2 : ∀ u, Calls Tryz.prog 76 #[.int .i32 (A[0].toNat : Int)] u fun e w' => e = .returned (.func (.func k) #[] #[]) ∧ w' = u := by rw [hn]; exact SG
 rw [← hA] at c0 a0
 have HA : Hid (A = ba l) := hA
 have hwr : IntKind.i32.wrap (A[0].toNat : Int) = (A[0].toNat : Int) := by rw [hn]; unfold IntKind.wrap; simp [IntKind.bits, IntKind.signed]; omega
 have H1 : Hid (St W b l (w.alloc tkO) (w.alloc tkO).drew) := (St.refl H0.out).drew
 clear X hA hn SG
 go_enter Tryz.func78, Tryz.ntmps78
 go_wp2
 have HC : Hid ((w.alloc tkO).drew.cell? ⟨b, 0, none⟩ = some (.string A) ∧ (w.alloc tkO).drew.cell? ⟨b, 1, none⟩ = some nC) := ⟨a0, a1⟩
 refine aQ (fun u => u.cell? ⟨b, 0, none⟩ = some (.string A) ∧ u.cell? ⟨b, 1, none⟩ = some nC) (fun _ => false) (by kernel_rfl) ?_
 refine dwp 0 (.pointer (some ⟨b, 0, none⟩)) ?_
 refine dwp 1 (.pointer (some ⟨b, 0, none⟩)) ?_
 refine dwp 2 (.pointer (some ⟨b, 1, none⟩)) ?_
 refine dwl 3 (nC) ?_ (hS := HC.out) (hy := (fun u hSu => by obtain ⟨k0, k1⟩ := hSu; go_simp))
 refine dwp 4 (.pointer (some ⟨b, 0, none⟩)) ?_
 refine dwp 5 (.pointer (some ⟨b, 0, none⟩)) ?_
 refine dwp 6 (.pointer (some ⟨b, 0, none⟩)) ?_
 refine dwl 7 (.string A) ?_ (hS := HC.out) (hy := (fun u hSu => by obtain ⟨k0, k1⟩ := hSu; go_simp))
 refine dwp 8 (.int .u8 (A[0].toNat : Int)) ?_
 refine dwp 9 (.int .i32 (A[0].toNat : Int)) ?_
 refine aH (i := 10) (by kernel_rfl) rfl ?_
 intro K hK
 go_simp
 refine (SG2 _).mono ?_
 rintro e w' ⟨rfl, hw⟩
 obtain rfl := hw.symm
 clear hw
 refine hK _ _ (.inr fun h => h) ?_
 clear hK
 try simp only [Act.put, List.setIfInBounds_toArray, List.set_cons_zero, List.set_cons_succ]
 refine dwp 11 (.func (.func k) #[] #[]) ?_
 refine aK (by kernel_rfl) ?_ _
 go_wp2_with (first
  | (go_at_fn k; refine (M _ H1.out.1).mono ?_; rintro e w2 ⟨t, ok, m, rfl, hs, ha⟩; have H2 : Hid (St W b m (w.alloc tkO) w2) := H1.out.step hs; have HF : Hid (∀ v v', St W b m v v' → Ans W b v o (.returned (.tuple #[.agg (tcs t.k t.n t.s t.b t.h t.r t.c t.fr t.fc), .bool ok])) v') := ha; have RR := H2.out.put hb t.k t.n t.s t.b t.h t.r t.c t.fr t.fc; clear hs ha)
  | (refine aD rfl 123 _ _ rfl _ _ _ rfl rfl RR.out ?_))
 exact bodyPost_ret (v := .tuple #[.agg (tcs t.k t.n t.s t.b t.h t.r t.c t.fr t.fc), .bool ok]) (H2.out.ans hb (tcs t.k t.n t.s t.b t.h t.r t.c t.fr t.fc) rfl rfl rfl rfl) rfl (HF.out _ _ (H2.out.fin hb _))
theorem aFc {W w : World} {b : Nat} {c : UInt8} {r : List UInt8} (X : LX W b (c :: r) w) (hl : (c :: r).length ≤ 255) :
  Calls Tryz.prog 78 #[.pointer (some ⟨b, 0, none⟩)] w (Ans W b w (Tk.one gnF trB pnF (c :: r))) := by
 have hz : 0 < (ba (c :: r)).size := by rw [size_mk]; simp
 refine aC1 (A := ba (c :: r)) X rfl hz (n := c.toNat) ?_ c.toNat_lt (eM c) (fun u => aE0 c u) (fun u Y => (aFb Y hl).mono fun e w' h => h.e)
 rw [aAS (c :: r) 0 (by simp) hz]
 rfl
def TT.cl (t : TT) : List Value := [.int .i64 t.k, .int .i64 t.n, .string t.s, .string t.b, .string t.h, .int .i64 t.r, .int .i64 t.c, .bool t.fr, .bool t.fc]
theorem aA2 (t : TT) : t.cl.length = 9 := rfl
theorem aFd (t : TT) : ∀ u ∈ t.cl, u.oneCell' = true := by
 intro u hu
 simp only [TT.cl, List.mem_cons, List.not_mem_nil, or_false] at hu
 rcases hu with rfl | rfl | rfl | rfl | rfl | rfl | rfl | rfl | rfl <;> rfl
theorem zM : ∀ L : List TT, (L.flatMap TT.cl).length = L.length * 9
 | [] => rfl
 | t :: L => by rw [List.flatMap_cons, List.length_append, zM L, aA2, List.length_cons]; omega
theorem vZ : ∀ (L : List TT) (i j : Nat) (v : Value) (hi : i < L.length), L[i].cl[j]? = some v → (L.flatMap TT.cl)[i * 9 + j]? = some v
 | t :: L, 0, j, v, _, h => by
  have hj : j < t.cl.length := (List.getElem?_eq_some_iff.1 h).1
  rw [List.flatMap_cons, Nat.zero_mul, Nat.zero_add, List.getElem?_append_left hj]
  exact h
 | t :: L, i + 1, j, v, hi, h => by
  rw [List.flatMap_cons, List.getElem?_append_right (by rw [aA2]; omega), aA2, show (i + 1) * 9 + j - 9 = i * 9 + j by omega]
  exact vZ L i j v (by simpa using hi) h
def cO (e : TypeId) (base : Nat) (w : World) (v : Value) (L : List TT) : Prop := w.ownsRow base e 9 v L.length (L.flatMap TT.cl)
theorem cO.nil (e : TypeId) (base : Nat) (w : World) : cO e base w (.slice none 0 0) [] := World.ownsRow_nil w base e 9
theorem cO.slice {e : TypeId} {base : Nat} {w : World} {v : Value} {L : List TT} (h : cO e base w v L) : ∃ a c, v = .slice a L.length c := by
 rcases h.2 with ⟨rfl, h0⟩ | ⟨g, cap, cur, rfl, _⟩
 ·exact ⟨none, 0, by rw [h0]⟩
 ·exact ⟨_, _, rfl⟩
theorem cO.ne {e : TypeId} {base : Nat} {w : World} {v : Value} {L : List TT} (h : cO e base w v L) {b : Nat} {o : Obj} (hb : w.heap[b]? = some o) (ho : ∀ c z, o ≠ .cells c e z) : v.ownBlock = none ∨ v.ownBlock ≠ some b := by
 rcases h.2 with ⟨rfl, _⟩ | ⟨g, cap, cur, rfl, _, hg, _⟩
 ·exact .inl rfl
 ·refine .inr fun e => ?_
  have : g = b := by simpa [Value.ownBlock] using e
  subst this
  rw [hb] at hg
  cases hg
  exact ho _ _ rfl
theorem cO.kept {e : TypeId} {base : Nat} {w w' : World} {v : Value} {L : List TT} {row : Option Nat} (h : cO e base w v L) (hg : w.grownBy w' row) (hne : v.ownBlock = none ∨ v.ownBlock ≠ row) : cO e base w' v L := World.ownsRow.kept h hg hne
theorem cO.below {e : TypeId} {base : Nat} {w w' : World} {v : Value} {L : List TT} (h : cO e base w v L) (hb : Below w.heap.size w w') : cO e base w' v L :=
 h.kept (aZ (row := none) hb) (by cases v.ownBlock <;> simp)
theorem cO.base {e : TypeId} {base base' : Nat} {w : World} {v : Value} {L : List TT} (h : cO e base w v L) (hb : base' ≤ base) : cO e base' w v L := by
 obtain ⟨h1, h2⟩ := h
 refine ⟨h1, h2.imp id ?_⟩
 rintro ⟨g, cap, cur, e1, e2, r⟩
 exact ⟨g, cap, cur, e1, by omega, r⟩
theorem aFe : (Tryz.prog.info? 123).map (fun i => (i.zero, i.size, i.bytes)) = some (some (.agg tk0), 9, 88) := by kernel_rfl
theorem aFf {e st : TypeId} (hst : Tryz.prog.underlying st = some (.slice e)) (aFg : (Tryz.prog.info? e).map (fun i => (i.zero, i.size, i.bytes)) = some (some (.agg tk0), 9, 88))
  {base : Nat} {w : World} {v : Value} {L : List TT} (h : cO e base w v L) {g : Nat} {t : TT} {z : Nat × Nat} {e' : TypeId} (hg : w.heap[g]? = some (.cells t.cs e' z)) (hn : L.length + 1 ≤ 1000000) (hbase : base ≤ w.heap.size) :
  ∃ v' w', Hid ((Builtin.append_ #[st, st] st #[v, .slice (some ⟨g, 0, none⟩) 1 1]).run Tryz.prog w = .ok v' w') ∧ cO e base w' v' (L ++ [t]) ∧ w.grownBy w' v.ownBlock ∧ Below base w w' := by
 obtain ⟨i0, hi, hz0, hz1, hz2⟩ := info_parts aFg
 have hadd : ∀ k, (⟨g, 0, none⟩ : Addr).add k = ⟨g, k, none⟩ := fun k => by unfold Addr.add; split <;> simp_all
 obtain ⟨v', w', r1, o1, g1, _, _⟩ := run_append_own_at w base st st e i0 _ 9 88 hst hi hz0 hz1 hz2 rfl (by decide) v _ _ h ⟨g, 0, none⟩ 1 1 t.cl rfl
  (fun j u hj => by rw [hadd, cell_of_row w g j _ _ _ hg, ← hj]; simp [TT.cs, TT.cl]) (aFd t) (by simp only [maxLen]; omega) (by omega) hbase
 refine ⟨v', w', r1, ?_, g1, (Below.refl base w).grown g1 hbase fun k hk => (World.ownsRow.lt h k hk).1⟩
 unfold cO
 rw [List.length_append, List.flatMap_append]
 simpa using o1
theorem wpList_append_run {P : Program} {w : World} {ops : Array Oper} {rest : List Oper} {o : Oper} {a : Act} {Q : Exit → Act → World → Prop} (hgd : o.guard = none) (s x : Operand) (t : TypeId)
  (ho : o.op = .call { callee := .builtin .append, args := #[s, x], argTypes := #[t, t] }) (v bv v' : Value) (w' : World) (hs : a.eval s = v) (hx : a.eval x = bv) (hrun : (Builtin.append_ #[t, t] o.type #[v, bv]).run P w = .ok v' w')
  (h : wpList P ops Q rest (a.put o.dst v') w') : wpList P ops Q (o :: rest) a w := by
 refine wpList_plain hgd fun K hK => ?_
 unfold Oper.wp
 simp [execOp, ho, resolve, invoke, builtin, hs, hx, hrun, Result.andThen]
 exact hK _ _ h
theorem cO.load {e : TypeId} {base : Nat} {w : World} {a : Option Addr} {n c : Nat} {L : List TT} (h : cO e base w (.slice a n c) L) {i : Nat} (hi : i < L.length) {d : TypeDesc} (hd : d.isRow = true) (hu : Tryz.prog.underlying e = some d) (aFg : (Tryz.prog.info? e).map (·.size) = some 9) :
  ∃ g, a = some ⟨g, 0, none⟩ ∧ (Instr.loadAt e (.pointer (some ⟨g, i * 9, none⟩))).run Tryz.prog w = .ok (.agg L[i].cs) w := by
 have hc := fun g (hg : (Value.slice a n c).ownBlock = some g) => World.ownsRow.cells h hg
 rcases h.2 with ⟨e1, e2⟩ | ⟨g, cap, cur, e1, _⟩
 ·omega
 ·cases e1
  refine ⟨g, rfl, ?_⟩
  have hadd : ∀ k, (⟨g, 0, none⟩ : Addr).add k = ⟨g, k, none⟩ := fun k => by unfold Addr.add; split <;> simp_all
  exact run_loadAt_mid (P := Tryz.prog) w g (i * 9) e L[i].cl d (fun j v hv => by
   have := hc g rfl (i * 9 + j) v (vZ L i j v hi hv)
   rw [hadd] at this
   exact this) hu hd (by rw [aFg]; rfl)
theorem nE {l m : List UInt8} {t : Tk.Tok} (h : Tk.one gnF trB pnF l = some (t, m)) : m.length < l.length := by
 cases l with
 | nil => cases h
 | cons c r =>
  unfold Tk.one at h
  simp only at h
  split at h
  ·rename_i hd
   cases hp : pnF ((c :: r).takeWhile Tk.eX) with
   | none => rw [hp] at h; cases h
   | some n =>
    rw [hp] at h
    cases h
    exact Tk.aBW _ (by unfold Tk.eX; rw [hd]; rfl)
  ·split at h
   ·cases hq : Tk.dF r with
    | none => rw [hq] at h; cases h
    | some p =>
     rw [hq] at h
     cases h
     have := Tk.vS r.length r p.1 p.2 (Nat.le_refl _) hq
     simp only [List.length_cons]; omega
   ·split at h
    ·exact Tk.aGN h
    ·split at h
     ·rename_i hn
      unfold Tk.named at h
      split at h
      ·rename_i m' he
       cases he
       cases ha : Ad.at_ 93 r with
       | none => rw [ha] at h; cases h
       | some p =>
        obtain ⟨a, q⟩ := p
        rw [ha] at h
        simp only at h
        split at h
        ·have h1 := Tk.qO h
         have h2 := congrArg List.length (at_eq ha)
         simp at h2 ⊢
         omega
        ·cases h
      ·rename_i hne
       have hrun : Tk.bG c = true := by
        rcases hn with h1 | h1 | h1
        ·subst h1; exact absurd rfl (hne r)
        ·subst h1; rfl
        ·exact Tk.aGO h1
       unfold Tk.gV at h
       have hlt := Tk.aBW (p := Tk.bG) (c := c) (r := r) hrun
       split at h
       ·rename_i q hq
        rw [hq] at hlt
        have hd := Tk.iA Tk.bG q
        cases hp : Ad.mM gnF ([] ++ (c :: r).takeWhile Tk.bG ++ 33 :: q.takeWhile Tk.bG) with
        | none => rw [hp] at h; cases h
        | some x =>
         rw [hp] at h
         cases h
         simp only [List.length_cons] at hlt ⊢
         omega
       ·rw [if_pos rfl] at h
        split at h
        ·cases h; exact hlt
        ·split at h
         ·cases h; exact hlt
         ·cases h
     ·exact Tk.aIM h
def gM (l : List UInt8) : Option (List Tk.Tok) := Tk.jY gnF trB pnF (l.length + 1) l
theorem nG : ∀ (k : Nat) (l : List UInt8), l.length < k → ∀ k', l.length < k' → Tk.jY gnF trB pnF k l = Tk.jY gnF trB pnF k' l
 | 0, l, h, _, _ => absurd h (Nat.not_lt_zero _)
 | k + 1, [], _, 0, h => absurd h (Nat.not_lt_zero _)
 | k + 1, [], _, k' + 1, _ => rfl
 | k + 1, c :: r, h, 0, h' => absurd h' (Nat.not_lt_zero _)
 | k + 1, c :: r, h, k' + 1, h' => by
  simp only [List.length_cons] at h h'
  unfold Tk.jY
  split
  ·exact nG k r (by omega) k' (by omega)
  ·cases ho : Tk.one gnF trB pnF (c :: r) with
   | none => rfl
   | some p =>
    have := nE (t := p.1) (m := p.2) ho
    simp only [List.length_cons] at this
    simp only
    rw [nG k p.2 (by omega) k' (by omega)]
theorem aC2 {c : UInt8} {r : List UInt8} (h : Tk.blank c = true) : gM (c :: r) = gM r := by
 unfold gM
 conv => lhs; unfold Tk.jY
 rw [if_pos h]
 exact nG _ r (by simp) _ (by simp)
theorem aFh {c : UInt8} {r : List UInt8} (h : Tk.blank c = false) : gM (c :: r) = match Tk.one gnF trB pnF (c :: r) with
  | none => none
  | some (t, m) => (gM m).map (t :: ·) := by
 conv => lhs; unfold gM Tk.jY
 rw [if_neg (by rw [h]; decide)]
 cases ho : Tk.one gnF trB pnF (c :: r) with
 | none => rfl
 | some p =>
  have := nE (t := p.1) (m := p.2) ho
  simp only
  unfold gM
  rw [nG _ p.2 this _ (Nat.lt_succ_self _)]
theorem rJ : ∀ l : List UInt8, gM (l.dropWhile Tk.blank) = gM l
 | [] => rfl
 | c :: r => by
  rw [List.dropWhile_cons]
  split
  ·rename_i h; rw [rJ r, aC2 h]
  ·rfl
theorem aI {P : Program} {ev : Operand → Value} {o : Oper} {ty : TypeId} {x : Operand} {p v : Value} {u : World} (ho : o.op = .load ty x) (hx : ev x = p) (hrun : (Instr.loadAt ty p).run P u = .ok v u) : (execOp ev o).run P u = .ok (.value v) u := by
 unfold execOp
 simp only [ho, hx, Sem.run_bind, Sem.run_pure, hrun, Result.andThen_ok]
theorem cO.aIq {e : TypeId} {base : Nat} {w : World} {a : Option Addr} {n c : Nat} {L : List TT} (h : cO e base w (.slice a n c) L) {i : Nat} (hi : i < L.length) {d : TypeDesc} (hd : d.isRow = true) (hu : Tryz.prog.underlying e = some d) (aFg : (Tryz.prog.info? e).map (·.size) = some 9) :
  ∃ a', a = some a' ∧ (Instr.loadAt e (.pointer (some (a'.add (i * 9))))).run Tryz.prog w = .ok (.agg (tcs L[i].k L[i].n L[i].s L[i].b L[i].h L[i].r L[i].c L[i].fr L[i].fc)) w := by
 obtain ⟨g, rfl, hr⟩ := h.load hi hd hu aFg
 refine ⟨_, rfl, ?_⟩
 have hadd : (⟨g, 0, none⟩ : Addr).add (i * 9) = ⟨g, i * 9, none⟩ := by unfold Addr.add; split <;> simp_all
 rw [hadd]
 exact hr
end Go.Proofs.YtljmklbbngpllaaGreatDoor
