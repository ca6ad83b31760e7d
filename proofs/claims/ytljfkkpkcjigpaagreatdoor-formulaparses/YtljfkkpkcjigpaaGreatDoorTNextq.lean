/- TText2, VDraw, TNext. -/
import Derived.Test.YtljfkkpkcjigpaaGreatDoorTTextq
import Derived.OrdersHeld
import Derived.Deep.RegionHeld
import Derived.Deep.RegionHeldLaw
import Derived.WalkKit
set_option linter.unusedVariables false
set_option linter.unusedSimpArgs false
namespace Go.Proofs.YtljfkkpkcjigpaaGreatDoor
open Go.RowKit
set_option maxRecDepth 100000
theorem wr_any {W w u : World} {b : Nat} {m acc : List UInt8} (hb : b < w.heap.size) (h : TX W b w m acc u) (s : List UInt8) (hs : acc.length + s.length ≤ 1000) :
    Calls Tryz.prog 64 #[.pointer (some ⟨w.heap.size + 1, 0, none⟩), .string (ba s)] u fun e w' => e = .returned (.tuple #[.int .i64 (s.length : Nat), .nilIface]) ∧ TX W b w m (acc ++ s) w' := by
  have := Tryz.Builder_WriteString_k (w.heap.size + 1) (w.heap.size + 1) (Lib.byteCells acc) (ba s) u h.bd (by rw [Lib.byteCells_length, size_mk]; omega) (by have := lt_of h.z; omega)
  refine this.mono ?_
  rintro e w' ⟨rfl, h1, h2, _⟩
  exact ⟨by rw [size_mk], h.write hb h1 h2⟩
theorem st_any {W w u : World} {b : Nat} {m acc : List UInt8} (hb : b < w.heap.size) (h : TX W b w m acc u) :
    Calls Tryz.prog 66 #[.pointer (some ⟨w.heap.size + 1, 0, none⟩)] u fun e w' => e = .returned (.string (ba acc)) ∧ TX W b w m acc w' := by
  have := Tryz.Builder_String_any_k (w.heap.size + 1) (w.heap.size + 1) acc u h.bd (by have := lt_of h.z; omega)
  refine this.mono ?_
  rintro e w' ⟨rfl, h1, h2, _⟩
  exact ⟨rfl, h.st.low hb h2, (h2.block _ (by omega)).trans h.z, h1⟩
set_option maxHeartbeats 4000000 in
theorem text_any {W w : World} {b : Nat} {r : List UInt8} (X : LX W b (34 :: r) w) (hl : (34 :: r).length ≤ 255) : Calls Tryz.prog 74 #[.pointer (some ⟨b, 0, none⟩)] w (Ans W b w ((Tk.quoF r).map fun p => (.str p.1, p.2))) := by
  have hb := X.lt
  have H0 : Hid (TX W b w (34 :: r) [] ((w.alloc tkO).alloc (.cells #[.pointer none, .slice none 0 0] 92))) := TX.begin X
  have SK0 := fun u (Y : LX W b (34 :: r) u) => skip_any Y [34]
  have SK1 : ∀ u, LX W b (34 :: r) u → Calls Tryz.prog 115 #[.pointer (some ⟨b, 0, none⟩), .string ⟨#[34]⟩] u fun e w' => e = .returned (.bool true) ∧ St W b r u w' := SK0
  generalize ho : (Tk.quoF r).map (fun p => ((.str p.1, p.2) : Tk.Tok × List UInt8)) = o
  have HO : Hid ((Tk.quoF r).map (fun p => ((.str p.1, p.2) : Tk.Tok × List UInt8)) = o) := ho
  have hr : r.length ≤ 254 := by simpa using hl
  clear ho X SK0 hl
  go_enter Tryz.func74, Tryz.ntmps74
  go_wp2_with (go_at_call 115; refine (SK1 _ H0.out.st.1).mono ?_; rintro e w1 ⟨rfl, hs⟩; have H1 : Hid (TX W b w r [] w1) := H0.out.method hb hs; clear hs)
  clear H0 SK1
  go_loopw [7] (fun _ wr => ∃ m acc : List UInt8, acc.length + m.length ≤ 254 ∧ Hid ((Tk.quoF r) = (Tk.quoF m).map fun p => (acc ++ p.1, p.2)) ∧ Hid (TX W b w m acc wr)) (fun _ wr => leftN b wr)
  case atStart => exact ⟨r, [], by simpa using hr, by show Tk.quoF r = _; cases Tk.quoF r <;> rfl, H1⟩
  case round =>
    obtain ⟨m, acc, hlen, HQ, HX⟩ := hrel
    clear H1
    have hm : m.length ≤ 255 := by omega
    have hlm := leftN_eq HX.out.st.1
    have TK := fun u (Y : LX W b m u) => take_any Y hm asks_quote e53
    have hA : ∀ x ∈ m.takeWhile nq, nq x = true := while_in
    have hsplit := tw_dw nq m
    have hh := fun {c : UInt8} {q : List UInt8} (h : m.dropWhile nq = c :: q) => drop_head h
    have TK' : ∀ u, LX W b m u → Calls Tryz.prog 79 #[.pointer (some ⟨b, 0, none⟩), .func (.func 116) #[] #[]] u fun e w' => e = .returned (.string (ba (m.takeWhile nq))) ∧ St W b (m.dropWhile nq) u w' := TK
    clear TK
    generalize m.takeWhile nq = A at *
    cases hD : m.dropWhile nq with
    | nil =>
      rw [hD] at TK' hsplit
      have hAm : A.length + 0 = m.length := by rw [← hsplit]; simp
      have HN : Hid (o = none) := by
        show _ = _
        rw [← HO.out, HQ.out, ← hsplit, quo_plain A [] hA]; rfl
      have SK := fun u (Y : LX W b [] u) => skip_any Y [34]
      have SK' : ∀ u, LX W b [] u → Calls Tryz.prog 115 #[.pointer (some ⟨b, 0, none⟩), .string ⟨#[34]⟩] u fun e w' => e = .returned (.bool false) ∧ St W b [] u w' := SK
      clear HO HQ hsplit hA hh SK
      have WR := fun u (Y : TX W b w [] acc u) => wr_any hb Y A (by omega)
      go_wp2_with (first
        | (go_at_call 79; refine (TK' _ HX.out.st.1).mono ?_; rintro e w2 ⟨rfl, hs⟩; have H2 : Hid (TX W b w [] acc w2) := HX.out.method hb hs; clear hs)
        | (go_at_call 64; refine (WR _ H2.out).mono ?_; rintro e w3 ⟨rfl, hs⟩; have H3 : Hid (TX W b w [] (acc ++ A) w3) := hs; clear hs)
        | (go_at_call 115; refine (SK' _ H3.out.st.1).mono ?_; rintro e w4 ⟨rfl, hs⟩; have H4 : Hid (TX W b w [] (acc ++ A) w4) := H3.out.method hb hs; have RR := H4.out.put 0 0 noB noB noB 0 0 false false; clear hs)
        | (refine wpList_store_run rfl 70 _ _ rfl _ _ _ rfl rfl RR.out ?_))
      refine bodyPost_ret (H4.out.ans (tcs 0 0 noB noB noB 0 0 false false) rfl rfl rfl rfl) rfl ?_
      rw [HN.out]
      exact ⟨⟨⟨0, 0, noB, noB, noB, 0, 0, false, false⟩, rfl⟩, _, H4.out.fin hb _⟩
    | cons c D =>
      have hc : c = 34 := by
        have := hh hD
        simpa [nq] using this
      subst hc
      rw [hD] at TK' hsplit
      have hAm : A.length + (D.length + 1) = m.length := by rw [← hsplit]; simp
      have SK := fun u (Y : LX W b (34 :: D) u) => skip_any Y [34]
      have SK' : ∀ u, LX W b (34 :: D) u → Calls Tryz.prog 115 #[.pointer (some ⟨b, 0, none⟩), .string ⟨#[34]⟩] u fun e w' => e = .returned (.bool true) ∧ St W b D u w' := SK
      have WR := fun u (Y : TX W b w (34 :: D) acc u) => wr_any hb Y A (by omega)
      have hq := quo_plain A (34 :: D) hA
      clear SK hA hh
      by_cases h2 : ∃ E, D = 34 :: E
      · obtain ⟨E, rfl⟩ := h2
        have SKE := fun u (Y : LX W b (34 :: E) u) => skip_any Y [34]
        have SKE' : ∀ u, LX W b (34 :: E) u → Calls Tryz.prog 115 #[.pointer (some ⟨b, 0, none⟩), .string ⟨#[34]⟩] u fun e w' => e = .returned (.bool true) ∧ St W b E u w' := SKE
        have WQ := fun u (Y : TX W b w E (acc ++ A) u) => wr_any hb Y [34] (by simp; simp at hAm; omega)
        have HN : Hid (Tk.quoF r = (Tk.quoF E).map fun p => ((acc ++ A ++ [34]) ++ p.1, p.2)) := by
          show _ = _
          rw [HQ.out, ← hsplit, hq, quo_more]
          cases Tk.quoF E <;> simp
        have hlen2 : (acc ++ A ++ [34]).length + E.length ≤ 254 := by simp; simp at hAm; omega
        have hme : E.length < m.length := by simp at hAm; omega
        clear SKE HQ hq hsplit
        go_wp2_with (first
          | (go_at_call 79; refine (TK' _ HX.out.st.1).mono ?_; rintro e w2 ⟨rfl, hs⟩; have H2 : Hid (TX W b w (34 :: 34 :: E) acc w2) := HX.out.method hb hs; clear hs)
          | (go_at_call 64; refine (WR _ H2.out).mono ?_; rintro e w3 ⟨rfl, hs⟩; have H3 : Hid (TX W b w (34 :: 34 :: E) (acc ++ A) w3) := hs; clear hs H2)
          | (go_at_call 115; refine (SK' _ H3.out.st.1).mono ?_; rintro e w4 ⟨rfl, hs⟩; have H4 : Hid (TX W b w (34 :: E) (acc ++ A) w4) := H3.out.method hb hs; clear hs H3)
          | (go_at_call 115; refine (SKE' _ H4.out.st.1).mono ?_; rintro e w5 ⟨rfl, hs⟩; have H5 : Hid (TX W b w E (acc ++ A) w5) := H4.out.method hb hs; clear hs H4)
          | (go_at_call 64; refine (WQ _ H5.out).mono ?_; rintro e w6 ⟨rfl, hs⟩; have H6 : Hid (TX W b w E (acc ++ A ++ [34]) w6) := hs; clear hs))
        go_roundw
        case rel => exact ⟨E, acc ++ A ++ [34], hlen2, HN, H6⟩
        case measure => rw [leftN_eq H6.out.st.1, hlm]; exact hme
      · have hno : ∀ q, D ≠ 34 :: q := fun q e => h2 ⟨q, e⟩
        have hpn : [34].isPrefixOf D = false := by
          cases D with
          | nil => rfl
          | cons x q => simp [List.isPrefixOf]; rintro rfl; exact hno q rfl
        have SKE := fun u (Y : LX W b D u) => skip_any Y [34]
        simp only [hpn, skF_no hpn] at SKE
        have SKE' : ∀ u, LX W b D u → Calls Tryz.prog 115 #[.pointer (some ⟨b, 0, none⟩), .string ⟨#[34]⟩] u fun e w' => e = .returned (.bool false) ∧ St W b D u w' := SKE
        have HN : Hid (o = some (.str (acc ++ A), D)) := by
          show _ = _
          rw [← HO.out, HQ.out, ← hsplit, hq, quo_end hno]
          simp
        have SG := fun u (Y : TX W b w D (acc ++ A) u) => st_any hb Y
        clear SKE HQ hq hsplit HO h2 hno hpn
        generalize hac : acc ++ A = F at *
        go_wp2_with (first
          | (go_at_call 79; refine (TK' _ HX.out.st.1).mono ?_; rintro e w2 ⟨rfl, hs⟩; have H2 : Hid (TX W b w (34 :: D) acc w2) := HX.out.method hb hs; clear hs)
          | (go_at_call 64; refine (WR _ H2.out).mono ?_; rintro e w3 ⟨rfl, hs⟩; have H3 : Hid (TX W b w (34 :: D) F w3) := hs; clear hs H2)
          | (go_at_call 115; refine (SK' _ H3.out.st.1).mono ?_; rintro e w4 ⟨rfl, hs⟩; have H4 : Hid (TX W b w D F w4) := H3.out.method hb hs; clear hs H3)
          | (go_at_call 115; refine (SKE' _ H4.out.st.1).mono ?_; rintro e w5 ⟨rfl, hs⟩; have H5 : Hid (TX W b w D F w5) := H4.out.method hb hs; clear hs H4)
          | (go_at_call 66; refine (SG _ H5.out).mono ?_; rintro e w6 ⟨rfl, hs⟩; have H6 : Hid (TX W b w D F w6) := hs; have RR := H6.out.put 2 0 (ba F) noB noB 0 0 false false; clear hs)
          | (refine wpList_store_run rfl 70 _ _ rfl _ _ _ rfl rfl RR.out ?_))
        refine bodyPost_ret (H6.out.ans (tcs 2 0 (ba F) noB noB 0 0 false false) rfl rfl rfl rfl) rfl ?_
        rw [HN.out]
        exact ⟨rfl, H6.out.fin hb _⟩
end Go.Proofs.YtljfkkpkcjigpaaGreatDoor

namespace Go

section
variable {P : Program} {ops : Array Oper} {Q : Exit → Act → World → Prop} {md : Region.Mode} {S S2 : World → Prop} {D : Nat → Bool}

def wpAnyD (P : Program) (md : Region.Mode) (ops : Array Oper) (Q : Exit → Act → World → Prop) (S : World → Prop) (D : Nat → Bool) : Nat → Array Bool → Act → World → Prop
  | 0, listed, a, w => Region.ready md ops listed = [] ∧ Q .normal a w
  | fuel + 1, listed, a, w =>
    (Region.ready md ops listed = [] → Q .normal a w) ∧
    ∀ i ∈ Region.ready md ops listed, wpOp P ops Q i (fun a' w' => (D i = true ∨ (S w → S w')) ∧ wpAnyD P md ops Q S D fuel (listed.setIfInBounds i true) a' w') a w

theorem wpAny_of_d : ∀ (fuel : Nat) (listed : Array Bool) (a : Act) (w : World), wpAnyD P md ops Q S D fuel listed a w → wpAny P md ops Q fuel listed a w
  | 0, _, _, _, h => h
  | fuel + 1, _, _, _, h => ⟨h.1, fun i hi => wpOp_mono (fun a' w' h' => wpAny_of_d fuel _ a' w' h'.2) (h.2 i hi)⟩

theorem wpAnyD_first {i : Nat} {oi : Oper} {v : Value} (hi : ops[i]? = some oi) (hsel : ∀ (j : Nat) (o : Oper) cs b, ops[j]? = some o → o.op ≠ .select cs b)
    (hQ : ∀ c a w, Q (.panic c) (a.put oi.dst v) w → Q (.panic c) a w)
    (hk : ∀ (j : Nat) (oj : Oper), ops[j]? = some oj → (∀ e ∈ oj.after, Region.binds md e = true → e.on ≠ i) → ∀ w w', S2 w → (D j = true ∨ (S w → S w')) → S2 w') :
    ∀ (fuel : Nat) (listed : Array Bool) (a : Act) (w : World),
      (∀ j oj, ops[j]? = some oj → j ≠ i → listed.getD j true = false → (∀ e ∈ oj.after, Region.binds md e = true → e.on ≠ i) → oi.apart ops oj = true) →
      i ∈ Region.ready md ops listed → YieldsIf P ops S2 oi v a → S2 w →
      wpAnyD P md ops Q S D fuel (listed.setIfInBounds i true) (a.put oi.dst v) w → wpAnyD P md ops Q S D (fuel + 1) listed a w := by
  intro fuel
  induction fuel with
  | zero =>
    intro listed a w _ hr hy hS H
    refine ⟨fun h => (by rw [h] at hr; cases hr), fun j hj => ?_⟩
    by_cases hji : j = i
    · subst hji; exact hy.wpOp hi hS ⟨.inr id, H⟩
    · have := ready_mono hj hji
      rw [H.1] at this
      cases this
  | succ fuel ih =>
    intro listed a w hfree hr hy hS H
    refine ⟨fun h => (by rw [h] at hr; cases hr), fun j hj => ?_⟩
    by_cases hji : j = i
    · subst hji; exact hy.wpOp hi hS ⟨.inr id, H⟩
    · have h1 := H.2 j (ready_mono hj hji)
      obtain ⟨hjun, oj, hoj, hall⟩ := mem_ready.1 hj
      have hnot : ∀ e ∈ oj.after, Region.binds md e = true → e.on ≠ i := fun e he hb heq => by
        have h1 := hall e he hb
        have h0 := (mem_ready.1 hr).1
        rw [heq] at h1
        rcases Nat.lt_or_ge i listed.size with h' | h'
        · simp [h'] at h0 h1; rw [h0] at h1; cases h1
        · simp [Array.getElem?_eq_none h'] at h1
      have h2 := wpOp_putIf hoj (hfree j oj hoj hji hjun hnot) (fun cs b => hsel i oi cs b hi) (fun cs b => hsel j oj cs b hoj) hQ hy h1
      have hfree' : ∀ k ok, ops[k]? = some ok → k ≠ i → (listed.setIfInBounds j true).getD k true = false →
          (∀ e ∈ ok.after, Region.binds md e = true → e.on ≠ i) → oi.apart ops ok = true := fun k ok hk hki hun hno => by
        refine hfree k ok hk hki ?_ hno
        by_cases hjk : j = k
        · subst hjk; exact hjun
        · rw [getD_set_ne true hjk] at hun; exact hun
      refine wpOp_mono (fun a' w' h3 => ⟨h3.2.1, ih (listed.setIfInBounds j true) a' w' hfree' (ready_mono hr (Ne.symm hji)) h3.1 (hk j oj hoj hnot w w' hS h3.2.1) ?_⟩) h2
      rw [Array.setIfInBounds_comm _ _ hji]
      exact h3.2.2

theorem wpAnyD_pure {i : Nat} {oi : Oper} {v : Value} {fuel : Nat} {listed : Array Bool} {a : Act} {w : World} (hi : ops[i]? = some oi)
    (hs : Region.noSelect ops = true) (hf : Region.free md ops listed i = true) (hr : (Region.ready md ops listed).contains i = true)
    (hQ : ∀ c a w, Q (.panic c) (a.put oi.dst v) w → Q (.panic c) a w) (hg : Region.wanted oi (yielded ops a.tmps) = true) (hy : ∀ w, (execOp a.eval oi).run P w = .ok (.value v) w)
    (h : wpAnyD P md ops Q S D fuel (listed.setIfInBounds i true) (a.put oi.dst v) w) : wpAnyD P md ops Q S D (fuel + 1) listed a w :=
  wpAnyD_first (S2 := fun _ => True) hi (Region.noSelect_spec hs) hQ (fun _ _ _ _ _ _ _ _ => trivial) fuel listed a w (Region.free_spec hi hf) (by simpa using hr) (.inl ⟨hg, fun w _ => hy w⟩) trivial h

theorem wpAnyD_load {i : Nat} {oi : Oper} {v : Value} {fuel : Nat} {listed : Array Bool} {a : Act} {w : World} (hi : ops[i]? = some oi)
    (hs : Region.noSelect ops = true) (hf : Region.free md ops listed i = true) (hr : (Region.ready md ops listed).contains i = true)
    (hD : ((List.range ops.size).all fun j => !D j || ((ops[j]?.map fun o => o.after.any fun e => Region.binds md e && e.on == i).getD false)) = true)
    (hQ : ∀ c a w, Q (.panic c) (a.put oi.dst v) w → Q (.panic c) a w) (hg : Region.wanted oi (yielded ops a.tmps) = true) (hy : ∀ w, S w → (execOp a.eval oi).run P w = .ok (.value v) w) (hS : S w)
    (h : wpAnyD P md ops Q S D fuel (listed.setIfInBounds i true) (a.put oi.dst v) w) : wpAnyD P md ops Q S D (fuel + 1) listed a w := by
  refine wpAnyD_first (S2 := S) hi (Region.noSelect_spec hs) hQ (fun j oj hj hno w w' hS hc => ?_) fuel listed a w (Region.free_spec hi hf) (by simpa using hr) (.inl ⟨hg, hy⟩) hS h
  rcases hc with hc | hc
  · exfalso
    rw [List.all_eq_true] at hD
    have hlt : j < ops.size := (Array.getElem?_eq_some_iff.1 hj).1
    have := hD j (by simpa using hlt)
    rw [hc, hj] at this
    simp only [Bool.not_true, Bool.false_or, Option.map_some, Option.getD_some, Array.any_eq_true] at this
    obtain ⟨q, hq, hb⟩ := this
    simp only [Bool.and_eq_true, beq_iff_eq] at hb
    exact hno _ (Array.getElem_mem hq) hb.1 hb.2
  · exact hc hS

theorem wpAnyD_skip {i : Nat} {oi : Oper} {fuel : Nat} {listed : Array Bool} {a : Act} {w : World} (hi : ops[i]? = some oi)
    (hs : Region.noSelect ops = true) (hf : Region.free md ops listed i = true) (hr : (Region.ready md ops listed).contains i = true)
    (hQ : ∀ c a w, Q (.panic c) (a.put oi.dst undef) w → Q (.panic c) a w) (hg : Region.wanted oi (yielded ops a.tmps) = false)
    (h : wpAnyD P md ops Q S D fuel (listed.setIfInBounds i true) (a.put oi.dst undef) w) : wpAnyD P md ops Q S D (fuel + 1) listed a w :=
  wpAnyD_first (S2 := fun _ => True) hi (Region.noSelect_spec hs) hQ (fun _ _ _ _ _ _ _ _ => trivial) fuel listed a w (Region.free_spec hi hf) (by simpa using hr) (.inr ⟨hg, rfl⟩) trivial h

theorem wpAnyD_one {i : Nat} {o : Oper} {fuel : Nat} {listed : Array Bool} {a : Act} {w : World} (hr : Region.ready md ops listed = [i]) (ho : ops[i]? = some o)
    (h : ∀ K' : Act → World → Prop, (∀ a' w', (D i = true ∨ (S w → S w')) → wpAnyD P md ops Q S D fuel (listed.setIfInBounds i true) a' w' → K' a' w') → if Region.wanted o (yielded ops a.tmps) = true then Oper.wp P o a w K' Q else K' (a.put o.dst undef) w) :
    wpAnyD P md ops Q S D (fuel + 1) listed a w := by
  refine ⟨fun h0 => (by rw [hr] at h0; cases h0), fun j hj => ?_⟩
  rw [hr] at hj
  obtain rfl : j = i := by simpa using hj
  exact wpOp_step ho fun K' hK => h K' fun a' w' h1 h2 => hK a' w' ⟨h1, h2⟩
theorem wpAnyD_done {listed : Array Bool} {a : Act} {w : World} (hr : Region.ready md ops listed = []) (h : Q .normal a w) :
    ∀ fuel, wpAnyD P md ops Q S D fuel listed a w
  | 0 => ⟨hr, h⟩
  | _ + 1 => ⟨fun _ => h, by rw [hr]; simp⟩
theorem wp_region_d {id : Nat} {a : Act} {w : World} (S : World → Prop) (D : Nat → Bool) (hm : P.follows .mixedOrders = true)
    (h : wpAnyD P .any ops Q S D ops.size (Array.replicate ops.size false) a w.drew) : (Code.region id ops true).wp P Q a w :=
  wp_region_any hm (wpAny_of_d _ _ _ _ h)
theorem wpAnyD_pured {i d : Nat} {oi : Oper} {v : Value} {fuel : Nat} {listed : Array Bool} {a : Act} {w : World} (hi : ops[i]? = some oi)
    (hd : oi.dst = some d) (hs : Region.noSelect ops = true) (hf : Region.free md ops listed i = true) (hr : (Region.ready md ops listed).contains i = true)
    (hQ : ∀ c a w, Q (.panic c) (a.put (some d) v) w → Q (.panic c) a w) (hg : Region.wanted oi (yielded ops a.tmps) = true) (hy : ∀ w, (execOp a.eval oi).run P w = .ok (.value v) w)
    (h : wpAnyD P md ops Q S D fuel (listed.setIfInBounds i true) (a.put (some d) v) w) : wpAnyD P md ops Q S D (fuel + 1) listed a w :=
  wpAnyD_pure hi hs hf hr (hd ▸ hQ) hg hy (hd ▸ h)
theorem wpAnyD_loadd {i d : Nat} {oi : Oper} {v : Value} {fuel : Nat} {listed : Array Bool} {a : Act} {w : World} (hi : ops[i]? = some oi)
    (hd : oi.dst = some d) (hs : Region.noSelect ops = true) (hf : Region.free md ops listed i = true) (hr : (Region.ready md ops listed).contains i = true)
    (hD : ((List.range ops.size).all fun j => !D j || ((ops[j]?.map fun o => o.after.any fun e => Region.binds md e && e.on == i).getD false)) = true)
    (hQ : ∀ c a w, Q (.panic c) (a.put (some d) v) w → Q (.panic c) a w) (hg : Region.wanted oi (yielded ops a.tmps) = true) (hy : ∀ w, S w → (execOp a.eval oi).run P w = .ok (.value v) w) (hS : S w)
    (h : wpAnyD P md ops Q S D fuel (listed.setIfInBounds i true) (a.put (some d) v) w) : wpAnyD P md ops Q S D (fuel + 1) listed a w :=
  wpAnyD_load hi hs hf hr hD (hd ▸ hQ) hg hy hS (hd ▸ h)
theorem wpAnyD_skipd {i d : Nat} {oi : Oper} {fuel : Nat} {listed : Array Bool} {a : Act} {w : World} (hi : ops[i]? = some oi)
    (hd : oi.dst = some d) (hs : Region.noSelect ops = true) (hf : Region.free md ops listed i = true) (hr : (Region.ready md ops listed).contains i = true)
    (hQ : ∀ c a w, Q (.panic c) (a.put (some d) undef) w → Q (.panic c) a w) (hg : Region.wanted oi (yielded ops a.tmps) = false)
    (h : wpAnyD P md ops Q S D fuel (listed.setIfInBounds i true) (a.put (some d) undef) w) : wpAnyD P md ops Q S D (fuel + 1) listed a w :=
  wpAnyD_skip hi hs hf hr (hd ▸ hQ) hg (hd ▸ h)
end
end Go

namespace Go.Proofs.YtljfkkpkcjigpaaGreatDoor
open Go.RowKit
set_option maxRecDepth 100000
def AnsE (W : World) (b : Nat) (w : World) (o : Option (Tk.Tok × List UInt8)) (e : Ending) (w' : World) : Prop :=
  ∃ (t : TT) (ok : Bool) (m : List UInt8), e = .returned (.tuple #[.agg (tcs t.k t.n t.s t.b t.h t.r t.c t.fr t.fc), .bool ok]) ∧ St W b m w w' ∧ ∀ v v', St W b m v v' → Ans W b v o (.returned (.tuple #[.agg (tcs t.k t.n t.s t.b t.h t.r t.c t.fr t.fc), .bool ok])) v'
theorem Ans.e {W : World} {b : Nat} {w : World} {o : Option (Tk.Tok × List UInt8)} {e : Ending} {w' : World} (h : Ans W b w o e w') : AnsE W b w o e w' := by
  rcases o with _ | ⟨t, m⟩
  · obtain ⟨⟨t, rfl⟩, m, hs⟩ := h
    exact ⟨t, false, m, rfl, hs, fun v v' hv => ⟨⟨t, rfl⟩, m, hv⟩⟩
  · obtain ⟨rfl, hs⟩ := h
    exact ⟨tk t, true, m, rfl, hs, fun v v' hv => ⟨rfl, hv⟩⟩
theorem e13 : ∀ args u, (callFunc 39 args).run Tryz.prog u = .ok (.enter 39 args) u := enters_of Tryz.func39 (by kernel_rfl) rfl
theorem eM (c : UInt8) : ∀ args u, (callFunc (mthF c) args).run Tryz.prog u = .ok (.enter (mthF c) args) u := by
  unfold mthF
  split
  · exact enters_of Tryz.func73 (by kernel_rfl) rfl
  · split
    · exact enters_of Tryz.func74 (by kernel_rfl) rfl
    · split
      · exact enters_of Tryz.func75 (by kernel_rfl) rfl
      · split
        · exact enters_of Tryz.func77 (by kernel_rfl) rfl
        · exact enters_of Tryz.func78 (by kernel_rfl) rfl
theorem meth_any {W w : World} {b : Nat} {c : UInt8} {r : List UInt8} (X : LX W b (c :: r) w) (hl : (c :: r).length ≤ 255) :
    Calls Tryz.prog (mthF c) #[.pointer (some ⟨b, 0, none⟩)] w (Ans W b w (Tk.one gnF trB pnF (c :: r))) := by
  unfold mthF Tk.one
  simp only
  by_cases hd : Ad.isD c = true
  · rw [if_pos hd, if_pos hd]
    exact number_any X hl
  rw [if_neg hd, if_neg hd]
  by_cases h34 : c = 34
  · rw [if_pos h34, if_pos h34]
    subst h34
    exact text_any X hl
  rw [if_neg h34, if_neg h34]
  by_cases h35 : c = 35
  · rw [if_pos h35, if_pos h35]
    exact fault_any X
  rw [if_neg h35, if_neg h35]
  by_cases hn : c = 91 ∨ c = 36 ∨ Ad.isL c = true
  · rw [if_pos hn, if_pos hn]
    exact name_any X hl
  rw [if_neg hn, if_neg hn]
  exact operator_any X
set_option maxHeartbeats 4000000 in
theorem next_core {W w : World} {b k n : Nat} {l : List UInt8} {A : ByteArray} {o : Option (Tk.Tok × List UInt8)} (X : LX W b l w) (hA : A = ba l) (hz : 0 < A.size) (hn : (A[0].toNat : Int) = (n : Int)) (h8 : n < 256)
    (hE : ∀ args u, (callFunc k args).run Tryz.prog u = .ok (.enter k args) u)
    (SG : ∀ u, Calls Tryz.prog 39 #[.int .i32 (n : Int)] u fun e w' => e = .returned (.func (.func k) #[] #[]) ∧ w' = u)
    (M : ∀ u, LX W b l u → Calls Tryz.prog k #[.pointer (some ⟨b, 0, none⟩)] u (AnsE W b u o)) :
    Calls Tryz.prog 41 #[.pointer (some ⟨b, 0, none⟩)] w (Ans W b w o) := by
  have hb := X.lt
  have e13 := e13
  obtain ⟨c0, c1, f0⟩ := X.cells
  obtain ⟨a0, a1, a2⟩ := (X.alloc tkO).cells
  have H0 : Hid (LX W b l (w.alloc tkO)) := X.alloc tkO
  have SG2 : ∀ u, Calls Tryz.prog 39 #[.int .i32 (A[0].toNat : Int)] u fun e w' => e = .returned (.func (.func k) #[] #[]) ∧ w' = u := by rw [hn]; exact SG
  rw [← hA] at c0 a0
  have HA : Hid (A = ba l) := hA
  have hwr : IntKind.i32.wrap (A[0].toNat : Int) = (A[0].toNat : Int) := by rw [hn]; unfold IntKind.wrap; simp [IntKind.bits, IntKind.signed]; omega
  have H1 : Hid (St W b l (w.alloc tkO) (w.alloc tkO).drew) := (St.refl H0.out).drew
  clear X hA hn SG
  go_enter Tryz.func41, Tryz.ntmps41
  go_wp2
  have HC : Hid ((w.alloc tkO).drew.cell? ⟨b, 0, none⟩ = some (.string A) ∧ (w.alloc tkO).drew.cell? ⟨b, 1, none⟩ = some chooseV) := ⟨a0, a1⟩
  refine wp_region_d (fun u => u.cell? ⟨b, 0, none⟩ = some (.string A) ∧ u.cell? ⟨b, 1, none⟩ = some chooseV) (fun _ => false) (by kernel_rfl) ?_
  refine wpAnyD_pured (i := 0) (v := .pointer (some ⟨b, 0, none⟩)) rfl rfl (by kernel_rfl) (by kernel_rfl) (by kernel_rfl) (fun _ _ _ h => h) (by go_simp) (by intro u; go_simp) ?_
  try simp only [Act.put, List.setIfInBounds_toArray, List.set_cons_zero, List.set_cons_succ]
  refine wpAnyD_pured (i := 1) (v := .pointer (some ⟨b, 0, none⟩)) rfl rfl (by kernel_rfl) (by kernel_rfl) (by kernel_rfl) (fun _ _ _ h => h) (by go_simp) (by intro u; go_simp) ?_
  try simp only [Act.put, List.setIfInBounds_toArray, List.set_cons_zero, List.set_cons_succ]
  refine wpAnyD_pured (i := 2) (v := .pointer (some ⟨b, 1, none⟩)) rfl rfl (by kernel_rfl) (by kernel_rfl) (by kernel_rfl) (fun _ _ _ h => h) (by go_simp) (by intro u; go_simp) ?_
  try simp only [Act.put, List.setIfInBounds_toArray, List.set_cons_zero, List.set_cons_succ]
  refine wpAnyD_loadd (i := 3) (v := chooseV) rfl rfl (by kernel_rfl) (by kernel_rfl) (by kernel_rfl) (by kernel_rfl) (fun _ _ _ h => h) (by go_simp) (fun u hSu => by obtain ⟨k0, k1⟩ := hSu; go_simp) HC.out ?_
  try simp only [Act.put, List.setIfInBounds_toArray, List.set_cons_zero, List.set_cons_succ]
  refine wpAnyD_pured (i := 4) (v := .pointer (some ⟨b, 0, none⟩)) rfl rfl (by kernel_rfl) (by kernel_rfl) (by kernel_rfl) (fun _ _ _ h => h) (by go_simp) (by intro u; go_simp) ?_
  try simp only [Act.put, List.setIfInBounds_toArray, List.set_cons_zero, List.set_cons_succ]
  refine wpAnyD_pured (i := 5) (v := .pointer (some ⟨b, 0, none⟩)) rfl rfl (by kernel_rfl) (by kernel_rfl) (by kernel_rfl) (fun _ _ _ h => h) (by go_simp) (by intro u; go_simp) ?_
  try simp only [Act.put, List.setIfInBounds_toArray, List.set_cons_zero, List.set_cons_succ]
  refine wpAnyD_pured (i := 6) (v := .pointer (some ⟨b, 0, none⟩)) rfl rfl (by kernel_rfl) (by kernel_rfl) (by kernel_rfl) (fun _ _ _ h => h) (by go_simp) (by intro u; go_simp) ?_
  try simp only [Act.put, List.setIfInBounds_toArray, List.set_cons_zero, List.set_cons_succ]
  refine wpAnyD_loadd (i := 7) (v := .string A) rfl rfl (by kernel_rfl) (by kernel_rfl) (by kernel_rfl) (by kernel_rfl) (fun _ _ _ h => h) (by go_simp) (fun u hSu => by obtain ⟨k0, k1⟩ := hSu; go_simp) HC.out ?_
  try simp only [Act.put, List.setIfInBounds_toArray, List.set_cons_zero, List.set_cons_succ]
  refine wpAnyD_pured (i := 8) (v := .int .u8 (A[0].toNat : Int)) rfl rfl (by kernel_rfl) (by kernel_rfl) (by kernel_rfl) (fun _ _ _ h => h) (by go_simp) (by intro u; go_simp) ?_
  try simp only [Act.put, List.setIfInBounds_toArray, List.set_cons_zero, List.set_cons_succ]
  refine wpAnyD_pured (i := 9) (v := .int .i32 (A[0].toNat : Int)) rfl rfl (by kernel_rfl) (by kernel_rfl) (by kernel_rfl) (fun _ _ _ h => h) (by go_simp) (by intro u; go_simp) ?_
  try simp only [Act.put, List.setIfInBounds_toArray, List.set_cons_zero, List.set_cons_succ]
  refine wpAnyD_one (i := 10) (by kernel_rfl) rfl ?_
  intro K hK
  go_simp
  refine (SG2 _).mono ?_
  rintro e w' ⟨rfl, hw⟩
  obtain rfl := hw.symm
  clear hw
  refine hK _ _ (.inr fun h => h) ?_
  clear hK
  try simp only [Act.put, List.setIfInBounds_toArray, List.set_cons_zero, List.set_cons_succ]
  refine wpAnyD_pured (i := 11) (v := .func (.func k) #[] #[]) rfl rfl (by kernel_rfl) (by kernel_rfl) (by kernel_rfl) (fun _ _ _ h => h) (by go_simp) (by intro u; go_simp) ?_
  try simp only [Act.put, List.setIfInBounds_toArray, List.set_cons_zero, List.set_cons_succ]
  refine wpAnyD_done (by kernel_rfl) ?_ _
  go_wp2_with (first
    | (go_at_fn k; refine (M _ H1.out.1).mono ?_; rintro e w2 ⟨t, ok, m, rfl, hs, ha⟩; have H2 : Hid (St W b m (w.alloc tkO) w2) := H1.out.step hs; have HF : Hid (∀ v v', St W b m v v' → Ans W b v o (.returned (.tuple #[.agg (tcs t.k t.n t.s t.b t.h t.r t.c t.fr t.fc), .bool ok])) v') := ha; have RR := H2.out.put hb t.k t.n t.s t.b t.h t.r t.c t.fr t.fc; clear hs ha)
    | (refine wpList_store_run rfl 70 _ _ rfl _ _ _ rfl rfl RR.out ?_))
  exact bodyPost_ret (v := .tuple #[.agg (tcs t.k t.n t.s t.b t.h t.r t.c t.fr t.fc), .bool ok]) (H2.out.ans hb (tcs t.k t.n t.s t.b t.h t.r t.c t.fr t.fc) rfl rfl rfl rfl) rfl (HF.out _ _ (H2.out.fin hb _))
theorem next_any {W w : World} {b : Nat} {c : UInt8} {r : List UInt8} (X : LX W b (c :: r) w) (hl : (c :: r).length ≤ 255) :
    Calls Tryz.prog 41 #[.pointer (some ⟨b, 0, none⟩)] w (Ans W b w (Tk.one gnF trB pnF (c :: r))) := by
  have hz : 0 < (ba (c :: r)).size := by rw [size_mk]; simp
  refine next_core (A := ba (c :: r)) X rfl hz (n := c.toNat) ?_ c.toNat_lt (eM c) (fun u => sign_any c u) (fun u Y => (meth_any Y hl).mono fun e w' h => h.e)
  rw [ba_get (c :: r) 0 (by simp) hz]
  rfl
end Go.Proofs.YtljfkkpkcjigpaaGreatDoor
