/- SAdd0. -/
import Derived.Test.YtpafokmkcblcnaaGreatDoorSDropCr
import Derived.Test.YtpafokmkcblcnaaGreatDoorSChk2Cr
set_option linter.unusedVariables false
set_option linter.unusedSimpArgs false
namespace Go.Proofs.YtpafokmkcblcnaaGreatDoor.Sh
open Go.RowKit Go.Fm
set_option maxRecDepth 100000
def addE (x : BookT) (s : ByteArray) (at_ : Int) (L : List CellT) : Int :=
  if gnF s.data.toList = false then 8 else if 0 ≤ idxI (idxN x.sheets s) then 7 else if at_ < 0 ∨ (x.sheets.length : Int) < at_ ∨ laidB L = false ∨ textsF L ≠ 0 then 9 else if 4 ≤ x.sheets.length then 15 else if 200 < cntL x.sheets + L.length then 5 else 0
def addAt (x : BookT) (i : Nat) (t : SheetT) : BookT := ⟨x.sheets.take i ++ t :: x.sheets.drop i, x.names, x.links⟩
theorem pairs_add {L : List SheetT} {cv : Nat → Value} {i : Nat} {t : SheetT} {v : Value} (hi : i ≤ L.length) : (pairs L cv).take i ++ (t, v) :: (pairs L cv).drop i = pairs (L.take i ++ t :: L.drop i) (fun j => if j < i then cv j else if j = i then v else cv (j - 1)) := by
  apply List.ext_getElem?
  intro k
  have hl : ((pairs L cv).take i).length = i := by rw [List.length_take]; simp; omega
  have hl2 : (L.take i).length = i := by rw [List.length_take]; omega
  rw [List.getElem?_append, hl, List.getElem?_mapIdx, List.getElem?_append, hl2]
  by_cases h1 : k < i
  · rw [if_pos h1, if_pos h1, List.getElem?_take, if_pos h1, List.getElem?_take, if_pos h1, List.getElem?_mapIdx]
    cases L[k]? <;> simp [h1]
  · rw [if_neg h1, if_neg h1]
    by_cases h2 : k = i
    · subst h2
      simp
    · obtain ⟨m, hm⟩ : ∃ m, k = i + (m + 1) := ⟨k - i - 1, by omega⟩
      subst hm
      rw [show i + (m + 1) - i = m + 1 by omega, List.getElem?_cons_succ, List.getElem?_cons_succ, List.getElem?_drop, List.getElem?_drop, List.getElem?_mapIdx]
      have e1 : ¬ i + (m + 1) < i := by omega
      have e2 : ¬ i + (m + 1) = i := by omega
      have e3 : i + (m + 1) - 1 = i + m := by omega
      cases L[i + m]? with
      | none => simp
      | some y =>
        simp only [Option.map_some, if_neg e1, if_neg e2, e3]
theorem add_get {x : BookT} {i j : Nat} {t o : SheetT} (hi : i ≤ x.sheets.length) (h : (addAt x i t).sheets[j]? = some o) : (j = i ∧ o = t) ∨ (j < i ∧ x.sheets[j]? = some o) ∨ (i < j ∧ x.sheets[j - 1]? = some o) := by
  have hl2 : (x.sheets.take i).length = i := by rw [List.length_take]; omega
  simp only [addAt] at h
  rw [List.getElem?_append, hl2] at h
  by_cases h1 : j < i
  · rw [if_pos h1, List.getElem?_take, if_pos h1] at h
    exact .inr (.inl ⟨h1, h⟩)
  · rw [if_neg h1] at h
    by_cases h2 : j = i
    · subst h2
      simp at h
      exact .inl ⟨rfl, h.symm⟩
    · obtain ⟨m, hm⟩ : ∃ m, j = i + (m + 1) := ⟨j - i - 1, by omega⟩
      subst hm
      rw [show i + (m + 1) - i = m + 1 by omega, List.getElem?_cons_succ, List.getElem?_drop] at h
      refine .inr (.inr ⟨by omega, ?_⟩)
      rw [show i + (m + 1) - 1 = i + m by omega]
      exact h
theorem add_own {base gs gn gl gL i : Nat} {w1 w3 : World} {x : BookT} {t : SheetT} {v : Value} (h : CpB base w1 gs gn gl x) (hz : Small x) (hi : i ≤ x.sheets.length) (ht : t.cells.length ≤ 1000) (hL : w3.heap[gL]? = some (.cells (t.cells.flatMap cellC).toArray 57)) (hgL : base ≤ gL)
    (hv : w3.ownsRow base 78 2 v (x.sheets.length + 1) ((pairs (addAt x i t).sheets (fun j => if j < i then newS (gs + 1 + j) ((x.sheets[j]?.map (·.cells.length)).getD 0) else if j = i then newS gL t.cells.length else newS (gs + 1 + (j - 1)) ((x.sheets[j - 1]?.map (·.cells.length)).getD 0))).flatMap pairC))
    (hk : ∀ g cur (t : TypeId), t ≠ 26 → g ≠ gs → w1.heap[g]? = some (.cells cur t (0, 0)) → w3.heap[g]? = w1.heap[g]?) :
    OwnB base w3 v (newS gn x.names.length) (newS gl x.links.length) (addAt x i t) := by
  have b1 := h.b1
  have b2 := h.b2
  have b3 := h.b3
  have k3 : ∀ g cur (t : TypeId), t ≠ 26 → g ≠ gs → w1.heap[g]? = some (.cells cur t (0, 0)) → w3.heap[g]? = some (.cells cur t (0, 0)) := fun g cur t ht hne ho => (hk g cur t ht hne ho).trans ho
  have hxl : (addAt x i t).sheets.length = x.sheets.length + 1 := by simp [addAt]; omega
  refine ⟨⟨_, by rw [hxl]; exact hv, fun j o hj => ?_⟩, ?_, ?_⟩
  · rcases add_get hi hj with ⟨rfl, rfl⟩ | ⟨e, hj2⟩ | ⟨e, hj2⟩
    · try dsimp only
      rw [if_neg (by omega), if_pos rfl]
      exact owns_new hL (by rw [fl_len cellC_len]) hgL (le_maxLen ht)
    · obtain ⟨hl, ho⟩ := List.getElem?_eq_some_iff.1 hj2
      have hcl := h.cls _ hl
      rw [ho] at hcl
      try dsimp only
      rw [if_pos e, hj2]
      exact owns_new (k3 _ _ _ (by decide) (by omega) hcl) (by rw [fl_len cellC_len]; rfl) (by omega) (le_maxLen (hz.cl o (by rw [← ho]; exact List.getElem_mem hl)))
    · obtain ⟨hl, ho⟩ := List.getElem?_eq_some_iff.1 hj2
      have hcl := h.cls _ hl
      rw [ho] at hcl
      try dsimp only
      rw [if_neg (by omega), if_neg (by omega), hj2]
      exact owns_new (k3 _ _ _ (by decide) (by omega) hcl) (by rw [fl_len cellC_len]; rfl) (by omega) (le_maxLen (hz.cl o (by rw [← ho]; exact List.getElem_mem hl)))
  · exact owns_new (k3 _ _ _ (by decide) (by omega) h.nms) (by rw [fl_len nameC_len]; rfl) (by omega) (le_maxLen hz.nm)
  · exact owns_new (k3 _ _ _ (by decide) (by omega) h.lks) (by rw [fl_len linkC_len]; rfl) (by omega) (le_maxLen hz.lk)
theorem sbuild (u : World) (s : ByteArray) (a : Option Addr) (n c : Nat) : (Instr.build 78 #[(0, .string s), (1, .slice a n c)]).run Tryz.prog u = .ok (.agg #[.string s, .slice a n c]) u := by kernel_rfl
theorem sslice_one (u : World) (s : ByteArray) (a : Option Addr) (n c : Nat) : (Instr.buildSlice 22 1 #[(0, .agg #[.string s, .slice a n c])]).run Tryz.prog u = .ok (.slice (some ⟨u.heap.size, 0, none⟩) 1 1) (u.alloc (.cells #[.string s, .slice a n c] 78)) := by kernel_rfl
theorem add_tail {w v : World} {gs gn gl i : Nat} {x : BookT} (h : CpB w.heap.size v gs gn gl x) (hz : Small x) (hi : i ≤ x.sheets.length) (hb : Below w.heap.size w v) (hgs : w.heap.size + 1 < gs) (hX1 : v.heap[w.heap.size + 1]? = some (.cells #[.slice none 0 0, .slice none 0 0, .slice none 0 0] 26)) (s : ByteArray) {lo hi2 : Nat} {a : Option Addr} {c : Nat} {L : List CellT} (hL : Cls lo hi2 w (.slice a L.length c) L) (hhi : hi2 ≤ w.heap.size) (hln : L.length ≤ 1000) :
    ∃ V : World, V = v.alloc (.cells #[newS gs x.sheets.length, newS gn x.names.length, newS gl x.links.length] 26) ∧ V.cell? ⟨v.heap.size, 0, none⟩ = some (newS gs x.sheets.length) ∧
      Calls Tryz.prog 62 #[.slice a L.length c] V.drew fun e w2 => ∃ gL, e = .returned (newS gL L.length) ∧ w2.cell? ⟨v.heap.size, 0, none⟩ = some (newS gs x.sheets.length) ∧
        Hid (Calls Tryz.prog 78 #[newS gs x.sheets.length, .int .i64 (i : Nat), .slice (some ⟨w2.heap.size, 0, none⟩) 1 1] (w2.alloc (.cells #[.string s, newS gL L.length] 78)) fun e w4 => ∃ pa pn pc w5 w6, e = .returned (.slice pa pn pc) ∧
          Hid ((Instr.storeAt 22 (.pointer (some ⟨v.heap.size, 0, none⟩)) (.slice pa pn pc)).run Tryz.prog w4 = .ok () w5) ∧
          Hid ((Instr.loadAt 26 (.pointer (some ⟨v.heap.size, 0, none⟩))).run Tryz.prog w5 = .ok (.agg #[.slice pa pn pc, newS gn x.names.length, newS gl x.links.length]) w5) ∧
          Hid ((Instr.storeAt 26 (.pointer (some ⟨w.heap.size + 1, 0, none⟩)) (.agg #[.slice pa pn pc, newS gn x.names.length, newS gl x.links.length])).run Tryz.prog w5 = .ok () w6) ∧
          Hid (w6.heap[w.heap.size + 1]? = some (.cells #[.slice pa pn pc, newS gn x.names.length, newS gl x.links.length] 26)) ∧
          Hid (OwnB w.heap.size w6 (.slice pa pn pc) (newS gn x.names.length) (newS gl x.links.length) (addAt x i ⟨s, L⟩)) ∧ Hid (Below w.heap.size w w6)) := by
  have b1 := h.b1
  have hbV : Below v.heap.size v (v.alloc (.cells #[newS gs x.sheets.length, newS gn x.names.length, newS gl x.links.length] 26)) := Sh.bel_alloc (Below.refl _ _) (Nat.le_refl _) _
  obtain ⟨V, hV⟩ : ∃ V, V = v.alloc (.cells #[newS gs x.sheets.length, newS gn x.names.length, newS gl x.links.length] 26) := ⟨_, rfl⟩
  rw [← hV] at hbV
  have hX : V.heap[v.heap.size]? = some (.cells #[newS gs x.sheets.length, newS gn x.names.length, newS gl x.links.length] 26) := by rw [hV]; exact heap_alloc_new v _
  have hbw : Below w.heap.size w V := Sh.bel_step hb hb.size hbV
  have hx1l := blk_lt hX1
  refine ⟨V, hV, cell_heap hX rfl, ?_⟩
  refine (copied_62 (w := V.drew) (hL.below hhi hbw.drew).src (by rw [fl_len cellC_len]) (fl_one cellC_one L) (by omega)).mono ?_
  rintro e w2 ⟨rfl, q1, q2, q3⟩
  have q3' : Below V.heap.size V w2 := ⟨q3.os, q3.tape, q3.output, q3.size, q3.block⟩
  have hX2 := (q3'.block _ (blk_lt hX)).trans hX
  refine ⟨_, rfl, cell_heap hX2 rfl, ?_⟩
  obtain ⟨W3, hW3⟩ : ∃ W3, W3 = w2.alloc (.cells #[.string s, newS V.drew.heap.size L.length] 78) := ⟨_, rfl⟩
  have hb3 : Below w2.heap.size w2 W3 := by rw [hW3]; exact Sh.bel_alloc (Below.refl _ _) (Nat.le_refl _) _
  have hbV3 : Below V.heap.size V W3 := Sh.bel_step q3' q3'.size hb3
  have hC := (h.below hbV).below hbV3
  obtain ⟨cur, r1, r2, r3, r4⟩ := hC.flat
  have hnew : W3.heap[w2.heap.size]? = some (.cells #[.string s, newS V.drew.heap.size L.length] 78) := by rw [hW3]; exact heap_alloc_new w2 _
  have hcur : cur = cur.toList.toArray := by simp
  rw [hcur] at r1
  have hxs : x.sheets.length ≤ 1000 := hz.sh
  show Calls _ _ _ _ _
  rw [← hW3]
  refine (insert_78 (base := w.heap.size) (es := [.string s, newS V.drew.heap.size L.length]) r1 (by rw [Array.length_toList]; exact r2) (by omega) hxs hi hnew rfl (by simp [Value.oneCell']) r4).mono ?_
  rintro e w4 ⟨⟨v', rfl, ho⟩, hg⟩
  have hbw3 : Below w.heap.size w W3 := Sh.bel_step hbw hbw.size hbV3
  have k4 : ∀ g o, W3.heap[g]? = some o → g ≠ gs → w4.heap[g]? = some o := fun g o hgo hne => (hg.block g (blk_lt hgo) (by simpa using hne)).trans hgo
  have hX3 := (hbV3.block _ (blk_lt hX)).trans hX
  have hgx : v.heap.size ≠ gs := by
    intro eq
    rw [eq, r1] at hX3
    simp at hX3
  have hX1V := (hbV.block _ (blk_lt hX1)).trans hX1
  have hX13 := (hbV3.block _ (blk_lt hX1V)).trans hX1V
  have hL3 : W3.heap[V.drew.heap.size]? = some (.cells (L.flatMap cellC).toArray 57) := (hb3.block _ (blk_lt q1)).trans q1
  have hLg : V.drew.heap.size ≠ gs := by
    intro eq
    rw [eq, r1] at hL3
    simp at hL3
  obtain ⟨pa, pc, rfl⟩ := owns_slice ho
  have s4 := k4 _ _ hX3 hgx
  have hset := set_at (i := 0) (v := .slice pa (x.sheets.length + 1) pc) s4
  have hbox : (w4.setCell ⟨v.heap.size, 0, none⟩ (.slice pa (x.sheets.length + 1) pc)).heap[v.heap.size]? = some (.cells #[.slice pa (x.sheets.length + 1) pc, newS gn x.names.length, newS gl x.links.length] 26) := by
    rw [hset]
    exact setRow_heap _ _ _ _ _ _ s4
  have hres : (w4.setCell ⟨v.heap.size, 0, none⟩ (.slice pa (x.sheets.length + 1) pc)).heap[w.heap.size + 1]? = some (.cells #[.slice none 0 0, .slice none 0 0, .slice none 0 0] 26) := by
    rw [hset, setRow_other _ _ _ _ (by omega)]
    exact k4 _ _ hX13 (by omega)
  refine ⟨pa, _, pc, w4.setCell ⟨v.heap.size, 0, none⟩ (.slice pa (x.sheets.length + 1) pc), _, rfl, ?_, ldB hbox, stBk hres rfl rfl (by simp [Value.oneCell']), setRow_heap _ _ _ _ _ _ hres, ?_, ?_⟩
  · have hst := run_storeCells_at Tryz.prog v.heap.size 0 26 [.slice pa (x.sheets.length + 1) pc] 0 _ w4 s4 (by simp) (by simp [Value.oneCell'])
    have z22 := Tryz.sizeOf22 w4
    rw [hset]
    show _ = _
    simp only [Instr.storeAt, Instr.sureAddr, storeVar, Sem.run_bind, Sem.run_pure, Result.andThen_ok, z22, Value.cells]
    simpa using hst
  · have hkk : ∀ g cur' (ty : TypeId), ty ≠ 26 → g ≠ gs → W3.heap[g]? = some (.cells cur' ty (0, 0)) → ((w4.setCell ⟨v.heap.size, 0, none⟩ (.slice pa (x.sheets.length + 1) pc)).setRow (w.heap.size + 1) #[.slice pa (x.sheets.length + 1) pc, newS gn x.names.length, newS gl x.links.length]).heap[g]? = W3.heap[g]? := fun g cur' ty hty hne hgc => by
      have hg1 : g ≠ w.heap.size + 1 := by
        intro eq
        rw [eq, hX13] at hgc
        cases hgc
        exact hty rfl
      have hg2 : g ≠ v.heap.size := by
        intro eq
        rw [eq, hX3] at hgc
        cases hgc
        exact hty rfl
      rw [setRow_other _ _ _ _ hg1, hset, setRow_other _ _ _ _ hg2]
      exact (k4 _ _ hgc hne).trans hgc.symm
    refine add_own (t := ⟨s, L⟩) hC hz hi hln ((hkk _ _ _ (by decide) hLg hL3).trans hL3) (by have := hbw.size; show _ ≤ V.heap.size; omega) ?_ hkk
    refine owns_keep (w := w4) ?_ (fun g cur' hgc he => ?_)
    · rw [r3, ← fl_take (enc := pairC) pairC_len, ← fl_drop (enc := pairC) pairC_len] at ho
      have e0 : [Value.string s, newS V.drew.heap.size L.length] = [((⟨s, L⟩ : SheetT), newS V.drew.heap.size L.length)].flatMap pairC := rfl
      rw [e0, ← List.flatMap_append, ← List.flatMap_append, List.append_assoc, List.singleton_append, pairs_add hi] at ho
      exact ho
    · have hg1 : g ≠ w.heap.size + 1 := by
        intro eq
        rw [eq, k4 _ _ hX13 (by omega)] at hgc
        simp at hgc
      have hg2 : g ≠ v.heap.size := by
        intro eq
        rw [eq, s4] at hgc
        simp at hgc
      rw [setRow_other _ _ _ _ hg1, hset, setRow_other _ _ _ _ hg2]
  · rw [hset]
    have hb4 : Below w.heap.size w w4 := hbw3.grown hg hbw3.size (fun k hk => by cases hk; omega)
    exact below_setRow (below_setRow hb4 hb.size _) (by omega) _
end Go.Proofs.YtpafokmkcblcnaaGreatDoor.Sh
