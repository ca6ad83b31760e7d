/- SOwn, SPutB0. -/
import Derived.Test.YtpafokmkcblcnaaGreatDoorSWithCr
import Derived.Test.YtpafokmkcblcnaaGreatDoorSChk2Cr
set_option linter.unusedVariables false
set_option linter.unusedSimpArgs false
namespace Go.Proofs.YtpafokmkcblcnaaGreatDoor.Sh
open Go.RowKit Go.Fm
set_option maxRecDepth 100000
abbrev pairs (L : List SheetT) (cv : Nat → Value) : List (SheetT × Value) := L.mapIdx fun j s => (s, cv j)
abbrev pairC (p : SheetT × Value) : List Value := sheetC p.1 p.2
structure OwnB (base : Nat) (w : World) (sv nv lv : Value) (x : BookT) : Prop where
  sh : ∃ cv, w.ownsRow base 78 2 sv x.sheets.length ((pairs x.sheets cv).flatMap pairC) ∧ ∀ j o, x.sheets[j]? = some o → w.ownsRow base 57 3 (cv j) o.cells.length (o.cells.flatMap cellC)
  nm : w.ownsRow base 89 3 nv x.names.length (x.names.flatMap nameC)
  lk : w.ownsRow base 91 7 lv x.links.length (x.links.flatMap linkC)
theorem owns_rws {α : Type} {enc : α → List Value} {sz base : Nat} {t : TypeId} {w : World} {v : Value} {L : List α} (he : ∀ x, (enc x).length = sz) (h : w.ownsRow base t sz v L.length (L.flatMap enc)) : Rws base w.heap.size sz w v L.length fun j => (L[j]?.map enc).getD [] := by
  rcases h.2 with ⟨rfl, h0⟩ | ⟨g, cap, cur, rfl, hb, hg, hn, hm, hs, hx⟩
  · exact .inl ⟨rfl, h0⟩
  · exact (rws_of he hg hx hn hm).mono hb (blk_lt hg)
theorem OwnB.bkm {base : Nat} {w : World} {sv nv lv : Value} {x : BookT} (h : OwnB base w sv nv lv x) : BkM base w.heap.size w sv nv lv x := by
  obtain ⟨cv, h1, h2⟩ := h.sh
  refine ⟨⟨cv, ?_, fun j o hj => owns_rws cellC_len (h2 j o hj)⟩, owns_rws nameC_len h.nm, owns_rws linkC_len h.lk⟩
  have hl : (pairs x.sheets cv).length = x.sheets.length := by simp
  have := owns_rws (enc := pairC) (L := pairs x.sheets cv) pairC_len (by rw [hl]; exact h1)
  rw [hl] at this
  refine this.congr fun j hj => ?_
  simp [sheetsC, List.getElem?_eq_getElem hj]
theorem owns_slice {base : Nat} {t : TypeId} {sz n : Nat} {w : World} {v : Value} {xs : List Value} (h : w.ownsRow base t sz v n xs) : ∃ a c, v = .slice a n c := by
  rcases h.2 with ⟨rfl, rfl⟩ | ⟨g, cap, cur, rfl, _⟩
  · exact ⟨_, _, rfl⟩
  · exact ⟨_, _, rfl⟩
theorem owns_keep {base : Nat} {t : TypeId} {sz n : Nat} {w w' : World} {v : Value} {xs : List Value} (h : w.ownsRow base t sz v n xs) (hk : ∀ g cur, w.heap[g]? = some (.cells cur t (0, 0)) → v.ownBlock = some g → w'.heap[g]? = w.heap[g]?) : w'.ownsRow base t sz v n xs := by
  refine ownsRow_of_block h fun g hg => ?_
  rcases h.2 with ⟨rfl, _⟩ | ⟨g', cap, cur, rfl, _, h3, _⟩
  · cases hg
  · cases hg
    exact hk _ _ h3 rfl
theorem row_flat {L : List SheetT} {cv : Nat → Value} {cur : Array Value} (hs : cur.size = L.length * 2) (hc : ∀ j (hj : j < L.length), cur[j * 2]? = some (.string L[j].name) ∧ cur[j * 2 + 1]? = some (cv j)) : cur.toList = (pairs L cv).flatMap pairC := by
  have hl : (pairs L cv).length = L.length := by simp
  apply List.ext_getElem?
  intro k
  by_cases hk : k < L.length * 2
  · have hq : k / 2 < L.length := by omega
    have hd : k / 2 * 2 + k % 2 = k := by omega
    have hf := fl_at (enc := pairC) pairC_len (pairs L cv) (k / 2) (k % 2) (by rw [hl]; exact hq) (by omega)
    rw [hd] at hf
    rw [hf, Array.getElem?_toList]
    have hh := hc (k / 2) hq
    rcases Nat.mod_two_eq_zero_or_one k with e | e
    · rw [e]
      have h1 := hh.1
      rw [show k / 2 * 2 = k by omega] at h1
      rw [h1]
      simp [sheetC]
    · rw [e]
      have h1 := hh.2
      rw [show k / 2 * 2 + 1 = k by omega] at h1
      rw [h1]
      simp [sheetC]
  · rw [List.getElem?_eq_none (by rw [Array.length_toList, hs]; omega), List.getElem?_eq_none (by rw [fl_len (enc := pairC) pairC_len, hl]; omega)]
def putAt (x : BookT) (i : Nat) (t : CellT) : BookT := ⟨x.sheets.modify i fun s => ⟨s.name, putC s.cells t⟩, x.names, x.links⟩
theorem putAt_len (x : BookT) (i : Nat) (t : CellT) : (putAt x i t).sheets.length = x.sheets.length := by simp [putAt]
theorem put_own {base gs gn gl i : Nat} {w1 w2 w3 : World} {x : BookT} {t : CellT} {v : Value} (h : CpB base w1 gs gn gl x) (hz : Small x) (hi : i < x.sheets.length)
    (h2 : w2.ownsRow base 57 3 v (putC x.sheets[i].cells t).length ((putC x.sheets[i].cells t).flatMap cellC)) (hg : w1.grownBy w2 (some (gs + 1 + i))) (hnew : v.ownBlock ≠ some gs)
    (h3 : ∀ cur, w2.heap[gs]? = some (.cells cur 78 (0, 0)) → w3.heap[gs]? = some (.cells (cur.setIfInBounds (i * 2 + 1) v) 78 (0, 0))) (hk : ∀ g cur (t : TypeId), g ≠ gs → t ≠ 26 → w2.heap[g]? = some (.cells cur t (0, 0)) → w3.heap[g]? = w2.heap[g]?) :
    OwnB base w3 (newS gs x.sheets.length) (newS gn x.names.length) (newS gl x.links.length) (putAt x i t) := by
  obtain ⟨cur, r1, r2, r3⟩ := h.row
  have b1 := h.b1
  have b2 := h.b2
  have b3 := h.b3
  have k2 : ∀ g o, w1.heap[g]? = some o → g ≠ gs + 1 + i → w2.heap[g]? = some o := fun g o hgo hne => (hg.block g (blk_lt hgo) (by simpa using hne)).trans hgo
  have k3 : ∀ g cur (t : TypeId), g ≠ gs → t ≠ 26 → w2.heap[g]? = some (.cells cur t (0, 0)) → w3.heap[g]? = some (.cells cur t (0, 0)) := fun g cur t hne ht ho => (hk g cur t hne ht ho).trans ho
  have q1 := h3 _ (k2 _ _ r1 (by omega))
  have hxs : (putAt x i t).sheets.length = x.sheets.length := putAt_len x i t
  have hgx : ∀ j (hj : j < x.sheets.length), (putAt x i t).sheets[j]'(by omega) = if i = j then ⟨x.sheets[j].name, putC x.sheets[j].cells t⟩ else x.sheets[j] := fun j hj => by
    simp only [putAt, List.getElem_modify]
  refine ⟨⟨fun j => if j = i then v else newS (gs + 1 + j) ((x.sheets[j]?.map (·.cells.length)).getD 0), ⟨?_, .inr ⟨gs, x.sheets.length, _, by rw [hxs], b1, q1, by omega, le_maxLen hz.sh, by simpa using r2, ?_⟩⟩, fun j o hj => ?_⟩, ?_, ?_⟩
  · rw [fl_len (enc := pairC) pairC_len]
    simp
  · rw [hxs, List.take_of_length_le (by rw [Array.length_toList, Array.size_setIfInBounds]; omega)]
    refine row_flat (by rw [Array.size_setIfInBounds, hxs]; exact r2) fun j hj => ?_
    rw [hxs] at hj
    have hr := r3 j hj
    rw [hgx j hj, Array.getElem?_setIfInBounds_ne (by omega), hr.1]
    refine ⟨by split <;> rfl, ?_⟩
    by_cases e : j = i
    · subst e
      rw [Array.getElem?_setIfInBounds_self_of_lt (by omega), if_pos rfl]
    · rw [Array.getElem?_setIfInBounds_ne (by omega), if_neg e, hr.2]
      simp [List.getElem?_eq_getElem hj]
  · obtain ⟨hjl, ho⟩ := List.getElem?_eq_some_iff.1 hj
    rw [hxs] at hjl
    rw [hgx j hjl] at ho
    by_cases e : j = i
    · subst e
      rw [if_pos rfl] at ho
      subst ho
      dsimp only
      rw [if_pos rfl]
      refine owns_keep h2 fun g cur' hgc he => hk g cur' 57 (fun eq => hnew (by rw [he, eq])) (by decide) hgc
    · rw [if_neg (fun eq => e eq.symm)] at ho
      subst ho
      dsimp only
      rw [if_neg e, List.getElem?_eq_getElem hjl]
      have hc := k3 _ _ _ (by omega) (by decide) (k2 _ _ (h.cls j hjl) (by omega))
      exact owns_new hc (by rw [fl_len cellC_len]; rfl) (by omega) (le_maxLen (hz.cl _ (List.getElem_mem hjl)))
  · exact owns_new (k3 _ _ _ (by omega) (by decide) (k2 _ _ h.nms (by omega))) (by rw [fl_len nameC_len]; rfl) (by omega) (le_maxLen hz.nm)
  · exact owns_new (k3 _ _ _ (by omega) (by decide) (k2 _ _ h.lks (by omega))) (by rw [fl_len linkC_len]; rfl) (by omega) (le_maxLen hz.lk)
end Go.Proofs.YtpafokmkcblcnaaGreatDoor.Sh

namespace Go.Proofs.YtpafokmkcblcnaaGreatDoor.Sh
open Go.RowKit Go.Fm
set_option maxRecDepth 100000
def Rises (x : BookT) : Prop := ∀ s ∈ x.sheets, Rise s.cells
def full (x : BookT) (i : Nat) (r c : Int) (t : ByteArray) : Bool := !(t.toList == []) && (decide (200 ≤ cntL x.sheets) && !(((x.sheets[i]?.map (·.cells)).getD []).any (atB r c)))
def putE (x : BookT) (s : ByteArray) (r c : Int) (t : ByteArray) : Int :=
  if mayF t = 3 then 3 else match idxN x.sheets s with
    | none => 6
    | some i => if insB r c = false then 9 else if mayF t ≠ 0 then mayF t else if full x i r c t = true then 5 else 0
abbrev nil3 : Value := .agg #[.slice none 0 0, .slice none 0 0, .slice none 0 0]
def PutP (w : World) (err : Int) (y : BookT) (e : Ending) (w' : World) : Prop :=
  (if err = 0 then ∃ sv nv lv, e = .returned (.tuple #[.agg #[sv, nv, lv], .int .i64 0]) ∧ OwnB w.heap.size w' sv nv lv y else e = .returned (.tuple #[nil3, .int .i64 err])) ∧ Below w.heap.size w w'
theorem bbuild0 (u : World) : (Instr.build 26 #[]).run Tryz.prog u = .ok nil3 u := by kernel_rfl
theorem res2 {fn : Func} {p q : Tmp} (h : fn.results = #[.cell p 26, .tmp q]) {tmps : Array Value} {w : World} {g : Nat} {y : Array Value} {v2 : Value} (hp : tmps.getD p undef = .pointer (some ⟨g, 0, none⟩)) (hg : w.heap[g]? = some (.cells y 26)) (hy : y.size = 3) (hv : tmps.getD q undef = v2) :
    (results fn tmps).run Tryz.prog w = .ok (.tuple #[.agg y, v2]) w := by
  have hi : (Tryz.prog.info? 26).map (·.size) = some y.size := by rw [hy]; kernel_rfl
  rw [results_cell_tmp h, hp, hv]
  simp [asAddr, run_loadVar_row (P := Tryz.prog) w g 26 26 y (0, 0) _ hg Tryz.underlying26 rfl hi, Result.andThen]
theorem out_err {w u : World} (hu : Below w.heap.size w u) {g : Nat} (hg : u.heap[g]? = some (.cells #[.slice none 0 0, .slice none 0 0, .slice none 0 0] 26)) (hb : w.heap.size ≤ g) :
    Hid ((Instr.storeAt 26 (.pointer (some ⟨g, 0, none⟩)) nil3).run Tryz.prog u = .ok () (u.setRow g #[.slice none 0 0, .slice none 0 0, .slice none 0 0])) ∧ Hid ((u.setRow g #[.slice none 0 0, .slice none 0 0, .slice none 0 0]).heap[g]? = some (.cells #[.slice none 0 0, .slice none 0 0, .slice none 0 0] 26)) ∧ Hid (Below w.heap.size w (u.setRow g #[.slice none 0 0, .slice none 0 0, .slice none 0 0])) :=
  ⟨stBk hg rfl rfl (by simp [Value.oneCell']), setRow_heap _ _ _ _ _ _ hg, below_setRow hu hb _⟩
theorem cnt_small {x : BookT} (h : Small x) : cntL x.sheets ≤ 1000000 := by
  have : ∀ (L : List SheetT), (∀ s ∈ L, s.cells.length ≤ 1000) → cntL L ≤ L.length * 1000 := by
    intro L
    induction L with
    | nil => intro _; simp [cntL]
    | cons s r ih =>
      intro h
      have h1 := h s (by simp)
      have h2 := ih (fun t ht => h t (by simp [ht]))
      unfold cntL at *
      simp only [List.map_cons, List.sum_cons, List.length_cons]
      omega
  have h1 := this _ h.cl
  have h2 := h.sh
  have : x.sheets.length * 1000 ≤ 1000 * 1000 := Nat.mul_le_mul_right _ h2
  omega
theorem b_cells {u : World} {g : Nat} {a b c : Value} {z : Nat × Nat} (h : u.heap[g]? = some (.cells #[a, b, c] 26 z)) : u.cell? ⟨g, 0, none⟩ = some a ∧ u.cell? ⟨g, 1, none⟩ = some b ∧ u.cell? ⟨g, 2, none⟩ = some c :=
  ⟨cell_heap h rfl, cell_heap h rfl, cell_heap h rfl⟩
theorem CpB.mono {base base' gs gn gl : Nat} {w : World} {x : BookT} (h : CpB base w gs gn gl x) (hb : base' ≤ base) : CpB base' w gs gn gl x := ⟨h.row, h.cls, h.nms, h.lks, Nat.le_trans hb h.b1, h.b2, h.b3⟩
theorem CpB.below {base gs gn gl : Nat} {w w' : World} {x : BookT} (h : CpB base w gs gn gl x) (hb : Below w.heap.size w w') : CpB base w' gs gn gl x := by
  obtain ⟨cur, r1, r2, r3⟩ := h.row
  have k : ∀ g o, w.heap[g]? = some o → w'.heap[g]? = some o := fun g o ho => (hb.block g (blk_lt ho)).trans ho
  exact ⟨⟨cur, k _ _ r1, r2, r3⟩, fun j hj => k _ _ (h.cls j hj), k _ _ h.nms, k _ _ h.lks, h.b1, h.b2, h.b3⟩
theorem put_tail {w v : World} {gs gn gl i : Nat} {x : BookT} (h : CpB w.heap.size v gs gn gl x) (hz : Small x) (hR : Rises x) (hi : i < x.sheets.length) (hb : Below w.heap.size w v) (hgs : w.heap.size + 1 < gs) (hX1 : v.heap[w.heap.size + 1]? = some (.cells #[.slice none 0 0, .slice none 0 0, .slice none 0 0] 26)) (t : CellT) :
    ∃ V : World, V = v.alloc (.cells #[newS gs x.sheets.length, newS gn x.names.length, newS gl x.links.length] 26) ∧ V.cell? ⟨v.heap.size, 0, none⟩ = some (newS gs x.sheets.length) ∧ V.cell? ⟨gs, i * 2 + 1, none⟩ = some (newS (gs + 1 + i) x.sheets[i].cells.length) ∧
      Calls Tryz.prog 58 #[newS (gs + 1 + i) x.sheets[i].cells.length, cellV t] V fun e w4 => ∃ pa pn pc w6, e = .returned (.slice pa pn pc) ∧ w4.cell? ⟨gs, i * 2 + 1, none⟩ = some (newS (gs + 1 + i) x.sheets[i].cells.length) ∧ w4.frozen? ⟨gs, i * 2 + 1, none⟩ = false ∧
        Hid ((Instr.loadAt 26 (.pointer (some ⟨v.heap.size, 0, none⟩))).run Tryz.prog (w4.setCell ⟨gs, i * 2 + 1, none⟩ (.slice pa pn pc)) = .ok (.agg #[newS gs x.sheets.length, newS gn x.names.length, newS gl x.links.length]) (w4.setCell ⟨gs, i * 2 + 1, none⟩ (.slice pa pn pc))) ∧
        Hid ((Instr.storeAt 26 (.pointer (some ⟨w.heap.size + 1, 0, none⟩)) (.agg #[newS gs x.sheets.length, newS gn x.names.length, newS gl x.links.length])).run Tryz.prog (w4.setCell ⟨gs, i * 2 + 1, none⟩ (.slice pa pn pc)) = .ok () w6) ∧
        Hid (w6.heap[w.heap.size + 1]? = some (.cells #[newS gs x.sheets.length, newS gn x.names.length, newS gl x.links.length] 26)) ∧
        Hid (OwnB w.heap.size w6 (newS gs x.sheets.length) (newS gn x.names.length) (newS gl x.links.length) (putAt x i t)) ∧ Hid (Below w.heap.size w w6) := by
  have b1 := h.b1
  have hbV : Below v.heap.size v (v.alloc (.cells #[newS gs x.sheets.length, newS gn x.names.length, newS gl x.links.length] 26)) := Sh.bel_alloc (Below.refl _ _) (Nat.le_refl _) _
  obtain ⟨V, hV⟩ : ∃ V, V = v.alloc (.cells #[newS gs x.sheets.length, newS gn x.names.length, newS gl x.links.length] 26) := ⟨_, rfl⟩
  rw [← hV] at hbV
  have hX : V.heap[v.heap.size]? = some (.cells #[newS gs x.sheets.length, newS gn x.names.length, newS gl x.links.length] 26) := by rw [hV]; exact heap_alloc_new v _
  have hC := h.below hbV
  obtain ⟨cur, r1, r2, r3⟩ := hC.row
  have hcl := hC.cls i hi
  have hgv := blk_lt r1
  have hbw : Below w.heap.size w V := Sh.bel_step hb hb.size hbV
  have hgsv : gs < v.heap.size := by
    obtain ⟨_, q, _⟩ := h.row
    exact blk_lt q
  have hX1V := (hbV.block _ (blk_lt hX1)).trans hX1
  refine ⟨V, hV, cell_heap hX rfl, cell_heap r1 (r3 i hi).2, ?_⟩
  refine (with_any (base := w.heap.size) hcl (by omega) (hz.cl _ (List.getElem_mem hi)) (hR _ (List.getElem_mem hi)) t).mono ?_
  rintro e w4 ⟨⟨v', rfl, ho⟩, hg⟩
  have k4 : ∀ g o, V.heap[g]? = some o → g ≠ gs + 1 + i → w4.heap[g]? = some o := fun g o hgo hne => (hg.block g (blk_lt hgo) (by simpa using hne)).trans hgo
  have s4 := k4 _ _ r1 (by omega)
  obtain ⟨pa, pc, rfl⟩ := owns_slice ho
  have hnew : (Value.slice pa (putC x.sheets[i].cells t).length pc).ownBlock ≠ some gs := by
    intro eq
    rcases ho.2 with ⟨e, _⟩ | ⟨g, cap, cur', e, _, h3, _⟩
    · rw [e] at eq; cases eq
    · rw [e] at eq
      cases eq
      rw [s4] at h3
      cases h3
  have hxne : v.heap.size ≠ gs + 1 + i := by
    have := hC.cls i hi
    intro eq
    rw [← eq, hX] at this
    simp at this
  have hx1ne : w.heap.size + 1 ≠ gs + 1 + i := by omega
  have hset := set_at (i := i * 2 + 1) (v := .slice pa (putC x.sheets[i].cells t).length pc) s4
  have hbox : (w4.setCell ⟨gs, i * 2 + 1, none⟩ (.slice pa (putC x.sheets[i].cells t).length pc)).heap[v.heap.size]? = some (.cells #[newS gs x.sheets.length, newS gn x.names.length, newS gl x.links.length] 26) := by
    rw [hset, setRow_other _ _ _ _ (by omega)]
    exact k4 _ _ hX hxne
  have hres : (w4.setCell ⟨gs, i * 2 + 1, none⟩ (.slice pa (putC x.sheets[i].cells t).length pc)).heap[w.heap.size + 1]? = some (.cells #[.slice none 0 0, .slice none 0 0, .slice none 0 0] 26) := by
    rw [hset, setRow_other _ _ _ _ (by omega)]
    exact k4 _ _ hX1V hx1ne
  refine ⟨pa, _, pc, _, rfl, cell_heap s4 (r3 i hi).2, by simp [World.frozen?, s4], ldB hbox, stBk hres rfl rfl (by simp [Value.oneCell']), setRow_heap _ _ _ _ _ _ hres, ?_, ?_⟩
  · refine put_own hC hz hi ho hg hnew (fun cur' hc' => ?_) (fun g cur' ty hne hty hgc => ?_)
    · rw [setRow_other _ _ _ _ (by omega), set_at hc']
      exact setRow_heap _ _ _ _ _ _ hc'
    · have hg1 : g ≠ w.heap.size + 1 := by
        intro eq
        rw [eq, k4 _ _ hX1V hx1ne] at hgc
        cases hgc
        exact hty rfl
      rw [setRow_other _ _ _ _ hg1, hset, setRow_other _ _ _ _ hne]
  · rw [hset]
    have hb4 : Below w.heap.size w w4 := hbw.grown hg hbw.size (fun k hk => by cases hk; omega)
    exact below_setRow (below_setRow hb4 (by omega) _) (by omega) _
end Go.Proofs.YtpafokmkcblcnaaGreatDoor.Sh
