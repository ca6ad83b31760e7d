/- SPutB0, SDrop, SRt. -/
import Derived.Test.YtnibldnfbikipaaGreatDoorSOwnBy
set_option linter.unusedVariables false
set_option linter.unusedSimpArgs false
set_option maxHeartbeats 16000000
set_option maxRecDepth 100000
namespace Go.Proofs.YtnibldnfbikipaaGreatDoor.Sh
open Go.RowKit Go.Fm
def Rises (x : BookT) : Prop := ∀ s ∈ x.sheets, Rise s.cells
def full (x : BookT) (i : Nat) (r c : Int) (t : ByteArray) : Bool := !(t.toList == []) && (decide (200 ≤ cntL x.sheets) && !(((x.sheets[i]?.map (·.cells)).getD []).any (atB r c)))
def putE (x : BookT) (s : ByteArray) (r c : Int) (t : ByteArray) : Int :=
 if mayF t = 3 then 3 else match idxN x.sheets s with
  | none => 6
  | some i => if insB r c = false then 9 else if mayF t ≠ 0 then mayF t else if full x i r c t = true then 5 else 0
abbrev nil3 : Value := .agg #[.slice none 0 0, .slice none 0 0, .slice none 0 0]
def PutP (w : World) (err : Int) (y : BookT) (e : Ending) (w' : World) : Prop :=
 (if err = 0 then ∃ sv nv lv, e = .returned (.tuple #[.agg #[sv, nv, lv], .int .i64 0]) ∧ OwnB w.heap.size w' sv nv lv y else e = .returned (.tuple #[nil3, .int .i64 err])) ∧ Below w.heap.size w w'
theorem bbuild0 (u : World) : (Instr.build 26 #[]).run Tryz.prog u = .ok nil3 u := by kernel_rfl
theorem res2 {fn : Func} {p q : Tmp} (h : fn.results = #[.cell p 26, .tmp q]) {tmps : Array Value} {w : World} {g : Nat} {y : Array Value} {v2 : Value} (hp : tmps.getD p undef = .pointer (some ⟨g, 0, none⟩)) (hg : w.heap[g]? = some (.cells y 26)) (hy : y.size = 3) (hv : tmps.getD q undef = v2) :
  (results fn tmps).run Tryz.prog w = .ok (.tuple #[.agg y, v2]) w := by
 have hi : (Tryz.prog.info? 26).map (·.size) = some y.size := by rw [hy]; kernel_rfl
 rw [results_cell_tmp h, hp, hv]
 simp [asAddr, run_loadVar_row (P := Tryz.prog) w g 26 26 y (0, 0) _ hg Tryz.underlying26 rfl hi, Result.andThen]
theorem out_err {w u : World} (hu : Below w.heap.size w u) {g : Nat} (hg : u.heap[g]? = some (.cells #[.slice none 0 0, .slice none 0 0, .slice none 0 0] 26)) (hb : w.heap.size ≤ g) :
  Hid ((Instr.storeAt 26 (.pointer (some ⟨g, 0, none⟩)) nil3).run Tryz.prog u = .ok () (u.setRow g #[.slice none 0 0, .slice none 0 0, .slice none 0 0])) ∧ Hid ((u.setRow g #[.slice none 0 0, .slice none 0 0, .slice none 0 0]).heap[g]? = some (.cells #[.slice none 0 0, .slice none 0 0, .slice none 0 0] 26)) ∧ Hid (Below w.heap.size w (u.setRow g #[.slice none 0 0, .slice none 0 0, .slice none 0 0])) :=
 ⟨stBk hg rfl rfl (by simp [Value.oneCell']), setRow_heap _ _ _ _ _ _ hg, below_setRow hu hb _⟩
theorem cnt_small {x : BookT} (h : Small x) : cntL x.sheets ≤ 1000000 := by
 have : ∀ (L : List SheetT), (∀ s ∈ L, s.cells.length ≤ 1000) → cntL L ≤ L.length * 1000 := by
  intro L
  induction L with
  | nil => intro _; simp [cntL]
  | cons s r ih =>
   intro h
   have h1 := h s (by simp)
   have h2 := ih (fun t ht => h t (by simp [ht]))
   unfold cntL at *
   simp only [List.map_cons, List.sum_cons, List.length_cons]
   omega
 have h1 := this _ h.cl
 have h2 := h.sh
 have : x.sheets.length * 1000 ≤ 1000 * 1000 := Nat.mul_le_mul_right _ h2
 omega
theorem b_cells {u : World} {g : Nat} {a b c : Value} {z : Nat × Nat} (h : u.heap[g]? = some (.cells #[a, b, c] 26 z)) : u.cell? ⟨g, 0, none⟩ = some a ∧ u.cell? ⟨g, 1, none⟩ = some b ∧ u.cell? ⟨g, 2, none⟩ = some c :=
 ⟨cell_heap h rfl, cell_heap h rfl, cell_heap h rfl⟩
theorem CpB.mono {base base' gs gn gl : Nat} {w : World} {x : BookT} (h : CpB base w gs gn gl x) (hb : base' ≤ base) : CpB base' w gs gn gl x := ⟨h.row, h.cls, h.nms, h.lks, Nat.le_trans hb h.b1, h.b2, h.b3⟩
theorem CpB.below {base gs gn gl : Nat} {w w' : World} {x : BookT} (h : CpB base w gs gn gl x) (hb : Below w.heap.size w w') : CpB base w' gs gn gl x := by
 obtain ⟨cur, r1, r2, r3⟩ := h.row
 have k : ∀ g o, w.heap[g]? = some o → w'.heap[g]? = some o := fun g o ho => (hb.block g (blk_lt ho)).trans ho
 exact ⟨⟨cur, k _ _ r1, r2, r3⟩, fun j hj => k _ _ (h.cls j hj), k _ _ h.nms, k _ _ h.lks, h.b1, h.b2, h.b3⟩
theorem put_tail {w v : World} {gs gn gl i : Nat} {x : BookT} (h : CpB w.heap.size v gs gn gl x) (hz : Small x) (hR : Rises x) (hi : i < x.sheets.length) (hb : Below w.heap.size w v) (hgs : w.heap.size + 1 < gs) (hX1 : v.heap[w.heap.size + 1]? = some (.cells #[.slice none 0 0, .slice none 0 0, .slice none 0 0] 26)) (t : CellT) :
  ∃ V : World, V = v.alloc (.cells #[newS gs x.sheets.length, newS gn x.names.length, newS gl x.links.length] 26) ∧ V.cell? ⟨v.heap.size, 0, none⟩ = some (newS gs x.sheets.length) ∧ V.cell? ⟨gs, i * 2 + 1, none⟩ = some (newS (gs + 1 + i) x.sheets[i].cells.length) ∧
   Calls Tryz.prog 58 #[newS (gs + 1 + i) x.sheets[i].cells.length, cellV t] V fun e w4 => ∃ pa pn pc w6, e = .returned (.slice pa pn pc) ∧ w4.cell? ⟨gs, i * 2 + 1, none⟩ = some (newS (gs + 1 + i) x.sheets[i].cells.length) ∧ w4.frozen? ⟨gs, i * 2 + 1, none⟩ = false ∧
    Hid ((Instr.loadAt 26 (.pointer (some ⟨v.heap.size, 0, none⟩))).run Tryz.prog (w4.setCell ⟨gs, i * 2 + 1, none⟩ (.slice pa pn pc)) = .ok (.agg #[newS gs x.sheets.length, newS gn x.names.length, newS gl x.links.length]) (w4.setCell ⟨gs, i * 2 + 1, none⟩ (.slice pa pn pc))) ∧
    Hid ((Instr.storeAt 26 (.pointer (some ⟨w.heap.size + 1, 0, none⟩)) (.agg #[newS gs x.sheets.length, newS gn x.names.length, newS gl x.links.length])).run Tryz.prog (w4.setCell ⟨gs, i * 2 + 1, none⟩ (.slice pa pn pc)) = .ok () w6) ∧
    Hid (w6.heap[w.heap.size + 1]? = some (.cells #[newS gs x.sheets.length, newS gn x.names.length, newS gl x.links.length] 26)) ∧
    Hid (OwnB w.heap.size w6 (newS gs x.sheets.length) (newS gn x.names.length) (newS gl x.links.length) (putAt x i t)) ∧ Hid (Below w.heap.size w w6) := by
 have b1 := h.b1
 have hbV : Below v.heap.size v (v.alloc (.cells #[newS gs x.sheets.length, newS gn x.names.length, newS gl x.links.length] 26)) := Sh.bel_alloc (Below.refl _ _) (Nat.le_refl _) _
 obtain ⟨V, hV⟩ : ∃ V, V = v.alloc (.cells #[newS gs x.sheets.length, newS gn x.names.length, newS gl x.links.length] 26) := ⟨_, rfl⟩
 rw [← hV] at hbV
 have hX : V.heap[v.heap.size]? = some (.cells #[newS gs x.sheets.length, newS gn x.names.length, newS gl x.links.length] 26) := by rw [hV]; exact heap_alloc_new v _
 have hC := h.below hbV
 obtain ⟨cur, r1, r2, r3⟩ := hC.row
 have hcl := hC.cls i hi
 have hgv := blk_lt r1
 have hbw : Below w.heap.size w V := Sh.bel_step hb hb.size hbV
 have hgsv : gs < v.heap.size := by
  obtain ⟨_, q, _⟩ := h.row
  exact blk_lt q
 have hX1V := (hbV.block _ (blk_lt hX1)).trans hX1
 refine ⟨V, hV, cell_heap hX rfl, cell_heap r1 (r3 i hi).2, ?_⟩
 refine (with_any (base := w.heap.size) hcl (by omega) (hz.cl _ (List.getElem_mem hi)) (hR _ (List.getElem_mem hi)) t).mono ?_
 rintro e w4 ⟨⟨v', rfl, ho⟩, hg⟩
 have k4 : ∀ g o, V.heap[g]? = some o → g ≠ gs + 1 + i → w4.heap[g]? = some o := fun g o hgo hne => (hg.block g (blk_lt hgo) (by simpa using hne)).trans hgo
 have s4 := k4 _ _ r1 (by omega)
 obtain ⟨pa, pc, rfl⟩ := owns_slice ho
 have hnew : (Value.slice pa (putC x.sheets[i].cells t).length pc).ownBlock ≠ some gs := by
  intro eq
  rcases ho.2 with ⟨e, _⟩ | ⟨g, cap, cur', e, _, h3, _⟩
  ·rw [e] at eq; cases eq
  ·rw [e] at eq
   cases eq
   rw [s4] at h3
   cases h3
 have hxne : v.heap.size ≠ gs + 1 + i := by
  have := hC.cls i hi
  intro eq
  rw [← eq, hX] at this
  simp at this
 have hx1ne : w.heap.size + 1 ≠ gs + 1 + i := by omega
 have hset := set_at (i := i * 2 + 1) (v := .slice pa (putC x.sheets[i].cells t).length pc) s4
 have hbox : (w4.setCell ⟨gs, i * 2 + 1, none⟩ (.slice pa (putC x.sheets[i].cells t).length pc)).heap[v.heap.size]? = some (.cells #[newS gs x.sheets.length, newS gn x.names.length, newS gl x.links.length] 26) := by
  rw [hset, setRow_other _ _ _ _ (by omega)]
  exact k4 _ _ hX hxne
 have hres : (w4.setCell ⟨gs, i * 2 + 1, none⟩ (.slice pa (putC x.sheets[i].cells t).length pc)).heap[w.heap.size + 1]? = some (.cells #[.slice none 0 0, .slice none 0 0, .slice none 0 0] 26) := by
  rw [hset, setRow_other _ _ _ _ (by omega)]
  exact k4 _ _ hX1V hx1ne
 refine ⟨pa, _, pc, _, rfl, cell_heap s4 (r3 i hi).2, by simp [World.frozen?, s4], ldB hbox, stBk hres rfl rfl (by simp [Value.oneCell']), setRow_heap _ _ _ _ _ _ hres, ?_, ?_⟩
 ·refine put_own hC hz hi ho hg hnew (fun cur' hc' => ?_) (fun g cur' ty hne hty hgc => ?_)
  ·rw [setRow_other _ _ _ _ (by omega), set_at hc']
   exact setRow_heap _ _ _ _ _ _ hc'
  ·have hg1 : g ≠ w.heap.size + 1 := by
    intro eq
    rw [eq, k4 _ _ hX1V hx1ne] at hgc
    cases hgc
    exact hty rfl
   rw [setRow_other _ _ _ _ hg1, hset, setRow_other _ _ _ _ hne]
 ·rw [hset]
  have hb4 : Below w.heap.size w w4 := hbw.grown hg hbw.size (fun k hk => by cases hk; omega)
  exact below_setRow (below_setRow hb4 (by omega) _) (by omega) _
def dropE (x : BookT) (s : ByteArray) : Int := match idxN x.sheets s with
 | none => 6
 | some _ => if x.sheets.length = 1 then 15 else 0
def dropAt (x : BookT) (i : Nat) : BookT := ⟨x.sheets.eraseIdx i, x.names, x.links⟩
theorem pairs_erase {L : List SheetT} {cv : Nat → Value} {i : Nat} : (pairs L cv).take i ++ (pairs L cv).drop (i + 1) = pairs (L.eraseIdx i) (fun j => if j < i then cv j else cv (j + 1)) := by
 apply List.ext_getElem?
 intro k
 rw [List.getElem?_append, List.getElem?_take, List.getElem?_drop, List.length_take]
 simp only [pairs, List.getElem?_mapIdx, List.getElem?_eraseIdx, List.length_mapIdx]
 by_cases h1 : k < i
 ·by_cases h2 : k < min i L.length
  ·rw [if_pos h2, if_pos h1, if_pos h1]
   cases L[k]? <;> simp [h1]
  ·rw [if_neg h2, if_pos h1]
   have h3 : L.length ≤ k := by omega
   have h4 : L[k]? = none := List.getElem?_eq_none h3
   rw [List.getElem?_eq_none (by omega)]
   simp [h1, h4]
 ·rw [if_neg (by omega), if_neg h1]
  by_cases h3 : i ≤ L.length
  ·rw [show i + 1 + (k - min i L.length) = k + 1 by omega]
   cases L[k + 1]? <;> simp [h1]
  ·have h4 : L[k + 1]? = none := List.getElem?_eq_none (by omega)
   rw [List.getElem?_eq_none (by omega)]
   simp [h1, h4]
theorem CpB.flat {base gs gn gl : Nat} {w : World} {x : BookT} (h : CpB base w gs gn gl x) : ∃ cur, w.heap[gs]? = some (.cells cur 78 (0, 0)) ∧ cur.size = x.sheets.length * 2 ∧ cur.toList = (pairs x.sheets fun j => newS (gs + 1 + j) ((x.sheets[j]?.map (·.cells.length)).getD 0)).flatMap pairC ∧ ∀ u ∈ cur.toList, u.oneCell' = true := by
 obtain ⟨cur, r1, r2, r3⟩ := h.row
 have hf := row_flat (cv := fun j => newS (gs + 1 + j) ((x.sheets[j]?.map (·.cells.length)).getD 0)) r2 (fun j hj => ⟨(r3 j hj).1, by rw [(r3 j hj).2]; simp [List.getElem?_eq_getElem hj]⟩)
 refine ⟨cur, r1, r2, hf, ?_⟩
 rw [hf]
 intro u hu
 obtain ⟨p, hp, hu⟩ := List.mem_flatMap.1 hu
 obtain ⟨j, hj, rfl⟩ := List.mem_mapIdx.1 hp
 simp only [sheetC, List.mem_cons, List.not_mem_nil, or_false] at hu
 rcases hu with rfl | rfl <;> rfl
theorem drop_own {base gs gn gl i : Nat} {w1 w3 : World} {x : BookT} (h : CpB base w1 gs gn gl x) (hz : Small x) (hi : i < x.sheets.length) {cur' : Array Value} (h3 : w3.heap[gs]? = some (.cells cur' 78 (0, 0))) (hs : cur'.size = x.sheets.length * 2)
  (hc : cur'.toList.take ((x.sheets.length - 1) * 2) = (pairs (dropAt x i).sheets (fun j => if j < i then newS (gs + 1 + j) ((x.sheets[j]?.map (·.cells.length)).getD 0) else newS (gs + 1 + (j + 1)) ((x.sheets[j + 1]?.map (·.cells.length)).getD 0))).flatMap pairC)
  (hk : ∀ g cur (t : TypeId), g ≠ gs → t ≠ 26 → w1.heap[g]? = some (.cells cur t (0, 0)) → w3.heap[g]? = w1.heap[g]?) :
  OwnB base w3 (.slice (some ⟨gs, 0, none⟩) (x.sheets.length - 1) x.sheets.length) (newS gn x.names.length) (newS gl x.links.length) (dropAt x i) := by
 have b1 := h.b1
 have b2 := h.b2
 have b3 := h.b3
 have k3 : ∀ g cur (t : TypeId), g ≠ gs → t ≠ 26 → w1.heap[g]? = some (.cells cur t (0, 0)) → w3.heap[g]? = some (.cells cur t (0, 0)) := fun g cur t hne ht ho => (hk g cur t hne ht ho).trans ho
 have hxl : (dropAt x i).sheets.length = x.sheets.length - 1 := by simp [dropAt, List.length_eraseIdx, hi]
 refine ⟨⟨_, ⟨?_, .inr ⟨gs, x.sheets.length, cur', by rw [hxl], b1, h3, by omega, le_maxLen hz.sh, hs, by rw [hxl]; exact hc⟩⟩, fun j o hj => ?_⟩, ?_, ?_⟩
 ·rw [fl_len (enc := pairC) pairC_len]
  simp
 ·have hj2 : x.sheets[if j < i then j else j + 1]? = some o := by
   rw [← hj]
   simp only [dropAt, List.getElem?_eraseIdx]
   by_cases e : j < i <;> simp [e]
  obtain ⟨hl, ho⟩ := List.getElem?_eq_some_iff.1 hj2
  have hcl := h.cls _ hl
  rw [ho] at hcl
  have hc3 := k3 _ _ _ (by omega) (by decide) hcl
  have hle := hz.cl o (by rw [← ho]; exact List.getElem_mem hl)
  try dsimp only
  by_cases e : j < i
  ·rw [if_pos e] at hj2 hc3 ⊢
   rw [hj2]
   exact owns_new hc3 (by rw [fl_len cellC_len]; rfl) (by omega) (le_maxLen hle)
  ·rw [if_neg e] at hj2 hc3 ⊢
   rw [hj2]
   exact owns_new hc3 (by rw [fl_len cellC_len]; rfl) (by omega) (le_maxLen hle)
 ·exact owns_new (k3 _ _ _ (by omega) (by decide) h.nms) (by rw [fl_len nameC_len]; rfl) (by omega) (le_maxLen hz.nm)
 ·exact owns_new (k3 _ _ _ (by omega) (by decide) h.lks) (by rw [fl_len linkC_len]; rfl) (by omega) (le_maxLen hz.lk)
theorem drop_tail {w v : World} {gs gn gl i : Nat} {x : BookT} (h : CpB w.heap.size v gs gn gl x) (hz : Small x) (hi : i < x.sheets.length) (hb : Below w.heap.size w v) (hgs : w.heap.size + 1 < gs) (hX1 : v.heap[w.heap.size + 1]? = some (.cells #[.slice none 0 0, .slice none 0 0, .slice none 0 0] 26)) :
  ∃ V : World, V = v.alloc (.cells #[newS gs x.sheets.length, newS gn x.names.length, newS gl x.links.length] 26) ∧ V.cell? ⟨v.heap.size, 0, none⟩ = some (newS gs x.sheets.length) ∧
   Calls Tryz.prog 79 #[newS gs x.sheets.length, .int .i64 (i : Nat), .int .i64 ((i + 1 : Nat) : Int)] V fun e w4 => ∃ w6, e = .returned (.slice (some ⟨gs, 0, none⟩) (x.sheets.length - 1) x.sheets.length) ∧ w4.cell? ⟨v.heap.size, 0, none⟩ = some (newS gs x.sheets.length) ∧ w4.frozen? ⟨v.heap.size, 0, none⟩ = false ∧
    Hid ((Instr.loadAt 26 (.pointer (some ⟨v.heap.size, 0, none⟩))).run Tryz.prog (w4.setCell ⟨v.heap.size, 0, none⟩ (.slice (some ⟨gs, 0, none⟩) (x.sheets.length - 1) x.sheets.length)) = .ok (.agg #[.slice (some ⟨gs, 0, none⟩) (x.sheets.length - 1) x.sheets.length, newS gn x.names.length, newS gl x.links.length]) (w4.setCell ⟨v.heap.size, 0, none⟩ (.slice (some ⟨gs, 0, none⟩) (x.sheets.length - 1) x.sheets.length))) ∧
    Hid ((Instr.storeAt 26 (.pointer (some ⟨w.heap.size + 1, 0, none⟩)) (.agg #[.slice (some ⟨gs, 0, none⟩) (x.sheets.length - 1) x.sheets.length, newS gn x.names.length, newS gl x.links.length])).run Tryz.prog (w4.setCell ⟨v.heap.size, 0, none⟩ (.slice (some ⟨gs, 0, none⟩) (x.sheets.length - 1) x.sheets.length)) = .ok () w6) ∧
    Hid (w6.heap[w.heap.size + 1]? = some (.cells #[.slice (some ⟨gs, 0, none⟩) (x.sheets.length - 1) x.sheets.length, newS gn x.names.length, newS gl x.links.length] 26)) ∧
    Hid (OwnB w.heap.size w6 (.slice (some ⟨gs, 0, none⟩) (x.sheets.length - 1) x.sheets.length) (newS gn x.names.length) (newS gl x.links.length) (dropAt x i)) ∧ Hid (Below w.heap.size w w6) := by
 have b1 := h.b1
 have hbV : Below v.heap.size v (v.alloc (.cells #[newS gs x.sheets.length, newS gn x.names.length, newS gl x.links.length] 26)) := Sh.bel_alloc (Below.refl _ _) (Nat.le_refl _) _
 obtain ⟨V, hV⟩ : ∃ V, V = v.alloc (.cells #[newS gs x.sheets.length, newS gn x.names.length, newS gl x.links.length] 26) := ⟨_, rfl⟩
 rw [← hV] at hbV
 have hX : V.heap[v.heap.size]? = some (.cells #[newS gs x.sheets.length, newS gn x.names.length, newS gl x.links.length] 26) := by rw [hV]; exact heap_alloc_new v _
 have hC := h.below hbV
 obtain ⟨cur, r1, r2, r3, r4⟩ := hC.flat
 have hbw : Below w.heap.size w V := Sh.bel_step hb hb.size hbV
 have hX1V := (hbV.block _ (blk_lt hX1)).trans hX1
 have hx1l := blk_lt hX1
 refine ⟨V, hV, cell_heap hX rfl, ?_⟩
 refine (delete_79 r1 r2 hi (by have := hz.sh; omega) r4).mono ?_
 rintro e w4 ⟨rfl, ⟨cur', q1, q2, q3⟩, q4, hg⟩
 have hgx : v.heap.size ≠ gs := by
  intro eq
  rw [eq, r1] at hX
  simp at hX
 have k4 : ∀ g o, V.heap[g]? = some o → g ≠ gs → w4.heap[g]? = some o := fun g o hgo hne => (hg.block g (blk_lt hgo) (by simpa using hne)).trans hgo
 have s4 := k4 _ _ hX hgx
 have hset := set_at (i := 0) (v := .slice (some ⟨gs, 0, none⟩) (x.sheets.length - 1) x.sheets.length) s4
 have hbox : (w4.setCell ⟨v.heap.size, 0, none⟩ (.slice (some ⟨gs, 0, none⟩) (x.sheets.length - 1) x.sheets.length)).heap[v.heap.size]? = some (.cells #[.slice (some ⟨gs, 0, none⟩) (x.sheets.length - 1) x.sheets.length, newS gn x.names.length, newS gl x.links.length] 26) := by
  rw [hset]
  exact setRow_heap _ _ _ _ _ _ s4
 have hres : (w4.setCell ⟨v.heap.size, 0, none⟩ (.slice (some ⟨gs, 0, none⟩) (x.sheets.length - 1) x.sheets.length)).heap[w.heap.size + 1]? = some (.cells #[.slice none 0 0, .slice none 0 0, .slice none 0 0] 26) := by
  rw [hset, setRow_other _ _ _ _ (by omega)]
  exact k4 _ _ hX1V (by omega)
 refine ⟨_, rfl, cell_heap s4 rfl, by simp [World.frozen?, s4], ldB hbox, stBk hres rfl rfl (by simp [Value.oneCell']), setRow_heap _ _ _ _ _ _ hres, ?_, ?_⟩
 ·refine drop_own (w1 := V) hC hz hi (cur' := cur') ?_ q2 ?_ (fun g cur'' ty hne hty hgc => ?_)
  ·rw [setRow_other _ _ _ _ (by omega), hset, setRow_other _ _ _ _ (fun eq => hgx eq.symm)]
   exact q1
  ·rw [q3, r3, ← fl_take (enc := pairC) pairC_len, ← fl_drop (enc := pairC) pairC_len, ← List.flatMap_append, pairs_erase]
   rfl
  ·have hg1 : g ≠ w.heap.size + 1 := by
    intro eq
    rw [eq, hX1V] at hgc
    cases hgc
    exact hty rfl
   have hg2 : g ≠ v.heap.size := by
    intro eq
    rw [eq, hX] at hgc
    cases hgc
    exact hty rfl
   rw [setRow_other _ _ _ _ hg1, hset, setRow_other _ _ _ _ hg2]
   exact (k4 _ _ hgc hne).trans hgc.symm
 ·rw [hset]
  have hb4 : Below w.heap.size w w4 := hbw.grown hg hbw.size (fun k hk => by cases hk; omega)
  exact below_setRow (below_setRow hb4 hb.size _) (by omega) _
theorem drop_any {lo hi : Nat} {w : World} {sv nv lv : Value} {x : BookT} (h : BkM lo hi w sv nv lv x) (hhi : hi ≤ w.heap.size) (hz : Small x) (s : ByteArray) :
  Calls Tryz.prog 30 #[.agg #[sv, nv, lv], .string s] w (PutP w (dropE x s) (dropAt x ((idxN x.sheets s).getD 0))) := by
 obtain ⟨sa, sc, rfl, hs1, hs2⟩ := h.sh.slice
 obtain ⟨na, nc, rfl, _, _⟩ := h.nm.slice
 obtain ⟨la, lc, rfl, _, _⟩ := h.lk.slice
 obtain ⟨W, hW⟩ : ∃ W, W = (w.alloc (bkO (.slice sa x.sheets.length sc) (.slice na x.names.length nc) (.slice la x.links.length lc))).alloc (.cells #[.slice none 0 0, .slice none 0 0, .slice none 0 0] 26) := ⟨_, rfl⟩
 have HB0 : Below w.heap.size w W := by rw [hW]; exact Sh.bel_alloc (Sh.bel_alloc (Below.refl _ _) (Nat.le_refl _) _) (Nat.le_refl _) _
 have hX0 : W.heap[w.heap.size]? = some (bkO (.slice sa x.sheets.length sc) (.slice na x.names.length nc) (.slice la x.links.length lc)) := by rw [hW, Below.heap_alloc _ _ _ (by simp)]; exact heap_alloc_new w _
 have hX1 : W.heap[w.heap.size + 1]? = some (.cells #[.slice none 0 0, .slice none 0 0, .slice none 0 0] 26) := by rw [hW]; simpa using heap_alloc_new (w.alloc (bkO (.slice sa x.sheets.length sc) (.slice na x.names.length nc) (.slice la x.links.length lc))) (.cells #[.slice none 0 0, .slice none 0 0, .slice none 0 0] 26)
 have hlen : x.sheets.length ≤ 1000 := hz.sh
 have KX : ∀ u, Below W.heap.size W u → u.heap[w.heap.size]? = some (bkO (.slice sa x.sheets.length sc) (.slice na x.names.length nc) (.slice la x.links.length lc)) ∧ u.heap[w.heap.size + 1]? = some (.cells #[.slice none 0 0, .slice none 0 0, .slice none 0 0] 26) ∧ Below w.heap.size w u := fun u hu => ⟨(hu.block _ (blk_lt hX0)).trans hX0, (hu.block _ (blk_lt hX1)).trans hX1, Sh.bel_step HB0 HB0.size hu⟩
 have C1 : Calls Tryz.prog 20 #[.agg #[.slice sa x.sheets.length sc, .slice na x.names.length nc, .slice la x.links.length lc], .string s] W fun e u => e = .returned (.int .i64 (idxI (idxN x.sheets s))) ∧ u.cell? ⟨w.heap.size, 0, none⟩ = some (.slice sa x.sheets.length sc) ∧ u.cell? ⟨w.heap.size, 1, none⟩ = some (.slice na x.names.length nc) ∧ u.cell? ⟨w.heap.size, 2, none⟩ = some (.slice la x.links.length lc) ∧ Hid (Below W.heap.size W u) := (index_any (h.below hhi HB0) (Nat.le_trans hhi HB0.size) s).mono (by
  rintro e u ⟨rfl, hu⟩
  obtain ⟨c0, c1, c2⟩ := b_cells (KX u hu).1
  exact ⟨rfl, c0, c1, c2, hu⟩)
 have HERR : Hid (∀ u, Below W.heap.size W u → _) := fun u hu => out_err (KX u hu).2.2 (KX u hu).2.1 (by omega)
 obtain ⟨d0, d1, d2⟩ := b_cells hX0
 have HKX : Hid _ := KX
 have HH : Hid (BkM lo hi w (.slice sa x.sheets.length sc) (.slice na x.names.length nc) (.slice la x.links.length lc) x) := h
 have HZz : Hid (Small x) := hz
 rw [hW] at d0 d1 d2
 have HW : Hid ((w.alloc (bkO (.slice sa x.sheets.length sc) (.slice na x.names.length nc) (.slice la x.links.length lc))).alloc (.cells #[.slice none 0 0, .slice none 0 0, .slice none 0 0] 26) = W) := hW.symm
 clear h HB0 hX0 hX1 hW hs1 hs2 KX hz
 unfold dropE
 cases hO : idxN x.sheets s with
 | none =>
  rw [hO] at C1
  simp only [idxI] at C1
  go_enter Tryz.func30, Tryz.ntmps30
  go_wp2_with (first
   | (go_at_call 20; rw [HW.out]; refine C1.mono ?_; clear C1; rintro e w1 ⟨rfl, c0, c1, c2, HB1⟩; obtain ⟨RS, HZ, HBz⟩ := HERR.out w1 HB1.out; clear HERR)
   | ((with_reducible show wpList _ _ _ ({ dst := _, op := Op.build 26 _, type := _, pos := _, after := _, guard := none } :: _) _ _); refine wpl_build rfl 26 _ rfl _ _ (by go_simp) (bbuild0 _) ?_)
   | ((with_reducible show wpList _ _ _ ({ dst := _, op := Op.store 26 _ _, type := _, pos := _, after := _, guard := none } :: _) _ _); refine wpList_store_run rfl 26 _ _ rfl _ _ _ rfl rfl RS.out ?_))
  refine bodyPost_ret (res2 rfl rfl HZ.out rfl rfl) rfl ?_
  exact ⟨by rw [if_neg (by decide)]; rfl, HBz.out⟩
 | some i =>
  rw [hO] at C1
  simp only [idxI] at C1
  have hil := idx_lt hO
  have hni : decide ((i : Int) < 0) = false := by simp
  dsimp only [Option.getD]
  clear hO
  by_cases h1 : x.sheets.length = 1
  ·rw [if_pos h1]
   have h1b : ((x.sheets.length : Int) == 1) = true := by rw [h1]; rfl
   clear hil h1
   generalize x.sheets.length = n at *
   go_enter Tryz.func30, Tryz.ntmps30
   go_wp2_with (first
    | (go_at_call 20; rw [HW.out]; refine C1.mono ?_; clear C1; rintro e w1 ⟨rfl, c0, c1, c2, HB1⟩; obtain ⟨RS, HZ, HBz⟩ := HERR.out w1 HB1.out; clear HERR)
    | ((with_reducible show wpList _ _ _ ({ dst := _, op := Op.build 26 _, type := _, pos := _, after := _, guard := none } :: _) _ _); refine wpl_build rfl 26 _ rfl _ _ (by go_simp) (bbuild0 _) ?_)
    | ((with_reducible show wpList _ _ _ ({ dst := _, op := Op.store 26 _ _, type := _, pos := _, after := _, guard := none } :: _) _ _); refine wpList_store_run rfl 26 _ _ rfl _ _ _ rfl rfl RS.out ?_))
   refine bodyPost_ret (res2 rfl rfl HZ.out rfl rfl) rfl ?_
   exact ⟨by rw [if_neg (by decide)]; rfl, HBz.out⟩
  ·rw [if_neg h1]
   have h1b : ((x.sheets.length : Int) == 1) = false := by simp only [beq_eq_false_iff_ne]; omega
   have C5 : Hid (∀ u, Below W.heap.size W u → Calls Tryz.prog 17 #[.agg #[.slice sa x.sheets.length sc, .slice na x.names.length nc, .slice la x.links.length lc]] u fun e v => ∃ gs gn gl, e = .returned (.agg #[newS gs x.sheets.length, newS gn x.names.length, newS gl x.links.length]) ∧ (v.alloc (.cells #[newS gs x.sheets.length, newS gn x.names.length, newS gl x.links.length] 26)).cell? ⟨v.heap.size, 0, none⟩ = some (newS gs x.sheets.length) ∧
     Hid (Calls Tryz.prog 79 #[newS gs x.sheets.length, .int .i64 (i : Nat), .int .i64 ((i + 1 : Nat) : Int)] (v.alloc (.cells #[newS gs x.sheets.length, newS gn x.names.length, newS gl x.links.length] 26)) fun e w4 => ∃ w6, e = .returned (.slice (some ⟨gs, 0, none⟩) (x.sheets.length - 1) x.sheets.length) ∧ w4.cell? ⟨v.heap.size, 0, none⟩ = some (newS gs x.sheets.length) ∧ w4.frozen? ⟨v.heap.size, 0, none⟩ = false ∧
    Hid ((Instr.loadAt 26 (.pointer (some ⟨v.heap.size, 0, none⟩))).run Tryz.prog (w4.setCell ⟨v.heap.size, 0, none⟩ (.slice (some ⟨gs, 0, none⟩) (x.sheets.length - 1) x.sheets.length)) = .ok (.agg #[.slice (some ⟨gs, 0, none⟩) (x.sheets.length - 1) x.sheets.length, newS gn x.names.length, newS gl x.links.length]) (w4.setCell ⟨v.heap.size, 0, none⟩ (.slice (some ⟨gs, 0, none⟩) (x.sheets.length - 1) x.sheets.length))) ∧
    Hid ((Instr.storeAt 26 (.pointer (some ⟨w.heap.size + 1, 0, none⟩)) (.agg #[.slice (some ⟨gs, 0, none⟩) (x.sheets.length - 1) x.sheets.length, newS gn x.names.length, newS gl x.links.length])).run Tryz.prog (w4.setCell ⟨v.heap.size, 0, none⟩ (.slice (some ⟨gs, 0, none⟩) (x.sheets.length - 1) x.sheets.length)) = .ok () w6) ∧
    Hid (w6.heap[w.heap.size + 1]? = some (.cells #[.slice (some ⟨gs, 0, none⟩) (x.sheets.length - 1) x.sheets.length, newS gn x.names.length, newS gl x.links.length] 26)) ∧
    Hid (OwnB w.heap.size w6 (.slice (some ⟨gs, 0, none⟩) (x.sheets.length - 1) x.sheets.length) (newS gn x.names.length) (newS gl x.links.length) (dropAt x i)) ∧ Hid (Below w.heap.size w w6))) := fun u hu =>
    (copy_any (HH.out.below hhi (HKX.out u hu).2.2) (Nat.le_trans hhi (HKX.out u hu).2.2.size) HZz.out).mono (by
     rintro e v ⟨⟨gs, gn, gl, rfl, hC⟩, hv⟩
     have hub := (HKX.out u hu).2.2
     have hb1 := hC.b1
     have hx1 := (HKX.out u hu).2.1
     have hl1 := blk_lt hx1
     obtain ⟨V, hV, c1, CC⟩ := drop_tail (w := w) (hC.mono hub.size) HZz.out hil (Sh.bel_step hub hub.size hv) (by omega) ((hv.block _ hl1).trans hx1)
     rw [hV] at c1 CC
     exact ⟨gs, gn, gl, rfl, c1, CC⟩)
   have HOK : Hid (∀ sv nv lv w6, OwnB w.heap.size w6 sv nv lv (dropAt x i) → Below w.heap.size w w6 → PutP w 0 (dropAt x i) (.returned (.tuple #[.agg #[sv, nv, lv], .int .i64 0])) w6) := fun sv nv lv w6 h1 h2 => ⟨by rw [if_pos rfl]; exact ⟨_, _, _, rfl, h1⟩, h2⟩
   generalize PutP w 0 (dropAt x i) = Q0 at *
   obtain ⟨m, hm⟩ : ∃ m, m = i + 1 := ⟨_, rfl⟩
   rw [← hm] at C5
   have e5 : (i : Int) + 1 = (m : Int) := by omega
   have e6 : IntKind.i64.wrap (m : Int) = (m : Int) := by rw [IntKind.wrap_i64]; omega
   obtain ⟨n1, hn1⟩ : ∃ n1, n1 = x.sheets.length - 1 := ⟨_, rfl⟩
   rw [← hn1] at C5
   clear hil h1 HERR HH HZz hm hn1
   go_enter Tryz.func30, Tryz.ntmps30
   go_wp2_with (first
    | (go_at_call 20; rw [HW.out]; refine C1.mono ?_; clear C1; rintro e w1 ⟨rfl, c0, c1, c2, HB1⟩)
    | (go_at_call 17; refine (C5.out _ HB1.out).mono ?_; clear C5; rintro e v ⟨gs, gn, gl, rfl, cV, CW⟩)
    | (go_at_call 79; refine CW.out.mono ?_; clear CW; rintro e w5 ⟨w6, rfl, c50, f50, RL6, RS6, HG6, HO6, HB6⟩)
    | ((with_reducible show wpList _ _ _ ({ dst := _, op := Op.load 26 _, type := _, pos := _, after := _, guard := none } :: _) _ _); refine wpList_load_run rfl 26 _ rfl _ _ rfl RL6.out ?_; clear RL6)
    | ((with_reducible show wpList _ _ _ ({ dst := _, op := Op.store 26 _ _, type := _, pos := _, after := _, guard := none } :: _) _ _); refine wpList_store_run rfl 26 _ _ rfl _ _ _ rfl rfl RS6.out ?_; clear RS6))
   refine bodyPost_ret (res2 rfl rfl HG6.out rfl rfl) rfl ?_
   exact HOK.out _ _ _ _ HO6.out HB6.out
def Apart (L : List SheetT) : Prop := L.Pairwise fun a b => a.name.toList ≠ b.name.toList
structure Right (L : List SheetT) : Prop where
 lo : 1 ≤ L.length
 hi : L.length ≤ 4
 gn : ∀ s ∈ L, gnF s.name.data.toList = true
 ap : Apart L
 ld : ∀ s ∈ L, laidB s.cells = true
 tx : ∀ s ∈ L, ∀ c ∈ s.cells, mayF c.text = 0
 ct : cntL L ≤ 200
theorem idxI_neg {o : Option Nat} : ¬ 0 ≤ idxI o ↔ o = none := by
 cases o with
 | none => simp [idxI]
 | some i => simp [idxI]
theorem textsF_zero {L : List CellT} : textsF L = 0 ↔ ∀ c ∈ L, mayF c.text = 0 := by
 induction L with
 | nil => simp [textsF]
 | cons a r ih =>
  unfold textsF
  by_cases h : mayF a.text = 0
  ·simp [h, ih]
  ·simp [h]
theorem textsS_zero {L : List SheetT} : textsS L = 0 ↔ ∀ s ∈ L, textsF s.cells = 0 := by
 induction L with
 | nil => simp [textsS]
 | cons a r ih =>
  unfold textsS
  by_cases h : textsF a.cells = 0
  ·simp [h, ih]
  ·simp [h]
theorem tw_apart {L : List SheetT} : twB L = false ↔ Apart L := by
 unfold Apart
 rw [List.pairwise_iff_getElem]
 constructor
 ·intro h i j hi hj hij e
  have h1 : twAt L j = false := by
   cases hc : twAt L j with
   | false => rfl
   | true => rw [tw_yes hj hc] at h; cases h
  unfold twAt at h1
  simp only [List.getElem?_eq_getElem hj, Bool.not_eq_false', beq_iff_eq] at h1
  cases hx : idxN L L[j].name with
  | none => rw [hx] at h1; simp [idxI] at h1
  | some k =>
   rw [hx] at h1
   simp only [idxI] at h1
   obtain rfl : k = j := by omega
   unfold idxN at hx
   rw [List.findIdx?_eq_some_iff_getElem] at hx
   obtain ⟨_, _, h3⟩ := hx
   exact h3 i hij (by simpa using e)
 ·intro h
  refine tw_no fun j hj => ?_
  unfold twAt
  simp only [List.getElem?_eq_getElem hj]
  have : idxN L L[j].name = some j := findIdx_some hj (fun i hi => by
   have := h i j (by omega) hj hi
   simpa using this) (by simp)
  rw [this]
  simp [idxI]
theorem check_right {L : List SheetT} : checkF L = 0 ↔ Right L := by
 unfold checkF
 constructor
 ·intro h
  by_cases h1 : L.length = 0 ∨ 4 < L.length
  ·rw [if_pos h1] at h; simp at h
  rw [if_neg h1] at h
  by_cases h2 : 0 ≤ idxI (L.findIdx? misB)
  ·rw [if_pos h2] at h; simp at h
  rw [if_neg h2] at h
  by_cases h3 : twB L = true
  ·rw [if_pos h3] at h; simp at h
  rw [if_neg h3] at h
  by_cases h4 : 0 ≤ idxI (L.findIdx? mlB)
  ·rw [if_pos h4] at h; simp at h
  rw [if_neg h4] at h
  by_cases h5 : textsS L ≠ 0
  ·rw [if_pos h5] at h; exact absurd h h5
  rw [if_neg h5] at h
  by_cases h6 : 200 < cntL L
  ·rw [if_pos h6] at h; simp at h
  have g2 := idxI_neg.1 h2
  have g4 := idxI_neg.1 h4
  rw [List.findIdx?_eq_none_iff] at g2 g4
  have g5 : textsS L = 0 := Classical.byContradiction h5
  refine ⟨by omega, by omega, fun s hs => ?_, tw_apart.1 (by simpa using h3), fun s hs => ?_, fun s hs => textsF_zero.1 (textsS_zero.1 g5 s hs), by omega⟩
  ·have := g2 s hs
   simpa [misB] using this
  ·have := g4 s hs
   simpa [mlB] using this
 ·intro h
  have a := h.lo
  have b := h.hi
  rw [if_neg (by omega)]
  have g2 : L.findIdx? misB = none := by
   rw [List.findIdx?_eq_none_iff]
   intro s hs
   simp [misB, h.gn s hs]
  have g4 : L.findIdx? mlB = none := by
   rw [List.findIdx?_eq_none_iff]
   intro s hs
   simp [mlB, h.ld s hs]
  have g3 := tw_apart.2 h.ap
  have g5 : textsS L = 0 := textsS_zero.2 fun s hs => textsF_zero.2 (h.tx s hs)
  have c := h.ct
  rw [g2, g4, g3, g5, if_neg (show ¬ 0 ≤ idxI none by decide), if_neg (show ¬ false = true by decide), if_neg (show ¬ 0 ≤ idxI none by decide), if_neg (show ¬ ((0 : Int) ≠ 0) by simp), if_neg (show ¬ 200 < cntL L by omega)]
end Go.Proofs.YtnibldnfbikipaaGreatDoor.Sh
