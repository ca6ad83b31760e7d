/- SIdx, SGet. -/
import Derived.Test.YtpafokmkcblcnaaGreatDoorSFunCr
set_option linter.unusedVariables false
set_option linter.unusedSimpArgs false
namespace Go.Proofs.YtpafokmkcblcnaaGreatDoor.Sh
open Go.RowKit
set_option maxRecDepth 100000
set_option maxHeartbeats 1000000 in
theorem pred71 {w : World} {g : Nat} {s : ByteArray} (hg : w.heap[g]? = some (.cells #[.string s] 9)) (t : ByteArray) (p : Option Addr) (n c : Nat) :
    Calls Tryz.prog 71 #[.agg #[.string t, .slice p n c], .pointer (some ⟨g, 0, none⟩)] w fun e w' => e = .returned (.bool (t.toList == s.toList)) ∧ Below w.heap.size w w' := by
  have hlt : g < w.heap.size := (Array.getElem?_eq_some_iff.1 hg).1
  have c1 : (w.alloc (.cells #[.string t, .slice p n c] 78)).cell? ⟨g, 0, none⟩ = some (.string s) := cell_heap ((Below.heap_alloc w _ g hlt).trans hg) rfl
  have c2 := cell_heap (heap_alloc_new w (.cells #[.string t, .slice p n c] 78)) (j := 0) rfl
  have HB : Hid (Below w.heap.size w (w.alloc (.cells #[.string t, .slice p n c] 78))) := (Below.refl _ _).alloc (Nat.le_refl _) _
  clear hg
  go_enter Tryz.func71, Tryz.ntmps71
  go_wp2
  go_ret
  exact ⟨rfl, HB.out⟩
set_option maxHeartbeats 4000000 in
theorem idxf_71 {lo hi : Nat} {w : World} {a : Option Addr} {c : Nat} {L : List SheetT} (h : Shs lo hi w (.slice a L.length c) L) (hhi : hi ≤ w.heap.size) (p : SheetT → Bool) (g : Nat)
    (HP : ∀ (k : Nat) (hk : k < L.length) (u : World) (q : Option Addr) (m d : Nat), Below w.heap.size w u → Cls lo hi u (.slice q m d) L[k].cells → Calls Tryz.prog 71 #[.agg #[.string L[k].name, .slice q m d], .pointer (some ⟨g, 0, none⟩)] u fun e w' => e = .returned (.bool (p L[k])) ∧ Below u.heap.size u w') :
    Calls Tryz.prog 70 #[.slice a L.length c, .func (.func 71) #[] #[.pointer (some ⟨g, 0, none⟩)]] w fun e w' => e = .returned (.int .i64 (idxI (L.findIdx? p))) ∧ Below w.heap.size w w' := by
  obtain ⟨_, _, he, hz1, hz2⟩ := h.slice
  cases he
  have hlen : L.length ≤ 9223372036854775807 := by unfold maxLen at hz2; omega
  have HS : Hid (Shs lo hi w (.slice a L.length c) L) := h
  have HPh : Hid _ := HP
  generalize hO : L.findIdx? p = o
  have HO : Hid (L.findIdx? p = o) := hO
  clear h HP hz1 hz2 hO
  go_enter Tryz.func70, Tryz.ntmps70
  go_wp2
  go_loopw [8] (fun i wr => ∃ (k : Nat), k ≤ L.length ∧ i = .int .i64 (k : Nat) ∧ Hid (∀ j (hj : j < L.length), j < k → p L[j] = false) ∧ Hid (Below w.heap.size w wr)) (fun i _ => L.length - (intOf i).toNat)
  case atStart => exact ⟨0, Nat.zero_le _, rfl, fun j _ hj => by omega, Below.refl _ _⟩
  case round =>
    obtain ⟨k, hk, rfl, HA, HB⟩ := hrel
    by_cases hkL : k < L.length
    · have hki : (k : Int) < L.length := by omega
      have HS2 := HS.out.below hhi HB.out
      obtain ⟨a', cv, ov, W, rfl, rfl, hcl, hW, R1, -, -⟩ := HS2.runs hkL
      obtain ⟨q, d, rfl, _, _⟩ := hcl.slice
      have C := HPh.out k hkL wr q _ d HB.out hcl
      have hk63 : k < 9223372036854775807 := by omega
      have HX : Hid (p L[k] = true → o = some k) := fun e => HO.out.symm.trans <| findIdx_some hkL (fun j hj => HA.out j (by omega) hj) e
      have HY : Hid (p L[k] = false → ∀ j (hj : j < L.length), j < k + 1 → p L[j] = false) := fun e j hj hlt => by
        by_cases hjk : j = k
        · subst hjk; exact e
        · exact HA.out j hj (by omega)
      clear hcl hW HS2
      cases hp : p L[k] with
      | true =>
        obtain rfl := HX.out hp
        rw [hp] at C
        clear HX HY hp
        generalize L[k] = y at *
        obtain ⟨yn, yc⟩ := y
        dsimp only at *
        go_wp2_with (first
          | (refine wpList_load_run rfl 78 _ rfl _ _ rfl R1.out ?_; clear R1)
          | (go_at_call 71; refine C.mono ?_; rintro e w1 ⟨rfl, hb1⟩; have HB1 : Hid _ := bel_step HB.out HB.out.size hb1; clear hb1))
        go_ret
        exact ⟨rfl, HB1.out⟩
      | false =>
        have HY2 : Hid _ := HY.out hp
        rw [hp] at C
        clear HX HY hp
        generalize L[k] = y at *
        obtain ⟨yn, yc⟩ := y
        dsimp only at *
        go_wp2_with (first
          | (refine wpList_load_run rfl 78 _ rfl _ _ rfl R1.out ?_; clear R1)
          | (go_at_call 71; refine C.mono ?_; rintro e w1 ⟨rfl, hb1⟩; have HB1 : Hid _ := bel_step HB.out HB.out.size hb1; clear hb1))
        go_roundw
        case rel => exact ⟨k + 1, by omega, by go_num, HY2, HB1⟩
        case measure => simp [intOf]; omega
    · have hki : ¬ (k : Int) < L.length := by omega
      obtain rfl : o = none := HO.out.symm.trans <| findIdx_none fun j hj => HA.out j hj (by omega)
      go_wp2
      go_ret
      exact ⟨rfl, HB.out⟩
set_option maxHeartbeats 4000000 in
theorem idxf_52 {lo hi : Nat} {w : World} {a : Option Addr} {c : Nat} {L : List SheetT} (h : Shs lo hi w (.slice a L.length c) L) (hhi : hi ≤ w.heap.size) (p : SheetT → Bool)
    (HP : ∀ (k : Nat) (hk : k < L.length) (u : World) (q : Option Addr) (m d : Nat), Below w.heap.size w u → Cls lo hi u (.slice q m d) L[k].cells → Calls Tryz.prog 52 #[.agg #[.string L[k].name, .slice q m d]] u fun e w' => e = .returned (.bool (p L[k])) ∧ Below u.heap.size u w') :
    Calls Tryz.prog 70 #[.slice a L.length c, .func (.func 52) #[] #[]] w fun e w' => e = .returned (.int .i64 (idxI (L.findIdx? p))) ∧ Below w.heap.size w w' := by
  obtain ⟨_, _, he, hz1, hz2⟩ := h.slice
  cases he
  have hlen : L.length ≤ 9223372036854775807 := by unfold maxLen at hz2; omega
  have HS : Hid (Shs lo hi w (.slice a L.length c) L) := h
  have HPh : Hid _ := HP
  generalize hO : L.findIdx? p = o
  have HO : Hid (L.findIdx? p = o) := hO
  clear h HP hz1 hz2 hO
  go_enter Tryz.func70, Tryz.ntmps70
  go_wp2
  go_loopw [8] (fun i wr => ∃ (k : Nat), k ≤ L.length ∧ i = .int .i64 (k : Nat) ∧ Hid (∀ j (hj : j < L.length), j < k → p L[j] = false) ∧ Hid (Below w.heap.size w wr)) (fun i _ => L.length - (intOf i).toNat)
  case atStart => exact ⟨0, Nat.zero_le _, rfl, fun j _ hj => by omega, Below.refl _ _⟩
  case round =>
    obtain ⟨k, hk, rfl, HA, HB⟩ := hrel
    by_cases hkL : k < L.length
    · have hki : (k : Int) < L.length := by omega
      have HS2 := HS.out.below hhi HB.out
      obtain ⟨a', cv, ov, W, rfl, rfl, hcl, hW, R1, -, -⟩ := HS2.runs hkL
      obtain ⟨q, d, rfl, _, _⟩ := hcl.slice
      have C := HPh.out k hkL wr q _ d HB.out hcl
      have hk63 : k < 9223372036854775807 := by omega
      have HX : Hid (p L[k] = true → o = some k) := fun e => HO.out.symm.trans <| findIdx_some hkL (fun j hj => HA.out j (by omega) hj) e
      have HY : Hid (p L[k] = false → ∀ j (hj : j < L.length), j < k + 1 → p L[j] = false) := fun e j hj hlt => by
        by_cases hjk : j = k
        · subst hjk; exact e
        · exact HA.out j hj (by omega)
      clear hcl hW HS2
      cases hp : p L[k] with
      | true =>
        obtain rfl := HX.out hp
        rw [hp] at C
        clear HX HY hp
        generalize L[k] = y at *
        obtain ⟨yn, yc⟩ := y
        dsimp only at *
        go_wp2_with (first
          | (refine wpList_load_run rfl 78 _ rfl _ _ rfl R1.out ?_; clear R1)
          | (go_at_call 52; refine C.mono ?_; rintro e w1 ⟨rfl, hb1⟩; have HB1 : Hid _ := bel_step HB.out HB.out.size hb1; clear hb1))
        go_ret
        exact ⟨rfl, HB1.out⟩
      | false =>
        have HY2 : Hid _ := HY.out hp
        rw [hp] at C
        clear HX HY hp
        generalize L[k] = y at *
        obtain ⟨yn, yc⟩ := y
        dsimp only at *
        go_wp2_with (first
          | (refine wpList_load_run rfl 78 _ rfl _ _ rfl R1.out ?_; clear R1)
          | (go_at_call 52; refine C.mono ?_; rintro e w1 ⟨rfl, hb1⟩; have HB1 : Hid _ := bel_step HB.out HB.out.size hb1; clear hb1))
        go_roundw
        case rel => exact ⟨k + 1, by omega, by go_num, HY2, HB1⟩
        case measure => simp [intOf]; omega
    · have hki : ¬ (k : Int) < L.length := by omega
      obtain rfl : o = none := HO.out.symm.trans <| findIdx_none fun j hj => HA.out j hj (by omega)
      go_wp2
      go_ret
      exact ⟨rfl, HB.out⟩
set_option maxHeartbeats 4000000 in
theorem idxf_54 {lo hi : Nat} {w : World} {a : Option Addr} {c : Nat} {L : List SheetT} (h : Shs lo hi w (.slice a L.length c) L) (hhi : hi ≤ w.heap.size) (p : SheetT → Bool)
    (HP : ∀ (k : Nat) (hk : k < L.length) (u : World) (q : Option Addr) (m d : Nat), Below w.heap.size w u → Cls lo hi u (.slice q m d) L[k].cells → Calls Tryz.prog 54 #[.agg #[.string L[k].name, .slice q m d]] u fun e w' => e = .returned (.bool (p L[k])) ∧ Below u.heap.size u w') :
    Calls Tryz.prog 70 #[.slice a L.length c, .func (.func 54) #[] #[]] w fun e w' => e = .returned (.int .i64 (idxI (L.findIdx? p))) ∧ Below w.heap.size w w' := by
  obtain ⟨_, _, he, hz1, hz2⟩ := h.slice
  cases he
  have hlen : L.length ≤ 9223372036854775807 := by unfold maxLen at hz2; omega
  have HS : Hid (Shs lo hi w (.slice a L.length c) L) := h
  have HPh : Hid _ := HP
  generalize hO : L.findIdx? p = o
  have HO : Hid (L.findIdx? p = o) := hO
  clear h HP hz1 hz2 hO
  go_enter Tryz.func70, Tryz.ntmps70
  go_wp2
  go_loopw [8] (fun i wr => ∃ (k : Nat), k ≤ L.length ∧ i = .int .i64 (k : Nat) ∧ Hid (∀ j (hj : j < L.length), j < k → p L[j] = false) ∧ Hid (Below w.heap.size w wr)) (fun i _ => L.length - (intOf i).toNat)
  case atStart => exact ⟨0, Nat.zero_le _, rfl, fun j _ hj => by omega, Below.refl _ _⟩
  case round =>
    obtain ⟨k, hk, rfl, HA, HB⟩ := hrel
    by_cases hkL : k < L.length
    · have hki : (k : Int) < L.length := by omega
      have HS2 := HS.out.below hhi HB.out
      obtain ⟨a', cv, ov, W, rfl, rfl, hcl, hW, R1, -, -⟩ := HS2.runs hkL
      obtain ⟨q, d, rfl, _, _⟩ := hcl.slice
      have C := HPh.out k hkL wr q _ d HB.out hcl
      have hk63 : k < 9223372036854775807 := by omega
      have HX : Hid (p L[k] = true → o = some k) := fun e => HO.out.symm.trans <| findIdx_some hkL (fun j hj => HA.out j (by omega) hj) e
      have HY : Hid (p L[k] = false → ∀ j (hj : j < L.length), j < k + 1 → p L[j] = false) := fun e j hj hlt => by
        by_cases hjk : j = k
        · subst hjk; exact e
        · exact HA.out j hj (by omega)
      clear hcl hW HS2
      cases hp : p L[k] with
      | true =>
        obtain rfl := HX.out hp
        rw [hp] at C
        clear HX HY hp
        generalize L[k] = y at *
        obtain ⟨yn, yc⟩ := y
        dsimp only at *
        go_wp2_with (first
          | (refine wpList_load_run rfl 78 _ rfl _ _ rfl R1.out ?_; clear R1)
          | (go_at_call 54; refine C.mono ?_; rintro e w1 ⟨rfl, hb1⟩; have HB1 : Hid _ := bel_step HB.out HB.out.size hb1; clear hb1))
        go_ret
        exact ⟨rfl, HB1.out⟩
      | false =>
        have HY2 : Hid _ := HY.out hp
        rw [hp] at C
        clear HX HY hp
        generalize L[k] = y at *
        obtain ⟨yn, yc⟩ := y
        dsimp only at *
        go_wp2_with (first
          | (refine wpList_load_run rfl 78 _ rfl _ _ rfl R1.out ?_; clear R1)
          | (go_at_call 54; refine C.mono ?_; rintro e w1 ⟨rfl, hb1⟩; have HB1 : Hid _ := bel_step HB.out HB.out.size hb1; clear hb1))
        go_roundw
        case rel => exact ⟨k + 1, by omega, by go_num, HY2, HB1⟩
        case measure => simp [intOf]; omega
    · have hki : ¬ (k : Int) < L.length := by omega
      obtain rfl : o = none := HO.out.symm.trans <| findIdx_none fun j hj => HA.out j hj (by omega)
      go_wp2
      go_ret
      exact ⟨rfl, HB.out⟩
end Go.Proofs.YtpafokmkcblcnaaGreatDoor.Sh

namespace Go.Proofs.YtpafokmkcblcnaaGreatDoor.Sh
open Go.RowKit
set_option maxRecDepth 100000
abbrev bkO (sv nv lv : Value) : Obj := .cells #[sv, nv, lv] 26
theorem ldB {w : World} {g : Nat} {sv nv lv : Value} {z : Nat × Nat} (h : w.heap[g]? = some (.cells #[sv, nv, lv] 26 z)) : (Instr.loadAt 26 (.pointer (some ⟨g, 0, none⟩))).run Tryz.prog w = .ok (.agg #[sv, nv, lv]) w := by
  have hi : (Tryz.prog.info? 26).map (·.size) = some (#[sv, nv, lv] : Array Value).size := by kernel_rfl
  simp only [Instr.loadAt, Instr.sureAddr, Sem.run_bind, Sem.run_pure, Result.andThen_ok, run_loadVar_row w g 26 26 _ z _ h Tryz.underlying26 rfl hi]
theorem c_cells {u : World} {g : Nat} {y : CellT} {z : Nat × Nat} (h : u.heap[g]? = some (.cells (cellC y).toArray 57 z)) : u.cell? ⟨g, 0, none⟩ = some (.int .i64 y.row) ∧ u.cell? ⟨g, 1, none⟩ = some (.int .i64 y.col) ∧ u.cell? ⟨g, 2, none⟩ = some (.string y.text) :=
  ⟨cell_heap h rfl, cell_heap h rfl, cell_heap h rfl⟩
set_option maxHeartbeats 4000000 in
theorem index_any {lo hi : Nat} {w : World} {sv nv lv : Value} {x : BookT} (h : BkM lo hi w sv nv lv x) (hhi : hi ≤ w.heap.size) (s : ByteArray) :
    Calls Tryz.prog 20 #[.agg #[sv, nv, lv], .string s] w fun e w' => e = .returned (.int .i64 (idxI (idxN x.sheets s))) ∧ Below w.heap.size w w' := by
  obtain ⟨sa, sc, rfl, _, _⟩ := h.sh.slice
  obtain ⟨na, nc, rfl, _, _⟩ := h.nm.slice
  obtain ⟨la, lc, rfl, _, _⟩ := h.lk.slice
  obtain ⟨W, hW⟩ : ∃ W, W = (w.alloc (bkO (.slice sa x.sheets.length sc) (.slice na x.names.length nc) (.slice la x.links.length lc))).alloc (.cells #[.string s] 9) := ⟨_, rfl⟩
  have HB : Below w.heap.size w W := by rw [hW]; exact bel_alloc (bel_alloc (Below.refl _ _) (Nat.le_refl _) _) (Nat.le_refl _) _
  have hz : hi ≤ W.heap.size := Nat.le_trans hhi HB.size
  have HG : W.heap[w.heap.size + 1]? = some (.cells #[.string s] 9) := by rw [hW]; simpa using heap_alloc_new (w.alloc (bkO (.slice sa x.sheets.length sc) (.slice na x.names.length nc) (.slice la x.links.length lc))) (.cells #[.string s] 9)
  have C := idxf_71 (h.sh.below hhi HB) hz (fun t => t.name.toList == s.toList) (w.heap.size + 1) (fun k hk u q m d hu hc => pred71 (by rw [hu.block _ (blk_lt HG)]; exact HG) _ q m d)
  rw [hW] at C
  have HBh : Hid (Below w.heap.size w W) := HB
  have HW : Hid (W = _) := hW
  have HE : Hid (idxN x.sheets s = x.sheets.findIdx? fun t => t.name.toList == s.toList) := rfl
  rw [HE.out]
  generalize (x.sheets.findIdx? fun t => t.name.toList == s.toList) = o at *
  clear h HB HG hW hz HE
  go_enter Tryz.func20, Tryz.ntmps20
  go_wp2_with (go_at_call 70; refine C.mono ?_; rintro e w1 ⟨rfl, hb⟩; rw [← HW.out] at hb; have HB2 : Hid _ := bel_step HBh.out HBh.out.size hb; clear hb)
  go_ret
  exact ⟨rfl, HB2.out⟩
set_option maxHeartbeats 4000000 in
theorem cellsOf_any {lo hi : Nat} {w : World} {sv nv lv : Value} {x : BookT} (h : BkM lo hi w sv nv lv x) (hhi : hi ≤ w.heap.size) (s : ByteArray) :
    Calls Tryz.prog 72 #[.agg #[sv, nv, lv], .string s] w fun e w' => (∃ v, e = .returned v ∧ Cls lo hi w' v (cellsO x.sheets s)) ∧ Below w.heap.size w w' := by
  have h0 := h
  obtain ⟨sa, sc, rfl, hs1, hs2⟩ := h.sh.slice
  obtain ⟨na, nc, rfl, _, _⟩ := h.nm.slice
  obtain ⟨la, lc, rfl, _, _⟩ := h.lk.slice
  obtain ⟨W, hW⟩ : ∃ W, W = w.alloc (bkO (.slice sa x.sheets.length sc) (.slice na x.names.length nc) (.slice la x.links.length lc)) := ⟨_, rfl⟩
  have HB : Below w.heap.size w W := by rw [hW]; exact bel_alloc (Below.refl _ _) (Nat.le_refl _) _
  have HG : W.heap[w.heap.size]? = some (bkO (.slice sa x.sheets.length sc) (.slice na x.names.length nc) (.slice la x.links.length lc)) := by rw [hW]; exact heap_alloc_new w _
  have R1 : Hid _ := ldB HG
  have C0 := index_any (h.below hhi HB) (Nat.le_trans hhi HB.size) s
  have hlen : x.sheets.length ≤ 9223372036854775807 := by unfold maxLen at hs2; omega
  unfold cellsO
  cases hO : idxN x.sheets s with
  | none =>
    rw [hO] at C0
    have C : Calls Tryz.prog 20 _ _ fun e w' => e = .returned (.int .i64 (-1)) ∧ Hid (Below w.heap.size w w') :=
      C0.mono (by
        rintro e w' ⟨rfl, hb⟩
        exact ⟨rfl, bel_step HB HB.size hb⟩)
    rw [hW] at C R1
    clear h h0 HB HG hW hs1 hs2 C0
    dsimp only
    go_enter Tryz.func72, Tryz.ntmps72
    go_wp2_with (first
      | (refine wpList_load_run rfl 26 _ rfl _ _ rfl R1.out ?_; clear R1)
      | (go_at_call 20; refine C.mono ?_; clear C; rintro e w1 ⟨rfl, HB⟩))
    go_ret
    exact ⟨⟨_, rfl, Cls.nil _ _ _⟩, HB.out⟩
  | some i =>
    rw [hO] at C0
    have hil := idx_lt hO
    have C : Calls Tryz.prog 20 _ _ fun e w' => e = .returned (.int .i64 (i : Nat)) ∧ ∃ a' q d, sa = some a' ∧ w'.cell? ⟨w.heap.size, 0, none⟩ = some (.slice sa x.sheets.length sc) ∧ w'.cell? ⟨(a'.add (i * 2)).block, (a'.add (i * 2)).off + 1, none⟩ = some (.slice q x.sheets[i].cells.length d) ∧ Hid (Cls lo hi w' (.slice q x.sheets[i].cells.length d) x.sheets[i].cells) ∧ Hid (Below w.heap.size w w') :=
      C0.mono (by
        rintro e w' ⟨rfl, hb⟩
        have hb2 := bel_step HB HB.size hb
        obtain ⟨cv, hr, hc⟩ := h.sh.below hhi hb2
        have hcs := hc i _ (List.getElem?_eq_getElem hil)
        obtain ⟨a', rfl, h1, h2⟩ := Rws.at hr hil
        obtain ⟨q, d, hcv, _, _⟩ := hcs.slice
        exact ⟨rfl, a', q, d, rfl, cell_heap ((hb.block _ (blk_lt HG)).trans HG) rfl, h2 1 _ (by omega) (by simp [sheetsC, List.getElem?_eq_getElem hil, sheetC, hcv]), by rw [← hcv]; exact hcs, hb2⟩)
    rw [hW] at C R1
    have hni : ¬ (i : Int) < 0 := by omega
    have hii : (i : Int) < x.sheets.length := by omega
    have HE : Hid ((x.sheets[i]?.map (·.cells)).getD [] = x.sheets[i].cells) := by show _ = _; simp [List.getElem?_eq_getElem hil]
    dsimp only
    rw [HE.out]
    clear h h0 HB HG hW hs1 hs2 C0 HE
    generalize x.sheets[i].cells = cl at *
    go_enter Tryz.func72, Tryz.ntmps72
    go_wp2_with (first
      | (refine wpList_load_run rfl 26 _ rfl _ _ rfl R1.out ?_; clear R1)
      | (go_at_call 20; refine C.mono ?_; clear C; rintro e w1 ⟨rfl, a', q, d, rfl, c0, c1, HC, HB⟩))
    go_ret
    exact ⟨⟨_, rfl, HC.out⟩, HB.out⟩
set_option maxHeartbeats 4000000 in
theorem get_any {lo hi : Nat} {w : World} {sv nv lv : Value} {x : BookT} (h : BkM lo hi w sv nv lv x) (hhi : hi ≤ w.heap.size) (s : ByteArray) (r c : Int) :
    Calls Tryz.prog 22 #[.agg #[sv, nv, lv], .string s, .int .i64 r, .int .i64 c] w fun e w' => e = .returned (.string (getL (cellsO x.sheets s) r c)) ∧ Below w.heap.size w w' := by
  have h0 := h
  obtain ⟨sa, sc, rfl, hs1, hs2⟩ := h.sh.slice
  obtain ⟨na, nc, rfl, _, _⟩ := h.nm.slice
  obtain ⟨la, lc, rfl, _, _⟩ := h.lk.slice
  obtain ⟨W, hW⟩ : ∃ W, W = w.alloc (bkO (.slice sa x.sheets.length sc) (.slice na x.names.length nc) (.slice la x.links.length lc)) := ⟨_, rfl⟩
  have HB : Below w.heap.size w W := by rw [hW]; exact bel_alloc (Below.refl _ _) (Nat.le_refl _) _
  have HG : W.heap[w.heap.size]? = some (bkO (.slice sa x.sheets.length sc) (.slice na x.names.length nc) (.slice la x.links.length lc)) := by rw [hW]; exact heap_alloc_new w _
  have R1 : Hid _ := ldB HG
  generalize hL : cellsO x.sheets s = L
  have C : Calls Tryz.prog 72 _ _ fun e w' => ∃ q d, e = .returned (.slice q L.length d) ∧ L.length ≤ 9223372036854775807 ∧ Hid (Cls lo hi w' (.slice q L.length d) L) ∧ Hid (Below w.heap.size w w') :=
    (cellsOf_any (h.below hhi HB) (Nat.le_trans hhi HB.size) s).mono (by
      rintro e w' ⟨⟨v, rfl, hc⟩, hb⟩
      rw [hL] at hc
      obtain ⟨q, d, rfl, h1, h2⟩ := hc.slice
      exact ⟨q, d, rfl, by unfold maxLen at h2; omega, hc, bel_step HB HB.size hb⟩)
  rw [hW] at C R1
  generalize hG : getL L r c = gt
  have HO : Hid (getL L r c = gt) := hG
  clear h h0 HB HG hW hs1 hs2 hL hG
  go_enter Tryz.func22, Tryz.ntmps22
  go_wp2_with (first
    | (refine wpList_load_run rfl 26 _ rfl _ _ rfl R1.out ?_; clear R1)
    | (go_at_call 72; refine C.mono ?_; clear C; rintro e w1 ⟨q, d, rfl, hlen, HC, HB⟩))
  go_loopw [15] (fun i wr => ∃ (k : Nat), k ≤ L.length ∧ i = .int .i64 (k : Nat) ∧ Hid (∀ j (hj : j < L.length), j < k → atB r c L[j] = false) ∧ Hid (Below w1.heap.size w1 wr)) (fun i _ => L.length - (intOf i).toNat)
  case atStart => exact ⟨0, Nat.zero_le _, rfl, fun j _ hj => by omega, Below.refl _ _⟩
  case round =>
    obtain ⟨k, hk, rfl, HA, HD⟩ := hrel
    have hhi1 : hi ≤ w1.heap.size := Nat.le_trans hhi HB.out.size
    by_cases hkL : k < L.length
    · have hki : (k : Int) < L.length := by omega
      obtain ⟨a', ov, W', rfl, rfl, hW', R2, R3, -⟩ := (HC.out.below hhi1 HD.out).runs hkL
      obtain ⟨c0, c1, c2⟩ := c_cells (show W'.heap[wr.heap.size]? = some (.cells (cellC L[k]).toArray 57) by rw [hW']; exact heap_alloc_new wr _)
      have HD2 : Hid (Below w1.heap.size w1 W') := by rw [hW']; exact bel_alloc HD.out (Nat.le_refl _) _
      have hk63 : k < 9223372036854775807 := by omega
      have HX : Hid (atB r c L[k] = true → gt = L[k].text) := fun e => by rw [← HO.out]; unfold getL; rw [find_some hkL (fun j hj => HA.out j (by omega) hj) e]
      have HY : Hid (atB r c L[k] = false → ∀ j (hj : j < L.length), j < k + 1 → atB r c L[j] = false) := fun e j hj hlt => by
        by_cases hjk : j = k
        · subst hjk; exact e
        · exact HA.out j hj (by omega)
      clear hW'
      have hat : atB r c L[k] = (L[k].row == r && L[k].col == c) := rfl
      generalize L[k] = y at *
      obtain ⟨yr, yc, yt⟩ := y
      dsimp only at *
      by_cases e1 : yr = r
      · by_cases e2 : yc = c
        · obtain rfl := HX.out (by rw [hat]; simp [e1, e2])
          subst e1 e2
          clear HX HY hat HO
          go_wp2_with (first
            | (refine wpList_load_run rfl 57 _ rfl _ _ rfl R2.out ?_; clear R2)
            | (refine wpList_store_run rfl 57 _ _ rfl _ _ _ rfl rfl R3.out ?_; clear R3))
          go_ret
          exact ⟨rfl, HB.out.trans (HD2.out.mono HB.out.size)⟩
        · have HY2 : Hid _ := HY.out (by rw [hat]; simp [e2])
          subst e1
          clear HX HY hat HO
          go_wp2_with (first
            | (refine wpList_load_run rfl 57 _ rfl _ _ rfl R2.out ?_; clear R2)
            | (refine wpList_store_run rfl 57 _ _ rfl _ _ _ rfl rfl R3.out ?_; clear R3))
          go_roundw
          case rel => exact ⟨k + 1, by omega, by go_num, HY2, HD2⟩
          case measure => simp [intOf]; omega
      · have HY2 : Hid _ := HY.out (by rw [hat]; simp [e1])
        clear HX HY hat HO
        go_wp2_with (first
          | (refine wpList_load_run rfl 57 _ rfl _ _ rfl R2.out ?_; clear R2)
          | (refine wpList_store_run rfl 57 _ _ rfl _ _ _ rfl rfl R3.out ?_; clear R3))
        go_roundw
        case rel => exact ⟨k + 1, by omega, by go_num, HY2, HD2⟩
        case measure => simp [intOf]; omega
    · have hki : ¬ (k : Int) < L.length := by omega
      obtain rfl : gt = ⟨#[]⟩ := by
        rw [← HO.out]
        unfold getL
        rw [find_none fun j hj => HA.out j hj (by omega)]
      go_wp2
      go_ret
      exact ⟨rfl, HB.out.trans (HD.out.mono HB.out.size)⟩
theorem cnt_take {L : List SheetT} {k : Nat} (hk : k < L.length) : cntL (L.take (k + 1)) = cntL (L.take k) + L[k].cells.length := by
  unfold cntL
  rw [List.take_succ_eq_append_getElem hk, List.map_append, List.sum_append]
  simp
theorem cnt_le {L : List SheetT} (k : Nat) : cntL (L.take k) ≤ cntL L := by
  unfold cntL
  conv => rhs; rw [← List.take_append_drop k L, List.map_append, List.sum_append]
  omega
set_option maxHeartbeats 4000000 in
theorem count_any {lo hi : Nat} {w : World} {sv nv lv : Value} {x : BookT} (h : BkM lo hi w sv nv lv x) (hhi : hi ≤ w.heap.size) (hz : cntL x.sheets ≤ 4611686018427387904) :
    Calls Tryz.prog 24 #[.agg #[sv, nv, lv]] w fun e w' => e = .returned (.int .i64 (cntL x.sheets : Nat)) ∧ Below w.heap.size w w' := by
  obtain ⟨sa, sc, rfl, hs1, hs2⟩ := h.sh.slice
  obtain ⟨na, nc, rfl, _, _⟩ := h.nm.slice
  obtain ⟨la, lc, rfl, _, _⟩ := h.lk.slice
  have HB : Hid (Below w.heap.size w (w.alloc (bkO (.slice sa x.sheets.length sc) (.slice na x.names.length nc) (.slice la x.links.length lc)))) := bel_alloc (Below.refl _ _) (Nat.le_refl _) _
  have c0 := cell_heap (heap_alloc_new w (bkO (.slice sa x.sheets.length sc) (.slice na x.names.length nc) (.slice la x.links.length lc))) (j := 0) rfl
  have HS : Hid (Shs lo hi w (.slice sa x.sheets.length sc) x.sheets) := h.sh
  have hlen : x.sheets.length ≤ 9223372036854775807 := by unfold maxLen at hs2; omega
  generalize hT : cntL x.sheets = tot at *
  have HT : Hid (cntL x.sheets = tot) := hT
  clear h hs1 hs2 hT
  go_enter Tryz.func24, Tryz.ntmps24
  go_wp2
  go_loopw [3, 9] (fun m i wr => ∃ (k q : Nat), k ≤ x.sheets.length ∧ i = .int .i64 (k : Nat) ∧ m = .int .i64 (q : Nat) ∧ q = cntL (x.sheets.take k) ∧ Hid (Below w.heap.size w wr)) (fun _ i _ => x.sheets.length - (intOf i).toNat)
  case atStart => exact ⟨0, 0, Nat.zero_le _, rfl, rfl, rfl, HB⟩
  case round =>
    obtain ⟨k, q, hk, rfl, rfl, hq, HD⟩ := hrel
    clear HB
    by_cases hkL : k < x.sheets.length
    · have hki : (k : Int) < x.sheets.length := by omega
      obtain ⟨a', cv, ov, W, rfl, rfl, hcl, hW, R1, R2, -⟩ := (HS.out.below hhi HD.out).runs hkL
      obtain ⟨ca, cc, rfl, _, _⟩ := hcl.slice
      have c1 := cell_heap (show W.heap[wr.heap.size]? = some (.cells #[.string x.sheets[k].name, .slice ca x.sheets[k].cells.length cc] 78) by rw [hW]; exact heap_alloc_new wr _) (j := 1) rfl
      have HD2 : Hid (Below w.heap.size w W) := by rw [hW]; exact bel_alloc HD.out (Nat.le_refl _) _
      have hk63 : k < 9223372036854775807 := by omega
      have hs := cnt_take hkL
      have hle := cnt_le (L := x.sheets) (k + 1)
      rw [HT.out] at hle
      clear hcl hW
      generalize x.sheets[k] = y at *
      obtain ⟨yn, yc⟩ := y
      dsimp only at *
      have hw : (q : Int) + (yc.length : Nat) = ((q + yc.length : Nat) : Int) := by omega
      have hm : IntKind.i64.wrap ((q + yc.length : Nat) : Int) = ((q + yc.length : Nat) : Int) := by rw [IntKind.wrap_i64]; omega
      generalize hqq : q + yc.length = q2 at *
      go_wp2_with (first
        | (refine wpList_load_run rfl 78 _ rfl _ _ rfl R1.out ?_; clear R1)
        | (refine wpList_store_run rfl 78 _ _ rfl _ _ _ rfl rfl R2.out ?_; clear R2))
      go_roundw
      case rel => exact ⟨k + 1, q2, by omega, by go_num, by go_num, by omega, HD2⟩
      case measure => simp [intOf]; omega
    · have hki : ¬ (k : Int) < x.sheets.length := by omega
      obtain rfl : q = tot := by rw [hq, List.take_of_length_le (by omega)]; exact HT.out
      go_wp2
      go_ret
      exact ⟨rfl, HD.out⟩
end Go.Proofs.YtpafokmkcblcnaaGreatDoor.Sh
