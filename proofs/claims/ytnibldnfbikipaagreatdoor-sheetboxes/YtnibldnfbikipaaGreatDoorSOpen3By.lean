/- SBx, SOpen3. -/
import Derived.ChangeArms
import Derived.ChangeOld
import Derived.WideShapes
import Derived.Test.YtnibldnfbikipaaGreatDoorSInBy
import Derived.Test.YtnibldnfbikipaaGreatDoorSR3By
set_option linter.unusedVariables false
set_option linter.unusedSimpArgs false
set_option maxHeartbeats 16000000
set_option maxRecDepth 100000
namespace Go.Proofs.YtnibldnfbikipaaGreatDoor.Sh
open Go.RowKit Go.Fm Cm
theorem kheld : Tryz.prog.stoodInHeld 57 = false := by kernel_rfl
theorem kstr : Tryz.prog.underlying 57 = some (.struct (Tryz.prog.fieldsOf 57)) := by kernel_rfl
abbrev kf0 : Field := { name := "Row", type := 3, offset := 0, embedded := false, tag := "", pkgPath := "", byteOffset := 0 }
abbrev kf1 : Field := { name := "Col", type := 3, offset := 1, embedded := false, tag := "", pkgPath := "", byteOffset := 8 }
abbrev kf2 : Field := { name := "Text", type := 9, offset := 2, embedded := false, tag := "", pkgPath := "", byteOffset := 16 }
theorem kfields : (Tryz.prog.fieldsOf 57).toList = [kf0, kf1, kf2] := by kernel_rfl
theorem keqn (x : CellT) (W : World) : (Op.equalIn 10000 57 (nmV x) (nmV x)).run Tryz.prog W = .ok true W := by
 rw [run_equalIn_struct W 9999 57 _ _ kstr kheld, kfields]
 have h9 := Tryz.underlying9
 have h3 := Tryz.underlying3
 have a3 := Tryz.isAgg3
 have z3 := Tryz.sizeOf3
 have a9 := Tryz.isAgg9
 have z9 := Tryz.sizeOf9
 simp only [Op.eqFields]
 go_simp
theorem krun_ne (x : CellT) (W : World) : (binOp .neq 57 (nmV x) (nmV x)).run Tryz.prog W = .ok (.bool false) W := by
 rw [run_neq_struct, keqn]
 rfl
structure BX (K : World) (g gm : Nat) (M : List CellT) (k : Nat) (u : World) : Prop where
 bel : Below K.heap.size K u
 kg : K.heap.size ≤ g
 th : ∀ j, j < M.length → u.there g (j * 3) 3
 rl : ∀ j (hj : j < M.length), k ≤ j → ∀ i v, (cellC M[j])[i]? = some v → u.cell? ⟨g, j * 3 + i, none⟩ = some v
 ne : g ≠ gm
 rm : ∀ j v, (M.flatMap cellC)[j]? = some v → u.cell? ⟨gm, j, none⟩ = some v
theorem ad0 (g n : Nat) : (⟨g, 0, none⟩ : Addr).add n = ⟨g, n, none⟩ := by rw [Addr.add_mid, Nat.zero_add]
theorem BX.ldl {K u : World} {g gm k : Nat} {M : List CellT} (h : BX K g gm M k u) (hk : k < M.length) : ∀ u2 : World, u2.heap = u.heap → (Instr.loadAt 57 (.pointer (some ((⟨g, 0, none⟩ : Addr).add (k * 3))))).run Tryz.prog u2 = .ok (cellV M[k]) u2 := fun u2 he => by
 refine run_loadVar_any u2 _ 57 (cellC M[k]) _ (fun j v hv => ?_) Tryz.underlying57 rfl (by show _ = some 3; kernel_rfl)
 rw [Go.Deep.add_add, ad0]
 have := h.rl k hk (Nat.le_refl _) j v hv
 rw [← this]
 unfold World.cell?
 rw [he]
theorem BX.ldm {K u : World} {g gm k : Nat} {M : List CellT} (h : BX K g gm M k u) (hk : k < M.length) : ∀ u2 : World, u2.heap = u.heap → (Instr.loadAt 57 (.pointer (some ((⟨gm, 0, none⟩ : Addr).add (k * 3))))).run Tryz.prog u2 = .ok (cellV M[k]) u2 := fun u2 he => by
 refine run_loadVar_any u2 _ 57 (cellC M[k]) _ (fun j v hv => ?_) Tryz.underlying57 rfl (by show _ = some 3; kernel_rfl)
 rw [Go.Deep.add_add, ad0]
 have := h.rm (k * 3 + j) v (nfl_at M k j v hk hv)
 rw [← this]
 unfold World.cell?
 rw [he]
theorem BX.heap {K u u2 : World} {g gm k : Nat} {M : List CellT} (h : BX K g gm M k u) (hb : Below u.heap.size u u2) (he : u2.heap = u.heap) : BX K g gm M k u2 :=
 ⟨Sh.bel_step h.bel h.bel.size hb, h.kg, fun j hj i hi => by
  have := h.th j hj i hi
  unfold World.cell? World.frozen? at *
  rw [he]; exact this, fun j hj hk i v hv => by rw [← h.rl j hj hk i v hv]; unfold World.cell?; rw [he], h.ne, fun j v hv => by rw [← h.rm j v hv]; unfold World.cell?; rw [he]⟩
theorem BX.store {K u : World} {g gm k : Nat} {M : List CellT} (h : BX K g gm M k u) (hk : k < M.length) :
  ∃ w', Hid ((Instr.storeAt 57 (.pointer (some ((⟨g, 0, none⟩ : Addr).add (k * 3)))) (nmV nm0)).run Tryz.prog u = .ok () w') ∧ BX K g gm M (k + 1) w' := by
 refine ⟨u.setCells g (k * 3) (ncs nm0).toList, ?_, ?_⟩
 ·have := run_storeAt_mid (P := Tryz.prog) u g (k * 3) 57 (ncs nm0) (h.th k hk) ninf (by simp [Value.oneCell'])
  show _ = _
  rw [ad0]
  exact this
 ·refine ⟨h.bel.grown (ngrown_setCells g _ _ _) h.bel.size (fun j e => by cases e; exact h.kg), h.kg, fun j hj => World.there_setCells (h.th j hj) g _ _, fun j hj hkj i v hv => ?_, h.ne, fun j v hv => ?_⟩
  ·rw [World.cell?_setCells_out g _ _ _ _ (fun _ _ => Or.inr ?_)]
   ·exact h.rl j hj (by omega) i v hv
   ·show k * 3 + 3 ≤ j * 3 + i
    have : (k + 1) * 3 ≤ j * 3 := Nat.mul_le_mul_right _ hkj
    omega
  ·rw [World.cell?_setCells_out g _ _ _ _ (fun hb _ => absurd hb.symm h.ne)]
   exact h.rm j v hv
theorem own_at {base : Nat} {w : World} {p : Option Addr} {n c : Nat} {M : List CellT} (h : OwnM base w (.slice p n c) M) : n = 0 ∨ ∃ g, p = some ⟨g, 0, none⟩ ∧ base ≤ g ∧ g < w.heap.size ∧ (∀ j, j < M.length → w.there g (j * 3) 3) ∧ (∀ j v, (M.flatMap cellC)[j]? = some v → w.cell? ⟨g, j, none⟩ = some v) := by
 have hlt := fun g (e : (Value.slice p n c).ownBlock = some g) => World.ownsRow.lt h g e
 have hcl := fun g (e : (Value.slice p n c).ownBlock = some g) => World.ownsRow.cells h e
 rcases h.2 with ⟨e, h0⟩ | ⟨g, cap, cur, e, hg, hh, hle, hm, hs, hp⟩
 ·cases e; exact .inl rfl
 ·cases e
  refine .inr ⟨g, rfl, hg, (hlt g rfl).2, fun j hj i hi => ⟨?_, ?_⟩, fun j v hv => ?_⟩
  ·rw [cell_of_row w g _ cur 57 _ hh]
   rw [Array.getElem?_eq_getElem (by rw [hs]; have : (j + 1) * 3 ≤ c * 3 := Nat.mul_le_mul_right _ (by omega); omega)]
   rfl
  ·simp [World.frozen?, hh]
  ·have := hcl g rfl j v hv
   rw [ad0] at this
   exact this
theorem cells_rise {L : List SheetT} (h : Right L) (s : ByteArray) : Rise (cellsO L s) ∧ (cellsO L s).length ≤ 1000 := by
 unfold cellsO
 cases hO : idxN L s with
 | none => exact ⟨List.Pairwise.nil, Nat.zero_le _⟩
 | some i =>
  have hil := idx_lt hO
  have e : (L[i]?.map (·.cells)).getD [] = L[i].cells := by simp [List.getElem?_eq_getElem hil]
  dsimp only
  rw [e]
  refine ⟨(laid_iff.1 (h.ld _ (List.getElem_mem hil))).2, ?_⟩
  have h1 := h.ct
  have h2 : L[i].cells.length ≤ cntL L := by
   have := cnt_take hil
   have := cnt_le (L := L) (i + 1)
   omega
  omega
abbrev arO (a b c d : Int) : Obj := .cells #[.int .i64 a, .int .i64 b, .int .i64 c, .int .i64 d] 54
theorem boxes_any {lo hi : Nat} {w : World} {sv nv lv : Value} {x : BookT} (h : BkM lo hi w sv nv lv x) (hhi : hi ≤ w.heap.size) (hN : NamesOk x.sheets) (hC : CellsOk x.sheets) (hn : x.names.length ≤ 1125899906842624) (hk : x.links.length ≤ 1125899906842624) (s : ByteArray) (r1 c1 r2 c2 : Int) (T : Tab9 w) :
  Calls Tryz.prog 5 #[.agg #[sv, nv, lv], .string s, .agg #[.int .i64 r1, .int .i64 c1, .int .i64 r2, .int .i64 c2]] w fun e w' => e = .returned (.bool true) ∧ Below w.heap.size w w' := by
 obtain ⟨sa, sc, rfl, hs1, hs2⟩ := h.sh.slice
 obtain ⟨na, nc, rfl, _, _⟩ := h.nm.slice
 obtain ⟨la, lc, rfl, _, _⟩ := h.lk.slice
 obtain ⟨W, hW⟩ : ∃ W, W = (w.alloc (bkO (.slice sa x.sheets.length sc) (.slice na x.names.length nc) (.slice la x.links.length lc))).alloc (arO r1 c1 r2 c2) := ⟨_, rfl⟩
 have HB0 : Below w.heap.size w W := by rw [hW]; exact Sh.bel_alloc (Sh.bel_alloc (Below.refl _ _) (Nat.le_refl _) _) (Nat.le_refl _) _
 have hX0 : W.heap[w.heap.size]? = some (bkO (.slice sa x.sheets.length sc) (.slice na x.names.length nc) (.slice la x.links.length lc)) := by
  rw [hW, Below.heap_alloc _ _ _ (by simp)]
  exact heap_alloc_new w _
 have hX1 : W.heap[w.heap.size + 1]? = some (arO r1 c1 r2 c2) := by
  have := heap_alloc_new (w.alloc (bkO (.slice sa x.sheets.length sc) (.slice na x.names.length nc) (.slice la x.links.length lc))) (arO r1 c1 r2 c2)
  rw [show (w.alloc (bkO (.slice sa x.sheets.length sc) (.slice na x.names.length nc) (.slice la x.links.length lc))).heap.size = w.heap.size + 1 by simp] at this
  rw [hW]; exact this
 have KX : Hid (∀ u, Below W.heap.size W u → u.heap[w.heap.size]? = some (bkO (.slice sa x.sheets.length sc) (.slice na x.names.length nc) (.slice la x.links.length lc)) ∧ u.heap[w.heap.size + 1]? = some (arO r1 c1 r2 c2) ∧ BkM lo hi u (.slice sa x.sheets.length sc) (.slice na x.names.length nc) (.slice la x.links.length lc) x ∧ hi ≤ u.heap.size ∧ Tab9 u ∧ Below w.heap.size w u) := fun u hu => by
  have hw := Sh.bel_step HB0 HB0.size hu
  exact ⟨(hu.block _ (blk_lt hX0)).trans hX0, (hu.block _ (blk_lt hX1)).trans hX1, h.below hhi hw, Nat.le_trans hhi hw.size, T.below hw, hw⟩
 have HCC : Hid (∀ u, Below W.heap.size W u → (u.cell? ⟨w.heap.size, 0, none⟩ = some (.slice sa x.sheets.length sc) ∧ u.cell? ⟨w.heap.size, 1, none⟩ = some (.slice na x.names.length nc) ∧ u.cell? ⟨w.heap.size, 2, none⟩ = some (.slice la x.links.length lc)) ∧ (u.cell? ⟨w.heap.size + 1, 0, none⟩ = some (.int .i64 r1) ∧ u.cell? ⟨w.heap.size + 1, 1, none⟩ = some (.int .i64 c1) ∧ u.cell? ⟨w.heap.size + 1, 2, none⟩ = some (.int .i64 r2) ∧ u.cell? ⟨w.heap.size + 1, 3, none⟩ = some (.int .i64 c2))) := fun u hu =>
  ⟨b_cells (KX.out u hu).1, cell_heap (KX.out u hu).2.1 rfl, cell_heap (KX.out u hu).2.1 rfl, cell_heap (KX.out u hu).2.1 rfl, cell_heap (KX.out u hu).2.1 rfl⟩
 have C8 := small_any (KX.out W (Below.refl _ _)).2.2.1 (KX.out W (Below.refl _ _)).2.2.2.1 hn hk
 obtain ⟨⟨d0, d1, d2⟩, f0, f1, f2, f3⟩ := HCC.out W (Below.refl _ _)
 rw [hW] at d0 d1 d2 f0 f1 f2 f3
 have HW : Hid ((w.alloc (bkO (.slice sa x.sheets.length sc) (.slice na x.names.length nc) (.slice la x.links.length lc))).alloc (arO r1 c1 r2 c2) = W) := hW.symm
 have HC9 : Hid (∀ u, Below W.heap.size W u → Calls Tryz.prog 9 #[] u fun e v => e = .returned (.bool true) ∧ Hid (Below w.heap.size w v)) := fun u hu => (lives_any u (KX.out u hu).2.2.2.2.1).mono fun e v hh => ⟨hh.1, Sh.bel_step (KX.out u hu).2.2.2.2.2 (KX.out u hu).2.2.2.2.2.size hh.2⟩
 have HC10 : Hid (∀ u, Below W.heap.size W u → Calls Tryz.prog 10 #[.agg #[.slice sa x.sheets.length sc, .slice na x.names.length nc, .slice la x.links.length lc]] u fun e v => e = .returned (.int .i64 (checkF x.sheets)) ∧ Hid (Below W.heap.size W v)) := fun u hu => (rcheck_any (KX.out u hu).2.2.1 (KX.out u hu).2.2.2.1 hN hC (KX.out u hu).2.2.2.2.1).mono fun e v hh => ⟨hh.1, Sh.bel_step hu hu.size hh.2⟩
 have HC34 : Hid (checkF x.sheets = 0 → ∀ u, Below W.heap.size W u → Calls Tryz.prog 34 #[.agg #[.slice sa x.sheets.length sc, .slice na x.names.length nc, .slice la x.links.length lc], .string s, .int .i64 r1, .int .i64 c1, .int .i64 r2, .int .i64 c2] u fun e v => ∃ p c, e = .returned (.slice p (inF (cellsO x.sheets s) r1 c1 r2 c2).length c) ∧ OwnM u.heap.size v (.slice p (inF (cellsO x.sheets s) r1 c1 r2 c2).length c) (inF (cellsO x.sheets s) r1 c1 r2 c2) ∧ Below u.heap.size u v) := fun h0 u hu =>
  (in_any (KX.out u hu).2.2.1 (KX.out u hu).2.2.2.1 s r1 c1 r2 c2 (cells_rise (check_right.1 h0) s).1 (cells_rise (check_right.1 h0) s).2).mono (by
   rintro e v ⟨q, rfl, o1, b1⟩
   obtain ⟨p, c, rfl, _⟩ := o1.slice
   exact ⟨p, c, rfl, o1, b1⟩)
 have HC35 : Hid (checkF x.sheets = 0 → ∀ u, Below W.heap.size W u → Calls Tryz.prog 35 #[.agg #[.slice sa x.sheets.length sc, .slice na x.names.length nc, .slice la x.links.length lc], .string s, .int .i64 r1, .int .i64 c1, .int .i64 r2, .int .i64 c2] u fun e v => ∃ p c, e = .returned (.slice p (inF (cellsO x.sheets s) r1 c1 r2 c2).length c) ∧ OwnM u.heap.size v (.slice p (inF (cellsO x.sheets s) r1 c1 r2 c2).length c) (inF (cellsO x.sheets s) r1 c1 r2 c2) ∧ Below u.heap.size u v) := fun h0 u hu =>
  (rin_any (KX.out u hu).2.2.1 (KX.out u hu).2.2.2.1 s r1 c1 r2 c2 (cells_rise (check_right.1 h0) s).2).mono (by
   rintro e v ⟨q, rfl, o1, b1⟩
   obtain ⟨p, c, rfl, _⟩ := o1.slice
   exact ⟨p, c, rfl, o1, b1⟩)
 have HLN : Hid (checkF x.sheets = 0 → (inF (cellsO x.sheets s) r1 c1 r2 c2).length ≤ 1000) := fun h0 => by
  have h1 := (cells_rise (check_right.1 h0) s).2
  have h2 := List.length_filter_le (ibxB r1 c1 r2 c2) (cellsO x.sheets s)
  show (List.filter _ _).length ≤ _
  omega
 clear hW HB0 hX0 hX1 h hN hC hn hk T
 generalize inF (cellsO x.sheets s) r1 c1 r2 c2 = M at *
 go_enter Tryz.func5, Tryz.ntmps5
 go_wp2_with (first
  | (go_at_call 8; rw [HW.out]; refine C8.mono ?_; clear C8; refine Hid.out ?_))
 unfold Hid
 rintro e v ⟨⟨b, rfl, -, -⟩, HV⟩
 have HV : Hid _ := HV
 obtain ⟨⟨d0, d1, d2⟩, f0, f1, f2, f3⟩ := HCC.out _ HV.out
 cases hb : b
 ·clear HC10 HC34 HC35 HLN
  go_wp2_with (go_at_call 9; refine (HC9.out _ HV.out).mono ?_; clear HC9; rintro e v2 ⟨rfl, HV2⟩)
  go_ret
  exact ⟨rfl, HV2.out⟩
 by_cases hck : checkF x.sheets = 0
 ·replace HC34 : Hid _ := HC34.out hck
  replace HC35 : Hid _ := HC35.out hck
  have hln := HLN.out hck
  rw [hck] at HC10
  clear HLN hck
  go_wp2_with fail
  refine (HC10.out _ HV.out).mono ?_
  clear HC10
  rintro e v2 ⟨rfl, HV2⟩
  clear d0 d1 d2 f0 f1 f2 f3
  obtain ⟨⟨d0, d1, d2⟩, f0, f1, f2, f3⟩ := HCC.out _ HV2.out
  go_wp2_with fail
  refine (HC34.out _ HV2.out).mono ?_
  rintro e v3 ⟨qa, da, rfl, oa, ba⟩
  have HV3 : Hid (Below W.heap.size W v3) := Sh.bel_step HV2.out HV2.out.size ba
  have HA : Hid (OwnM v2.heap.size v3 (.slice qa M.length da) M) := oa
  have HBA : Hid (Below v2.heap.size v2 v3) := ba
  clear oa ba d0 d1 d2 f0 f1 f2 f3
  obtain ⟨⟨d0, d1, d2⟩, f0, f1, f2, f3⟩ := HCC.out _ HV3.out
  go_wp2_with fail
  refine (HC35.out _ HV3.out).mono ?_
  clear HC35
  rintro e v4 ⟨qm, dm, rfl, om, bm⟩
  have HV4 : Hid (Below v2.heap.size v2 v4) := Sh.bel_step HBA.out HBA.out.size bm
  have HST : Hid (0 < M.length → ∃ g gm, qa = some ⟨g, 0, none⟩ ∧ qm = some ⟨gm, 0, none⟩ ∧ BX v2 g gm M 0 v4) := fun h0 => by
   rcases own_at HA.out with e | ⟨g, e1, hg, hg2, hth, hcl⟩
   ·omega
   rcases own_at om with e | ⟨gm, e2, hm, hm2, hth2, hcl2⟩
   ·omega
   refine ⟨g, gm, e1, e2, HV4.out, hg, fun j hj i hi => ?_, fun j hj _ i u hu => ?_, by omega, hcl2⟩
   ·obtain ⟨q1, q2⟩ := hth j hj i hi
    have hbk := bm.block g hg2
    exact ⟨by rw [World.cell?_of_block (w := v3) hbk]; exact q1, by rw [World.frozen?_of_block (w := v3) hbk]; exact q2⟩
   ·rw [World.cell?_of_block (w := v3) (bm.block g hg2)]
    exact hcl _ _ (nfl_at M j i u hj hu)
  clear om bm HA HBA d0 d1 d2 f0 f1 f2 f3 HV3
  obtain ⟨A, Am, g, gm, HA, HAm, HST2⟩ : ∃ (A Am : Addr) (g gm : Nat), Hid (A = ⟨g, 0, none⟩) ∧ Hid (Am = ⟨gm, 0, none⟩) ∧ Hid (0 < M.length → qa = some A ∧ qm = some Am ∧ BX v2 g gm M 0 v4) := by
   by_cases h0 : 0 < M.length
   ·obtain ⟨g, gm, q⟩ := HST.out h0
    exact ⟨_, _, g, gm, rfl, rfl, fun _ => q⟩
   ·exact ⟨_, _, 0, 0, rfl, rfl, fun h => absurd h h0⟩
  clear HST
  go_wp2_with fail
  go_loopw [47] (fun i wr => ∃ (k : Nat), k ≤ M.length ∧ i = .int .i64 (k : Nat) ∧ Hid (Below v2.heap.size v2 wr) ∧ Hid (0 < M.length → qa = some A ∧ qm = some Am ∧ BX v2 g gm M k wr)) (fun i _ => M.length - (intOf i).toNat)
  case atStart => exact ⟨0, Nat.zero_le _, rfl, HV4, HST2⟩
  case round =>
   clear HV4 HST2
   obtain ⟨k, hk, rfl, HD, HX⟩ := hrel
   by_cases hkM : k < M.length
   ·have hki : (k : Int) < M.length := by omega
    obtain ⟨rfl, rfl, HXk⟩ := HX.out (by omega)
    have NE := fun V => krun_ne M[k] V
    have HS : Hid ((Instr.loadAt 57 (.pointer (some (A.add (k * 3))))).run Tryz.prog wr.drew = .ok (cellV M[k]) wr.drew ∧ (Instr.loadAt 57 (.pointer (some (Am.add (k * 3))))).run Tryz.prog wr.drew = .ok (cellV M[k]) wr.drew) := by rw [HA.out, HAm.out]; exact ⟨HXk.ldl hkM _ rfl, HXk.ldm hkM _ rfl⟩
    obtain ⟨w', RS0, HX2⟩ := (HXk.heap (u2 := wr.drew) (Below.refl _ _).drew rfl).store hkM
    have RS : Hid ((Instr.storeAt 57 (.pointer (some (A.add (k * 3)))) (nmV nm0)).run Tryz.prog wr.drew = .ok () w') := by rw [HA.out]; exact RS0.out
    have RB : Hid _ := nbuild0 wr.drew
    have HX3 : Hid (0 < M.length → some A = some A ∧ some Am = some Am ∧ BX v2 g gm M (k + 1) w') := fun _ => ⟨rfl, rfl, HX2⟩
    have HD2 : Hid (Below v2.heap.size v2 w') := HX2.bel
    have hg64 : k < 9223372036854775807 := by omega
    clear HXk HX HX2 RS0
    generalize M[k] = y at *
    go_wp2
    refine wp_region_d (fun u => (Instr.loadAt 57 (.pointer (some (A.add (k * 3))))).run Tryz.prog u = .ok (cellV y) u ∧ (Instr.loadAt 57 (.pointer (some (Am.add (k * 3))))).run Tryz.prog u = .ok (cellV y) u) (fun j => false) (by kernel_rfl) ?_
    refine dwp 0 (.slice (some A) M.length da) (h := ?_)
    refine dwp 1 (.int .i64 (k : Int)) (h := ?_)
    refine dwp 2 (.pointer (some (A.add (k * 3)))) (h := ?_)
    refine dwl 3 (cellV y) (hS := HS.out) (hy := (fun u hSu => exec_load rfl rfl hSu.1)) (h := ?_)
    refine dwp 4 (.slice (some Am) M.length dm) (h := ?_)
    refine dwp 5 (.int .i64 (k : Int)) (h := ?_)
    refine dwp 6 (.pointer (some (Am.add (k * 3)))) (h := ?_)
    refine dwl 7 (cellV y) (hS := HS.out) (hy := (fun u hSu => exec_load rfl rfl hSu.2)) (h := ?_)
    refine dwp 8 (.bool false) (h := ?_)
    refine wpAnyD_done (by kernel_rfl) ?_ _
    go_wp2_with (first
     | (refine wpl_build rfl 57 _ rfl _ _ (by go_simp) RB.out ?_; clear RB)
     | (refine wpList_store_run rfl 57 _ _ rfl _ _ _ rfl rfl RS.out ?_; clear RS))
    go_roundw
    case rel => exact ⟨k + 1, by omega, by go_num, HD2, HX3⟩
    case measure => simp [intOf]; omega
   ·have hki : ¬ (k : Int) < M.length := by omega
    have HVE : Hid (Below W.heap.size W wr) := HV2.out.trans (HD.out.mono HV2.out.size)
    obtain ⟨⟨d0, d1, d2⟩, f0, f1, f2, f3⟩ := HCC.out _ HVE.out
    clear HX
    go_wp2_with (first
     | (go_at_call 34; refine (HC34.out _ HVE.out).mono ?_; clear HC34; rintro e v5 ⟨q5, d5, rfl, o5, b5⟩; have HV5 : Hid (Below W.heap.size W v5) := Sh.bel_step HVE.out HVE.out.size b5; clear o5 b5)
     | (go_at_call 9; refine (HC9.out _ HV5.out).mono ?_; clear HC9; rintro e v6 ⟨rfl, HV6⟩))
    go_ret
    exact ⟨rfl, HV6.out⟩
 ·have hcb : (checkF x.sheets != 0) = true := by simpa using hck
  generalize checkF x.sheets = cf at *
  clear HC34 HC35 HLN hck
  go_wp2_with (first
   | (go_at_call 10; refine (HC10.out _ HV.out).mono ?_; clear HC10; rintro e v2 ⟨rfl, HV2⟩)
   | (go_at_call 9; refine (HC9.out _ HV2.out).mono ?_; clear HC9; rintro e v3 ⟨rfl, HV3⟩))
  go_ret
  exact ⟨rfl, HV3.out⟩
end Go.Proofs.YtnibldnfbikipaaGreatDoor.Sh
namespace Go.Proofs.YtnibldnfbikipaaGreatDoor.Sh
open Go.ChangeShapes Go.WideShapes Go.ChangeAt Go.WideElems Go.RowKit Go.Deep
theorem arr4v {xs : Array Value} (h : xs.size = 4) : ∃ a b c d, xs = #[a, b, c, d] := by
 match xs, h with
 | ⟨[a, b, c, d]⟩, _ => exact ⟨a, b, c, d, rfl⟩
theorem cells54 : Tryz.prog.cellsOf 54 = 4 := by kernel_rfl
theorem cells3q : Tryz.prog.cellsOf 3 = 1 := by kernel_rfl
section
variable {H : Type} {enc : TypeId × Value → H} {W : World} {sp : Nat → Bool} {held : Bool}
theorem open_bk {r : Reach} {b0 : Nat} {v : Value} {d : DataW H} {p : List MemPlace} (hw : Lgt 26 d) (hv : Value.okWide Tryz.prog W r b0 26 v) (h : DataW.Trod enc Tryz.prog W 0 sp held 26 v d p) : ∃ sv nv lv x, v = .agg #[sv, nv, lv] ∧ BkM 0 W.heap.size W sv nv lv x ∧ (∀ c ∈ x.sheets, c.name.size ≤ maxLen ∧ c.cells.length ≤ reachBytes) ∧ x.sheets.length ≤ reachBytes ∧ x.names.length ≤ reachBytes ∧ x.links.length ≤ reachBytes := by
 obtain ⟨cs, rfl, hsz⟩ := okWide_struct Tryz.underlying26 hv
 obtain ⟨fuel, hf⟩ := h
 obtain ⟨sv, nv, lv, x, e, h1⟩ := book_open hw hf
 refine ⟨sv, nv, lv, x, ?_, h1⟩
 have : cs.toList = [sv, nv, lv] := by simpa [Value.cells] using e
 have h2 : cs = [sv, nv, lv].toArray := by rw [← this, Array.toArray_toList]
 rw [h2]
theorem open_quad {r : Reach} {b0 base : Nat} {v : Value} {d : DataW H} {p : List MemPlace} (hv : Value.okWide Tryz.prog W r b0 54 v) (h : DataW.Trod enc Tryz.prog W base sp held 54 v d p) :
  ∃ (x y z t : Int), v = .agg #[.int .i64 x, .int .i64 y, .int .i64 z, .int .i64 t] := by
 have h54 := Tryz.underlying54
 simp only [Value.okWide, h54] at hv
 obtain ⟨cs, rfl, h2, _⟩ := hv
 obtain ⟨c0, c1, c2, c3, rfl⟩ := arr4v (h2.trans cells54)
 obtain ⟨fuel, hf⟩ := h
 obtain ⟨xs, n, _, _, hl, hlen, hel⟩ := DataW.trod_array h54 hf
 have get : ∀ i, i < 4 → ∃ y, DataW.trod enc Tryz.prog W base sp held n 3 (((Value.agg #[c0, c1, c2, c3]).cells.toList.drop (i * Tryz.prog.cellsOf 3)).take (Tryz.prog.cellsOf 3)) = some y :=
  fun i hi => ⟨_, (hel i hi).trans (List.getElem?_eq_getElem (by rw [hlen]; exact hi))⟩
 obtain ⟨y0, h0⟩ := get 0 (by decide)
 obtain ⟨y1, h1⟩ := get 1 (by decide)
 obtain ⟨y2, h2⟩ := get 2 (by decide)
 obtain ⟨y3, h3⟩ := get 3 (by decide)
 obtain ⟨r0, e0, _⟩ := DataW.trod_int Tryz.underlying3 h0
 obtain ⟨r1, e1, _⟩ := DataW.trod_int Tryz.underlying3 h1
 obtain ⟨r2, e2, _⟩ := DataW.trod_int Tryz.underlying3 h2
 obtain ⟨r3, e3, _⟩ := DataW.trod_int Tryz.underlying3 h3
 simp [Value.cells, cells3q] at e0 e1 e2 e3
 subst e0 e1 e2 e3
 exact ⟨r0, r1, r2, r3, rfl⟩
end
theorem boxes_walk {w : World} (T : Tab9 w) {sv nv lv : Value} {x : BookT} (h : BkM 0 w.heap.size w sv nv lv x) (hc : ∀ c ∈ x.sheets, c.name.size ≤ maxLen ∧ c.cells.length ≤ reachBytes) (hn : x.names.length ≤ reachBytes) (hk : x.links.length ≤ reachBytes) (s : ByteArray) (r1 c1 r2 c2 : Int) :
  Calls Tryz.prog 5 #[.agg #[sv, nv, lv], .string s, .agg #[.int .i64 r1, .int .i64 c1, .int .i64 r2, .int .i64 c2]] w fun e w' => e = .returned (.bool true) ∧ Below w.heap.size w w' := by
 unfold maxLen at *
 have hr := reachBytes_lt
 exact boxes_any h (Nat.le_refl _) (fun s hs => by have := (hc s hs).1; omega) (fun s hs => by have := (hc s hs).2; omega) (by omega) (by omega) s r1 c1 r2 c2 T
end Go.Proofs.YtnibldnfbikipaaGreatDoor.Sh
