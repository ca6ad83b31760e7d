/- SWith. -/
import Derived.Test.YtpafokmkcblcnaaGreatDoorSCopCr
import Derived.Test.YtpafokmkcblcnaaGreatDoorSInsCr
set_option linter.unusedVariables false
set_option linter.unusedSimpArgs false
namespace Go.Proofs.YtpafokmkcblcnaaGreatDoor.Sh
open Go.RowKit
set_option maxRecDepth 100000
theorem cbuild2 (u : World) (r c : Int) : (Instr.build 57 #[(0, .int .i64 r), (1, .int .i64 c)]).run Tryz.prog u = .ok (cellV ⟨r, c, ⟨#[]⟩⟩) u := by kernel_rfl
theorem cbuild3 (u : World) (r c : Int) (s : ByteArray) : (Instr.build 57 #[(0, .int .i64 r), (1, .int .i64 c), (2, .string s)]).run Tryz.prog u = .ok (cellV ⟨r, c, s⟩) u := by kernel_rfl
theorem wpl_build {P : Program} {ops : Array Oper} {rest : List Oper} {o : Oper} {a : Act} {w : World} {Q : Exit → Act → World → Prop} (hgd : o.guard = none) (ty : TypeId) (xs : Array (Nat × Operand)) (ho : o.op = .build ty xs)
    (ps : Array (Nat × Value)) (v : Value) (hx : (xs.map fun (i, x) => (i, a.eval x)) = ps) (hrun : (Instr.build ty ps).run P w = .ok v w) (h : wpList P ops Q rest (a.put o.dst v) w) : wpList P ops Q (o :: rest) a w := by
  refine wpList_plain hgd fun K hK => ?_
  unfold Oper.wp execOp
  simp only [ho, hx, Sem.run_bind, Sem.run_pure, hrun, Result.andThen_ok]
  exact hK _ _ h
theorem wpl_bslice {P : Program} {ops : Array Oper} {rest : List Oper} {o : Oper} {a : Act} {w : World} {Q : Exit → Act → World → Prop} (hgd : o.guard = none) (ty : TypeId) (len : Nat) (xs : Array (Nat × Operand)) (ho : o.op = .buildSlice ty len xs)
    (ps : Array (Nat × Value)) (v : Value) (w' : World) (hx : (xs.map fun (i, x) => (i, a.eval x)) = ps) (hrun : (Instr.buildSlice ty len ps).run P w = .ok v w') (h : wpList P ops Q rest (a.put o.dst v) w') : wpList P ops Q (o :: rest) a w := by
  refine wpList_plain hgd fun K hK => ?_
  unfold Oper.wp execOp
  simp only [ho, hx, Sem.run_bind, Sem.run_pure, hrun, Result.andThen_ok]
  exact hK _ _ h
set_option maxHeartbeats 2000000 in
theorem find1_any {lo hi : Nat} {w : World} {a : Option Addr} {c g : Nat} {L : List CellT} (h : Cls lo hi w (.slice a L.length c) L) (hhi : hi ≤ w.heap.size) (hn : L.length ≤ 1000) (hg : w.heap[g]? = some (.cells #[.slice a L.length c] 27)) (r k : Int) :
    Calls Tryz.prog 116 #[.int .i64 r, .int .i64 k, .pointer (some ⟨g, 0, none⟩)] w fun e w' => (∃ (i : Nat) (b : Bool), e = .returned (.tuple #[.int .i64 (i : Nat), .bool b]) ∧ BsR L ⟨r, k, ⟨#[]⟩⟩ i b) ∧ Below w.heap.size w w' := by
  have C := bin_any h hhi (by omega) ⟨r, k, ⟨#[]⟩⟩
  have c0 := cell_heap hg (j := 0) rfl
  have RB : Hid _ := cbuild2 w r k
  clear h hg
  go_enter Tryz.func116, Tryz.ntmps116
  go_wp2_with (first
    | (refine wpl_build rfl 57 _ rfl _ _ (by go_simp) RB.out ?_; clear RB)
    | (go_at_call 117; refine C.mono ?_; clear C; rintro e w1 ⟨⟨i, b, rfl, HR⟩, HB⟩; have HRh : Hid _ := HR; have HBh : Hid _ := HB; clear HR HB))
  go_ret2
  exact ⟨⟨i, b, rfl, HRh.out⟩, HBh.out⟩
abbrev findF (g : Nat) : Value := .func (.func 116) #[] #[.pointer (some ⟨g, 0, none⟩)]
set_option maxHeartbeats 1000000 in
theorem finder_any (v : Value) (a : Option Addr) (n c : Nat) (hv : v = .slice a n c) (w : World) : Calls Tryz.prog 81 #[v] w fun e w' => e = .returned (findF w.heap.size) ∧ w' = w.alloc (.cells #[v] 27) := by
  subst hv
  go_enter Tryz.func81, Tryz.ntmps81
  go_wp2
  go_ret
  exact ⟨rfl, rfl⟩
set_option maxHeartbeats 4000000 in
theorem has_any {lo hi : Nat} {w : World} {a : Option Addr} {c : Nat} {L : List CellT} (h : Cls lo hi w (.slice a L.length c) L) (hhi : hi ≤ w.heap.size) (hn : L.length ≤ 1000) (hR : Rise L) (r k : Int) :
    Calls Tryz.prog 57 #[.slice a L.length c, .int .i64 r, .int .i64 k] w fun e w' => e = .returned (.bool (L.any (atB r k))) ∧ Below w.heap.size w w' := by
  have C1 := finder_any _ a L.length c rfl w
  have HB : Below w.heap.size w (w.alloc (.cells #[.slice a L.length c] 27)) := Sh.bel_alloc (Below.refl _ _) (Nat.le_refl _) _
  have C2 : Calls Tryz.prog 116 #[.int .i64 r, .int .i64 k, .pointer (some ⟨w.heap.size, 0, none⟩)] (w.alloc (.cells #[.slice a L.length c] 27)) fun e w' => (∃ (i : Nat) (b : Bool), e = .returned (.tuple #[.int .i64 (i : Nat), .bool b]) ∧ Hid (b = L.any (atB r k))) ∧ Hid (Below w.heap.size w w') := (find1_any (h.below hhi HB) (Nat.le_trans hhi HB.size) hn (heap_alloc_new w _) r k).mono (by
    rintro e w' ⟨⟨i, b, rfl, hb⟩, hbl⟩
    exact ⟨⟨i, b, rfl, has_bs hR hb⟩, Sh.bel_step HB HB.size hbl⟩)
  clear h HB
  go_enter Tryz.func57, Tryz.ntmps57
  go_wp2_with (first
    | (go_at_call 81; refine C1.mono ?_; clear C1; rintro e w1 ⟨rfl, rfl⟩)
    | (go_at_call 116; refine C2.mono ?_; clear C2; rintro e w1 ⟨⟨i, b, rfl, Hb⟩, HB⟩))
  go_ret
  exact ⟨by rw [Hb.out]; rfl, HB.out⟩
theorem st_cell {w : World} {g n i : Nat} {xs : List Value} (hg : w.heap[g]? = some (.cells xs.toArray 57)) (hl : xs.length = n * 3) (hi : i < n) (t : CellT) :
    ∃ w', (Instr.storeAt 57 (.pointer (some ⟨g, i * 3, none⟩)) (cellV t)).run Tryz.prog w = .ok () w' ∧ w'.heap[g]? = some (.cells (xs.take (i * 3) ++ cellC t ++ xs.drop ((i + 1) * 3)).toArray 57) ∧ w'.heap.size = w.heap.size ∧ w.grownBy w' (some g) := by
  have hst := run_storeCells_at Tryz.prog g (i * 3) 57 (cellC t) 0 xs.toArray w hg (by rw [List.size_toArray, hl, cellC_len]; omega) (cellC_one t)
  have hi57 : (Tryz.prog.info? 57).map (·.size) = some 3 := by kernel_rfl
  refine ⟨_, ?_, setRow_heap _ _ _ _ _ _ hg, setRow_size _ _ _, ⟨rfl, rfl, rfl, by rw [setRow_size]; exact Nat.le_refl _, fun k _ hk => setRow_other _ _ _ _ (fun e => hk (by rw [e]))⟩⟩
  cases hq : Tryz.prog.info? 57 with
  | none => simp [hq] at hi57
  | some j =>
    have hs : j.size = 3 := by simpa [hq] using hi57
    simp only [Nat.add_zero, List.toList_toArray, cellC_len, show i * 3 + 3 = (i + 1) * 3 by omega] at hst
    simp only [cellC] at hst ⊢
    simp [Instr.storeAt, Instr.sureAddr, storeVar, sizeOf, typeInfo, hq, hs, Value.cells, cellV, hst]
def WithR (L : List CellT) (t : CellT) (i : Nat) (b : Bool) : Prop := BsR L ⟨t.row, t.col, ⟨#[]⟩⟩ i b
theorem WithR.bs {L : List CellT} {t : CellT} {i : Nat} {b : Bool} (h : WithR L t i b) : BsR L t i b := h
theorem cslice_one (w : World) (x : CellT) : (Instr.buildSlice 27 1 #[(0, cellV x)]).run Tryz.prog w = .ok (.slice (some ⟨w.heap.size, 0, none⟩) 1 1) (w.alloc (ceO x)) := by kernel_rfl
theorem grown_below {w w' : World} {row : Option Nat} (h : Below w.heap.size w w') : w.grownBy w' row := ⟨h.os, h.tape, h.output, h.size, fun i hi _ => h.block i hi⟩
theorem flat_take (L : List CellT) (i : Nat) : (L.flatMap cellC).take (i * 3) = (L.take i).flatMap cellC := (fl_take cellC_len L i).symm
theorem flat_drop (L : List CellT) (i : Nat) : (L.flatMap cellC).drop (i * 3) = (L.drop i).flatMap cellC := (fl_drop cellC_len L i).symm
def WithP (base : Nat) (w : World) (g : Nat) (L : List CellT) (t : CellT) (e : Ending) (w' : World) : Prop :=
  (∃ v', e = .returned v' ∧ w'.ownsRow base 57 3 v' (putC L t).length ((putC L t).flatMap cellC)) ∧ w.grownBy w' (some g)
set_option maxHeartbeats 16000000 in
theorem with_any {w : World} {base g : Nat} {L : List CellT} (hg : w.heap[g]? = some (.cells (L.flatMap cellC).toArray 57)) (hb : base ≤ g) (hn : L.length ≤ 1000) (hR : Rise L) (t : CellT) :
    Calls Tryz.prog 58 #[newS g L.length, cellV t] w (WithP base w g L t) := by
  obtain ⟨tr, tc, tt⟩ := t
  obtain ⟨W, hW⟩ : ∃ W, W = w.alloc (ceO ⟨tr, tc, tt⟩) := ⟨_, rfl⟩
  have hX : W.heap[w.heap.size]? = some (ceO ⟨tr, tc, tt⟩) := by rw [hW]; exact heap_alloc_new w _
  have HB0 : Below w.heap.size w W := by rw [hW]; exact Sh.bel_alloc (Below.refl _ _) (Nat.le_refl _) _
  have hgW : W.heap[g]? = some (.cells (L.flatMap cellC).toArray 57) := (HB0.block _ (blk_lt hg)).trans hg
  have HKk : Hid (∀ u, Below W.heap.size W u → u.cell? ⟨w.heap.size, 0, none⟩ = some (.int .i64 tr) ∧ u.cell? ⟨w.heap.size, 1, none⟩ = some (.int .i64 tc)) := fun u hu => by
    obtain ⟨c0, c1, _⟩ := c_cells ((hu.block _ (blk_lt hX)).trans hX)
    exact ⟨c0, c1⟩
  have HB1 : Hid (Below W.heap.size W (W.drew.alloc (.cells #[newS g L.length] 27))) := Sh.bel_alloc (Below.refl _ _).drew (Nat.le_refl _) _
  have HS : Hid (W.drew.cell? ⟨w.heap.size, 0, none⟩ = some (.int .i64 tr) ∧ W.drew.cell? ⟨w.heap.size, 1, none⟩ = some (.int .i64 tc)) := HKk.out _ (Below.refl _ _).drew
  have C1 := finder_any (newS g L.length) _ _ _ rfl W.drew
  have hcl : Cls g (g + 1) (W.drew.alloc (.cells #[newS g L.length] 27)) (newS g L.length) L := cls_whole ((HB1.out.block _ (blk_lt hgW)).trans hgW) (le_maxLen hn)
  have C2 : Calls Tryz.prog 116 #[.int .i64 tr, .int .i64 tc, .pointer (some ⟨W.drew.heap.size, 0, none⟩)] (W.drew.alloc (.cells #[newS g L.length] 27)) fun e w' => (∃ (i : Nat) (b : Bool), e = .returned (.tuple #[.int .i64 (i : Nat), .bool b]) ∧ Hid (BsR L ⟨tr, tc, tt⟩ i b)) ∧ Hid (Below W.heap.size W w') := (find1_any hcl (Nat.le_trans (blk_lt hgW) HB1.out.size) hn (heap_alloc_new W.drew _) tr tc).mono (by
    rintro e w' ⟨⟨i, b, rfl, hb⟩, hbl⟩
    exact ⟨⟨i, b, rfl, hb⟩, Sh.bel_step HB1.out HB1.out.size hbl⟩)
  have HAFT : Hid (∀ u, Below W.heap.size W u → u.cell? ⟨w.heap.size, 2, none⟩ = some (.string tt) ∧ Hid ((Instr.loadAt 57 (.pointer (some ⟨w.heap.size, 0, none⟩))).run Tryz.prog u = .ok (cellV ⟨tr, tc, tt⟩) u) ∧ Hid (u.heap[g]? = some (.cells (L.flatMap cellC).toArray 57)) ∧ Hid (Below w.heap.size w u)) := fun u hu => by
    have hX2 := (hu.block _ (blk_lt hX)).trans hX
    exact ⟨(c_cells hX2).2.2, ldC hX2, (hu.block _ (blk_lt hgW)).trans hgW, Sh.bel_step HB0 HB0.size hu⟩
  have HR : Hid (Rise L) := hR
  have hWd : W.drew = (w.alloc (ceO ⟨tr, tc, tt⟩)).drew := by rw [hW]
  simp only [ceO, cellC] at hW
  clear hg hgW hX HB0 hcl hR hWd
  go_enter Tryz.func58, Tryz.ntmps58
  go_wp2
  rw [← hW]
  clear hW
  refine wp_region_d (fun u => u.cell? ⟨w.heap.size, 0, none⟩ = some (.int .i64 tr) ∧ u.cell? ⟨w.heap.size, 1, none⟩ = some (.int .i64 tc)) (fun j => false) (by kernel_rfl) ?_
  refine wpAnyD_pured (i := 0) (v := (newS g L.length)) rfl rfl (by kernel_rfl) (by kernel_rfl) (by kernel_rfl) (fun _ _ _ h => h) (by go_simp) (by intro u; go_simp) ?_
  try simp only [Act.put, List.setIfInBounds_toArray, List.set_cons_zero, List.set_cons_succ]
  refine wpAnyD_pured (i := 2) (v := (.pointer (some ⟨w.heap.size, 0, none⟩))) rfl rfl (by kernel_rfl) (by kernel_rfl) (by kernel_rfl) (fun _ _ _ h => h) (by go_simp) (by intro u; go_simp) ?_
  try simp only [Act.put, List.setIfInBounds_toArray, List.set_cons_zero, List.set_cons_succ]
  refine wpAnyD_loadd (i := 3) (v := (.int .i64 tr)) rfl rfl (by kernel_rfl) (by kernel_rfl) (by kernel_rfl) (by kernel_rfl) (fun _ _ _ h => h) (by go_simp) (fun u hSu => exec_load rfl rfl (ld1 hSu.1 (Tryz.isAgg3 _))) HS.out ?_
  try simp only [Act.put, List.setIfInBounds_toArray, List.set_cons_zero, List.set_cons_succ]
  refine wpAnyD_pured (i := 4) (v := (.pointer (some ⟨w.heap.size, 1, none⟩))) rfl rfl (by kernel_rfl) (by kernel_rfl) (by kernel_rfl) (fun _ _ _ h => h) (by go_simp) (by intro u; go_simp) ?_
  try simp only [Act.put, List.setIfInBounds_toArray, List.set_cons_zero, List.set_cons_succ]
  refine wpAnyD_loadd (i := 5) (v := (.int .i64 tc)) rfl rfl (by kernel_rfl) (by kernel_rfl) (by kernel_rfl) (by kernel_rfl) (fun _ _ _ h => h) (by go_simp) (fun u hSu => exec_load rfl rfl (ld1 hSu.2 (Tryz.isAgg3 _))) HS.out ?_
  try simp only [Act.put, List.setIfInBounds_toArray, List.set_cons_zero, List.set_cons_succ]
  refine wpAnyD_one (i := 1) (by kernel_rfl) rfl ?_
  intro K' hK'
  go_simp
  refine C1.mono ?_
  clear C1
  rintro e w1 ⟨rfl, hw1⟩
  subst hw1
  have HK1 := HKk.out _ HB1.out
  refine hK' _ _ (.inr fun _ => HK1) ?_
  clear hK'
  try simp only [Act.put, List.setIfInBounds_toArray, List.set_cons_zero, List.set_cons_succ]
  refine wpAnyD_one (i := 6) (by kernel_rfl) rfl ?_
  intro K' hK'
  go_simp
  refine C2.mono ?_
  clear C2
  rintro e w2 ⟨⟨i, b, rfl, HW⟩, HD⟩
  have HK2 := HKk.out _ HD.out
  refine hK' _ _ (.inr fun _ => HK2) ?_
  clear hK'
  try simp only [Act.put, List.setIfInBounds_toArray, List.set_cons_zero, List.set_cons_succ]
  refine wpAnyD_pured (i := 7) (v := (.tuple #[.int .i64 (i : Int), .bool b])) rfl rfl (by kernel_rfl) (by kernel_rfl) (by kernel_rfl) (fun _ _ _ h => h) (by go_simp) (by intro u; go_simp) ?_
  try simp only [Act.put, List.setIfInBounds_toArray, List.set_cons_zero, List.set_cons_succ]
  refine wpAnyD_pured (i := 8) (v := (.int .i64 (i : Int))) rfl rfl (by kernel_rfl) (by kernel_rfl) (by kernel_rfl) (fun _ _ _ h => h) (by go_simp) (by intro u; go_simp) ?_
  try simp only [Act.put, List.setIfInBounds_toArray, List.set_cons_zero, List.set_cons_succ]
  refine wpAnyD_pured (i := 9) (v := (.bool b)) rfl rfl (by kernel_rfl) (by kernel_rfl) (by kernel_rfl) (fun _ _ _ h => h) (by go_simp) (by intro u; go_simp) ?_
  try simp only [Act.put, List.setIfInBounds_toArray, List.set_cons_zero, List.set_cons_succ]
  refine wpAnyD_pured (i := 10) (v := (.int .i64 (i : Int))) rfl rfl (by kernel_rfl) (by kernel_rfl) (by kernel_rfl) (fun _ _ _ h => h) (by go_simp) (by intro u; go_simp) ?_
  try simp only [Act.put, List.setIfInBounds_toArray, List.set_cons_zero, List.set_cons_succ]
  refine wpAnyD_pured (i := 11) (v := (.bool b)) rfl rfl (by kernel_rfl) (by kernel_rfl) (by kernel_rfl) (fun _ _ _ h => h) (by go_simp) (by intro u; go_simp) ?_
  try simp only [Act.put, List.setIfInBounds_toArray, List.set_cons_zero, List.set_cons_succ]
  refine wpAnyD_done (by kernel_rfl) ?_ _
  obtain ⟨ct, RL, HG2, HBw⟩ := HAFT.out w2 HD.out
  have HGR : Hid (w.grownBy w2 (some g)) := grown_below HBw.out
  clear HKk HK1 HK2 HS HB1 HAFT HD
  have hlen3 := fl_len cellC_len L
  cases b with
  | true =>
    obtain ⟨hi, hput⟩ := put_found HR.out HW.out
    have hii : (i : Int) < L.length := by omega
    cases ht : tt.toList == [] with
    | true =>
      rw [show (CellT.mk tr tc tt).text = tt from rfl, ht, if_pos rfl, List.nil_append] at hput
      have C := delete_95 HG2.out (by rw [List.size_toArray]; exact hlen3) hi (by omega) (by rw [List.toList_toArray]; exact fl_one cellC_one L)
      obtain ⟨m, hm⟩ : ∃ m, m = i + 1 := ⟨_, rfl⟩
      rw [← hm] at C
      have e5 : (i : Int) + 1 = (m : Int) := by omega
      have e6 : IntKind.i64.wrap (m : Int) = (m : Int) := by rw [IntKind.wrap_i64]; omega
      have HP : Hid (putC L ⟨tr, tc, tt⟩ = L.take i ++ L.drop (i + 1)) := hput
      have HM : Hid (m = i + 1) := hm
      clear hput hm hlen3
      go_wp2_with (go_at_call 95; refine C.mono ?_; clear C; rintro e w3 ⟨rfl, h1, h2, h3⟩; have H1 : Hid _ := h1; have H3 : Hid _ := h3; clear h1 h2 h3)
      go_ret
      refine ⟨⟨_, rfl, ?_⟩, HGR.out.trans H3.out⟩
      obtain ⟨cur', k1, k2, k3⟩ := H1.out
      rw [HM.out, List.toList_toArray, flat_take, flat_drop, ← List.flatMap_append, ← HP.out] at k3
      have hpl : (putC L ⟨tr, tc, tt⟩).length = L.length - 1 := by rw [HP.out, List.length_append, List.length_take, List.length_drop]; omega
      rw [hpl]
      exact ⟨by rw [fl_len cellC_len, hpl], .inr ⟨g, L.length, cur', rfl, hb, k1, by omega, le_maxLen hn, k2, k3⟩⟩
    | false =>
      rw [show (CellT.mk tr tc tt).text = tt from rfl, ht, if_neg (by decide), List.singleton_append] at hput
      obtain ⟨w3, RS, k1, _, k3⟩ := st_cell HG2.out hlen3 hi ⟨tr, tc, tt⟩
      have RSh : Hid _ := RS
      have H1 : Hid _ := k1
      have H3 : Hid _ := k3
      have HP : Hid (putC L ⟨tr, tc, tt⟩ = L.take i ++ ⟨tr, tc, tt⟩ :: L.drop (i + 1)) := hput
      clear hput hlen3 RS k1 k3
      go_wp2_with (first
        | (refine wpList_load_run rfl 57 _ rfl _ _ rfl RL.out ?_; clear RL)
        | (refine wpList_store_run rfl 57 _ _ rfl _ _ _ rfl rfl RSh.out ?_; clear RSh))
      go_ret
      refine ⟨⟨_, rfl, ?_⟩, HGR.out.trans H3.out⟩
      have k1 := H1.out
      have e : (L.flatMap cellC).take (i * 3) ++ cellC ⟨tr, tc, tt⟩ ++ (L.flatMap cellC).drop ((i + 1) * 3) = (putC L ⟨tr, tc, tt⟩).flatMap cellC := by
        rw [HP.out, flat_take, flat_drop, List.flatMap_append, List.flatMap_cons, List.append_assoc]
      rw [e] at k1
      have hpl : (putC L ⟨tr, tc, tt⟩).length = L.length := by rw [HP.out, List.length_append, List.length_cons, List.length_take, List.length_drop]; omega
      rw [hpl]
      exact owns_new k1 (by rw [fl_len cellC_len, hpl]) hb (le_maxLen hn)
  | false =>
    obtain ⟨hi, hput⟩ := put_none HR.out HW.out
    cases ht : tt.toList == [] with
    | true =>
      rw [show (CellT.mk tr tc tt).text = tt from rfl, ht, if_pos rfl, List.nil_append, List.take_append_drop] at hput
      have HP : Hid (putC L ⟨tr, tc, tt⟩ = L) := hput
      clear hput
      go_wp2
      go_ret
      refine ⟨⟨_, rfl, ?_⟩, HGR.out⟩
      rw [HP.out]
      exact owns_new HG2.out hlen3 hb (le_maxLen hn)
    | false =>
      rw [show (CellT.mk tr tc tt).text = tt from rfl, ht, if_neg (by decide), List.singleton_append] at hput
      have HP : Hid (putC L ⟨tr, tc, tt⟩ = L.take i ++ ⟨tr, tc, tt⟩ :: L.drop i) := hput
      have RB : Hid _ := cslice_one w2 ⟨tr, tc, tt⟩
      have hGa : (w2.alloc (ceO ⟨tr, tc, tt⟩)).heap[g]? = some (.cells (L.flatMap cellC).toArray 57) := (Below.heap_alloc w2 _ g (blk_lt HG2.out)).trans HG2.out
      have C := insert_96 (base := base) hGa hlen3 hb hn hi (heap_alloc_new w2 _) (cellC_len _) (cellC_one _) (fl_one cellC_one L)
      have HGA : Hid (w2.grownBy (w2.alloc (ceO ⟨tr, tc, tt⟩)) (some g)) := grown_below (Sh.bel_alloc (Below.refl _ _) (Nat.le_refl _) _)
      clear hput hlen3 hGa
      go_wp2_with (first
        | (refine wpList_load_run rfl 57 _ rfl _ _ rfl RL.out ?_; clear RL)
        | (refine wpl_bslice rfl 27 1 _ rfl _ _ _ (by go_simp) RB.out ?_; clear RB)
        | (go_at_call 96; refine C.mono ?_; clear C; rintro e w3 ⟨⟨v', rfl, h1⟩, h3⟩; have H1 : Hid _ := h1; have H3 : Hid _ := h3; clear h1 h3))
      go_ret
      refine ⟨⟨_, rfl, ?_⟩, (HGR.out.trans HGA.out).trans H3.out⟩
      have k1 := H1.out
      have e : (L.flatMap cellC).take (i * 3) ++ cellC ⟨tr, tc, tt⟩ ++ (L.flatMap cellC).drop (i * 3) = (putC L ⟨tr, tc, tt⟩).flatMap cellC := by
        rw [HP.out, flat_take, flat_drop, List.flatMap_append, List.flatMap_cons, List.append_assoc]
      rw [e] at k1
      have hpl : (putC L ⟨tr, tc, tt⟩).length = L.length + 1 := by rw [HP.out, List.length_append, List.length_cons, List.length_take, List.length_drop]; omega
      rw [hpl]
      exact k1
end Go.Proofs.YtpafokmkcblcnaaGreatDoor.Sh
