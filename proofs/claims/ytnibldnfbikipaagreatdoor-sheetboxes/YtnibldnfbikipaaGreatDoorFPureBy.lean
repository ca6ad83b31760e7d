/- SWith, FPure. -/
import Derived.Deep.Trees
import Derived.Test.YtnibldnfbikipaaGreatDoorSInsBy
set_option linter.unusedVariables false
set_option linter.unusedSimpArgs false
set_option maxHeartbeats 16000000
set_option maxRecDepth 100000
namespace Go.Proofs.YtnibldnfbikipaaGreatDoor.Sh
open Go.RowKit
theorem cbuild2 (u : World) (r c : Int) : (Instr.build 57 #[(0, .int .i64 r), (1, .int .i64 c)]).run Tryz.prog u = .ok (cellV ⟨r, c, ⟨#[]⟩⟩) u := by kernel_rfl
theorem cbuild3 (u : World) (r c : Int) (s : ByteArray) : (Instr.build 57 #[(0, .int .i64 r), (1, .int .i64 c), (2, .string s)]).run Tryz.prog u = .ok (cellV ⟨r, c, s⟩) u := by kernel_rfl
theorem wpl_build {P : Program} {ops : Array Oper} {rest : List Oper} {o : Oper} {a : Act} {w : World} {Q : Exit → Act → World → Prop} (hgd : o.guard = none) (ty : TypeId) (xs : Array (Nat × Operand)) (ho : o.op = .build ty xs)
  (ps : Array (Nat × Value)) (v : Value) (hx : (xs.map fun (i, x) => (i, a.eval x)) = ps) (hrun : (Instr.build ty ps).run P w = .ok v w) (h : wpList P ops Q rest (a.put o.dst v) w) : wpList P ops Q (o :: rest) a w := by
 refine wpList_plain hgd fun K hK => ?_
 unfold Oper.wp execOp
 simp only [ho, hx, Sem.run_bind, Sem.run_pure, hrun, Result.andThen_ok]
 exact hK _ _ h
theorem wpl_bslice {P : Program} {ops : Array Oper} {rest : List Oper} {o : Oper} {a : Act} {w : World} {Q : Exit → Act → World → Prop} (hgd : o.guard = none) (ty : TypeId) (len : Nat) (xs : Array (Nat × Operand)) (ho : o.op = .buildSlice ty len xs)
  (ps : Array (Nat × Value)) (v : Value) (w' : World) (hx : (xs.map fun (i, x) => (i, a.eval x)) = ps) (hrun : (Instr.buildSlice ty len ps).run P w = .ok v w') (h : wpList P ops Q rest (a.put o.dst v) w') : wpList P ops Q (o :: rest) a w := by
 refine wpList_plain hgd fun K hK => ?_
 unfold Oper.wp execOp
 simp only [ho, hx, Sem.run_bind, Sem.run_pure, hrun, Result.andThen_ok]
 exact hK _ _ h
theorem find1_any {lo hi : Nat} {w : World} {a : Option Addr} {c g : Nat} {L : List CellT} (h : Cls lo hi w (.slice a L.length c) L) (hhi : hi ≤ w.heap.size) (hn : L.length ≤ 1000) (hg : w.heap[g]? = some (.cells #[.slice a L.length c] 27)) (r k : Int) :
  Calls Tryz.prog 116 #[.int .i64 r, .int .i64 k, .pointer (some ⟨g, 0, none⟩)] w fun e w' => (∃ (i : Nat) (b : Bool), e = .returned (.tuple #[.int .i64 (i : Nat), .bool b]) ∧ BsR L ⟨r, k, ⟨#[]⟩⟩ i b) ∧ Below w.heap.size w w' := by
 have C := bin_any h hhi (by omega) ⟨r, k, ⟨#[]⟩⟩
 have c0 := cell_heap hg (j := 0) rfl
 have RB : Hid _ := cbuild2 w r k
 clear h hg
 go_enter Tryz.func116, Tryz.ntmps116
 go_wp2_with (first
  | (refine wpl_build rfl 57 _ rfl _ _ (by go_simp) RB.out ?_; clear RB)
  | (go_at_call 117; refine C.mono ?_; clear C; rintro e w1 ⟨⟨i, b, rfl, HR⟩, HB⟩; have HRh : Hid _ := HR; have HBh : Hid _ := HB; clear HR HB))
 go_ret2
 exact ⟨⟨i, b, rfl, HRh.out⟩, HBh.out⟩
abbrev findF (g : Nat) : Value := .func (.func 116) #[] #[.pointer (some ⟨g, 0, none⟩)]
theorem finder_any (v : Value) (a : Option Addr) (n c : Nat) (hv : v = .slice a n c) (w : World) : Calls Tryz.prog 81 #[v] w fun e w' => e = .returned (findF w.heap.size) ∧ w' = w.alloc (.cells #[v] 27) := by
 subst hv
 go_enter Tryz.func81, Tryz.ntmps81
 go_wp2
 go_ret
 exact ⟨rfl, rfl⟩
theorem has_any {lo hi : Nat} {w : World} {a : Option Addr} {c : Nat} {L : List CellT} (h : Cls lo hi w (.slice a L.length c) L) (hhi : hi ≤ w.heap.size) (hn : L.length ≤ 1000) (hR : Rise L) (r k : Int) :
  Calls Tryz.prog 57 #[.slice a L.length c, .int .i64 r, .int .i64 k] w fun e w' => e = .returned (.bool (L.any (atB r k))) ∧ Below w.heap.size w w' := by
 have C1 := finder_any _ a L.length c rfl w
 have HB : Below w.heap.size w (w.alloc (.cells #[.slice a L.length c] 27)) := Sh.bel_alloc (Below.refl _ _) (Nat.le_refl _) _
 have C2 : Calls Tryz.prog 116 #[.int .i64 r, .int .i64 k, .pointer (some ⟨w.heap.size, 0, none⟩)] (w.alloc (.cells #[.slice a L.length c] 27)) fun e w' => (∃ (i : Nat) (b : Bool), e = .returned (.tuple #[.int .i64 (i : Nat), .bool b]) ∧ Hid (b = L.any (atB r k))) ∧ Hid (Below w.heap.size w w') := (find1_any (h.below hhi HB) (Nat.le_trans hhi HB.size) hn (heap_alloc_new w _) r k).mono (by
  rintro e w' ⟨⟨i, b, rfl, hb⟩, hbl⟩
  exact ⟨⟨i, b, rfl, has_bs hR hb⟩, Sh.bel_step HB HB.size hbl⟩)
 clear h HB
 go_enter Tryz.func57, Tryz.ntmps57
 go_wp2_with (first
  | (go_at_call 81; refine C1.mono ?_; clear C1; rintro e w1 ⟨rfl, rfl⟩)
  | (go_at_call 116; refine C2.mono ?_; clear C2; rintro e w1 ⟨⟨i, b, rfl, Hb⟩, HB⟩))
 go_ret
 exact ⟨by rw [Hb.out]; rfl, HB.out⟩
theorem st_cell {w : World} {g n i : Nat} {xs : List Value} (hg : w.heap[g]? = some (.cells xs.toArray 57)) (hl : xs.length = n * 3) (hi : i < n) (t : CellT) :
  ∃ w', (Instr.storeAt 57 (.pointer (some ⟨g, i * 3, none⟩)) (cellV t)).run Tryz.prog w = .ok () w' ∧ w'.heap[g]? = some (.cells (xs.take (i * 3) ++ cellC t ++ xs.drop ((i + 1) * 3)).toArray 57) ∧ w'.heap.size = w.heap.size ∧ w.grownBy w' (some g) := by
 have hst := run_storeCells_at Tryz.prog g (i * 3) 57 (cellC t) 0 xs.toArray w hg (by rw [List.size_toArray, hl, cellC_len]; omega) (cellC_one t)
 have hi57 : (Tryz.prog.info? 57).map (·.size) = some 3 := by kernel_rfl
 refine ⟨_, ?_, setRow_heap _ _ _ _ _ _ hg, setRow_size _ _ _, ⟨rfl, rfl, rfl, by rw [setRow_size]; exact Nat.le_refl _, fun k _ hk => setRow_other _ _ _ _ (fun e => hk (by rw [e]))⟩⟩
 cases hq : Tryz.prog.info? 57 with
 | none => simp [hq] at hi57
 | some j =>
  have hs : j.size = 3 := by simpa [hq] using hi57
  simp only [Nat.add_zero, List.toList_toArray, cellC_len, show i * 3 + 3 = (i + 1) * 3 by omega] at hst
  simp only [cellC] at hst ⊢
  simp [Instr.storeAt, Instr.sureAddr, storeVar, sizeOf, typeInfo, hq, hs, Value.cells, cellV, hst]
theorem cslice_one (w : World) (x : CellT) : (Instr.buildSlice 27 1 #[(0, cellV x)]).run Tryz.prog w = .ok (.slice (some ⟨w.heap.size, 0, none⟩) 1 1) (w.alloc (ceO x)) := by kernel_rfl
theorem grown_below {w w' : World} {row : Option Nat} (h : Below w.heap.size w w') : w.grownBy w' row := ⟨h.os, h.tape, h.output, h.size, fun i hi _ => h.block i hi⟩
theorem flat_take (L : List CellT) (i : Nat) : (L.flatMap cellC).take (i * 3) = (L.take i).flatMap cellC := (fl_take cellC_len L i).symm
theorem flat_drop (L : List CellT) (i : Nat) : (L.flatMap cellC).drop (i * 3) = (L.drop i).flatMap cellC := (fl_drop cellC_len L i).symm
def WithP (base : Nat) (w : World) (g : Nat) (L : List CellT) (t : CellT) (e : Ending) (w' : World) : Prop :=
 (∃ v', e = .returned v' ∧ w'.ownsRow base 57 3 v' (putC L t).length ((putC L t).flatMap cellC)) ∧ w.grownBy w' (some g)
theorem with_any {w : World} {base g : Nat} {L : List CellT} (hg : w.heap[g]? = some (.cells (L.flatMap cellC).toArray 57)) (hb : base ≤ g) (hn : L.length ≤ 1000) (hR : Rise L) (t : CellT) :
  Calls Tryz.prog 58 #[newS g L.length, cellV t] w (WithP base w g L t) := by
 obtain ⟨tr, tc, tt⟩ := t
 obtain ⟨W, hW⟩ : ∃ W, W = w.alloc (ceO ⟨tr, tc, tt⟩) := ⟨_, rfl⟩
 have hX : W.heap[w.heap.size]? = some (ceO ⟨tr, tc, tt⟩) := by rw [hW]; exact heap_alloc_new w _
 have HB0 : Below w.heap.size w W := by rw [hW]; exact Sh.bel_alloc (Below.refl _ _) (Nat.le_refl _) _
 have hgW : W.heap[g]? = some (.cells (L.flatMap cellC).toArray 57) := (HB0.block _ (blk_lt hg)).trans hg
 have HKk : Hid (∀ u, Below W.heap.size W u → u.cell? ⟨w.heap.size, 0, none⟩ = some (.int .i64 tr) ∧ u.cell? ⟨w.heap.size, 1, none⟩ = some (.int .i64 tc)) := fun u hu => by
  obtain ⟨c0, c1, _⟩ := c_cells ((hu.block _ (blk_lt hX)).trans hX)
  exact ⟨c0, c1⟩
 have HB1 : Hid (Below W.heap.size W (W.drew.alloc (.cells #[newS g L.length] 27))) := Sh.bel_alloc (Below.refl _ _).drew (Nat.le_refl _) _
 have HS : Hid (W.drew.cell? ⟨w.heap.size, 0, none⟩ = some (.int .i64 tr) ∧ W.drew.cell? ⟨w.heap.size, 1, none⟩ = some (.int .i64 tc)) := HKk.out _ (Below.refl _ _).drew
 have C1 := finder_any (newS g L.length) _ _ _ rfl W.drew
 have hcl : Cls g (g + 1) (W.drew.alloc (.cells #[newS g L.length] 27)) (newS g L.length) L := cls_whole ((HB1.out.block _ (blk_lt hgW)).trans hgW) (le_maxLen hn)
 have C2 : Calls Tryz.prog 116 #[.int .i64 tr, .int .i64 tc, .pointer (some ⟨W.drew.heap.size, 0, none⟩)] (W.drew.alloc (.cells #[newS g L.length] 27)) fun e w' => (∃ (i : Nat) (b : Bool), e = .returned (.tuple #[.int .i64 (i : Nat), .bool b]) ∧ Hid (BsR L ⟨tr, tc, tt⟩ i b)) ∧ Hid (Below W.heap.size W w') := (find1_any hcl (Nat.le_trans (blk_lt hgW) HB1.out.size) hn (heap_alloc_new W.drew _) tr tc).mono (by
  rintro e w' ⟨⟨i, b, rfl, hb⟩, hbl⟩
  exact ⟨⟨i, b, rfl, hb⟩, Sh.bel_step HB1.out HB1.out.size hbl⟩)
 have HAFT : Hid (∀ u, Below W.heap.size W u → u.cell? ⟨w.heap.size, 2, none⟩ = some (.string tt) ∧ Hid ((Instr.loadAt 57 (.pointer (some ⟨w.heap.size, 0, none⟩))).run Tryz.prog u = .ok (cellV ⟨tr, tc, tt⟩) u) ∧ Hid (u.heap[g]? = some (.cells (L.flatMap cellC).toArray 57)) ∧ Hid (Below w.heap.size w u)) := fun u hu => by
  have hX2 := (hu.block _ (blk_lt hX)).trans hX
  exact ⟨(c_cells hX2).2.2, ldC hX2, (hu.block _ (blk_lt hgW)).trans hgW, Sh.bel_step HB0 HB0.size hu⟩
 have HR : Hid (Rise L) := hR
 have hWd : W.drew = (w.alloc (ceO ⟨tr, tc, tt⟩)).drew := by rw [hW]
 simp only [ceO, cellC] at hW
 clear hg hgW hX HB0 hcl hR hWd
 go_enter Tryz.func58, Tryz.ntmps58
 go_wp2
 rw [← hW]
 clear hW
 refine wp_region_d (fun u => u.cell? ⟨w.heap.size, 0, none⟩ = some (.int .i64 tr) ∧ u.cell? ⟨w.heap.size, 1, none⟩ = some (.int .i64 tc)) (fun j => false) (by kernel_rfl) ?_
 refine dwp 0 ((newS g L.length)) (h := ?_)
 refine dwp 2 ((.pointer (some ⟨w.heap.size, 0, none⟩))) (h := ?_)
 refine dwl 3 ((.int .i64 tr)) (hS := HS.out) (hy := (fun u hSu => exec_load rfl rfl (ld1 hSu.1 (Tryz.isAgg3 _)))) (h := ?_)
 refine dwp 4 ((.pointer (some ⟨w.heap.size, 1, none⟩))) (h := ?_)
 refine dwl 5 ((.int .i64 tc)) (hS := HS.out) (hy := (fun u hSu => exec_load rfl rfl (ld1 hSu.2 (Tryz.isAgg3 _)))) (h := ?_)
 refine wpAnyD_one (i := 1) (by kernel_rfl) rfl ?_
 intro K' hK'
 go_simp
 refine C1.mono ?_
 clear C1
 rintro e w1 ⟨rfl, hw1⟩
 subst hw1
 have HK1 := HKk.out _ HB1.out
 refine hK' _ _ (.inr fun _ => HK1) ?_
 clear hK'
 try simp only [Act.put, List.setIfInBounds_toArray, List.set_cons_zero, List.set_cons_succ]
 refine wpAnyD_one (i := 6) (by kernel_rfl) rfl ?_
 intro K' hK'
 go_simp
 refine C2.mono ?_
 clear C2
 rintro e w2 ⟨⟨i, b, rfl, HW⟩, HD⟩
 have HK2 := HKk.out _ HD.out
 refine hK' _ _ (.inr fun _ => HK2) ?_
 clear hK'
 try simp only [Act.put, List.setIfInBounds_toArray, List.set_cons_zero, List.set_cons_succ]
 refine dwp 7 ((.tuple #[.int .i64 (i : Int), .bool b])) (h := ?_)
 refine dwp 8 ((.int .i64 (i : Int))) (h := ?_)
 refine dwp 9 ((.bool b)) (h := ?_)
 refine dwp 10 ((.int .i64 (i : Int))) (h := ?_)
 refine dwp 11 ((.bool b)) (h := ?_)
 refine wpAnyD_done (by kernel_rfl) ?_ _
 obtain ⟨ct, RL, HG2, HBw⟩ := HAFT.out w2 HD.out
 have HGR : Hid (w.grownBy w2 (some g)) := grown_below HBw.out
 clear HKk HK1 HK2 HS HB1 HAFT HD
 have hlen3 := fl_len cellC_len L
 cases b with
 | true =>
  obtain ⟨hi, hput⟩ := put_found HR.out HW.out
  have hii : (i : Int) < L.length := by omega
  cases ht : tt.toList == [] with
  | true =>
   rw [show (CellT.mk tr tc tt).text = tt from rfl, ht, if_pos rfl, List.nil_append] at hput
   have C := delete_95 HG2.out (by rw [List.size_toArray]; exact hlen3) hi (by omega) (by rw [List.toList_toArray]; exact fl_one cellC_one L)
   obtain ⟨m, hm⟩ : ∃ m, m = i + 1 := ⟨_, rfl⟩
   rw [← hm] at C
   have e5 : (i : Int) + 1 = (m : Int) := by omega
   have e6 : IntKind.i64.wrap (m : Int) = (m : Int) := by rw [IntKind.wrap_i64]; omega
   have HP : Hid (putC L ⟨tr, tc, tt⟩ = L.take i ++ L.drop (i + 1)) := hput
   have HM : Hid (m = i + 1) := hm
   clear hput hm hlen3
   go_wp2_with (go_at_call 95; refine C.mono ?_; clear C; rintro e w3 ⟨rfl, h1, h2, h3⟩; have H1 : Hid _ := h1; have H3 : Hid _ := h3; clear h1 h2 h3)
   go_ret
   refine ⟨⟨_, rfl, ?_⟩, HGR.out.trans H3.out⟩
   obtain ⟨cur', k1, k2, k3⟩ := H1.out
   rw [HM.out, List.toList_toArray, flat_take, flat_drop, ← List.flatMap_append, ← HP.out] at k3
   have hpl : (putC L ⟨tr, tc, tt⟩).length = L.length - 1 := by rw [HP.out, List.length_append, List.length_take, List.length_drop]; omega
   rw [hpl]
   exact ⟨by rw [fl_len cellC_len, hpl], .inr ⟨g, L.length, cur', rfl, hb, k1, by omega, le_maxLen hn, k2, k3⟩⟩
  | false =>
   rw [show (CellT.mk tr tc tt).text = tt from rfl, ht, if_neg (by decide), List.singleton_append] at hput
   obtain ⟨w3, RS, k1, _, k3⟩ := st_cell HG2.out hlen3 hi ⟨tr, tc, tt⟩
   have RSh : Hid _ := RS
   have H1 : Hid _ := k1
   have H3 : Hid _ := k3
   have HP : Hid (putC L ⟨tr, tc, tt⟩ = L.take i ++ ⟨tr, tc, tt⟩ :: L.drop (i + 1)) := hput
   clear hput hlen3 RS k1 k3
   go_wp2_with (first
    | (refine wpList_load_run rfl 57 _ rfl _ _ rfl RL.out ?_; clear RL)
    | (refine wpList_store_run rfl 57 _ _ rfl _ _ _ rfl rfl RSh.out ?_; clear RSh))
   go_ret
   refine ⟨⟨_, rfl, ?_⟩, HGR.out.trans H3.out⟩
   have k1 := H1.out
   have e : (L.flatMap cellC).take (i * 3) ++ cellC ⟨tr, tc, tt⟩ ++ (L.flatMap cellC).drop ((i + 1) * 3) = (putC L ⟨tr, tc, tt⟩).flatMap cellC := by
    rw [HP.out, flat_take, flat_drop, List.flatMap_append, List.flatMap_cons, List.append_assoc]
   rw [e] at k1
   have hpl : (putC L ⟨tr, tc, tt⟩).length = L.length := by rw [HP.out, List.length_append, List.length_cons, List.length_take, List.length_drop]; omega
   rw [hpl]
   exact owns_new k1 (by rw [fl_len cellC_len, hpl]) hb (le_maxLen hn)
 | false =>
  obtain ⟨hi, hput⟩ := put_none HR.out HW.out
  cases ht : tt.toList == [] with
  | true =>
   rw [show (CellT.mk tr tc tt).text = tt from rfl, ht, if_pos rfl, List.nil_append, List.take_append_drop] at hput
   have HP : Hid (putC L ⟨tr, tc, tt⟩ = L) := hput
   clear hput
   go_wp2
   go_ret
   refine ⟨⟨_, rfl, ?_⟩, HGR.out⟩
   rw [HP.out]
   exact owns_new HG2.out hlen3 hb (le_maxLen hn)
  | false =>
   rw [show (CellT.mk tr tc tt).text = tt from rfl, ht, if_neg (by decide), List.singleton_append] at hput
   have HP : Hid (putC L ⟨tr, tc, tt⟩ = L.take i ++ ⟨tr, tc, tt⟩ :: L.drop i) := hput
   have RB : Hid _ := cslice_one w2 ⟨tr, tc, tt⟩
   have hGa : (w2.alloc (ceO ⟨tr, tc, tt⟩)).heap[g]? = some (.cells (L.flatMap cellC).toArray 57) := (Below.heap_alloc w2 _ g (blk_lt HG2.out)).trans HG2.out
   have C := insert_96 (base := base) hGa hlen3 hb hn hi (heap_alloc_new w2 _) (cellC_len _) (cellC_one _) (fl_one cellC_one L)
   have HGA : Hid (w2.grownBy (w2.alloc (ceO ⟨tr, tc, tt⟩)) (some g)) := grown_below (Sh.bel_alloc (Below.refl _ _) (Nat.le_refl _) _)
   clear hput hlen3 hGa
   go_wp2_with (first
    | (refine wpList_load_run rfl 57 _ rfl _ _ rfl RL.out ?_; clear RL)
    | (refine wpl_bslice rfl 27 1 _ rfl _ _ _ (by go_simp) RB.out ?_; clear RB)
    | (go_at_call 96; refine C.mono ?_; clear C; rintro e w3 ⟨⟨v', rfl, h1⟩, h3⟩; have H1 : Hid _ := h1; have H3 : Hid _ := h3; clear h1 h3))
   go_ret
   refine ⟨⟨_, rfl, ?_⟩, (HGR.out.trans HGA.out).trans H3.out⟩
   have k1 := H1.out
   have e : (L.flatMap cellC).take (i * 3) ++ cellC ⟨tr, tc, tt⟩ ++ (L.flatMap cellC).drop (i * 3) = (putC L ⟨tr, tc, tt⟩).flatMap cellC := by
    rw [HP.out, flat_take, flat_drop, List.flatMap_append, List.flatMap_cons, List.append_assoc]
   rw [e] at k1
   have hpl : (putC L ⟨tr, tc, tt⟩).length = L.length + 1 := by rw [HP.out, List.length_append, List.length_cons, List.length_take, List.length_drop]; omega
   rw [hpl]
   exact k1
end Go.Proofs.YtnibldnfbikipaaGreatDoor.Sh
namespace Go.Fm
open Go.Ad Go.Tk
structure Lab where
  k : Int
  s : ByteArray
  vk : Int
  vn : Int
  vs : ByteArray
  b1 : ByteArray
  h1 : ByteArray
  r1 : Int
  c1 : Int
  fr1 : Bool
  fc1 : Bool
  b2 : ByteArray
  h2 : ByteArray
  r2 : Int
  c2 : Int
  fr2 : Bool
  fc2 : Bool
abbrev F := Go.Deep.BT Lab
abbrev T := Lab × F
def kids : F → List T
  | .nil => []
  | .node _ _ a l r => (a, l) :: kids r
def mk : List T → F
  | [] => .nil
  | t :: r => .node 0 0 t.1 t.2 (mk r)
theorem kids_mk : ∀ l : List T, kids (mk l) = l
  | [] => rfl
  | (a, l) :: r => by rw [mk, kids, kids_mk r]
theorem ind {P : T → Prop} (h : ∀ t, (∀ s ∈ kids t.2, P s) → P t) : ∀ t, P t := by
  have key : ∀ f : F, ∀ s ∈ kids f, P s := by
    intro f
    induction f with
    | nil => intro s hs; cases hs
    | node b o a l r ihl ihr =>
      intro s hs
      rcases List.mem_cons.1 hs with rfl | hs
      · exact h _ ihl
      · exact ihr s hs
  exact fun t => h t (key t.2)
def depth : F → Nat
  | .nil => 0
  | .node _ _ _ l r => max (depth l + 1) (depth r)
def size : F → Nat
  | .nil => 0
  | .node _ _ _ l r => size l + 1 + size r
def pre : F → List T
  | .nil => []
  | .node _ _ a l r => (a, l) :: (pre l ++ pre r)
def dT (t : T) : Nat := depth t.2 + 1
def zT (t : T) : Nat := size t.2 + 1
def preT (t : T) : List T := t :: pre t.2
theorem pre_len : ∀ f : F, (pre f).length = size f := by
  intro f
  induction f with
  | nil => rfl
  | node b o a l r ihl ihr => simp only [pre, size, List.length_cons, List.length_append, ihl, ihr]; omega
theorem pre_kids : ∀ f : F, pre f = (kids f).flatMap preT := by
  intro f
  induction f with
  | nil => rfl
  | node b o a l r ihl ihr => rw [pre, kids, List.flatMap_cons, ihr]; rfl
theorem size_kids : ∀ f : F, size f = ((kids f).map zT).sum := by
  intro f
  induction f with
  | nil => rfl
  | node b o a l r ihl ihr => rw [size, kids, List.map_cons, List.sum_cons, ihr]; rfl
theorem depth_kids : ∀ f : F, depth f = (kids f).foldl (fun m t => max m (dT t)) 0 := by
  have key : ∀ (f : F) (m : Nat), (kids f).foldl (fun m t => max m (dT t)) m = max m (depth f) := by
    intro f
    induction f with
    | nil => intro m; simp [kids, depth]
    | node b o a l r ihl ihr =>
      intro m
      rw [kids, List.foldl_cons, ihr, depth]
      show max (max m (depth l + 1)) (depth r) = _
      omega
  intro f
  rw [key f 0]; omega
theorem depth_size : ∀ f : F, depth f ≤ size f := by
  intro f
  induction f with
  | nil => exact Nat.le_refl _
  | node b o a l r ihl ihr => simp only [depth, size]; omega
def same : F → F → Prop
  | .nil, .nil => True
  | .node _ _ a l r, .node _ _ a' l' r' => a = a' ∧ same l l' ∧ same r r'
  | _, _ => False
def nf : F → F
  | .nil => .nil
  | .node _ _ a l r => .node 0 0 a (nf l) (nf r)
def nT (t : T) : T := (t.1, nf t.2)
def opOf : List Tok → List UInt8
  | .inr (.inr (.inr (.inr (.inl s)))) :: _ => s
  | _ => []
def strn (s : List UInt8) : Nat :=
  if s = [61] ∨ s = [60, 62] ∨ s = [60] ∨ s = [60, 61] ∨ s = [62] ∨ s = [62, 61] then 1
  else if s = [38] then 2 else if s = [43] ∨ s = [45] then 3 else if s = [42] ∨ s = [47] then 4 else if s = [94] then 5 else 0
def bs (l : List UInt8) : ByteArray := ⟨l.toArray⟩
abbrev nb : ByteArray := ⟨#[]⟩
def lab0 (k : Int) (s : ByteArray) : Lab := ⟨k, s, 0, 0, nb, nb, nb, 0, 0, false, false, nb, nb, 0, 0, false, false⟩
def labV (k n : Int) (s : ByteArray) : Lab := ⟨1, nb, k, n, s, nb, nb, 0, 0, false, false, nb, nb, 0, 0, false, false⟩
def labR (r : Ref) : Lab := ⟨2, nb, 0, 0, nb, bs r.book, bs r.sheet, r.cell.row, r.cell.col, r.cell.fr, r.cell.fc, nb, nb, 0, 0, false, false⟩
def labA (r q : Ref) : Lab := ⟨3, nb, 0, 0, nb, bs r.book, bs r.sheet, r.cell.row, r.cell.col, r.cell.fr, r.cell.fc, bs q.book, bs q.sheet, q.cell.row, q.cell.col, q.cell.fr, q.cell.fc⟩
def labN (b s : List UInt8) : Lab := ⟨4, bs s, 0, 0, nb, bs b, nb, 0, 0, false, false, nb, nb, 0, 0, false, false⟩
def tree (a : Lab) (l : List T) : T := (a, mk l)
def unT (s : List UInt8) (n : T) : T := tree (lab0 5 (bs s)) [n]
def binT (s : List UInt8) (n m : T) : T := tree (lab0 6 (bs s)) [n, m]
abbrev Part := List Tok → Option (T × List Tok)
def loopF (part : Part) (lv : Nat) : Nat → T → List Tok → Option (T × List Tok)
  | 0, n, ts => some (n, ts)
  | k + 1, n, ts => if strn (opOf ts) = lv then (part ts.tail).bind fun p => loopF part lv k (binT (opOf ts) n p.1) p.2 else some (n, ts)
def pctF : Nat → T → List Tok → T × List Tok
  | 0, n, ts => (n, ts)
  | k + 1, n, ts => if opOf ts = [37] then pctF k (unT [37] n) ts.tail else (n, ts)
def argsF (part : Part) : Nat → List T → List Tok → Option (List T × List Tok)
  | 0, _, _ => none
  | k + 1, acc, ts => if opOf ts = [41] then some (acc, ts.tail) else if opOf ts = [44] then (part ts.tail).bind fun p => argsF part k (acc ++ [p.1]) p.2 else none
section
variable (up : List UInt8 → List UInt8) (tr : List UInt8 → Option Int)
def callF (part : Part) (s : List UInt8) (ts : List Tok) : Option (T × List Tok) :=
  if opOf ts = [41] then some (tree (lab0 7 (bs (up s))) [], ts.tail)
  else (part ts).bind fun p => (argsF part (ts.length + 1) [p.1] p.2).bind fun q => if q.1.length ≤ 16 then some (tree (lab0 7 (bs (up s))) q.1, q.2) else none
def oneF (part : Part) : List Tok → Option (T × List Tok)
  | [] => none
  | .inl n :: r => some (tree (labV 1 n nb) [], r)
  | .inr (.inl s) :: r => some (tree (labV 2 0 (bs s)) [], r)
  | .inr (.inr (.inl x)) :: r => if opOf r = [58] then (match r.tail with
      | .inr (.inr (.inl y)) :: q => if y.sheet = [] then some (tree (labA x y) [], q) else none
      | _ => none) else some (tree (labR x) [], r)
  | .inr (.inr (.inr (.inl (b, s)))) :: r => if b = [] ∧ opOf r = [40] then callF up part s r.tail else (match tr s with
      | some n => some (tree (labV 3 n nb) [], r)
      | none => some (tree (labN b s) [], r))
  | .inr (.inr (.inr (.inr (.inl s)))) :: r => if s = [40] then (part r).bind fun p => if opOf p.2 = [41] then some (p.1, p.2.tail) else none else none
  | .inr (.inr (.inr (.inr (.inr n)))) :: r => some (tree (labV 4 n nb) [], r)
def psN : Nat → Nat → List Tok → Option (T × List Tok)
  | 0, _, _ => none
  | f + 1, lv, ts =>
    if lv ≤ 5 then (psN f (lv + 1) ts).bind fun p => loopF (psN f (lv + 1)) lv ts.length p.1 p.2
    else if lv = 6 then (if opOf ts = [45] then (psN f 6 ts.tail).map fun p => (unT [45] p.1, p.2) else psN f 7 ts)
    else if lv = 7 then (psN f 8 ts).map fun p => pctF ts.length p.1 p.2
    else oneF up tr (psN f 1) ts
def need (lv : Nat) (ts : List Tok) : Nat := 9 * ts.length + (9 - lv)
def ps (lv : Nat) (ts : List Tok) : Option (T × List Tok) := psN up tr (need lv ts) lv ts
def Less (part : Part) : Prop := ∀ ts n r, part ts = some (n, r) → r.length < ts.length
theorem op_tail {ts : List Tok} {s : List UInt8} (h : opOf ts = s) (hs : s ≠ []) : ts.tail.length + 1 = ts.length ∧ ts = Tok.op s :: ts.tail := by
  cases ts with
  | nil => exact absurd h.symm hs
  | cons t r =>
    refine ⟨rfl, ?_⟩
    cases t using Tk.Tok.cs with
    | op x => have : x = s := h
              subst this; rfl
    | num n => exact absurd h.symm hs
    | str n => exact absurd h.symm hs
    | ref n => exact absurd h.symm hs
    | word b n => exact absurd h.symm hs
    | bad n => exact absurd h.symm hs
theorem strn_ne {s : List UInt8} (h : strn s ≠ 0) : s ≠ [] := by rintro rfl; exact h (by decide)
theorem loop_le {part : Part} (hp : Less part) {lv : Nat} (hlv : lv ≠ 0) : ∀ (k : Nat) (n : T) (ts : List Tok) (m : T) (r : List Tok), loopF part lv k n ts = some (m, r) → r.length ≤ ts.length
  | 0, n, ts, m, r, h => by cases h; exact Nat.le_refl _
  | k + 1, n, ts, m, r, h => by
    unfold loopF at h
    split at h
    · rename_i hs
      have h1 := (op_tail (ts := ts) rfl (strn_ne (by omega))).1
      cases hq : part ts.tail with
      | none => rw [hq] at h; cases h
      | some p =>
        rw [hq] at h
        have h2 := hp _ p.1 p.2 hq
        have h3 := loop_le hp hlv k _ _ _ _ h
        omega
    · cases h; exact Nat.le_refl _
theorem pct_le : ∀ (k : Nat) (n : T) (ts : List Tok), (pctF k n ts).2.length ≤ ts.length
  | 0, n, ts => Nat.le_refl _
  | k + 1, n, ts => by
    unfold pctF
    split
    · have := pct_le k (unT [37] n) ts.tail
      have h1 : ts.tail.length ≤ ts.length := by rw [List.length_tail]; omega
      omega
    · exact Nat.le_refl _
theorem args_lt {part : Part} (hp : Less part) : ∀ (k : Nat) (acc : List T) (ts : List Tok) (m : List T) (r : List Tok), argsF part k acc ts = some (m, r) → r.length < ts.length
  | 0, acc, ts, m, r, h => by cases h
  | k + 1, acc, ts, m, r, h => by
    unfold argsF at h
    split at h
    · rename_i hs
      have h1 := (op_tail (ts := ts) hs (by decide)).1
      cases h; omega
    · split at h
      · rename_i hs
        have h1 := (op_tail (ts := ts) hs (by decide)).1
        cases hq : part ts.tail with
        | none => rw [hq] at h; cases h
        | some p =>
          rw [hq] at h
          have h2 := hp _ p.1 p.2 hq
          have h3 := args_lt hp k _ _ _ _ h
          omega
      · cases h
theorem call_lt {part : Part} (hp : Less part) {s : List UInt8} {ts : List Tok} {m : T} {r : List Tok} (h : callF up part s ts = some (m, r)) : r.length < ts.length := by
  unfold callF at h
  split at h
  · rename_i hs
    have h1 := (op_tail (ts := ts) hs (by decide)).1
    cases h; omega
  · cases hq : part ts with
    | none => rw [hq] at h; cases h
    | some p =>
      rw [hq] at h
      have h2 := hp _ p.1 p.2 hq
      simp only [Option.bind_some] at h
      cases ha : argsF part (ts.length + 1) [p.1] p.2 with
      | none => rw [ha] at h; cases h
      | some q =>
        rw [ha] at h
        simp only [Option.bind_some] at h
        have h3 := args_lt hp _ _ _ q.1 q.2 ha
        split at h
        · cases h; omega
        · cases h
theorem one_lt {part : Part} (hp : Less part) : Less (oneF up tr part) := by
  intro ts m r h
  cases ts with
  | nil => cases h
  | cons t q =>
    simp only [List.length_cons]
    cases t using Tk.Tok.cs with
    | num n => cases h; omega
    | str s => cases h; omega
    | bad n => cases h; omega
    | ref x =>
      simp only [oneF] at h
      split at h
      · rename_i hs
        have h1 := (op_tail (ts := q) hs (by decide)).1
        split at h
        · rename_i y q' he
          rw [he] at h1
          simp only [List.length_cons] at h1
          split at h
          · cases h; omega
          · cases h
        · cases h
      · cases h; omega
    | word b s =>
      simp only [oneF] at h
      split at h
      · rename_i hs
        have h1 := (op_tail (ts := q) hs.2 (by decide)).1
        have := call_lt up hp h
        omega
      · split at h
        · cases h; omega
        · cases h; omega
    | op s =>
      simp only [oneF] at h
      split at h
      · cases hq : part q with
        | none => rw [hq] at h; cases h
        | some p =>
          rw [hq] at h
          have h2 := hp _ p.1 p.2 hq
          simp only [Option.bind_some] at h
          split at h
          · cases h
            have : p.2.tail.length ≤ p.2.length := by rw [List.length_tail]; omega
            omega
          · cases h
      · cases h
theorem ps_less : ∀ (f lv : Nat), 1 ≤ lv → Less (psN up tr f lv)
  | 0, lv, _ => fun ts n r h => by cases h
  | f + 1, lv, hlv => fun ts n r h => by
    unfold psN at h
    split at h
    · cases hq : psN up tr f (lv + 1) ts with
      | none => rw [hq] at h; cases h
      | some p =>
        rw [hq] at h
        have h2 := ps_less f (lv + 1) (by omega) _ p.1 p.2 hq
        have h3 := loop_le (ps_less f (lv + 1) (by omega)) (by omega) _ _ _ _ _ h
        omega
    · split at h
      · split at h
        · rename_i hs
          have h1 := (op_tail (ts := ts) hs (by decide)).1
          cases hq : psN up tr f 6 ts.tail with
          | none => rw [hq] at h; cases h
          | some p =>
            rw [hq] at h
            have h2 := ps_less f 6 (by omega) _ p.1 p.2 hq
            cases h; omega
        · exact ps_less f 7 (by omega) _ n r h
      · split at h
        · cases hq : psN up tr f 8 ts with
          | none => rw [hq] at h; cases h
          | some p =>
            rw [hq] at h
            have h2 := ps_less f 8 (by omega) _ p.1 p.2 hq
            have h3 := pct_le ts.length p.1 p.2
            simp only [Option.map_some, Option.some.injEq] at h
            rw [h] at h3
            exact Nat.lt_of_le_of_lt h3 h2
        · exact one_lt up tr (ps_less f 1 (Nat.le_refl _)) _ n r h
def Alike (p q : Part) (n : Nat) : Prop := ∀ ts : List Tok, ts.length ≤ n → p ts = q ts
theorem loop_alike {p q : Part} {lv : Nat} (hlv : lv ≠ 0) (hp : Less p) : ∀ (k : Nat) (n : T) (ts : List Tok), Alike p q (ts.length - 1) → loopF p lv k n ts = loopF q lv k n ts
  | 0, n, ts, h => rfl
  | k + 1, n, ts, h => by
    unfold loopF
    split
    · rename_i hs
      have h1 := (op_tail (ts := ts) rfl (strn_ne (by omega))).1
      rw [← h ts.tail (by omega)]
      cases hq : p ts.tail with
      | none => rfl
      | some x =>
        have h2 := hp _ x.1 x.2 hq
        exact loop_alike hlv hp k _ _ (fun us hu => h us (by omega))
    · rfl
theorem loop_fuel {p : Part} {lv : Nat} (hlv : lv ≠ 0) (hp : Less p) : ∀ (k : Nat) (n : T) (ts : List Tok) (k' : Nat), ts.length ≤ k → ts.length ≤ k' → loopF p lv k n ts = loopF p lv k' n ts
  | 0, n, ts, 0, h, h' => rfl
  | 0, n, ts, k' + 1, h, h' => by
    have : ts = [] := List.eq_nil_of_length_eq_zero (by omega)
    subst this
    unfold loopF
    rw [if_neg (by show strn [] ≠ lv; intro e; exact hlv (by rw [← e]; decide))]
  | k + 1, n, ts, 0, h, h' => by
    have : ts = [] := List.eq_nil_of_length_eq_zero (by omega)
    subst this
    unfold loopF
    rw [if_neg (by show strn [] ≠ lv; intro e; exact hlv (by rw [← e]; decide))]
  | k + 1, n, ts, k' + 1, h, h' => by
    unfold loopF
    split
    · rename_i hs
      have h1 := (op_tail (ts := ts) rfl (strn_ne (by omega))).1
      cases hq : p ts.tail with
      | none => rfl
      | some x =>
        have h2 := hp _ x.1 x.2 hq
        exact loop_fuel hlv hp k _ _ k' (by omega) (by omega)
    · rfl
theorem pct_fuel : ∀ (k : Nat) (n : T) (ts : List Tok) (k' : Nat), ts.length ≤ k → ts.length ≤ k' → pctF k n ts = pctF k' n ts
  | 0, n, ts, 0, h, h' => rfl
  | 0, n, ts, k' + 1, h, h' => by
    have : ts = [] := List.eq_nil_of_length_eq_zero (by omega)
    subst this; rfl
  | k + 1, n, ts, 0, h, h' => by
    have : ts = [] := List.eq_nil_of_length_eq_zero (by omega)
    subst this; rfl
  | k + 1, n, ts, k' + 1, h, h' => by
    unfold pctF
    split
    · rename_i hs
      have h1 := (op_tail (ts := ts) hs (by decide)).1
      exact pct_fuel k _ _ k' (by omega) (by omega)
    · rfl
theorem args_alike {p q : Part} (hp : Less p) : ∀ (k : Nat) (acc : List T) (ts : List Tok), Alike p q (ts.length - 1) → argsF p k acc ts = argsF q k acc ts
  | 0, acc, ts, h => rfl
  | k + 1, acc, ts, h => by
    unfold argsF
    split
    · rfl
    · split
      · rename_i hs
        have h1 := (op_tail (ts := ts) hs (by decide)).1
        rw [← h ts.tail (by omega)]
        cases hq : p ts.tail with
        | none => rfl
        | some x =>
          have h2 := hp _ x.1 x.2 hq
          exact args_alike hp k _ _ (fun us hu => h us (by omega))
      · rfl
theorem args_fuel {p : Part} (hp : Less p) : ∀ (k : Nat) (acc : List T) (ts : List Tok) (k' : Nat), ts.length < k → ts.length < k' → argsF p k acc ts = argsF p k' acc ts
  | 0, acc, ts, k', h, h' => absurd h (Nat.not_lt_zero _)
  | k + 1, acc, ts, 0, h, h' => absurd h' (Nat.not_lt_zero _)
  | k + 1, acc, ts, k' + 1, h, h' => by
    unfold argsF
    split
    · rfl
    · split
      · rename_i hs
        have h1 := (op_tail (ts := ts) hs (by decide)).1
        cases hq : p ts.tail with
        | none => rfl
        | some x =>
          have h2 := hp _ x.1 x.2 hq
          exact args_fuel hp k _ _ k' (by omega) (by omega)
      · rfl
theorem call_alike {p q : Part} (hp : Less p) (s : List UInt8) (ts : List Tok) (h : Alike p q ts.length) : callF up p s ts = callF up q s ts := by
  unfold callF
  split
  · rfl
  · rw [← h ts (Nat.le_refl _)]
    cases hq : p ts with
    | none => rfl
    | some x =>
      have h2 := hp _ x.1 x.2 hq
      simp only [Option.bind_some]
      rw [args_alike hp _ _ _ (fun us hu => h us (by omega))]
theorem one_alike {p q : Part} (hp : Less p) (ts : List Tok) (h : Alike p q (ts.length - 1)) : oneF up tr p ts = oneF up tr q ts := by
  cases ts with
  | nil => rfl
  | cons t r =>
    simp only [List.length_cons, Nat.add_sub_cancel] at h
    cases t using Tk.Tok.cs with
    | num n => rfl
    | str s => rfl
    | bad n => rfl
    | ref x => rfl
    | word b s =>
      simp only [oneF]
      split
      · rw [call_alike up hp s r.tail (fun us hu => h us (by rw [List.length_tail] at hu; omega))]
      · rfl
    | op s =>
      simp only [oneF]
      rw [h r (Nat.le_refl _)]
theorem ps_fuel : ∀ (f g lv : Nat) (ts : List Tok), 1 ≤ lv → need lv ts ≤ f → need lv ts ≤ g → psN up tr f lv ts = psN up tr g lv ts
  | 0, g, lv, ts, hlv, h, h' => by
    unfold need at h h'
    by_cases h8 : lv ≤ 8
    · omega
    · have h0 : ts = [] := List.eq_nil_of_length_eq_zero (by omega)
      subst h0
      cases g with
      | zero => rfl
      | succ g =>
        unfold psN
        rw [if_neg (by omega), if_neg (by omega), if_neg (by omega)]
        rfl
  | f + 1, 0, lv, ts, hlv, h, h' => by
    unfold need at h h'
    by_cases h8 : lv ≤ 8
    · omega
    · have h0 : ts = [] := List.eq_nil_of_length_eq_zero (by omega)
      subst h0
      unfold psN
      rw [if_neg (by omega), if_neg (by omega), if_neg (by omega)]
      rfl
  | f + 1, g + 1, lv, ts, hlv, h, h' => by
    unfold need at h h'
    have al : ∀ m, 1 ≤ m → ∀ us : List Tok, us.length < ts.length → psN up tr f m us = psN up tr g m us := fun m hm us hu =>
      ps_fuel f g m us hm (by unfold need; omega) (by unfold need; omega)
    unfold psN
    split
    · rw [ps_fuel f g (lv + 1) ts (by omega) (by unfold need; omega) (by unfold need; omega)]
      cases hq : psN up tr g (lv + 1) ts with
      | none => rfl
      | some x =>
        simp only [Option.bind_some]
        have h2 := ps_less up tr g (lv + 1) (by omega) _ x.1 x.2 hq
        exact loop_alike (by omega) (ps_less up tr f (lv + 1) (by omega)) _ _ _ (fun us hu => al _ (by omega) us (by omega))
    · split
      · split
        · rename_i hs
          have h1 := (op_tail (ts := ts) hs (by decide)).1
          rw [al 6 (by omega) ts.tail (by omega)]
        · rename_i hl _
          exact ps_fuel f g 7 ts (by omega) (by unfold need; omega) (by unfold need; omega)
      · split
        · rw [ps_fuel f g 8 ts (by omega) (by unfold need; omega) (by unfold need; omega)]
        · cases ts with
          | nil => rfl
          | cons t r => exact one_alike up tr (ps_less up tr f 1 (Nat.le_refl _)) _ (fun us hu => al 1 (Nat.le_refl _) us (by simp at hu ⊢; omega))
theorem ps_lt {lv : Nat} (hlv : 1 ≤ lv) : Less (ps up tr lv) := fun ts n r h => ps_less up tr _ lv hlv ts n r h
theorem ps_row {lv : Nat} (h1 : 1 ≤ lv) (h5 : lv ≤ 5) (ts : List Tok) : ps up tr lv ts = (ps up tr (lv + 1) ts).bind fun p => loopF (ps up tr (lv + 1)) lv p.2.length p.1 p.2 := by
  have e : need lv ts = need (lv + 1) ts + 1 := by unfold need; omega
  unfold ps
  rw [e]
  conv => lhs; unfold psN
  rw [if_pos h5]
  cases hq : psN up tr (need (lv + 1) ts) (lv + 1) ts with
  | none => rfl
  | some x =>
    simp only [Option.bind_some]
    have h2 := ps_less up tr _ (lv + 1) (by omega) _ x.1 x.2 hq
    rw [loop_fuel (by omega) (ps_less up tr _ (lv + 1) (by omega)) ts.length x.1 x.2 x.2.length (by omega) (Nat.le_refl _)]
    exact loop_alike (by omega) (ps_less up tr _ (lv + 1) (by omega)) _ _ _ (fun us hu => ps_fuel up tr _ _ _ us (by omega) (by unfold need; omega) (Nat.le_refl _))
theorem ps_neg (ts : List Tok) : ps up tr 6 ts = if opOf ts = [45] then (ps up tr 6 ts.tail).map fun p => (unT [45] p.1, p.2) else ps up tr 7 ts := by
  have e : need 6 ts = need 7 ts + 1 := by unfold need; omega
  conv => lhs; unfold ps; rw [e]; unfold psN
  rw [if_neg (by omega), if_pos rfl]
  split
  · rename_i hs
    have h1 := (op_tail (ts := ts) hs (by decide)).1
    rw [ps_fuel up tr (need 7 ts) (need 6 ts.tail) 6 ts.tail (by omega) (by unfold need; omega) (Nat.le_refl _)]
    rfl
  · rfl
theorem ps_pct (ts : List Tok) : ps up tr 7 ts = (ps up tr 8 ts).map fun p => pctF p.2.length p.1 p.2 := by
  have e : need 7 ts = need 8 ts + 1 := by unfold need; omega
  conv => lhs; unfold ps; rw [e]; unfold psN
  rw [if_neg (by omega), if_neg (by omega), if_pos rfl]
  unfold ps
  cases hq : psN up tr (need 8 ts) 8 ts with
  | none => rfl
  | some x =>
    have h2 := ps_less up tr _ 8 (by omega) _ x.1 x.2 hq
    simp only [Option.map_some]
    rw [pct_fuel ts.length x.1 x.2 x.2.length (by omega) (Nat.le_refl _)]
theorem ps_one (ts : List Tok) : ps up tr 8 ts = oneF up tr (ps up tr 1) ts := by
  have e : need 8 ts = 9 * ts.length + 1 := by unfold need; omega
  conv => lhs; unfold ps; rw [e]; unfold psN
  rw [if_neg (by omega), if_neg (by omega), if_neg (by omega)]
  cases ts with
  | nil => rfl
  | cons t r => exact one_alike up tr (ps_less up tr _ 1 (Nat.le_refl _)) _ (fun us hu => ps_fuel up tr _ _ _ us (by omega) (by unfold need; simp at hu ⊢; omega) (Nat.le_refl _))
end
end Go.Fm
