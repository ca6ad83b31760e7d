/- The contracts of readWhole of a book and of ReadBook. -/
import Derived.Test.YtohndhmhgdelmaaDoorBkTk
import Derived.Test.YtohndhmhgdelmaaDoorWholeO
import Derived.Defers
import Derived.Recover
namespace Go.Proofs.YtohndhmhgdelmaaDoor
open Go.RowKit
set_option maxRecDepth 100000
set_option linter.unusedVariables false


theorem results_cell_two {P : Program} {fn : Func} {p q : Tmp} {ty ty2 : TypeId} (h : fn.results = #[.cell p ty, .cell q ty2]) (tmps : Array Value) (w : World) (g : Nat) (t : TypeId) (cs : Array Value) (fr : Nat × Nat) (d : TypeDesc)
    (hp : tmps.getD p undef = .pointer (some ⟨g, 0, none⟩)) (hg : w.heap[g]? = some (.cells cs t fr))
    (hu : P.underlying ty = some d) (hd : (match d with | .struct _ | .array _ _ => true | _ => false) = true) (hi : (P.info? ty).map (·.size) = some cs.size)
    (a2 : Addr) (v : Value) (hq : tmps.getD q undef = .pointer (some a2)) (hl : (loadVar ty2 a2).run P w = .ok v w) :
    (results fn tmps).run P w = .ok (.tuple #[.agg cs, v]) w := by
  have hp' : tmps[p]?.getD undef = .pointer (some ⟨g, 0, none⟩) := by simpa using hp
  have hq' : tmps[q]?.getD undef = .pointer (some a2) := by simpa using hq
  simp [results, h, hp', hq', asAddr, run_loadVar_row w g t ty cs fr d hg hu hd hi, hl]
theorem load32 {w : World} {a : Addr} {x : Int} (h : w.cell? a = some (.int .i64 x)) : (loadVar 32 a).run Tryd.prog w = .ok (.int .i64 x) w := by
  simp [go_sem, h]
/-- A struct's block, written whole. -/
theorem store_row {w : World} {g : Nat} {t : TypeId} {zv : Value} {sz bytes : Nat} {zs es : Array Value} (hg : w.heap[g]? = some (.cells zs t (0, 0)))
    (hinf : (Tryd.prog.info? t).map (fun i => (i.zero, i.size, i.bytes)) = some (some zv, sz, bytes)) (hz : zs.size = sz) (he : es.size = sz) (h1 : es.all (·.oneCell') = true) :
    (Instr.storeAt t (.pointer (some ⟨g, 0, none⟩)) (.agg es)).run Tryd.prog w = .ok () (w.setRow g es) ∧ (w.setRow g es).heap[g]? = some (.cells es t (0, 0)) ∧ (∀ i, i ≠ g → (w.setRow g es).heap[i]? = w.heap[i]?) ∧ w.grownBy (w.setRow g es) (some g) := by
  have hi : (Tryd.prog.info? t).map (·.size) = some es.size := by
    cases hq : Tryd.prog.info? t with
    | none => simp [hq] at hinf
    | some i => simp [hq] at hinf ⊢; omega
  have hr := run_storeVar_row (P := Tryd.prog) w g t t zs es hg hi (by omega) h1
  refine ⟨?_, setRow_heap _ _ _ _ _ _ hg, fun i hi => setRow_other hi, ⟨rfl, rfl, rfl, by simp [World.setRow], fun i _ hi => setRow_other (by simpa using hi)⟩⟩
  simp only [Instr.storeAt, Instr.sureAddr, Sem.run_bind, Sem.run_pure, Result.andThen_ok, hr]
set_option maxHeartbeats 1000000 in
theorem catchK_idle (p : Addr) (w : World) :
    CallsD Tryd.prog 55 #[.pointer (some p)] .returning w fun e u' w' => e = .returned (.tuple #[]) ∧ u' = .returning ∧ w' = w := by
  refine callsD_of_wpS Tryd.func55 rfl fun c₀ cs hu => ?_
  apply wpS_seq
  apply wpS_region
  simp [wpOpsS, go_sem, recoverD, hu, Tryd.ntmps55, Exit.thenS, Array.replicate, List.replicate]
  refine wpS_of_wp ?_
  go_wp2
  cases c₀
  simp_all [bodyPostS, results, Tryd.results55]


set_option maxHeartbeats 1000000 in
theorem catchK_none (p : Addr) (x : Int) (w : World) (hc : w.cell? p = some (.int .i64 x)) (hz : w.frozen? p = false) :
    CallsD Tryd.prog 55 #[.pointer (some p)] (.panicking noneP) w fun e u' w' =>
      e = .returned (.tuple #[]) ∧ u' = .panicking [{ v := .iface 104 (.agg #[]), recovered := true }] ∧ w' = (w.alloc (.cells #[] 104)).setCell p (.int .i64 12) := by
  have ay := assert_yes
  have hb := World.block_lt_of_cell? w p hc
  have hc1 : (w.alloc (.cells #[] 104)).cell? p = some (.int .i64 x) := (World.cell?_of_block (Below.heap_alloc w _ _ hb)).trans hc
  have hz1 : (w.alloc (.cells #[] 104)).frozen? p = false := (World.frozen?_of_block (Below.heap_alloc w _ _ hb)).trans hz
  unfold noneP
  refine callsD_of_wpS Tryd.func55 rfl fun c₀ cs hu => ?_
  apply wpS_seq
  apply wpS_region
  simp [wpOpsS, go_sem, recoverD, hu, Tryd.ntmps55, Exit.thenS, Array.replicate, List.replicate]
  refine wpS_of_wp ?_
  go_wp2
  cases c₀
  simp_all [bodyPostS, results, Tryd.results55]



abbrev z26 : Obj := .cells #[.slice none 0 0, .slice none 0 0, .slice none 0 0] 26
abbrev rkW (w : World) (v : Value) : World := ((w.alloc z26).alloc (.cells #[.int .i64 0] 32)).alloc (.cells #[v] 108)
theorem rkW_size (w : World) (v : Value) : (rkW w v).heap.size = w.heap.size + 3 := by simp
theorem rkW_rd {w : World} {v : Value} {l : List UInt8} (h : Bts w v l) : Rd w.heap.size (rkW w v) (w.heap.size + 2) l := by
  refine ⟨v, ?_, ((h.alloc _).alloc _).alloc _, fun hne a n c hv => ?_⟩
  · have := heap_alloc_new ((w.alloc z26).alloc (.cells #[.int .i64 0] 32)) (.cells #[v] 108)
    simpa using this
  · rcases h with ⟨_, h⟩ | ⟨a', cap, e1, e2, e3, e4⟩
    · exact absurd h hne
    · rw [e1] at hv
      cases hv
      obtain ⟨x, r, rfl⟩ := List.exists_cons_of_ne_nil hne
      have := World.block_lt_of_cell? w _ (e4 0 _ (by simp [bcells]; rfl))
      rwa [addr_block] at this
theorem rkW_cells {w w3 : World} {v : Value} (hg : (rkW w v).grownBy w3 (some (w.heap.size + 2))) : w3.heap[w.heap.size]? = some z26 ∧ w3.heap[w.heap.size + 1]? = some (.cells #[.int .i64 0] 32 (0, 0)) := by
  have e1 : (rkW w v).heap[w.heap.size]? = some z26 :=
    (Below.heap_alloc ((w.alloc z26).alloc _) _ _ (by simp <;> omega)).trans ((Below.heap_alloc (w.alloc z26) _ _ (by simp)).trans (heap_alloc_new w _))
  have e2 : (rkW w v).heap[w.heap.size + 1]? = some (.cells #[.int .i64 0] 32 (0, 0)) := by
    have h1 := heap_alloc_new (w.alloc z26) (.cells #[.int .i64 0] 32)
    rw [size_alloc] at h1
    exact (Below.heap_alloc ((w.alloc z26).alloc _) _ _ (by simp)).trans h1
  exact ⟨(hg.block _ (by simp <;> omega) (by simp)).trans e1, (hg.block _ (by simp <;> omega) (by simp)).trans e2⟩
theorem rkW_below {w w3 : World} {v : Value} (hg : (rkW w v).grownBy w3 (some (w.heap.size + 2))) : Below w.heap.size w w3 :=
  ((((Below.refl _ w).alloc (Nat.le_refl _) _).alloc (by simp) _).alloc (by simp; omega) _).grown hg (by simp; omega) (by intro k hk; cases hk; omega)

/-- Behind a panic that was caught. -/
theorem wholeK_end {w w3 : World} (h0 : w3.heap[w.heap.size]? = some z26) (h1 : w3.heap[w.heap.size + 1]? = some (.cells #[.int .i64 0] 32 (0, 0))) (hB : Below w.heap.size w w3) :
    let w4 := (w3.alloc (.cells #[] 104)).setCell ⟨w.heap.size + 1, 0, none⟩ (.int .i64 12)
    w4.heap[w.heap.size]? = some z26 ∧ w4.cell? ⟨w.heap.size + 1, 0, none⟩ = some (.int .i64 12) ∧ Below w.heap.size w w4 := by
  have hlt : w.heap.size + 1 < w3.heap.size := by
    rcases Nat.lt_or_ge (w.heap.size + 1) w3.heap.size with h | h
    · exact h
    · rw [Array.getElem?_eq_none h] at h1; cases h1
  have c1 : w3.cell? ⟨w.heap.size + 1, 0, none⟩ = some (.int .i64 0) := by simp [World.cell?, h1]
  refine ⟨?_, ?_, ?_⟩
  · rw [Below.heap_setCell _ _ _ _ (by simp), Below.heap_alloc _ _ _ (by omega)]
    exact h0
  · exact cell_set ((World.cell?_of_block (Below.heap_alloc w3 _ _ (by simpa using hlt))).trans c1)
  · exact (hB.alloc (by omega) _).setCell (by simp) _

set_option maxHeartbeats 2000000 in
theorem wholeK_none {w : World} {v : Value} {l : List UInt8} (h : Bts w v l) (hl : l.length ≤ 536870911999) (hno : readK l = none) :
    Calls Tryd.prog 29 #[v, .func (.func 30) #[] #[]] w fun e w' => e = .returned (.tuple #[.agg #[.slice none 0 0, .slice none 0 0, .slice none 0 0], .int .i64 12]) ∧ Below w.heap.size w w' := by
  have hmf : ∀ (fn : Fn) (first cap : Array Value) (w : World), (Instr.makeFunc fn first cap).run Tryd.prog w = .ok (.func fn first cap) w := fun _ _ _ _ => rfl
  have C := takeBook_tk (rkW_rd h) (by simp; omega) (by simp) hl
  obtain ⟨a, c, rfl, _, _⟩ := h.slice
  have C2 : Calls Tryd.prog 30 #[ptrOf (w.heap.size + 2)] (rkW w (.slice a l.length c)) fun e w' => (w'.cell? ⟨w.heap.size + 1, 0, none⟩ = some (.int .i64 0) ∧ w'.frozen? ⟨w.heap.size + 1, 0, none⟩ = false) ∧ Hid (w'.heap[w.heap.size]? = some z26 ∧ w'.heap[w.heap.size + 1]? = some (.cells #[.int .i64 0] 32 (0, 0)) ∧ Below w.heap.size w w') ∧
      (e = .panicked noneP ∨ ∃ sa sn sc na nn nc la ln lc a2 n2 c2, e = .returned (.agg #[.slice sa sn sc, .slice na nn nc, .slice la ln lc]) ∧ w'.cell? ⟨w.heap.size + 2, 0, none⟩ = some (.slice a2 (n2 + 1) c2)) := by
    refine C.mono ?_
    unfold readK at hno
    rintro e w' (⟨sv, nv, lv, xs, r, q, rfl, ob, ⟨v3, h1, h2, _⟩, hg⟩ | ⟨q, rfl, hg⟩)
    · obtain ⟨k0, k1⟩ := rkW_cells hg
      refine ⟨by simp [World.cell?, World.frozen?, k1], ⟨k0, k1, rkW_below hg⟩, ?_⟩
      rw [q] at hno
      rcases r with _ | ⟨d, r⟩
      · cases hno
      · obtain ⟨a2, c2, rfl, _, _⟩ := h2.slice
        obtain ⟨sa, sc, rfl, _, _⟩ := ob.sh.shs.slice
        obtain ⟨na, nc, rfl, _, _⟩ := ob.nm.nms.slice
        obtain ⟨la, lc, rfl, _, _⟩ := ob.lk.lks.slice
        exact .inr ⟨sa, _, sc, na, _, nc, la, _, lc, a2, r.length, c2, rfl, (cell0 h1).1⟩
    · obtain ⟨k0, k1⟩ := rkW_cells hg
      exact ⟨by simp [World.cell?, World.frozen?, k1], ⟨k0, k1, rkW_below hg⟩, .inl rfl⟩
  clear C h hno
  go_enter_defers Tryd.func29, Tryd.ntmps29
  go_wp2_with fail
  refine C2.mono ?_
  rintro e w3 ⟨⟨c3, f3⟩, HB, rfl | ⟨sa, sn, sc, na, nn, nc, la, ln, lc, a2, n2, c2, rfl, c4⟩⟩
  · have E : Hid _ := wholeK_end HB.out.1 HB.out.2.1 HB.out.2.2
    go_wp2_with fail
    refine leaves_cons (f := 55) (args := #[.pointer (some ⟨w.heap.size + 1, 0, none⟩)]) (by simp) (by simp [go_sem]) ?_
    refine (catchK_none ⟨w.heap.size + 1, 0, none⟩ 0 _ c3 f3).mono ?_
    rintro e u' w'' ⟨rfl, rfl, rfl⟩
    refine ⟨_, results_cell_two (fn := Tryd.f29) rfl _ _ w.heap.size 26 _ (0, 0) _ rfl E.out.1 Tryd.underlying26 rfl (by kernel_rfl) ⟨w.heap.size + 1, 0, none⟩ _ rfl (load32 E.out.2.1), rfl, E.out.2.2⟩
  · obtain ⟨b1, _⟩ := box_runs Tryd.underlying26 rfl inf26 w3 #[.slice none 0 0, .slice none 0 0, .slice none 0 0] #[.slice sa sn sc, .slice na nn nc, .slice la ln lc] rfl rfl (by simp [Value.oneCell'])
    have R1 : Hid _ := b1
    have k0 := Below.heap_alloc w3 (.cells #[.slice sa sn sc, .slice na nn nc, .slice la ln lc] 26)
    have hlt : w.heap.size + 1 < w3.heap.size := World.block_lt_of_cell? w3 _ c3
    have hlt2 : w.heap.size + 2 < w3.heap.size := World.block_lt_of_cell? w3 _ c4
    have HB2 : Hid ((w3.alloc (.cells #[.slice sa sn sc, .slice na nn nc, .slice la ln lc] 26)).heap[w.heap.size]? = some z26 ∧ (w3.alloc (.cells #[.slice sa sn sc, .slice na nn nc, .slice la ln lc] 26)).heap[w.heap.size + 1]? = some (.cells #[.int .i64 0] 32 (0, 0)) ∧ Below w.heap.size w (w3.alloc (.cells #[.slice sa sn sc, .slice na nn nc, .slice la ln lc] 26))) :=
      ⟨(k0 _ (by omega)).trans HB.out.1, (k0 _ hlt).trans HB.out.2.1, HB.out.2.2.alloc (by omega) _⟩
    have c3' := (World.cell?_of_block (k0 _ hlt)).trans c3
    have f3' := (World.frozen?_of_block (k0 _ hlt)).trans f3
    have c4' := (World.cell?_of_block (k0 _ hlt2)).trans c4
    have E : Hid _ := wholeK_end HB2.out.1 HB2.out.2.1 HB2.out.2.2
    clear k0 b1 hlt hlt2 HB
    generalize w3.alloc (.cells #[.slice sa sn sc, .slice na nn nc, .slice la ln lc] 26) = W at *
    go_wp2_with (refine wpList_store_run rfl 26 _ _ rfl _ _ _ rfl rfl R1.out ?_)
    refine leaves_cons (f := 55) (args := #[.pointer (some ⟨w.heap.size + 1, 0, none⟩)]) (by simp) (by simp [go_sem]) ?_
    refine (catchK_none ⟨w.heap.size + 1, 0, none⟩ 0 _ c3' f3').mono ?_
    rintro e u' w'' ⟨rfl, rfl, rfl⟩
    refine ⟨_, results_cell_two (fn := Tryd.f29) rfl _ _ w.heap.size 26 _ (0, 0) _ rfl E.out.1 Tryd.underlying26 rfl (by kernel_rfl) ⟨w.heap.size + 1, 0, none⟩ _ rfl (load32 E.out.2.1), rfl, E.out.2.2⟩

set_option maxHeartbeats 2000000 in
theorem wholeK_some {w : World} {v : Value} {l : List UInt8} (h : Bts w v l) (hl : l.length ≤ 536870911999) {x : BookT} (hs : readK l = some x) :
    Calls Tryd.prog 29 #[v, .func (.func 30) #[] #[]] w fun e w' => ∃ sv nv lv, e = .returned (.tuple #[.agg #[sv, nv, lv], .int .i64 0]) ∧ OwnBk w.heap.size w' sv nv lv x ∧ Below w.heap.size w w' := by
  have hmf : ∀ (fn : Fn) (first cap : Array Value) (w : World), (Instr.makeFunc fn first cap).run Tryd.prog w = .ok (.func fn first cap) w := fun _ _ _ _ => rfl
  have C := takeBook_tk (rkW_rd h) (by simp; omega) (by simp) hl
  obtain ⟨a, c, rfl, _, _⟩ := h.slice
  have C2 : Calls Tryd.prog 30 #[ptrOf (w.heap.size + 2)] (rkW w (.slice a l.length c)) fun e w' => ∃ sa sn sc na nn nc la ln lc a2 c2, e = .returned (.agg #[.slice sa sn sc, .slice na nn nc, .slice la ln lc]) ∧ w'.cell? ⟨w.heap.size + 2, 0, none⟩ = some (.slice a2 0 c2) ∧
      Hid (w'.heap[w.heap.size]? = some z26 ∧ w'.heap[w.heap.size + 1]? = some (.cells #[.int .i64 0] 32 (0, 0)) ∧ Below w.heap.size w w' ∧ OwnBk (w.heap.size + 3) w' (.slice sa sn sc) (.slice na nn nc) (.slice la ln lc) x) := by
    refine C.mono ?_
    unfold readK at hs
    rintro e w' (⟨sv, nv, lv, xs, r, q, rfl, ob, ⟨v3, h1, h2, _⟩, hg⟩ | ⟨q, rfl, hg⟩)
    · obtain ⟨k0, k1⟩ := rkW_cells hg
      rw [q] at hs
      rcases r with _ | ⟨d, r⟩
      · cases hs
        obtain ⟨a2, c2, rfl, _, _⟩ := h2.slice
        obtain ⟨sa, sc, rfl, _, _⟩ := ob.sh.shs.slice
        obtain ⟨na, nc, rfl, _, _⟩ := ob.nm.nms.slice
        obtain ⟨la, lc, rfl, _, _⟩ := ob.lk.lks.slice
        rw [rkW_size] at ob
        exact ⟨sa, _, sc, na, _, nc, la, _, lc, a2, c2, rfl, (cell0 h1).1, k0, k1, rkW_below hg, ob⟩
      · cases hs
    · rw [q] at hs; cases hs
  clear C h hs
  go_enter_defers Tryd.func29, Tryd.ntmps29
  go_wp2_with fail
  refine C2.mono ?_
  rintro e w3 ⟨sa, sn, sc, na, nn, nc, la, ln, lc, a2, c2, rfl, c4, HB⟩
  obtain ⟨b1, b2⟩ := box_runs Tryd.underlying26 rfl inf26 w3 #[.slice none 0 0, .slice none 0 0, .slice none 0 0] #[.slice sa sn sc, .slice na nn nc, .slice la ln lc] rfl rfl (by simp [Value.oneCell'])
  have R1 : Hid _ := b1
  have R2 : Hid _ := b2
  have k0 := Below.heap_alloc w3 (.cells #[.slice sa sn sc, .slice na nn nc, .slice la ln lc] 26)
  have hlt2 : w.heap.size + 2 < w3.heap.size := World.block_lt_of_cell? w3 _ c4
  have c4' := (World.cell?_of_block (k0 _ hlt2)).trans c4
  have q0 := (k0 w.heap.size (by omega)).trans HB.out.1
  have q1 := (k0 (w.heap.size + 1) (by omega)).trans HB.out.2.1
  have qb := HB.out.2.2.1.alloc (by omega) (.cells #[.slice sa sn sc, .slice na nn nc, .slice la ln lc] 26)
  have qo := HB.out.2.2.2.kept fun i _ hi => k0 i hi
  have qs : w.heap.size + 3 ≤ (w3.alloc (.cells #[.slice sa sn sc, .slice na nn nc, .slice la ln lc] 26)).heap.size := by simp; omega
  clear k0 b1 b2 hlt2 HB
  generalize w3.alloc (.cells #[.slice sa sn sc, .slice na nn nc, .slice la ln lc] 26) = W at *
  obtain ⟨b3, s0, s1, s2⟩ := store_row (es := #[.slice sa sn sc, .slice na nn nc, .slice la ln lc]) q0 inf26 rfl rfl (by simp [Value.oneCell'])
  have R3 : Hid _ := b3
  have q1' := (s1 (w.heap.size + 1) (by omega)).trans q1
  have c5 : (W.setRow w.heap.size #[.slice sa sn sc, .slice na nn nc, .slice la ln lc]).cell? ⟨w.heap.size + 1, 0, none⟩ = some (.int .i64 0) := by simp only [World.cell?, q1']; rfl
  have f5 : (W.setRow w.heap.size #[.slice sa sn sc, .slice na nn nc, .slice la ln lc]).frozen? ⟨w.heap.size + 1, 0, none⟩ = false := by simp [World.frozen?, q1']
  have qo' := qo.kept (w' := W.setRow w.heap.size #[.slice sa sn sc, .slice na nn nc, .slice la ln lc]) fun i hi _ => s1 i (by omega)
  have qb' : Below w.heap.size w (W.setRow w.heap.size #[.slice sa sn sc, .slice na nn nc, .slice la ln lc]) := setRow_below qb (Nat.le_refl _)
  clear b3 s1 s2 q0 q1 q1' qo qb
  generalize W.setRow w.heap.size #[.slice sa sn sc, .slice na nn nc, .slice la ln lc] = W2 at *
  have E : Hid ((W2.setCell ⟨w.heap.size + 1, 0, none⟩ (.int .i64 0)).heap[w.heap.size]? = some (.cells #[.slice sa sn sc, .slice na nn nc, .slice la ln lc] 26 (0, 0)) ∧ (W2.setCell ⟨w.heap.size + 1, 0, none⟩ (.int .i64 0)).cell? ⟨w.heap.size + 1, 0, none⟩ = some (.int .i64 0) ∧
      OwnBk w.heap.size (W2.setCell ⟨w.heap.size + 1, 0, none⟩ (.int .i64 0)) (.slice sa sn sc) (.slice na nn nc) (.slice la ln lc) x ∧ Below w.heap.size w (W2.setCell ⟨w.heap.size + 1, 0, none⟩ (.int .i64 0))) :=
    ⟨(Below.heap_setCell W2 _ _ _ (by simp)).trans s0, cell_set c5, (qo'.kept fun i hi _ => Below.heap_setCell W2 _ _ i (by simp; omega)).mono (by omega), qb'.setCell (by simp) _⟩
  clear s0 qo' qb' qs
  go_wp2_with (first
    | (refine wpList_store_run rfl 26 _ _ rfl _ _ _ rfl rfl R1.out ?_)
    | (refine wpList_load_run rfl 26 _ rfl _ _ rfl R2.out ?_)
    | (refine wpList_store_run rfl 26 _ _ rfl _ _ _ rfl rfl R3.out ?_))
  refine leaves_cons (f := 55) (args := #[.pointer (some ⟨w.heap.size + 1, 0, none⟩)]) (by simp) (by simp [go_sem]) ?_
  refine (catchK_idle ⟨w.heap.size + 1, 0, none⟩ _).mono ?_
  rintro e u' w'' ⟨rfl, rfl, rfl⟩
  exact ⟨_, results_cell_two (fn := Tryd.f29) rfl _ _ w.heap.size 26 _ (0, 0) _ rfl E.out.1 Tryd.underlying26 rfl (by kernel_rfl) ⟨w.heap.size + 1, 0, none⟩ _ rfl (load32 E.out.2.1), _, _, _, rfl, E.out.2.2.1, E.out.2.2.2⟩

theorem results_row_tmp {P : Program} {fn : Func} {p u : Tmp} {ty : TypeId} (h : fn.results = #[.cell p ty, .tmp u]) (tmps : Array Value) (w : World) (g : Nat) (t : TypeId) (cs : Array Value) (fr : Nat × Nat) (d : TypeDesc)
    (hp : tmps.getD p undef = .pointer (some ⟨g, 0, none⟩)) (hg : w.heap[g]? = some (.cells cs t fr))
    (hu : P.underlying ty = some d) (hd : (match d with | .struct _ | .array _ _ => true | _ => false) = true) (hi : (P.info? ty).map (·.size) = some cs.size) (v : Value) (hv : tmps.getD u undef = v) :
    (results fn tmps).run P w = .ok (.tuple #[.agg cs, v]) w := by
  have hp' : tmps[p]?.getD undef = .pointer (some ⟨g, 0, none⟩) := by simpa using hp
  have hv' : tmps[u]?.getD undef = v := by simpa using hv
  simp [results, h, hp', hv', asAddr, run_loadVar_row w g t ty cs fr d hg hu hd hi]
theorem below_alloc {w w' : World} {o : Obj} (h : Below (w.alloc o).heap.size (w.alloc o) w') : Below w.heap.size w w' :=
  ((Below.refl _ w).alloc (Nat.le_refl _) o).trans (h.mono (by simp))
set_option maxHeartbeats 1000000 in
theorem readBook_none {w : World} {v : Value} {l : List UInt8} (h : Bts w v l) (hl : l.length ≤ 536870911999) (hno : readK l = none) :
    Calls Tryd.prog 10 #[v] w fun e w' => e = .returned (.tuple #[.agg #[.slice none 0 0, .slice none 0 0, .slice none 0 0], .int .i64 12]) ∧ Below w.heap.size w w' := by
  have C : Calls Tryd.prog 29 #[v, .func (.func 30) #[] #[]] (w.alloc z26) fun e w' => e = .returned (.tuple #[.agg #[.slice none 0 0, .slice none 0 0, .slice none 0 0], .int .i64 12]) ∧ ∃ w2, Hid ((Instr.storeAt 26 (.pointer (some ⟨w.heap.size, 0, none⟩)) (.agg #[.slice none 0 0, .slice none 0 0, .slice none 0 0])).run Tryd.prog w' = .ok () w2) ∧ Hid (w2.heap[w.heap.size]? = some (.cells #[.slice none 0 0, .slice none 0 0, .slice none 0 0] 26 (0, 0)) ∧ Below w.heap.size w w2) := by
    refine (wholeK_none (h.alloc z26) hl hno).mono ?_
    rintro e w' ⟨rfl, hb⟩
    have h0 : w'.heap[w.heap.size]? = some z26 := (hb.block _ (by simp)).trans (heap_alloc_new w _)
    obtain ⟨r, k0, _, _⟩ := store_row (es := #[.slice none 0 0, .slice none 0 0, .slice none 0 0]) h0 inf26 rfl rfl (by simp [Value.oneCell'])
    exact ⟨rfl, _, r, k0, setRow_below (below_alloc hb) (Nat.le_refl _)⟩
  clear h hno
  go_enter Tryd.func10, Tryd.ntmps10
  go_wp2_with fail
  refine C.mono ?_
  rintro e w1 ⟨rfl, w2, R, HE⟩
  go_wp2_with (refine wpList_store_run rfl 26 _ _ rfl _ _ _ rfl rfl R.out ?_)
  exact bodyPost_ret_by (results_row_tmp rfl _ _ w.heap.size 26 _ (0, 0) _ rfl HE.out.1 Tryd.underlying26 rfl (by kernel_rfl) _ rfl) rfl ⟨rfl, HE.out.2⟩
set_option maxHeartbeats 1000000 in
theorem readBook_some {w : World} {v : Value} {l : List UInt8} (h : Bts w v l) (hl : l.length ≤ 536870911999) {x : BookT} (hs : readK l = some x) :
    Calls Tryd.prog 10 #[v] w fun e w' => ∃ sv nv lv, e = .returned (.tuple #[.agg #[sv, nv, lv], .int .i64 0]) ∧ OwnBk w.heap.size w' sv nv lv x ∧ Below w.heap.size w w' := by
  have C : Calls Tryd.prog 29 #[v, .func (.func 30) #[] #[]] (w.alloc z26) fun e w' => ∃ sa sn sc na nn nc la ln lc, e = .returned (.tuple #[.agg #[.slice sa sn sc, .slice na nn nc, .slice la ln lc], .int .i64 0]) ∧ ∃ w2, Hid ((Instr.storeAt 26 (.pointer (some ⟨w.heap.size, 0, none⟩)) (.agg #[.slice sa sn sc, .slice na nn nc, .slice la ln lc])).run Tryd.prog w' = .ok () w2) ∧ Hid (w2.heap[w.heap.size]? = some (.cells #[.slice sa sn sc, .slice na nn nc, .slice la ln lc] 26 (0, 0)) ∧ OwnBk w.heap.size w2 (.slice sa sn sc) (.slice na nn nc) (.slice la ln lc) x ∧ Below w.heap.size w w2) := by
    refine (wholeK_some (h.alloc z26) hl hs).mono ?_
    rintro e w' ⟨sv, nv, lv, rfl, ob, hb⟩
    obtain ⟨sa, sc, rfl, _, _⟩ := ob.sh.shs.slice
    obtain ⟨na, nc, rfl, _, _⟩ := ob.nm.nms.slice
    obtain ⟨la, lc, rfl, _, _⟩ := ob.lk.lks.slice
    have h0 : w'.heap[w.heap.size]? = some z26 := (hb.block _ (by simp)).trans (heap_alloc_new w _)
    obtain ⟨r, k0, k1, _⟩ := store_row (es := #[.slice sa x.sheets.length sc, .slice na x.names.length nc, .slice la x.links.length lc]) h0 inf26 rfl rfl (by simp [Value.oneCell'])
    rw [size_alloc] at ob
    exact ⟨sa, _, sc, na, _, nc, la, _, lc, rfl, _, r, k0, (ob.kept fun i hi _ => k1 i (by omega)).mono (by omega), setRow_below (below_alloc hb) (Nat.le_refl _)⟩
  clear h hs
  go_enter Tryd.func10, Tryd.ntmps10
  go_wp2_with fail
  refine C.mono ?_
  rintro e w1 ⟨sa, sn, sc, na, nn, nc, la, ln, lc, rfl, w2, R, HE⟩
  go_wp2_with (refine wpList_store_run rfl 26 _ _ rfl _ _ _ rfl rfl R.out ?_)
  exact bodyPost_ret_by (results_row_tmp rfl _ _ w.heap.size 26 _ (0, 0) _ rfl HE.out.1 Tryd.underlying26 rfl (by kernel_rfl) _ rfl) rfl ⟨_, _, _, rfl, HE.out.2.1, HE.out.2.2⟩

end Go.Proofs.YtohndhmhgdelmaaDoor
