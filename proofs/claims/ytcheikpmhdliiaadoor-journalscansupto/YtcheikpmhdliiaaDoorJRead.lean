/- The contracts of the journal's readers: endOfOne, readHeader, readGroup. -/
import Derived.Test.YtcheikpmhdliiaaDoorJWrite
import Derived.Test.YtcheikpmhdliiaaDoorWholeO
import Derived.Laws.ResultCell
namespace Go.Proofs.YtcheikpmhdliiaaDoor
open Go.RowKit
set_option maxRecDepth 100000

theorem endAux_le : ∀ (l : List UInt8) (n : Nat), n ≤ endAux n l ∧ endAux n l ≤ n + l.length := by
  intro l
  induction l with
  | nil => intro n; simp [endAux]
  | cons d r ih =>
    intro n
    rw [endAux]
    split
    · simp
    · have := ih (n + 1)
      simp only [List.length_cons]
      omega
theorem endOne_le (l : List UInt8) : endOne l ≤ l.length := by
  rcases l with _ | ⟨d, r⟩
  · simp [endOne]
  · have := endAux_le r 1
    simp only [endOne, List.length_cons]
    omega
theorem endOne_pos {l : List UInt8} (h : l ≠ []) : 1 ≤ endOne l := by
  obtain ⟨d, r, rfl⟩ := List.exists_cons_of_ne_nil h
  exact (endAux_le r 1).1

set_option maxHeartbeats 1000000 in
theorem endOne_any {w : World} {v : Value} {l : List UInt8} (h : Bts w v l) (hl : l.length ≤ 1099511627776) : Calls Tryd.prog 92 #[v] w fun e w' => e = .returned (.int .i64 (endOne l)) ∧ w' = w := by
  obtain ⟨a, c, rfl, _, _⟩ := h.slice
  have H : Hid (Bts w (.slice a l.length c) l) := h
  clear h
  go_enter Tryd.func92, Tryd.ntmps92
  go_wp2
  go_loop [3] (fun i => ∃ k : Nat, 1 ≤ k ∧ i = .int .i64 k ∧ k ≤ l.length + 1 ∧ Hid ((k ≤ l.length ∨ k = 1) ∧ (k ≤ l.length → endOne l = endAux k (l.drop k)))) (fun i => l.length + 1 - (intOf i).toNat)
  case atStart =>
    refine ⟨1, Nat.le_refl _, rfl, by omega, .inr rfl, ?_⟩
    intro h1
    obtain ⟨d, r, e⟩ := List.exists_cons_of_ne_nil (l := l) (by rintro rfl; simp at h1)
    rw [e]
    rfl
  case round =>
    obtain ⟨k, hk1, rfl, hk, HE⟩ := hrel
    by_cases hlt : k < l.length
    · obtain ⟨a', rfl, cc⟩ : ∃ a', a = some a' ∧ w.cell? (a'.add k) = some (.int .u8 (l[k].toNat : Int)) := by
        rcases H.out with ⟨_, rfl⟩ | ⟨a', cap, h1, _, _, h4⟩
        · simp at hlt
        · cases h1
          exact ⟨a', rfl, h4 k _ (bcells_get hlt)⟩
      have hd : l[k].toNat < 256 := l[k].toNat_lt
      have HN : Hid (endAux k (l.drop k) = if l[k].toNat < 128 then k + 1 else endAux (k + 1) (l.drop (k + 1))) := by
        show _ = _
        rw [List.drop_eq_getElem_cons hlt, endAux]
      have hk3 : Hid (k + 1 ≤ l.length + 1) := by show _ ≤ _; omega
      generalize l[k].toNat = d at *
      by_cases hsm : d < 128
      · have HR : Hid (endOne l = k + 1) := by show _ = _; rw [HE.out.2 (by omega), HN.out, if_pos hsm]
        clear HE HN
        go_wp2
        go_ret
        exact ⟨by rw [HR.out]; go_num, rfl⟩
      · have HE2 : Hid ((k + 1 ≤ l.length ∨ k + 1 = 1) ∧ (k + 1 ≤ l.length → endOne l = endAux (k + 1) (l.drop (k + 1)))) := ⟨.inl (by omega), fun _ => by rw [HE.out.2 (by omega), HN.out, if_neg hsm]⟩
        clear HE HN
        go_wp2
        go_round
        case rel => exact ⟨k + 1, Nat.succ_pos k, by go_num, hk3.out, HE2⟩
        case measure => have := hk3.out; simp [intOf]; omega
    · have HR : Hid (endOne l = l.length) := by
        show _ = _
        by_cases hk2 : k ≤ l.length
        · have : k = l.length := by omega
          rw [HE.out.2 hk2, List.drop_of_length_le (by omega), endAux, this]
        · have : l = [] := List.eq_nil_of_length_eq_zero (by have := HE.out.1; omega)
          rw [this]
          rfl
      clear HE
      go_wp2
      go_ret
      exact ⟨by rw [HR.out]; rfl, rfl⟩

theorem results2_row {P : Program} {fn : Func} {p u : Tmp} {ty : TypeId} (h : fn.results = #[.cell p ty, .tmp u]) (tmps : Array Value) (w : World) (g : Nat) (t : TypeId) (cs : Array Value) (fr : Nat × Nat) (d : TypeDesc) (v2 : Value)
    (hp : tmps.getD p undef = .pointer (some ⟨g, 0, none⟩)) (hg : w.heap[g]? = some (.cells cs t fr))
    (hu : P.underlying ty = some d) (hd : (match d with | .struct _ | .array _ _ => true | _ => false) = true) (hi : (P.info? ty).map (·.size) = some cs.size) (hv : tmps.getD u undef = v2) :
    (results fn tmps).run P w = .ok (.tuple #[.agg cs, v2]) w := by
  rw [results_cell_tmp h, hp, hv]
  simp [asAddr, run_loadVar_row w g t ty cs fr d hg hu hd hi, Result.andThen]

/-- A struct that is answered: its own place, laid at the beginning, and what is stored there last. -/
theorem ret_end {w wn : World} {t : TypeId} {zv : Value} {sz bytes : Nat} {zs es : Array Value} (hb : Below (w.heap.size + 1) (w.alloc (.cells zs t)) wn)
    (hinf : (Tryd.prog.info? t).map (fun i => (i.zero, i.size, i.bytes)) = some (some zv, sz, bytes)) (hz : zs.size = sz) (he : es.size = sz) (h1 : es.all (·.oneCell') = true) :
    ∃ w', Hid ((Instr.storeAt t (.pointer (some ⟨w.heap.size, 0, none⟩)) (.agg es)).run Tryd.prog wn = .ok () w') ∧ Hid (w'.heap[w.heap.size]? = some (.cells es t (0, 0))) ∧ Hid (Below w.heap.size w w') ∧ Hid (∀ i, i ≠ w.heap.size → w'.heap[i]? = wn.heap[i]?) := by
  have hi : (Tryd.prog.info? t).map (·.size) = some es.size := by
    cases hq : Tryd.prog.info? t with
    | none => simp [hq] at hinf
    | some i => simp [hq] at hinf ⊢; omega
  have hg : wn.heap[w.heap.size]? = some (.cells zs t (0, 0)) := (hb.block _ (by omega)).trans (heap_alloc_new w _)
  have hr := run_storeVar_row (P := Tryd.prog) wn w.heap.size t t zs es hg hi (by omega) h1
  refine ⟨wn.setRow w.heap.size es, ?_, setRow_heap _ _ _ _ _ _ hg, ?_, fun i hi => setRow_other hi⟩
  · show _ = _
    simp only [Instr.storeAt, Instr.sureAddr, Sem.run_bind, Sem.run_pure, Result.andThen_ok, hr]
  · exact setRow_below (((Below.refl _ w).alloc (Nat.le_refl _) _).trans (hb.mono (by omega))) (Nat.le_refl _)

theorem below_size {w w1 : World} {o : Obj} (h : Below (w.alloc o).heap.size (w.alloc o) w1) : Below (w.heap.size + 1) (w.alloc o) w1 := by simpa using h
theorem inf92 : (Tryd.prog.info? 92).map (fun i => (i.zero, i.size, i.bytes)) = some (some (.agg #[.int .i64 0]), 1, 8) := by kernel_rfl
theorem inf94 : (Tryd.prog.info? 94).map (fun i => (i.zero, i.size, i.bytes)) = some (some (.agg #[.int .i64 0, .slice none 0 0]), 2, 32) := by kernel_rfl

set_option maxHeartbeats 1000000 in
theorem readHeader_none {w : World} {v : Value} {l : List UInt8} (h : Bts w v l) (hl : l.length ≤ 1099511627776) (hn : readH l = none) :
    Calls Tryd.prog 87 #[v] w fun e w' => e = .returned (.tuple #[.agg #[.int .i64 0], .bool false]) ∧ Below w.heap.size w w' := by
  have h' : Bts (w.alloc (.cells #[.int .i64 0] 92)) v l := h.alloc _
  rcases hq : readI l with _ | ns
  · have C := readInts_none h' hl hq
    clear h h' hn hq
    go_enter Tryd.func87, Tryd.ntmps87
    go_wp2_with fail
    refine C.mono ?_
    rintro e w1 ⟨rfl, b1⟩
    obtain ⟨wz, RS, HZ, HB, _⟩ := ret_end (w := w) (es := #[.int .i64 0]) (below_size b1) inf92 rfl rfl (by simp [Value.oneCell'])
    clear C b1
    go_wp2_with (refine wpList_store_run rfl 92 _ _ rfl _ _ _ rfl rfl RS.out ?_)
    exact bodyPost_ret_by (results2_row rfl _ _ w.heap.size 92 _ (0, 0) _ _ rfl HZ.out Tryd.underlying92 rfl (by kernel_rfl) rfl) rfl ⟨rfl, HB.out⟩
  · have C := readInts_some h' hl hq
    unfold readH at hn
    rw [hq] at hn
    have C2 : Calls Tryd.prog 25 #[v] (w.alloc (.cells #[.int .i64 0] 92)) fun e w' => ∃ a' c', e = .returned (.tuple #[.slice a' ns.length c', .int .i64 0]) ∧ (ns.length = 2 → ∃ p x, a' = some p ∧ x ≠ 7 ∧ w'.cell? p = some (.int .i64 x)) ∧ Hid (Below (w.heap.size + 1) (w.alloc (.cells #[.int .i64 0] 92)) w') := by
      refine C.mono ?_
      rintro e w1 ⟨x, rfl, i1, _, b1⟩
      rcases i1 with ⟨rfl, rfl⟩ | ⟨p, cap, rfl, _, _, hc⟩
      · exact ⟨none, 0, rfl, fun h => by simp at h, below_size b1⟩
      · refine ⟨some p, cap, rfl, fun h2 => ?_, below_size b1⟩
        match ns, h2 with
        | [m, id], _ =>
          refine ⟨p, m, rfl, fun e7 => ?_, by simpa [Addr.add] using hc 0 m rfl⟩
          subst e7
          simp at hn
    clear C h h' hn hq
    by_cases h2 : ns.length = 2
    · have C3 : Calls Tryd.prog 25 #[v] (w.alloc (.cells #[.int .i64 0] 92)) fun e w' => ∃ p c' x, e = .returned (.tuple #[.slice (some p) 2 c', .int .i64 0]) ∧ x ≠ 7 ∧ w'.cell? p = some (.int .i64 x) ∧ Hid (Below (w.heap.size + 1) (w.alloc (.cells #[.int .i64 0] 92)) w') := by
        refine C2.mono ?_
        rintro e w1 ⟨a', c', rfl, h7, b1⟩
        obtain ⟨p, x, rfl, hx, cx⟩ := h7 h2
        rw [h2]
        exact ⟨p, c', x, rfl, hx, cx, b1⟩
      clear h2 C2
      go_enter Tryd.func87, Tryd.ntmps87
      go_wp2_with fail
      refine C3.mono ?_
      rintro e w1 ⟨p, c', x, rfl, hx, cx, b1⟩
      obtain ⟨wz, RS, HZ, HB, _⟩ := ret_end (w := w) (es := #[.int .i64 0]) b1.out inf92 rfl rfl (by simp [Value.oneCell'])
      clear C3 b1
      go_wp2_with (refine wpList_store_run rfl 92 _ _ rfl _ _ _ rfl rfl RS.out ?_)
      exact bodyPost_ret_by (results2_row rfl _ _ w.heap.size 92 _ (0, 0) _ _ rfl HZ.out Tryd.underlying92 rfl (by kernel_rfl) rfl) rfl ⟨rfl, HB.out⟩
    · have h2' : ¬ (ns.length : Int) = 2 := by omega
      generalize ns.length = n at *
      go_enter Tryd.func87, Tryd.ntmps87
      go_wp2_with fail
      refine C2.mono ?_
      rintro e w1 ⟨a', c', rfl, _, b1⟩
      obtain ⟨wz, RS, HZ, HB, _⟩ := ret_end (w := w) (es := #[.int .i64 0]) b1.out inf92 rfl rfl (by simp [Value.oneCell'])
      clear C2 b1
      go_wp2_with (refine wpList_store_run rfl 92 _ _ rfl _ _ _ rfl rfl RS.out ?_)
      exact bodyPost_ret_by (results2_row rfl _ _ w.heap.size 92 _ (0, 0) _ _ rfl HZ.out Tryd.underlying92 rfl (by kernel_rfl) rfl) rfl ⟨rfl, HB.out⟩

set_option maxHeartbeats 1000000 in
theorem readHeader_some {w : World} {v : Value} {l : List UInt8} (h : Bts w v l) (hl : l.length ≤ 1099511627776) {id : Int} (hs : readH l = some id) :
    Calls Tryd.prog 87 #[v] w fun e w' => e = .returned (.tuple #[.agg #[.int .i64 id], .bool true]) ∧ Below w.heap.size w w' := by
  have h' : Bts (w.alloc (.cells #[.int .i64 0] 92)) v l := h.alloc _
  have hq : readI l = some [7, id] := by
    unfold readH at hs
    split at hs
    · rename_i m id' hq
      split at hs
      · rename_i h7
        cases hs
        rw [hq, h7]
      · cases hs
    · cases hs
  have C2 : Calls Tryd.prog 25 #[v] (w.alloc (.cells #[.int .i64 0] 92)) fun e w' => ∃ p c', e = .returned (.tuple #[.slice (some p) 2 c', .int .i64 0]) ∧ w'.cell? (p.add 0) = some (.int .i64 7) ∧ w'.cell? (p.add 1) = some (.int .i64 id) ∧ Hid (Below (w.heap.size + 1) (w.alloc (.cells #[.int .i64 0] 92)) w') := by
    refine (readInts_some h' hl hq).mono ?_
    rintro e w1 ⟨x, rfl, i1, _, b1⟩
    rcases i1 with ⟨_, e⟩ | ⟨p, cap, rfl, _, _, hc⟩
    · cases e
    · exact ⟨p, cap, rfl, hc 0 7 rfl, hc 1 id rfl, below_size b1⟩
  clear h h' hs hq
  go_enter Tryd.func87, Tryd.ntmps87
  go_wp2_with fail
  refine C2.mono ?_
  rintro e w1 ⟨p, c', rfl, c0, c1, b1⟩
  obtain ⟨wz, RS, HZ, HB, _⟩ := ret_end (w := w) (es := #[.int .i64 id]) b1.out inf92 rfl rfl (by simp [Value.oneCell'])
  have c0' : w1.cell? p = some (.int .i64 7) := by simpa [Addr.add] using c0
  have c1' : w1.cell? ⟨p.block, p.off + 1, none⟩ = some (.int .i64 id) := by simpa [Addr.add] using c1
  clear C2 b1 c0 c1
  go_wp2_with (refine wpList_store_run rfl 92 _ _ rfl _ _ _ rfl rfl RS.out ?_)
  exact bodyPost_ret_by (results2_row rfl _ _ w.heap.size 92 _ (0, 0) _ _ rfl HZ.out Tryd.underlying92 rfl (by kernel_rfl) rfl) rfl ⟨rfl, HB.out⟩
end Go.Proofs.YtcheikpmhdliiaaDoor
