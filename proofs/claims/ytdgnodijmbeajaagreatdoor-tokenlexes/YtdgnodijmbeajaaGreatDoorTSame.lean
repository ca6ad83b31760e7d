import Derived.Test.YtdgnodijmbeajaaGreatDoorRLex
/- plain: tokens in the reference's form. -/
namespace Go.Proofs.YtdgnodijmbeajaaGreatDoor
open Go.RowKit
set_option maxRecDepth 100000
set_option linter.unusedVariables false
set_option linter.unusedSimpArgs false
/-- A token of a slice, loaded by its place. -/
theorem OwnT.load2 {e : TypeId} {base : Nat} {w : World} {a : Option Addr} {n c : Nat} {L : List TT} (h : OwnT e base w (.slice a n c) L) {i : Nat} (hi : i < L.length) {d : TypeDesc} (hd : d.isRow = true) (hu : Tryz.prog.underlying e = some d) (hinf : (Tryz.prog.info? e).map (·.size) = some 9) :
    ∃ a', a = some a' ∧ (Instr.loadAt e (.pointer (some (a'.add (i * 9))))).run Tryz.prog w = .ok (.agg (tcs L[i].k L[i].n L[i].s L[i].b L[i].h L[i].r L[i].c L[i].fr L[i].fc)) w := by
  obtain ⟨g, rfl, hr⟩ := h.load hi hd hu hinf
  refine ⟨_, rfl, ?_⟩
  have hadd : (⟨g, 0, none⟩ : Addr).add (i * 9) = ⟨g, i * 9, none⟩ := by unfold Addr.add; split <;> simp_all
  rw [hadd]
  exact hr
theorem app_allP {W w2 : World} {v : Value} {L : List TT} (hb : Below W.heap.size W w2) (ho : OwnT 46 W.heap.size w2 v L) (t : TT) (hn : L.length + 1 ≤ 1000000) :
    ∃ v' w4, Hid ((Builtin.append_ #[26, 26] 26 #[v, .slice (some ⟨w2.heap.size + 1, 0, none⟩) 1 1]).run Tryz.prog ((w2.alloc (.cells (tcs t.k t.n t.s t.b t.h t.r t.c t.fr t.fc) 35)).alloc (.cells (tcs t.k t.n t.s t.b t.h t.r t.c t.fr t.fc) 46)) = .ok v' w4) ∧ Hid (OwnT 46 W.heap.size w4 v' (L ++ [t])) ∧ Hid (Below W.heap.size W w4) := by
  have b3 : Below W.heap.size W ((w2.alloc (.cells (tcs t.k t.n t.s t.b t.h t.r t.c t.fr t.fc) 35)).alloc (.cells (tcs t.k t.n t.s t.b t.h t.r t.c t.fr t.fc) 46)) := bel_alloc (bel_alloc hb _) _
  have o3 : OwnT 46 W.heap.size ((w2.alloc (.cells (tcs t.k t.n t.s t.b t.h t.r t.c t.fr t.fc) 35)).alloc (.cells (tcs t.k t.n t.s t.b t.h t.r t.c t.fr t.fc) 46)) v L :=
    (ho.below (bel_alloc (Below.refl _ _) _)).below (bel_alloc (Below.refl _ _) _)
  obtain ⟨v', w4, R, o4, g4, b4⟩ := ownT_app (t := t) (g := w2.heap.size + 1) (e' := 46) (z := (0, 0)) Tryz.underlying26 inf46z o3 (by
    have := heap_alloc_new (w2.alloc (.cells (tcs t.k t.n t.s t.b t.h t.r t.c t.fr t.fc) 35)) (.cells (tcs t.k t.n t.s t.b t.h t.r t.c t.fr t.fc) 46)
    rw [show (w2.alloc (.cells (tcs t.k t.n t.s t.b t.h t.r t.c t.fr t.fc) 35)).heap.size = w2.heap.size + 1 by simp] at this
    exact this) hn b3.size
  exact ⟨v', w4, R, o4, b3.trans b4⟩
set_option maxHeartbeats 4000000 in
theorem plain_any {base : Nat} {w : World} {v : Value} {L : List TT} (h : OwnT 35 base w v L) (hL : L.length ≤ 255) : Calls Tryz.prog 12 #[v] w fun e w' => ∃ v', e = .returned v' ∧ OwnT 46 w.heap.size w' v' L ∧ Below w.heap.size w w' := by
  obtain ⟨a, c, rfl⟩ := h.slice
  have H : Hid (OwnT 35 base w (.slice a L.length c) L) := h
  clear h
  go_enter Tryz.func12, Tryz.ntmps12
  go_wp2
  go_loopw [3, 8] (fun v i wr => ∃ k : Nat, k ≤ L.length ∧ i = .int .i64 (k : Nat) ∧ Hid (OwnT 46 w.heap.size wr v (L.take k)) ∧ Hid (Below w.heap.size w wr)) (fun _ i _ => L.length - (intOf i).toNat)
  case atStart => exact ⟨0, Nat.zero_le _, rfl, OwnT.nil _ _ _, Below.refl _ _⟩
  case round =>
    obtain ⟨k, hk, rfl, HW, HB⟩ := hrel
    by_cases hlt : k < L.length
    · have hki : (k : Int) < L.length := by omega
      obtain ⟨a', rfl, hld⟩ := (H.out.below HB.out).load2 hlt rfl Tryz.underlying35 inf35
      have RL : Hid _ := hld
      have HT : Hid (∀ x, x = L[k] → L.take (k + 1) = L.take k ++ [x]) := fun x e => by rw [e]; exact List.take_succ_eq_append_getElem hlt
      clear hld
      generalize htt : L[k] = tt at *
      have HT2 : Hid (L.take (k + 1) = L.take k ++ [tt]) := HT.out tt rfl
      clear HT htt
      obtain ⟨v', w4, RR, HO4, HB4⟩ := app_allP HB.out HW.out tt (by rw [List.length_take]; omega)
      go_wp2_with (first
        | (refine wpList_load_run rfl 35 _ rfl _ _ rfl RL.out ?_)
        | (at_builtin; refine wpList_append_run rfl _ _ 26 rfl _ _ _ _ rfl rfl RR.out ?_))
      go_roundw
      case rel => exact ⟨k + 1, by omega, by go_num, by show OwnT _ _ _ _ _; rw [HT2.out]; exact HO4.out, HB4⟩
      case measure => simp [intOf]; omega
    · have hki : ¬ (k : Int) < L.length := by omega
      have HE : Hid (L.take k = L) := List.take_of_length_le (by omega)
      go_wp2
      go_ret
      exact ⟨_, rfl, by have := HW.out; rw [HE.out] at this; exact this, HB.out⟩
end Go.Proofs.YtdgnodijmbeajaaGreatDoor

/- Tokens that are alike; plain, same. -/
namespace Go.Proofs.YtdgnodijmbeajaaGreatDoor
open Go.RowKit
set_option maxRecDepth 100000
set_option linter.unusedVariables false
set_option linter.unusedSimpArgs false
theorem held33 : Tryz.prog.stoodInHeld 33 = false := by kernel_rfl
theorem held46 : Tryz.prog.stoodInHeld 46 = false := by kernel_rfl
theorem str33 : Tryz.prog.underlying 33 = some (.struct (Tryz.prog.fieldsOf 33)) := by kernel_rfl
theorem str46 : Tryz.prog.underlying 46 = some (.struct (Tryz.prog.fieldsOf 46)) := by kernel_rfl
abbrev rf0 : Field := { name := "Book", type := 9, offset := 0, embedded := false, tag := "", pkgPath := "", byteOffset := 0 }
abbrev rf1 : Field := { name := "Sheet", type := 9, offset := 1, embedded := false, tag := "", pkgPath := "", byteOffset := 16 }
abbrev rf2 : Field := { name := "Row", type := 3, offset := 2, embedded := false, tag := "", pkgPath := "", byteOffset := 32 }
abbrev rf3 : Field := { name := "Col", type := 3, offset := 3, embedded := false, tag := "", pkgPath := "", byteOffset := 40 }
abbrev rf4 : Field := { name := "FixRow", type := 4, offset := 4, embedded := false, tag := "", pkgPath := "", byteOffset := 48 }
abbrev rf5 : Field := { name := "FixCol", type := 4, offset := 5, embedded := false, tag := "", pkgPath := "", byteOffset := 49 }
abbrev tf0 : Field := { name := "Kind", type := 3, offset := 0, embedded := false, tag := "", pkgPath := "", byteOffset := 0 }
abbrev tf1 : Field := { name := "N", type := 3, offset := 1, embedded := false, tag := "", pkgPath := "", byteOffset := 8 }
abbrev tf2 : Field := { name := "S", type := 9, offset := 2, embedded := false, tag := "", pkgPath := "", byteOffset := 16 }
abbrev tf3 : Field := { name := "Ref", type := 33, offset := 3, embedded := false, tag := "", pkgPath := "", byteOffset := 32 }
theorem fields33 : (Tryz.prog.fieldsOf 33).toList = [rf0, rf1, rf2, rf3, rf4, rf5] := by kernel_rfl
theorem fields46 : (Tryz.prog.fieldsOf 46).toList = [tf0, tf1, tf2, tf3] := by kernel_rfl
section
variable (k n : Int) (s b h : ByteArray) (r c : Int) (fr fc : Bool) (W : World)
theorem eqn_ref : (Op.equalIn 9999 33 (refV b h r c fr fc) (refV b h r c fr fc)).run Tryz.prog W = .ok true W := by
  rw [run_equalIn_struct W 9998 33 _ _ str33 held33, fields33]
  have h9 := Tryz.underlying9
  have h3 := Tryz.underlying3
  have h4 := Tryz.underlying4
  have a9 := Tryz.isAgg9
  have a3 := Tryz.isAgg3
  have a4 := Tryz.isAgg4
  have z9 := Tryz.sizeOf9
  have z3 := Tryz.sizeOf3
  have z4 := Tryz.sizeOf4
  simp only [Op.eqFields]
  go_simp
theorem eqn_tok : (Op.equalIn 10000 46 (.agg (tcs k n s b h r c fr fc)) (.agg (tcs k n s b h r c fr fc))).run Tryz.prog W = .ok true W := by
  rw [run_equalIn_struct W 9999 46 _ _ str46 held46, fields46]
  have h9 := Tryz.underlying9
  have h3 := Tryz.underlying3
  have h4 := Tryz.underlying4
  have h33 := Tryz.underlying33
  have a9 := Tryz.isAgg9
  have a3 := Tryz.isAgg3
  have a4 := Tryz.isAgg4
  have a33 := Tryz.isAgg33
  have z9 := Tryz.sizeOf9
  have z3 := Tryz.sizeOf3
  have z4 := Tryz.sizeOf4
  have z33 := Tryz.sizeOf33
  have E := fun u => eqn_ref b h r c fr fc u
  simp only [Op.eqFields]
  go_simp
theorem run_ne_tok : (binOp .neq 46 (.agg (tcs k n s b h r c fr fc)) (.agg (tcs k n s b h r c fr fc))).run Tryz.prog W = .ok (.bool false) W := by
  rw [run_neq_struct, eqn_tok]
  rfl
end
end Go.Proofs.YtdgnodijmbeajaaGreatDoor

/- same: the very same tokens. -/
namespace Go.Proofs.YtdgnodijmbeajaaGreatDoor
open Go.RowKit
set_option maxRecDepth 100000
set_option linter.unusedVariables false
set_option linter.unusedSimpArgs false
theorem exec_load_run {P : Program} {ev : Operand → Value} {o : Oper} {ty : TypeId} {x : Operand} {p v : Value} {u : World} (ho : o.op = .load ty x) (hx : ev x = p) (hrun : (Instr.loadAt ty p).run P u = .ok v u) : (execOp ev o).run P u = .ok (.value v) u := by
  unfold execOp
  simp only [ho, hx, Sem.run_bind, Sem.run_pure, hrun, Result.andThen_ok]
theorem new_load {w : World} (es : Array Value) (he : es.size = 9) : (Instr.loadAt 46 (.pointer (some ⟨w.heap.size, 0, none⟩))).run Tryz.prog (w.alloc (.cells es 46)).drew = .ok (.agg es) (w.alloc (.cells es 46)).drew :=
  lod (w := (w.alloc (.cells es 46)).drew) (heap_alloc_new w _) rfl Tryz.underlying46 (by rw [he]; exact inf46)
set_option maxHeartbeats 8000000 in
theorem same_yes {b1 b2 : Nat} {w : World} {v1 v2 : Value} {L : List TT} (h1 : OwnT 35 b1 w v1 L) (h2 : OwnT 46 b2 w v2 L) (hL : L.length ≤ 255) : Calls Tryz.prog 8 #[v1, v2] w fun e w' => e = .returned (.bool true) ∧ Below w.heap.size w w' := by
  have PL := plain_any h1 hL
  obtain ⟨a1, c1, rfl⟩ := h1.slice
  obtain ⟨a2, c2, rfl⟩ := h2.slice
  have H2 : Hid (OwnT 46 b2 w (.slice a2 L.length c2) L) := h2
  clear h1 h2
  have hL0 : ¬ (L.length : Int) = (L.length : Int) → False := fun h => h rfl
  go_enter Tryz.func8, Tryz.ntmps8
  go_wp2_with (go_at_call 12; refine PL.mono ?_; rintro e w1 ⟨v3, rfl, ho, hb⟩; obtain ⟨a3, c3, rfl⟩ := ho.slice; have HP : Hid (OwnT 46 w.heap.size w1 (.slice a3 L.length c3) L) := ho; have HB1 : Hid (Below w.heap.size w w1) := hb; clear ho hb)
  clear PL
  go_loopw [15] (fun i wr => ∃ k : Nat, k ≤ L.length ∧ i = .int .i64 (k : Nat) ∧ Hid (Below w1.heap.size w1 wr)) (fun i _ => L.length - (intOf i).toNat)
  case atStart => exact ⟨0, Nat.zero_le _, rfl, Below.refl _ _⟩
  case round =>
    obtain ⟨k, hk, rfl, HB⟩ := hrel
    by_cases hlt : k < L.length
    · have hki : (k : Int) < L.length := by omega
      obtain ⟨p3, rfl, hl3⟩ := (HP.out.below HB.out).load2 hlt rfl Tryz.underlying46 inf46
      have RL : Hid _ := hl3
      obtain ⟨p2, rfl, hl2⟩ := ((H2.out.below HB1.out).below (HB.out.trans (((bel_alloc (Below.refl wr.heap.size wr) (.cells (tcs L[k].k L[k].n L[k].s L[k].b L[k].h L[k].r L[k].c L[k].fr L[k].fc) 46)).drew).mono HB.out.size))).load2 hlt rfl Tryz.underlying46 inf46
      have NE := fun W => run_ne_tok L[k].k L[k].n L[k].s L[k].b L[k].h L[k].r L[k].c L[k].fr L[k].fc W
      have hn := new_load (w := wr) (tcs L[k].k L[k].n L[k].s L[k].b L[k].h L[k].r L[k].c L[k].fr L[k].fc) rfl
      clear hl3
      generalize L[k] = tt at *
      have HN : Hid (Below w1.heap.size w1 ((wr.alloc (.cells (tcs tt.k tt.n tt.s tt.b tt.h tt.r tt.c tt.fr tt.fc) 46)).drew)) := (bel_alloc HB.out _).drew
      have HS : Hid ((Instr.loadAt 46 (.pointer (some ⟨wr.heap.size, 0, none⟩))).run Tryz.prog (wr.alloc (.cells (tcs tt.k tt.n tt.s tt.b tt.h tt.r tt.c tt.fr tt.fc) 46)).drew = .ok (.agg (tcs tt.k tt.n tt.s tt.b tt.h tt.r tt.c tt.fr tt.fc)) (wr.alloc (.cells (tcs tt.k tt.n tt.s tt.b tt.h tt.r tt.c tt.fr tt.fc) 46)).drew ∧
          (Instr.loadAt 46 (.pointer (some (p2.add (k * 9))))).run Tryz.prog (wr.alloc (.cells (tcs tt.k tt.n tt.s tt.b tt.h tt.r tt.c tt.fr tt.fc) 46)).drew = .ok (.agg (tcs tt.k tt.n tt.s tt.b tt.h tt.r tt.c tt.fr tt.fc)) (wr.alloc (.cells (tcs tt.k tt.n tt.s tt.b tt.h tt.r tt.c tt.fr tt.fc) 46)).drew) := ⟨hn, hl2⟩
      clear hl2 hn
      go_wp2_with (refine wpList_load_run rfl 46 _ rfl _ _ rfl RL.out ?_)
      refine wp_region_d (fun u => (Instr.loadAt 46 (.pointer (some ⟨wr.heap.size, 0, none⟩))).run Tryz.prog u = .ok (.agg (tcs tt.k tt.n tt.s tt.b tt.h tt.r tt.c tt.fr tt.fc)) u ∧ (Instr.loadAt 46 (.pointer (some (p2.add (k * 9))))).run Tryz.prog u = .ok (.agg (tcs tt.k tt.n tt.s tt.b tt.h tt.r tt.c tt.fr tt.fc)) u) (fun _ => false) (by kernel_rfl) ?_
      refine wpAnyD_loadd (i := 0) (v := .agg (tcs tt.k tt.n tt.s tt.b tt.h tt.r tt.c tt.fr tt.fc)) rfl rfl (by kernel_rfl) (by kernel_rfl) (by kernel_rfl) (by kernel_rfl) (fun _ _ _ h => h) (by go_simp) (fun u hSu => exec_load_run rfl rfl hSu.1) HS.out ?_
      try simp only [Act.put, List.setIfInBounds_toArray, List.set_cons_zero, List.set_cons_succ]
      refine wpAnyD_pured (i := 1) (v := .slice (some p2) L.length c2) rfl rfl (by kernel_rfl) (by kernel_rfl) (by kernel_rfl) (fun _ _ _ h => h) (by go_simp) (by intro u; go_simp) ?_
      try simp only [Act.put, List.setIfInBounds_toArray, List.set_cons_zero, List.set_cons_succ]
      refine wpAnyD_pured (i := 2) (v := .int .i64 (k : Int)) rfl rfl (by kernel_rfl) (by kernel_rfl) (by kernel_rfl) (fun _ _ _ h => h) (by go_simp) (by intro u; go_simp) ?_
      try simp only [Act.put, List.setIfInBounds_toArray, List.set_cons_zero, List.set_cons_succ]
      refine wpAnyD_pured (i := 3) (v := .pointer (some (p2.add (k * 9)))) rfl rfl (by kernel_rfl) (by kernel_rfl) (by kernel_rfl) (fun _ _ _ h => h) (by go_simp) (by intro u; go_simp) ?_
      try simp only [Act.put, List.setIfInBounds_toArray, List.set_cons_zero, List.set_cons_succ]
      refine wpAnyD_loadd (i := 4) (v := .agg (tcs tt.k tt.n tt.s tt.b tt.h tt.r tt.c tt.fr tt.fc)) rfl rfl (by kernel_rfl) (by kernel_rfl) (by kernel_rfl) (by kernel_rfl) (fun _ _ _ h => h) (by go_simp) (fun u hSu => exec_load_run rfl rfl hSu.2) HS.out ?_
      try simp only [Act.put, List.setIfInBounds_toArray, List.set_cons_zero, List.set_cons_succ]
      refine wpAnyD_pured (i := 5) (v := .bool false) rfl rfl (by kernel_rfl) (by kernel_rfl) (by kernel_rfl) (fun _ _ _ h => h) (by go_simp) (by intro u; go_simp) ?_
      try simp only [Act.put, List.setIfInBounds_toArray, List.set_cons_zero, List.set_cons_succ]
      refine wpAnyD_done (by kernel_rfl) ?_ _
      go_wp2
      go_roundw
      case rel => exact ⟨k + 1, by omega, by go_num, HN⟩
      case measure => simp [intOf]; omega
    · have hki : ¬ (k : Int) < L.length := by omega
      go_wp2
      go_ret
      exact ⟨rfl, HB1.out.trans (HB.out.mono HB1.out.size)⟩
end Go.Proofs.YtdgnodijmbeajaaGreatDoor
