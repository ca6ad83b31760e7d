/- Cmp's second region: each key beside the other. -/
import Derived.Test.YtelpllilepkjmaaDoorVCmp1
namespace Go.Proofs.YtelpllilepkjmaaDoor
open Go.RowKit
set_option maxRecDepth 100000
set_option linter.unusedVariables false
set_option linter.unusedSimpArgs false
def ops2 : Array Oper := #[{ dst := some 13, op := Go.Op.load 70 (Go.Operand.tmp 5), type := 70, pos := "order.go:27", after := #[], guard := none }, { dst := some 14, op := Go.Op.load 70 (Go.Operand.tmp 6), type := 70, pos := "order.go:27", after := #[], guard := none }, { dst := some 15, op := Go.Op.call { callee := Go.Callee.value (Go.Operand.func 56), args := #[Go.Operand.tmp 13, Go.Operand.tmp 14], argTypes := #[70, 70] }, type := 70, pos := "order.go:27", after := #[{ on := 0, ground := Go.Ground.data }, { on := 1, ground := Go.Ground.data }], guard := none }, { dst := some 16, op := Go.Op.load 70 (Go.Operand.tmp 6), type := 70, pos := "order.go:27", after := #[], guard := none }, { dst := some 17, op := Go.Op.load 70 (Go.Operand.tmp 5), type := 70, pos := "order.go:27", after := #[], guard := none }, { dst := some 18, op := Go.Op.call { callee := Go.Callee.value (Go.Operand.func 56), args := #[Go.Operand.tmp 16, Go.Operand.tmp 17], argTypes := #[70, 70] }, type := 70, pos := "order.go:27", after := #[{ on := 3, ground := Go.Ground.data }, { on := 4, ground := Go.Ground.data }, { on := 2, ground := Go.Ground.chain }], guard := none }, { dst := none, op := Go.Op.store 70 (Go.Operand.tmp 5) (Go.Operand.tmp 15), type := 0, pos := "order.go:27", after := #[{ on := 2, ground := Go.Ground.data }, { on := 5, ground := Go.Ground.chain }, { on := 0, ground := Go.Ground.phase }, { on := 1, ground := Go.Ground.phase }, { on := 2, ground := Go.Ground.phase }, { on := 3, ground := Go.Ground.textOnly Go.Departure.lateStores }, { on := 4, ground := Go.Ground.phase }, { on := 5, ground := Go.Ground.textOnly Go.Departure.lateStoresUnsure }], guard := none }, { dst := none, op := Go.Op.store 70 (Go.Operand.tmp 6) (Go.Operand.tmp 18), type := 0, pos := "order.go:27", after := #[{ on := 5, ground := Go.Ground.data }, { on := 6, ground := Go.Ground.chain }, { on := 0, ground := Go.Ground.phase }, { on := 1, ground := Go.Ground.phase }, { on := 2, ground := Go.Ground.phase }, { on := 3, ground := Go.Ground.phase }, { on := 4, ground := Go.Ground.phase }, { on := 5, ground := Go.Ground.phase }, { on := 6, ground := Go.Ground.phase }], guard := none }]
theorem exec_ld70 {ev : Operand → Value} {o : Oper} {x : Operand} (ho : o.op = .load 70 x) {g : Nat} (hx : ev x = .pointer (some ⟨g, 0, none⟩)) {a b c : Value} {u : World} (h : u.cell? ⟨g, 0, none⟩ = some a ∧ u.cell? ⟨g, 1, none⟩ = some b ∧ u.cell? ⟨g, 2, none⟩ = some c) : (execOp ev o).run Tryd.prog u = .ok (.value (.agg #[a, b, c])) u := by
  obtain ⟨h0, h1, h2⟩ := h
  unfold execOp
  simp only [ho, hx]
  go_simp
section
variable {W : World} {w0 : Nat} {k1 n1 k2 n2 r1 m1 r2 m2 a1 b1 a2 b2 : Int} {s1 s2 t1 t2 c1 c2 : ByteArray} {I1 I2 : Value} {Q : Exit → Act → World → Prop}
set_option maxHeartbeats 2000000 in
theorem reg2_stores {u : World} {g5 g6 : Nat} (FIN : ∀ u : World, u.heap[g5]? = some (.cells #[.int .i64 a1, .int .i64 b1, .string c1] 70) → u.heap[g6]? = some (.cells #[.int .i64 a2, .int .i64 b2, .string c2] 70) → Below W.heap.size W u → Q .normal { tmps := #[(.agg #[.int .i64 k1, .int .i64 n1, .string s1]), (.agg #[.int .i64 k2, .int .i64 n2, .string s2]), (.pointer (some ⟨w0, 0, none⟩)), (.pointer (some ⟨w0 + 1, 0, none⟩)), (.int .i64 0), (.pointer (some ⟨g5, 0, none⟩)), (.pointer (some ⟨g6, 0, none⟩)), (.agg #[.int .i64 k1, .int .i64 n1, .string s1]), I1, (key r1 m1 t1), (.agg #[.int .i64 k2, .int .i64 n2, .string s2]), I2, (key r2 m2 t2), (key r1 m1 t1), (key r2 m2 t2), (key a1 b1 c1), (key r2 m2 t2), (key r1 m1 t1), (key a2 b2 c2), undef, undef, undef, undef, undef, undef, undef, undef, undef, undef, undef, undef, undef, undef, undef, undef, undef], defers := [] } u) (ne : g5 ≠ g6) (l5 : W.heap.size ≤ g5) (l6 : W.heap.size ≤ g6) (z5 : u.heap[g5]? = some (.cells #[.int .i64 r1, .int .i64 m1, .string t1] 70)) (z6 : u.heap[g6]? = some (.cells #[.int .i64 r2, .int .i64 m2, .string t2] 70)) (HB : Below W.heap.size W u) :
    wpAnyD Tryd.prog .any ops2 Q (fun x => x.heap[g5]? = some (.cells #[.int .i64 r1, .int .i64 m1, .string t1] 70) ∧ x.heap[g6]? = some (.cells #[.int .i64 r2, .int .i64 m2, .string t2] 70)) (fun j => j == 6 || j == 7) 2 #[true, true, true, true, true, true, false, false] { tmps := #[(.agg #[.int .i64 k1, .int .i64 n1, .string s1]), (.agg #[.int .i64 k2, .int .i64 n2, .string s2]), (.pointer (some ⟨w0, 0, none⟩)), (.pointer (some ⟨w0 + 1, 0, none⟩)), (.int .i64 0), (.pointer (some ⟨g5, 0, none⟩)), (.pointer (some ⟨g6, 0, none⟩)), (.agg #[.int .i64 k1, .int .i64 n1, .string s1]), I1, (key r1 m1 t1), (.agg #[.int .i64 k2, .int .i64 n2, .string s2]), I2, (key r2 m2 t2), (key r1 m1 t1), (key r2 m2 t2), (key a1 b1 c1), (key r2 m2 t2), (key r1 m1 t1), (key a2 b2 c2), undef, undef, undef, undef, undef, undef, undef, undef, undef, undef, undef, undef, undef, undef, undef, undef, undef], defers := [] } u := by
  obtain ⟨⟨c0, c1', c2'⟩, f0, f1, f2⟩ := z_cells z5
  refine wpAnyD_one (i := 6) (o := { dst := none, op := Go.Op.store 70 (Go.Operand.tmp 5) (Go.Operand.tmp 15), type := 0, pos := "order.go:27", after := #[{ on := 2, ground := Go.Ground.data }, { on := 5, ground := Go.Ground.chain }, { on := 0, ground := Go.Ground.phase }, { on := 1, ground := Go.Ground.phase }, { on := 2, ground := Go.Ground.phase }, { on := 3, ground := Go.Ground.textOnly Go.Departure.lateStores }, { on := 4, ground := Go.Ground.phase }, { on := 5, ground := Go.Ground.textOnly Go.Departure.lateStoresUnsure }], guard := none }) (by kernel_rfl) rfl ?_
  intro K hK
  go_simp
  refine hK _ _ (.inl rfl) ?_
  clear hK
  try simp only [Act.put, List.setIfInBounds_toArray, List.set_cons_zero, List.set_cons_succ]
  have z5' := set3_block (a := .int .i64 a1) (b := .int .i64 b1) (c := .string c1) z5
  have z6' := (set3_other (u := u) (g := g5) (a := .int .i64 a1) (b := .int .i64 b1) (c := .string c1) ne.symm).trans z6
  have HB' := set3_bel (a := .int .i64 a1) (b := .int .i64 b1) (c := .string c1) HB l5
  clear c0 c1' c2' f0 f1 f2 z5 z6 HB
  generalize (((u.setCell ⟨g5, 0, none⟩ (.int .i64 a1)).setCell ⟨g5, 1, none⟩ (.int .i64 b1)).setCell ⟨g5, 2, none⟩ (.string c1)) = u1 at *
  obtain ⟨⟨c0, c1', c2'⟩, f0, f1, f2⟩ := z_cells z6'
  refine wpAnyD_one (i := 7) (o := { dst := none, op := Go.Op.store 70 (Go.Operand.tmp 6) (Go.Operand.tmp 18), type := 0, pos := "order.go:27", after := #[{ on := 5, ground := Go.Ground.data }, { on := 6, ground := Go.Ground.chain }, { on := 0, ground := Go.Ground.phase }, { on := 1, ground := Go.Ground.phase }, { on := 2, ground := Go.Ground.phase }, { on := 3, ground := Go.Ground.phase }, { on := 4, ground := Go.Ground.phase }, { on := 5, ground := Go.Ground.phase }, { on := 6, ground := Go.Ground.phase }], guard := none }) (by kernel_rfl) rfl ?_
  intro K hK
  go_simp
  refine hK _ _ (.inl rfl) ?_
  clear hK
  try simp only [Act.put, List.setIfInBounds_toArray, List.set_cons_zero, List.set_cons_succ]
  refine wpAnyD_done (by kernel_rfl) ?_ _
  exact FIN _ ((set3_other ne).trans z5') (set3_block z6') (set3_bel HB' l6)
set_option maxHeartbeats 4000000 in
theorem region2 {id : Nat} {u : World} {g5 g6 : Nat} (C2 : RB W 56 #[(key r1 m1 t1), (key r2 m2 t2)] (key a1 b1 c1)) (C5 : RB W 56 #[(key r2 m2 t2), (key r1 m1 t1)] (key a2 b2 c2)) (FIN : ∀ u : World, u.heap[g5]? = some (.cells #[.int .i64 a1, .int .i64 b1, .string c1] 70) → u.heap[g6]? = some (.cells #[.int .i64 a2, .int .i64 b2, .string c2] 70) → Below W.heap.size W u → Q .normal { tmps := #[(.agg #[.int .i64 k1, .int .i64 n1, .string s1]), (.agg #[.int .i64 k2, .int .i64 n2, .string s2]), (.pointer (some ⟨w0, 0, none⟩)), (.pointer (some ⟨w0 + 1, 0, none⟩)), (.int .i64 0), (.pointer (some ⟨g5, 0, none⟩)), (.pointer (some ⟨g6, 0, none⟩)), (.agg #[.int .i64 k1, .int .i64 n1, .string s1]), I1, (key r1 m1 t1), (.agg #[.int .i64 k2, .int .i64 n2, .string s2]), I2, (key r2 m2 t2), (key r1 m1 t1), (key r2 m2 t2), (key a1 b1 c1), (key r2 m2 t2), (key r1 m1 t1), (key a2 b2 c2), undef, undef, undef, undef, undef, undef, undef, undef, undef, undef, undef, undef, undef, undef, undef, undef, undef], defers := [] } u) (HQ : ∀ c (a : Act) x (d : Nat) (v : Value), Q (.panic c) (a.put (some d) v) x → Q (.panic c) a x) (ne : g5 ≠ g6) (l5 : W.heap.size ≤ g5) (l6 : W.heap.size ≤ g6) (z5 : u.heap[g5]? = some (.cells #[.int .i64 r1, .int .i64 m1, .string t1] 70)) (z6 : u.heap[g6]? = some (.cells #[.int .i64 r2, .int .i64 m2, .string t2] 70)) (HB : Below W.heap.size W u) :
    (Code.region id ops2 true).wp Tryd.prog Q { tmps := #[(.agg #[.int .i64 k1, .int .i64 n1, .string s1]), (.agg #[.int .i64 k2, .int .i64 n2, .string s2]), (.pointer (some ⟨w0, 0, none⟩)), (.pointer (some ⟨w0 + 1, 0, none⟩)), (.int .i64 0), (.pointer (some ⟨g5, 0, none⟩)), (.pointer (some ⟨g6, 0, none⟩)), (.agg #[.int .i64 k1, .int .i64 n1, .string s1]), I1, (key r1 m1 t1), (.agg #[.int .i64 k2, .int .i64 n2, .string s2]), I2, (key r2 m2 t2), undef, undef, undef, undef, undef, undef, undef, undef, undef, undef, undef, undef, undef, undef, undef, undef, undef, undef, undef, undef, undef, undef, undef], defers := [] } u := by
  refine wp_region_d (fun x => x.heap[g5]? = some (.cells #[.int .i64 r1, .int .i64 m1, .string t1] 70) ∧ x.heap[g6]? = some (.cells #[.int .i64 r2, .int .i64 m2, .string t2] 70)) (fun j => j == 6 || j == 7) (by kernel_rfl) ?_
  have HS : u.drew.heap[g5]? = some (.cells #[.int .i64 r1, .int .i64 m1, .string t1] 70) ∧ u.drew.heap[g6]? = some (.cells #[.int .i64 r2, .int .i64 m2, .string t2] 70) := ⟨z5, z6⟩
  refine wpAnyD_loadd (i := 0) (oi := { dst := some 13, op := Go.Op.load 70 (Go.Operand.tmp 5), type := 70, pos := "order.go:27", after := #[], guard := none }) (d := 13) (v := (key r1 m1 t1)) rfl rfl (by kernel_rfl) (by kernel_rfl) (by kernel_rfl) (by kernel_rfl) (fun _ _ _ h => HQ _ _ _ _ _ h) (by rfl) (fun x hx => exec_ld70 rfl rfl (z_cells hx.1).1) HS ?_
  try simp only [Act.put, List.setIfInBounds_toArray, List.set_cons_zero, List.set_cons_succ]
  refine wpAnyD_loadd (i := 1) (oi := { dst := some 14, op := Go.Op.load 70 (Go.Operand.tmp 6), type := 70, pos := "order.go:27", after := #[], guard := none }) (d := 14) (v := (key r2 m2 t2)) rfl rfl (by kernel_rfl) (by kernel_rfl) (by kernel_rfl) (by kernel_rfl) (fun _ _ _ h => HQ _ _ _ _ _ h) (by rfl) (fun x hx => exec_ld70 rfl rfl (z_cells hx.2).1) HS ?_
  try simp only [Act.put, List.setIfInBounds_toArray, List.set_cons_zero, List.set_cons_succ]
  refine wpAnyD_loadd (i := 4) (oi := { dst := some 17, op := Go.Op.load 70 (Go.Operand.tmp 5), type := 70, pos := "order.go:27", after := #[], guard := none }) (d := 17) (v := (key r1 m1 t1)) rfl rfl (by kernel_rfl) (by kernel_rfl) (by kernel_rfl) (by kernel_rfl) (fun _ _ _ h => HQ _ _ _ _ _ h) (by rfl) (fun x hx => exec_ld70 rfl rfl (z_cells hx.1).1) HS ?_
  try simp only [Act.put, List.setIfInBounds_toArray, List.set_cons_zero, List.set_cons_succ]
  refine wpAnyD_two (i := 2) (j := 3) (oi := { dst := some 15, op := Go.Op.call { callee := Go.Callee.value (Go.Operand.func 56), args := #[Go.Operand.tmp 13, Go.Operand.tmp 14], argTypes := #[70, 70] }, type := 70, pos := "order.go:27", after := #[{ on := 0, ground := Go.Ground.data }, { on := 1, ground := Go.Ground.data }], guard := none }) (oj := { dst := some 16, op := Go.Op.load 70 (Go.Operand.tmp 6), type := 70, pos := "order.go:27", after := #[], guard := none }) (by kernel_rfl) rfl rfl ?_ ?_
  · have HB0 := HB.drew
    intro K hK
    go_simp
    refine (C2 _ HB0).mono ?_
    rintro e u2 ⟨rfl, hb2⟩
    have HB2 := bel_step HB0 hb2
    have z5_2 := (hb2.block _ (lt_of HS.1)).trans HS.1
    have z6_2 := (hb2.block _ (lt_of HS.2)).trans HS.2
    refine hK _ _ (.inr fun _ => ⟨z5_2, z6_2⟩) ?_
    clear hK
    try simp only [Act.put, List.setIfInBounds_toArray, List.set_cons_zero, List.set_cons_succ]
    refine wpAnyD_one (i := 3) (o := { dst := some 16, op := Go.Op.load 70 (Go.Operand.tmp 6), type := 70, pos := "order.go:27", after := #[], guard := none }) (by kernel_rfl) rfl ?_
    intro K hK
    obtain ⟨⟨c0, c1', c2'⟩, f0, f1, f2⟩ := z_cells z6_2
    go_simp
    refine hK _ _ (.inr fun h => h) ?_
    clear hK c0 c1' c2' f0 f1 f2
    try simp only [Act.put, List.setIfInBounds_toArray, List.set_cons_zero, List.set_cons_succ]
    refine wpAnyD_one (i := 5) (o := { dst := some 18, op := Go.Op.call { callee := Go.Callee.value (Go.Operand.func 56), args := #[Go.Operand.tmp 16, Go.Operand.tmp 17], argTypes := #[70, 70] }, type := 70, pos := "order.go:27", after := #[{ on := 3, ground := Go.Ground.data }, { on := 4, ground := Go.Ground.data }, { on := 2, ground := Go.Ground.chain }], guard := none }) (by kernel_rfl) rfl ?_
    intro K hK
    go_simp
    refine (C5 _ HB2).mono ?_
    rintro e u5 ⟨rfl, hb5⟩
    have HB5 := bel_step HB2 hb5
    have z5_5 := (hb5.block _ (lt_of z5_2)).trans z5_2
    have z6_5 := (hb5.block _ (lt_of z6_2)).trans z6_2
    refine hK _ _ (.inr fun _ => ⟨z5_5, z6_5⟩) ?_
    clear hK
    try simp only [Act.put, List.setIfInBounds_toArray, List.set_cons_zero, List.set_cons_succ]
    exact reg2_stores FIN ne l5 l6 z5_5 z6_5 HB5
  · have HB0 := HB.drew
    intro K hK
    obtain ⟨⟨c0, c1', c2'⟩, f0, f1, f2⟩ := z_cells HS.2
    go_simp
    refine hK _ _ (.inr fun h => h) ?_
    clear hK c0 c1' c2' f0 f1 f2
    try simp only [Act.put, List.setIfInBounds_toArray, List.set_cons_zero, List.set_cons_succ]
    refine wpAnyD_one (i := 2) (o := { dst := some 15, op := Go.Op.call { callee := Go.Callee.value (Go.Operand.func 56), args := #[Go.Operand.tmp 13, Go.Operand.tmp 14], argTypes := #[70, 70] }, type := 70, pos := "order.go:27", after := #[{ on := 0, ground := Go.Ground.data }, { on := 1, ground := Go.Ground.data }], guard := none }) (by kernel_rfl) rfl ?_
    intro K hK
    go_simp
    refine (C2 _ HB0).mono ?_
    rintro e u2 ⟨rfl, hb2⟩
    have HB2 := bel_step HB0 hb2
    have z5_2 := (hb2.block _ (lt_of HS.1)).trans HS.1
    have z6_2 := (hb2.block _ (lt_of HS.2)).trans HS.2
    refine hK _ _ (.inr fun _ => ⟨z5_2, z6_2⟩) ?_
    clear hK
    try simp only [Act.put, List.setIfInBounds_toArray, List.set_cons_zero, List.set_cons_succ]
    refine wpAnyD_one (i := 5) (o := { dst := some 18, op := Go.Op.call { callee := Go.Callee.value (Go.Operand.func 56), args := #[Go.Operand.tmp 16, Go.Operand.tmp 17], argTypes := #[70, 70] }, type := 70, pos := "order.go:27", after := #[{ on := 3, ground := Go.Ground.data }, { on := 4, ground := Go.Ground.data }, { on := 2, ground := Go.Ground.chain }], guard := none }) (by kernel_rfl) rfl ?_
    intro K hK
    go_simp
    refine (C5 _ HB2).mono ?_
    rintro e u5 ⟨rfl, hb5⟩
    have HB5 := bel_step HB2 hb5
    have z5_5 := (hb5.block _ (lt_of z5_2)).trans z5_2
    have z6_5 := (hb5.block _ (lt_of z6_2)).trans z6_2
    refine hK _ _ (.inr fun _ => ⟨z5_5, z6_5⟩) ?_
    clear hK
    try simp only [Act.put, List.setIfInBounds_toArray, List.set_cons_zero, List.set_cons_succ]
    exact reg2_stores FIN ne l5 l6 z5_5 z6_5 HB5
end
end Go.Proofs.YtelpllilepkjmaaDoor
