/- Cmp's first region: two keys are laid in new memory, in whatever order. -/
import Derived.Test.YtelpllilepkjmaaDoorVCmpS
import Derived.Test.YtelpllilepkjmaaDoorBackBase
namespace Go
section
variable {P : Program} {ops : Array Oper} {Q : Exit → Act → World → Prop} {md : Region.Mode} {S : World → Prop} {D : Nat → Bool}
/-- What one operation must do so that the rest follows. -/
def OpGoes (P : Program) (md : Region.Mode) (ops : Array Oper) (Q : Exit → Act → World → Prop) (S : World → Prop) (D : Nat → Bool) (fuel : Nat) (listed : Array Bool) (i : Nat) (o : Oper) (a : Act) (w : World) : Prop :=
  ∀ K' : Act → World → Prop, (∀ a' w', (D i = true ∨ (S w → S w')) → wpAnyD P md ops Q S D fuel (listed.setIfInBounds i true) a' w' → K' a' w') → if Region.wanted o (yielded ops a.tmps) = true then Oper.wp P o a w K' Q else K' (a.put o.dst undef) w
theorem wpAnyD_two {i j : Nat} {oi oj : Oper} {fuel : Nat} {listed : Array Bool} {a : Act} {w : World} (hr : Region.ready md ops listed = [i, j]) (hi : ops[i]? = some oi) (hj : ops[j]? = some oj)
    (h1 : OpGoes P md ops Q S D fuel listed i oi a w) (h2 : OpGoes P md ops Q S D fuel listed j oj a w) : wpAnyD P md ops Q S D (fuel + 1) listed a w := by
  refine ⟨fun h0 => (by rw [hr] at h0; cases h0), fun q hq => ?_⟩
  rw [hr] at hq
  have hq2 : q = i ∨ q = j := by simpa using hq
  rcases hq2 with rfl | rfl
  · exact wpOp_step hi fun K' hK => h1 K' fun a' w' g1 g2 => hK a' w' ⟨g1, g2⟩
  · exact wpOp_step hj fun K' hK => h2 K' fun a' w' g1 g2 => hK a' w' ⟨g1, g2⟩
theorem wpAnyD_three {i j k : Nat} {oi oj ok : Oper} {fuel : Nat} {listed : Array Bool} {a : Act} {w : World} (hr : Region.ready md ops listed = [i, j, k]) (hi : ops[i]? = some oi) (hj : ops[j]? = some oj) (hk : ops[k]? = some ok)
    (h1 : OpGoes P md ops Q S D fuel listed i oi a w) (h2 : OpGoes P md ops Q S D fuel listed j oj a w) (h3 : OpGoes P md ops Q S D fuel listed k ok a w) : wpAnyD P md ops Q S D (fuel + 1) listed a w := by
  refine ⟨fun h0 => (by rw [hr] at h0; cases h0), fun q hq => ?_⟩
  rw [hr] at hq
  have hq2 : q = i ∨ q = j ∨ q = k := by simpa using hq
  rcases hq2 with rfl | rfl | rfl
  · exact wpOp_step hi fun K' hK => h1 K' fun a' w' g1 g2 => hK a' w' ⟨g1, g2⟩
  · exact wpOp_step hj fun K' hK => h2 K' fun a' w' g1 g2 => hK a' w' ⟨g1, g2⟩
  · exact wpOp_step hk fun K' hK => h3 K' fun a' w' g1 g2 => hK a' w' ⟨g1, g2⟩
end
end Go
namespace Go.Proofs.YtelpllilepkjmaaDoor
open Go.RowKit
set_option maxRecDepth 100000
set_option linter.unusedVariables false
set_option linter.unusedSimpArgs false
def ops1 : Array Oper := #[{ dst := some 7, op := Go.Op.load 23 (Go.Operand.tmp 2), type := 23, pos := "order.go:26", after := #[], guard := none }, { dst := some 8, op := Go.Op.call { callee := Go.Callee.value (Go.Operand.func 35), args := #[Go.Operand.tmp 7], argTypes := #[23] }, type := 20, pos := "order.go:26", after := #[{ on := 0, ground := Go.Ground.data }], guard := none }, { dst := some 9, op := Go.Op.call { callee := Go.Callee.value (Go.Operand.func 55), args := #[Go.Operand.tmp 8], argTypes := #[20] }, type := 70, pos := "order.go:26", after := #[{ on := 1, ground := Go.Ground.data }, { on := 1, ground := Go.Ground.chain }], guard := none }, { dst := some 10, op := Go.Op.load 23 (Go.Operand.tmp 3), type := 23, pos := "order.go:26", after := #[], guard := none }, { dst := some 11, op := Go.Op.call { callee := Go.Callee.value (Go.Operand.func 35), args := #[Go.Operand.tmp 10], argTypes := #[23] }, type := 20, pos := "order.go:26", after := #[{ on := 3, ground := Go.Ground.data }, { on := 2, ground := Go.Ground.chain }], guard := none }, { dst := some 12, op := Go.Op.call { callee := Go.Callee.value (Go.Operand.func 55), args := #[Go.Operand.tmp 11], argTypes := #[20] }, type := 70, pos := "order.go:26", after := #[{ on := 4, ground := Go.Ground.data }, { on := 4, ground := Go.Ground.chain }], guard := none }, { dst := some 5, op := Go.Op.alloc 70, type := 0, pos := "order.go:26", after := #[], guard := none }, { dst := some 6, op := Go.Op.alloc 70, type := 0, pos := "order.go:26", after := #[], guard := none }, { dst := none, op := Go.Op.store 70 (Go.Operand.tmp 5) (Go.Operand.tmp 9), type := 0, pos := "order.go:26", after := #[{ on := 6, ground := Go.Ground.data }, { on := 2, ground := Go.Ground.data }, { on := 5, ground := Go.Ground.chain }, { on := 0, ground := Go.Ground.phase }, { on := 1, ground := Go.Ground.phase }, { on := 2, ground := Go.Ground.phase }, { on := 3, ground := Go.Ground.textOnly Go.Departure.lateStores }, { on := 4, ground := Go.Ground.textOnly Go.Departure.lateStoresUnsure }, { on := 5, ground := Go.Ground.textOnly Go.Departure.lateStoresUnsure }, { on := 6, ground := Go.Ground.phase }, { on := 7, ground := Go.Ground.phase }], guard := none }, { dst := none, op := Go.Op.store 70 (Go.Operand.tmp 6) (Go.Operand.tmp 12), type := 0, pos := "order.go:26", after := #[{ on := 7, ground := Go.Ground.data }, { on := 5, ground := Go.Ground.data }, { on := 8, ground := Go.Ground.chain }, { on := 0, ground := Go.Ground.phase }, { on := 1, ground := Go.Ground.phase }, { on := 2, ground := Go.Ground.phase }, { on := 3, ground := Go.Ground.phase }, { on := 4, ground := Go.Ground.phase }, { on := 5, ground := Go.Ground.phase }, { on := 6, ground := Go.Ground.phase }, { on := 7, ground := Go.Ground.phase }, { on := 8, ground := Go.Ground.phase }], guard := none }]
abbrev key0 : Obj := .cells #[.int .i64 0, .int .i64 0, .string ⟨#[]⟩] 70
theorem set3_block {u : World} {g : Nat} {x y z a b c : Value} (h : u.heap[g]? = some (.cells #[x, y, z] 70 (0, 0))) : (((u.setCell ⟨g, 0, none⟩ a).setCell ⟨g, 1, none⟩ b).setCell ⟨g, 2, none⟩ c).heap[g]? = some (.cells #[a, b, c] 70 (0, 0)) := by
  simp [World.setCell, Array.getElem?_modify, h]
theorem set3_other {u : World} {g j : Nat} {a b c : Value} (hj : j ≠ g) : (((u.setCell ⟨g, 0, none⟩ a).setCell ⟨g, 1, none⟩ b).setCell ⟨g, 2, none⟩ c).heap[j]? = u.heap[j]? := by
  have h : g ≠ j := hj.symm
  simp [World.setCell, Array.getElem?_modify, h]
theorem set3_bel {W u : World} {g : Nat} {a b c : Value} (h : Below W.heap.size W u) (hg : W.heap.size ≤ g) : Below W.heap.size W (((u.setCell ⟨g, 0, none⟩ a).setCell ⟨g, 1, none⟩ b).setCell ⟨g, 2, none⟩ c) :=
  ((h.setCell hg _).setCell hg _).setCell hg _
theorem z_cells {u : World} {g : Nat} {x y z : Value} (h : u.heap[g]? = some (.cells #[x, y, z] 70 (0, 0))) : (u.cell? ⟨g, 0, none⟩ = some x ∧ u.cell? ⟨g, 1, none⟩ = some y ∧ u.cell? ⟨g, 2, none⟩ = some z) ∧ (u.frozen? ⟨g, 0, none⟩ = false ∧ u.frozen? ⟨g, 1, none⟩ = false ∧ u.frozen? ⟨g, 2, none⟩ = false) :=
  ⟨by simp [World.cell?, h], by simp [World.frozen?, h]⟩
theorem lt_of {u : World} {g : Nat} {o : Obj} (h : u.heap[g]? = some o) : g < u.heap.size := (Array.getElem?_eq_some_iff.1 h).1
section
variable {W : World} {w0 : Nat} {k1 n1 k2 n2 r1 m1 r2 m2 : Int} {s1 s2 t1 t2 : ByteArray} {I1 I2 : Value} {Q : Exit → Act → World → Prop}
set_option maxHeartbeats 2000000 in
theorem st_411 (C1 : RB W 35 #[(.agg #[.int .i64 k1, .int .i64 n1, .string s1])] I1) (C2 : RB W 55 #[I1] (key r1 m1 t1)) (C4 : RB W 35 #[(.agg #[.int .i64 k2, .int .i64 n2, .string s2])] I2) (C5 : RB W 55 #[I2] (key r2 m2 t2)) (FIN : ∀ (g5 g6 : Nat) (u : World), g5 ≠ g6 → W.heap.size ≤ g5 → W.heap.size ≤ g6 → u.heap[g5]? = some (.cells #[.int .i64 r1, .int .i64 m1, .string t1] 70) → u.heap[g6]? = some (.cells #[.int .i64 r2, .int .i64 m2, .string t2] 70) → Below W.heap.size W u → Q .normal { tmps := #[(.agg #[.int .i64 k1, .int .i64 n1, .string s1]), (.agg #[.int .i64 k2, .int .i64 n2, .string s2]), (.pointer (some ⟨w0, 0, none⟩)), (.pointer (some ⟨w0 + 1, 0, none⟩)), (.int .i64 0), (.pointer (some ⟨g5, 0, none⟩)), (.pointer (some ⟨g6, 0, none⟩)), (.agg #[.int .i64 k1, .int .i64 n1, .string s1]), I1, (key r1 m1 t1), (.agg #[.int .i64 k2, .int .i64 n2, .string s2]), I2, (key r2 m2 t2), undef, undef, undef, undef, undef, undef, undef, undef, undef, undef, undef, undef, undef, undef, undef, undef, undef, undef, undef, undef, undef, undef, undef], defers := [] } u) {g5 g6 : Nat} {u : World} (HB : Below W.heap.size W u) (z5 : u.heap[g5]? = some key0) (l5 : W.heap.size ≤ g5) (z6 : u.heap[g6]? = some key0) (l6 : W.heap.size ≤ g6) (ne : g5 ≠ g6) :
    wpAnyD Tryd.prog .any ops1 Q (fun x => Below W.heap.size W x) (fun _ => false) 2 #[true, true, true, true, true, true, true, true, false, false] { tmps := #[(.agg #[.int .i64 k1, .int .i64 n1, .string s1]), (.agg #[.int .i64 k2, .int .i64 n2, .string s2]), (.pointer (some ⟨w0, 0, none⟩)), (.pointer (some ⟨w0 + 1, 0, none⟩)), (.int .i64 0), (.pointer (some ⟨g5, 0, none⟩)), (.pointer (some ⟨g6, 0, none⟩)), (.agg #[.int .i64 k1, .int .i64 n1, .string s1]), I1, (key r1 m1 t1), (.agg #[.int .i64 k2, .int .i64 n2, .string s2]), I2, (key r2 m2 t2), undef, undef, undef, undef, undef, undef, undef, undef, undef, undef, undef, undef, undef, undef, undef, undef, undef, undef, undef, undef, undef, undef, undef], defers := [] } u := by
  obtain ⟨⟨c0, c1, c2⟩, f0, f1, f2⟩ := z_cells z5
  refine wpAnyD_one (i := 8) (o := { dst := none, op := Go.Op.store 70 (Go.Operand.tmp 5) (Go.Operand.tmp 9), type := 0, pos := "order.go:26", after := #[{ on := 6, ground := Go.Ground.data }, { on := 2, ground := Go.Ground.data }, { on := 5, ground := Go.Ground.chain }, { on := 0, ground := Go.Ground.phase }, { on := 1, ground := Go.Ground.phase }, { on := 2, ground := Go.Ground.phase }, { on := 3, ground := Go.Ground.textOnly Go.Departure.lateStores }, { on := 4, ground := Go.Ground.textOnly Go.Departure.lateStoresUnsure }, { on := 5, ground := Go.Ground.textOnly Go.Departure.lateStoresUnsure }, { on := 6, ground := Go.Ground.phase }, { on := 7, ground := Go.Ground.phase }], guard := none }) (by kernel_rfl) rfl ?_
  intro K hK
  go_simp
  refine hK _ _ (.inr fun _ => set3_bel HB l5) ?_
  clear hK
  try simp only [Act.put, List.setIfInBounds_toArray, List.set_cons_zero, List.set_cons_succ]
  have z5' := set3_block (a := .int .i64 r1) (b := .int .i64 m1) (c := .string t1) z5
  have z6' := (set3_other (u := u) (g := g5) (a := .int .i64 r1) (b := .int .i64 m1) (c := .string t1) ne.symm).trans z6
  have HB' := set3_bel (a := .int .i64 r1) (b := .int .i64 m1) (c := .string t1) HB l5
  clear c0 c1 c2 f0 f1 f2 z5 z6 HB
  generalize (((u.setCell ⟨g5, 0, none⟩ (.int .i64 r1)).setCell ⟨g5, 1, none⟩ (.int .i64 m1)).setCell ⟨g5, 2, none⟩ (.string t1)) = u1 at *
  obtain ⟨⟨c0, c1, c2⟩, f0, f1, f2⟩ := z_cells z6'
  refine wpAnyD_one (i := 9) (o := { dst := none, op := Go.Op.store 70 (Go.Operand.tmp 6) (Go.Operand.tmp 12), type := 0, pos := "order.go:26", after := #[{ on := 7, ground := Go.Ground.data }, { on := 5, ground := Go.Ground.data }, { on := 8, ground := Go.Ground.chain }, { on := 0, ground := Go.Ground.phase }, { on := 1, ground := Go.Ground.phase }, { on := 2, ground := Go.Ground.phase }, { on := 3, ground := Go.Ground.phase }, { on := 4, ground := Go.Ground.phase }, { on := 5, ground := Go.Ground.phase }, { on := 6, ground := Go.Ground.phase }, { on := 7, ground := Go.Ground.phase }, { on := 8, ground := Go.Ground.phase }], guard := none }) (by kernel_rfl) rfl ?_
  intro K hK
  go_simp
  refine hK _ _ (.inr fun _ => set3_bel HB' l6) ?_
  clear hK
  try simp only [Act.put, List.setIfInBounds_toArray, List.set_cons_zero, List.set_cons_succ]
  refine wpAnyD_done (by kernel_rfl) ?_ _
  exact FIN g5 g6 _ ne l5 l6 ((set3_other ne).trans z5') (set3_block z6') (set3_bel HB' l6)
set_option maxHeartbeats 2000000 in
theorem st_410 (C1 : RB W 35 #[(.agg #[.int .i64 k1, .int .i64 n1, .string s1])] I1) (C2 : RB W 55 #[I1] (key r1 m1 t1)) (C4 : RB W 35 #[(.agg #[.int .i64 k2, .int .i64 n2, .string s2])] I2) (C5 : RB W 55 #[I2] (key r2 m2 t2)) (FIN : ∀ (g5 g6 : Nat) (u : World), g5 ≠ g6 → W.heap.size ≤ g5 → W.heap.size ≤ g6 → u.heap[g5]? = some (.cells #[.int .i64 r1, .int .i64 m1, .string t1] 70) → u.heap[g6]? = some (.cells #[.int .i64 r2, .int .i64 m2, .string t2] 70) → Below W.heap.size W u → Q .normal { tmps := #[(.agg #[.int .i64 k1, .int .i64 n1, .string s1]), (.agg #[.int .i64 k2, .int .i64 n2, .string s2]), (.pointer (some ⟨w0, 0, none⟩)), (.pointer (some ⟨w0 + 1, 0, none⟩)), (.int .i64 0), (.pointer (some ⟨g5, 0, none⟩)), (.pointer (some ⟨g6, 0, none⟩)), (.agg #[.int .i64 k1, .int .i64 n1, .string s1]), I1, (key r1 m1 t1), (.agg #[.int .i64 k2, .int .i64 n2, .string s2]), I2, (key r2 m2 t2), undef, undef, undef, undef, undef, undef, undef, undef, undef, undef, undef, undef, undef, undef, undef, undef, undef, undef, undef, undef, undef, undef, undef], defers := [] } u) {g5 : Nat} {u : World} (HB : Below W.heap.size W u) (z5 : u.heap[g5]? = some key0) (l5 : W.heap.size ≤ g5) :
    wpAnyD Tryd.prog .any ops1 Q (fun x => Below W.heap.size W x) (fun _ => false) 3 #[true, true, true, true, true, true, true, false, false, false] { tmps := #[(.agg #[.int .i64 k1, .int .i64 n1, .string s1]), (.agg #[.int .i64 k2, .int .i64 n2, .string s2]), (.pointer (some ⟨w0, 0, none⟩)), (.pointer (some ⟨w0 + 1, 0, none⟩)), (.int .i64 0), (.pointer (some ⟨g5, 0, none⟩)), undef, (.agg #[.int .i64 k1, .int .i64 n1, .string s1]), I1, (key r1 m1 t1), (.agg #[.int .i64 k2, .int .i64 n2, .string s2]), I2, (key r2 m2 t2), undef, undef, undef, undef, undef, undef, undef, undef, undef, undef, undef, undef, undef, undef, undef, undef, undef, undef, undef, undef, undef, undef, undef], defers := [] } u := by
  refine wpAnyD_one (i := 7) (o := { dst := some 6, op := Go.Op.alloc 70, type := 0, pos := "order.go:26", after := #[], guard := none }) (by kernel_rfl) rfl ?_
  intro K hK
  go_simp
  refine hK _ _ (.inr fun _ => HB.alloc HB.size _) ?_
  clear hK
  try simp only [Act.put, List.setIfInBounds_toArray, List.set_cons_zero, List.set_cons_succ]
  exact st_411 C1 C2 C4 C5 FIN (HB.alloc HB.size _) ((Below.heap_alloc u key0 _ (lt_of z5)).trans z5) l5 (heap_alloc_new u key0) HB.size (Nat.ne_of_lt (lt_of z5))
set_option maxHeartbeats 2000000 in
theorem st_401 (C1 : RB W 35 #[(.agg #[.int .i64 k1, .int .i64 n1, .string s1])] I1) (C2 : RB W 55 #[I1] (key r1 m1 t1)) (C4 : RB W 35 #[(.agg #[.int .i64 k2, .int .i64 n2, .string s2])] I2) (C5 : RB W 55 #[I2] (key r2 m2 t2)) (FIN : ∀ (g5 g6 : Nat) (u : World), g5 ≠ g6 → W.heap.size ≤ g5 → W.heap.size ≤ g6 → u.heap[g5]? = some (.cells #[.int .i64 r1, .int .i64 m1, .string t1] 70) → u.heap[g6]? = some (.cells #[.int .i64 r2, .int .i64 m2, .string t2] 70) → Below W.heap.size W u → Q .normal { tmps := #[(.agg #[.int .i64 k1, .int .i64 n1, .string s1]), (.agg #[.int .i64 k2, .int .i64 n2, .string s2]), (.pointer (some ⟨w0, 0, none⟩)), (.pointer (some ⟨w0 + 1, 0, none⟩)), (.int .i64 0), (.pointer (some ⟨g5, 0, none⟩)), (.pointer (some ⟨g6, 0, none⟩)), (.agg #[.int .i64 k1, .int .i64 n1, .string s1]), I1, (key r1 m1 t1), (.agg #[.int .i64 k2, .int .i64 n2, .string s2]), I2, (key r2 m2 t2), undef, undef, undef, undef, undef, undef, undef, undef, undef, undef, undef, undef, undef, undef, undef, undef, undef, undef, undef, undef, undef, undef, undef], defers := [] } u) {g6 : Nat} {u : World} (HB : Below W.heap.size W u) (z6 : u.heap[g6]? = some key0) (l6 : W.heap.size ≤ g6) :
    wpAnyD Tryd.prog .any ops1 Q (fun x => Below W.heap.size W x) (fun _ => false) 3 #[true, true, true, true, true, true, false, true, false, false] { tmps := #[(.agg #[.int .i64 k1, .int .i64 n1, .string s1]), (.agg #[.int .i64 k2, .int .i64 n2, .string s2]), (.pointer (some ⟨w0, 0, none⟩)), (.pointer (some ⟨w0 + 1, 0, none⟩)), (.int .i64 0), undef, (.pointer (some ⟨g6, 0, none⟩)), (.agg #[.int .i64 k1, .int .i64 n1, .string s1]), I1, (key r1 m1 t1), (.agg #[.int .i64 k2, .int .i64 n2, .string s2]), I2, (key r2 m2 t2), undef, undef, undef, undef, undef, undef, undef, undef, undef, undef, undef, undef, undef, undef, undef, undef, undef, undef, undef, undef, undef, undef, undef], defers := [] } u := by
  refine wpAnyD_one (i := 6) (o := { dst := some 5, op := Go.Op.alloc 70, type := 0, pos := "order.go:26", after := #[], guard := none }) (by kernel_rfl) rfl ?_
  intro K hK
  go_simp
  refine hK _ _ (.inr fun _ => HB.alloc HB.size _) ?_
  clear hK
  try simp only [Act.put, List.setIfInBounds_toArray, List.set_cons_zero, List.set_cons_succ]
  exact st_411 C1 C2 C4 C5 FIN (HB.alloc HB.size _) (heap_alloc_new u key0) HB.size ((Below.heap_alloc u key0 _ (lt_of z6)).trans z6) l6 (Nat.ne_of_gt (lt_of z6))
set_option maxHeartbeats 2000000 in
theorem st_400 (C1 : RB W 35 #[(.agg #[.int .i64 k1, .int .i64 n1, .string s1])] I1) (C2 : RB W 55 #[I1] (key r1 m1 t1)) (C4 : RB W 35 #[(.agg #[.int .i64 k2, .int .i64 n2, .string s2])] I2) (C5 : RB W 55 #[I2] (key r2 m2 t2)) (FIN : ∀ (g5 g6 : Nat) (u : World), g5 ≠ g6 → W.heap.size ≤ g5 → W.heap.size ≤ g6 → u.heap[g5]? = some (.cells #[.int .i64 r1, .int .i64 m1, .string t1] 70) → u.heap[g6]? = some (.cells #[.int .i64 r2, .int .i64 m2, .string t2] 70) → Below W.heap.size W u → Q .normal { tmps := #[(.agg #[.int .i64 k1, .int .i64 n1, .string s1]), (.agg #[.int .i64 k2, .int .i64 n2, .string s2]), (.pointer (some ⟨w0, 0, none⟩)), (.pointer (some ⟨w0 + 1, 0, none⟩)), (.int .i64 0), (.pointer (some ⟨g5, 0, none⟩)), (.pointer (some ⟨g6, 0, none⟩)), (.agg #[.int .i64 k1, .int .i64 n1, .string s1]), I1, (key r1 m1 t1), (.agg #[.int .i64 k2, .int .i64 n2, .string s2]), I2, (key r2 m2 t2), undef, undef, undef, undef, undef, undef, undef, undef, undef, undef, undef, undef, undef, undef, undef, undef, undef, undef, undef, undef, undef, undef, undef], defers := [] } u) {u : World} (HB : Below W.heap.size W u) :
    wpAnyD Tryd.prog .any ops1 Q (fun x => Below W.heap.size W x) (fun _ => false) 4 #[true, true, true, true, true, true, false, false, false, false] { tmps := #[(.agg #[.int .i64 k1, .int .i64 n1, .string s1]), (.agg #[.int .i64 k2, .int .i64 n2, .string s2]), (.pointer (some ⟨w0, 0, none⟩)), (.pointer (some ⟨w0 + 1, 0, none⟩)), (.int .i64 0), undef, undef, (.agg #[.int .i64 k1, .int .i64 n1, .string s1]), I1, (key r1 m1 t1), (.agg #[.int .i64 k2, .int .i64 n2, .string s2]), I2, (key r2 m2 t2), undef, undef, undef, undef, undef, undef, undef, undef, undef, undef, undef, undef, undef, undef, undef, undef, undef, undef, undef, undef, undef, undef, undef], defers := [] } u := by
  refine wpAnyD_two (i := 6) (j := 7) (oi := { dst := some 5, op := Go.Op.alloc 70, type := 0, pos := "order.go:26", after := #[], guard := none }) (oj := { dst := some 6, op := Go.Op.alloc 70, type := 0, pos := "order.go:26", after := #[], guard := none }) (by kernel_rfl) rfl rfl ?_ ?_
  · intro K hK
    go_simp
    refine hK _ _ (.inr fun _ => HB.alloc HB.size _) ?_
    clear hK
    try simp only [Act.put, List.setIfInBounds_toArray, List.set_cons_zero, List.set_cons_succ]
    exact st_410 C1 C2 C4 C5 FIN (HB.alloc HB.size _) (heap_alloc_new u key0) HB.size
  · intro K hK
    go_simp
    refine hK _ _ (.inr fun _ => HB.alloc HB.size _) ?_
    clear hK
    try simp only [Act.put, List.setIfInBounds_toArray, List.set_cons_zero, List.set_cons_succ]
    exact st_401 C1 C2 C4 C5 FIN (HB.alloc HB.size _) (heap_alloc_new u key0) HB.size
set_option maxHeartbeats 2000000 in
theorem st_311 (C1 : RB W 35 #[(.agg #[.int .i64 k1, .int .i64 n1, .string s1])] I1) (C2 : RB W 55 #[I1] (key r1 m1 t1)) (C4 : RB W 35 #[(.agg #[.int .i64 k2, .int .i64 n2, .string s2])] I2) (C5 : RB W 55 #[I2] (key r2 m2 t2)) (FIN : ∀ (g5 g6 : Nat) (u : World), g5 ≠ g6 → W.heap.size ≤ g5 → W.heap.size ≤ g6 → u.heap[g5]? = some (.cells #[.int .i64 r1, .int .i64 m1, .string t1] 70) → u.heap[g6]? = some (.cells #[.int .i64 r2, .int .i64 m2, .string t2] 70) → Below W.heap.size W u → Q .normal { tmps := #[(.agg #[.int .i64 k1, .int .i64 n1, .string s1]), (.agg #[.int .i64 k2, .int .i64 n2, .string s2]), (.pointer (some ⟨w0, 0, none⟩)), (.pointer (some ⟨w0 + 1, 0, none⟩)), (.int .i64 0), (.pointer (some ⟨g5, 0, none⟩)), (.pointer (some ⟨g6, 0, none⟩)), (.agg #[.int .i64 k1, .int .i64 n1, .string s1]), I1, (key r1 m1 t1), (.agg #[.int .i64 k2, .int .i64 n2, .string s2]), I2, (key r2 m2 t2), undef, undef, undef, undef, undef, undef, undef, undef, undef, undef, undef, undef, undef, undef, undef, undef, undef, undef, undef, undef, undef, undef, undef], defers := [] } u) {g5 g6 : Nat} {u : World} (HB : Below W.heap.size W u) (z5 : u.heap[g5]? = some key0) (l5 : W.heap.size ≤ g5) (z6 : u.heap[g6]? = some key0) (l6 : W.heap.size ≤ g6) (ne : g5 ≠ g6) :
    wpAnyD Tryd.prog .any ops1 Q (fun x => Below W.heap.size W x) (fun _ => false) 3 #[true, true, true, true, true, false, true, true, false, false] { tmps := #[(.agg #[.int .i64 k1, .int .i64 n1, .string s1]), (.agg #[.int .i64 k2, .int .i64 n2, .string s2]), (.pointer (some ⟨w0, 0, none⟩)), (.pointer (some ⟨w0 + 1, 0, none⟩)), (.int .i64 0), (.pointer (some ⟨g5, 0, none⟩)), (.pointer (some ⟨g6, 0, none⟩)), (.agg #[.int .i64 k1, .int .i64 n1, .string s1]), I1, (key r1 m1 t1), (.agg #[.int .i64 k2, .int .i64 n2, .string s2]), I2, undef, undef, undef, undef, undef, undef, undef, undef, undef, undef, undef, undef, undef, undef, undef, undef, undef, undef, undef, undef, undef, undef, undef, undef], defers := [] } u := by
  refine wpAnyD_one (i := 5) (o := { dst := some 12, op := Go.Op.call { callee := Go.Callee.value (Go.Operand.func 55), args := #[Go.Operand.tmp 11], argTypes := #[20] }, type := 70, pos := "order.go:26", after := #[{ on := 4, ground := Go.Ground.data }, { on := 4, ground := Go.Ground.chain }], guard := none }) (by kernel_rfl) rfl ?_
  intro K hK
  go_simp
  refine (C5 _ HB).mono ?_
  rintro e u' ⟨rfl, hb⟩
  refine hK _ _ (.inr fun _ => bel_step HB hb) ?_
  clear hK
  try simp only [Act.put, List.setIfInBounds_toArray, List.set_cons_zero, List.set_cons_succ]
  exact st_411 C1 C2 C4 C5 FIN (bel_step HB hb) ((hb.block _ (lt_of z5)).trans z5) l5 ((hb.block _ (lt_of z6)).trans z6) l6 ne
set_option maxHeartbeats 2000000 in
theorem st_310 (C1 : RB W 35 #[(.agg #[.int .i64 k1, .int .i64 n1, .string s1])] I1) (C2 : RB W 55 #[I1] (key r1 m1 t1)) (C4 : RB W 35 #[(.agg #[.int .i64 k2, .int .i64 n2, .string s2])] I2) (C5 : RB W 55 #[I2] (key r2 m2 t2)) (FIN : ∀ (g5 g6 : Nat) (u : World), g5 ≠ g6 → W.heap.size ≤ g5 → W.heap.size ≤ g6 → u.heap[g5]? = some (.cells #[.int .i64 r1, .int .i64 m1, .string t1] 70) → u.heap[g6]? = some (.cells #[.int .i64 r2, .int .i64 m2, .string t2] 70) → Below W.heap.size W u → Q .normal { tmps := #[(.agg #[.int .i64 k1, .int .i64 n1, .string s1]), (.agg #[.int .i64 k2, .int .i64 n2, .string s2]), (.pointer (some ⟨w0, 0, none⟩)), (.pointer (some ⟨w0 + 1, 0, none⟩)), (.int .i64 0), (.pointer (some ⟨g5, 0, none⟩)), (.pointer (some ⟨g6, 0, none⟩)), (.agg #[.int .i64 k1, .int .i64 n1, .string s1]), I1, (key r1 m1 t1), (.agg #[.int .i64 k2, .int .i64 n2, .string s2]), I2, (key r2 m2 t2), undef, undef, undef, undef, undef, undef, undef, undef, undef, undef, undef, undef, undef, undef, undef, undef, undef, undef, undef, undef, undef, undef, undef], defers := [] } u) {g5 : Nat} {u : World} (HB : Below W.heap.size W u) (z5 : u.heap[g5]? = some key0) (l5 : W.heap.size ≤ g5) :
    wpAnyD Tryd.prog .any ops1 Q (fun x => Below W.heap.size W x) (fun _ => false) 4 #[true, true, true, true, true, false, true, false, false, false] { tmps := #[(.agg #[.int .i64 k1, .int .i64 n1, .string s1]), (.agg #[.int .i64 k2, .int .i64 n2, .string s2]), (.pointer (some ⟨w0, 0, none⟩)), (.pointer (some ⟨w0 + 1, 0, none⟩)), (.int .i64 0), (.pointer (some ⟨g5, 0, none⟩)), undef, (.agg #[.int .i64 k1, .int .i64 n1, .string s1]), I1, (key r1 m1 t1), (.agg #[.int .i64 k2, .int .i64 n2, .string s2]), I2, undef, undef, undef, undef, undef, undef, undef, undef, undef, undef, undef, undef, undef, undef, undef, undef, undef, undef, undef, undef, undef, undef, undef, undef], defers := [] } u := by
  refine wpAnyD_two (i := 5) (j := 7) (oi := { dst := some 12, op := Go.Op.call { callee := Go.Callee.value (Go.Operand.func 55), args := #[Go.Operand.tmp 11], argTypes := #[20] }, type := 70, pos := "order.go:26", after := #[{ on := 4, ground := Go.Ground.data }, { on := 4, ground := Go.Ground.chain }], guard := none }) (oj := { dst := some 6, op := Go.Op.alloc 70, type := 0, pos := "order.go:26", after := #[], guard := none }) (by kernel_rfl) rfl rfl ?_ ?_
  · intro K hK
    go_simp
    refine (C5 _ HB).mono ?_
    rintro e u' ⟨rfl, hb⟩
    refine hK _ _ (.inr fun _ => bel_step HB hb) ?_
    clear hK
    try simp only [Act.put, List.setIfInBounds_toArray, List.set_cons_zero, List.set_cons_succ]
    exact st_410 C1 C2 C4 C5 FIN (bel_step HB hb) ((hb.block _ (lt_of z5)).trans z5) l5
  · intro K hK
    go_simp
    refine hK _ _ (.inr fun _ => HB.alloc HB.size _) ?_
    clear hK
    try simp only [Act.put, List.setIfInBounds_toArray, List.set_cons_zero, List.set_cons_succ]
    exact st_311 C1 C2 C4 C5 FIN (HB.alloc HB.size _) ((Below.heap_alloc u key0 _ (lt_of z5)).trans z5) l5 (heap_alloc_new u key0) HB.size (Nat.ne_of_lt (lt_of z5))
set_option maxHeartbeats 2000000 in
theorem st_301 (C1 : RB W 35 #[(.agg #[.int .i64 k1, .int .i64 n1, .string s1])] I1) (C2 : RB W 55 #[I1] (key r1 m1 t1)) (C4 : RB W 35 #[(.agg #[.int .i64 k2, .int .i64 n2, .string s2])] I2) (C5 : RB W 55 #[I2] (key r2 m2 t2)) (FIN : ∀ (g5 g6 : Nat) (u : World), g5 ≠ g6 → W.heap.size ≤ g5 → W.heap.size ≤ g6 → u.heap[g5]? = some (.cells #[.int .i64 r1, .int .i64 m1, .string t1] 70) → u.heap[g6]? = some (.cells #[.int .i64 r2, .int .i64 m2, .string t2] 70) → Below W.heap.size W u → Q .normal { tmps := #[(.agg #[.int .i64 k1, .int .i64 n1, .string s1]), (.agg #[.int .i64 k2, .int .i64 n2, .string s2]), (.pointer (some ⟨w0, 0, none⟩)), (.pointer (some ⟨w0 + 1, 0, none⟩)), (.int .i64 0), (.pointer (some ⟨g5, 0, none⟩)), (.pointer (some ⟨g6, 0, none⟩)), (.agg #[.int .i64 k1, .int .i64 n1, .string s1]), I1, (key r1 m1 t1), (.agg #[.int .i64 k2, .int .i64 n2, .string s2]), I2, (key r2 m2 t2), undef, undef, undef, undef, undef, undef, undef, undef, undef, undef, undef, undef, undef, undef, undef, undef, undef, undef, undef, undef, undef, undef, undef], defers := [] } u) {g6 : Nat} {u : World} (HB : Below W.heap.size W u) (z6 : u.heap[g6]? = some key0) (l6 : W.heap.size ≤ g6) :
    wpAnyD Tryd.prog .any ops1 Q (fun x => Below W.heap.size W x) (fun _ => false) 4 #[true, true, true, true, true, false, false, true, false, false] { tmps := #[(.agg #[.int .i64 k1, .int .i64 n1, .string s1]), (.agg #[.int .i64 k2, .int .i64 n2, .string s2]), (.pointer (some ⟨w0, 0, none⟩)), (.pointer (some ⟨w0 + 1, 0, none⟩)), (.int .i64 0), undef, (.pointer (some ⟨g6, 0, none⟩)), (.agg #[.int .i64 k1, .int .i64 n1, .string s1]), I1, (key r1 m1 t1), (.agg #[.int .i64 k2, .int .i64 n2, .string s2]), I2, undef, undef, undef, undef, undef, undef, undef, undef, undef, undef, undef, undef, undef, undef, undef, undef, undef, undef, undef, undef, undef, undef, undef, undef], defers := [] } u := by
  refine wpAnyD_two (i := 5) (j := 6) (oi := { dst := some 12, op := Go.Op.call { callee := Go.Callee.value (Go.Operand.func 55), args := #[Go.Operand.tmp 11], argTypes := #[20] }, type := 70, pos := "order.go:26", after := #[{ on := 4, ground := Go.Ground.data }, { on := 4, ground := Go.Ground.chain }], guard := none }) (oj := { dst := some 5, op := Go.Op.alloc 70, type := 0, pos := "order.go:26", after := #[], guard := none }) (by kernel_rfl) rfl rfl ?_ ?_
  · intro K hK
    go_simp
    refine (C5 _ HB).mono ?_
    rintro e u' ⟨rfl, hb⟩
    refine hK _ _ (.inr fun _ => bel_step HB hb) ?_
    clear hK
    try simp only [Act.put, List.setIfInBounds_toArray, List.set_cons_zero, List.set_cons_succ]
    exact st_401 C1 C2 C4 C5 FIN (bel_step HB hb) ((hb.block _ (lt_of z6)).trans z6) l6
  · intro K hK
    go_simp
    refine hK _ _ (.inr fun _ => HB.alloc HB.size _) ?_
    clear hK
    try simp only [Act.put, List.setIfInBounds_toArray, List.set_cons_zero, List.set_cons_succ]
    exact st_311 C1 C2 C4 C5 FIN (HB.alloc HB.size _) (heap_alloc_new u key0) HB.size ((Below.heap_alloc u key0 _ (lt_of z6)).trans z6) l6 (Nat.ne_of_gt (lt_of z6))
set_option maxHeartbeats 2000000 in
theorem st_300 (C1 : RB W 35 #[(.agg #[.int .i64 k1, .int .i64 n1, .string s1])] I1) (C2 : RB W 55 #[I1] (key r1 m1 t1)) (C4 : RB W 35 #[(.agg #[.int .i64 k2, .int .i64 n2, .string s2])] I2) (C5 : RB W 55 #[I2] (key r2 m2 t2)) (FIN : ∀ (g5 g6 : Nat) (u : World), g5 ≠ g6 → W.heap.size ≤ g5 → W.heap.size ≤ g6 → u.heap[g5]? = some (.cells #[.int .i64 r1, .int .i64 m1, .string t1] 70) → u.heap[g6]? = some (.cells #[.int .i64 r2, .int .i64 m2, .string t2] 70) → Below W.heap.size W u → Q .normal { tmps := #[(.agg #[.int .i64 k1, .int .i64 n1, .string s1]), (.agg #[.int .i64 k2, .int .i64 n2, .string s2]), (.pointer (some ⟨w0, 0, none⟩)), (.pointer (some ⟨w0 + 1, 0, none⟩)), (.int .i64 0), (.pointer (some ⟨g5, 0, none⟩)), (.pointer (some ⟨g6, 0, none⟩)), (.agg #[.int .i64 k1, .int .i64 n1, .string s1]), I1, (key r1 m1 t1), (.agg #[.int .i64 k2, .int .i64 n2, .string s2]), I2, (key r2 m2 t2), undef, undef, undef, undef, undef, undef, undef, undef, undef, undef, undef, undef, undef, undef, undef, undef, undef, undef, undef, undef, undef, undef, undef], defers := [] } u) {u : World} (HB : Below W.heap.size W u) :
    wpAnyD Tryd.prog .any ops1 Q (fun x => Below W.heap.size W x) (fun _ => false) 5 #[true, true, true, true, true, false, false, false, false, false] { tmps := #[(.agg #[.int .i64 k1, .int .i64 n1, .string s1]), (.agg #[.int .i64 k2, .int .i64 n2, .string s2]), (.pointer (some ⟨w0, 0, none⟩)), (.pointer (some ⟨w0 + 1, 0, none⟩)), (.int .i64 0), undef, undef, (.agg #[.int .i64 k1, .int .i64 n1, .string s1]), I1, (key r1 m1 t1), (.agg #[.int .i64 k2, .int .i64 n2, .string s2]), I2, undef, undef, undef, undef, undef, undef, undef, undef, undef, undef, undef, undef, undef, undef, undef, undef, undef, undef, undef, undef, undef, undef, undef, undef], defers := [] } u := by
  refine wpAnyD_three (i := 5) (j := 6) (k := 7) (oi := { dst := some 12, op := Go.Op.call { callee := Go.Callee.value (Go.Operand.func 55), args := #[Go.Operand.tmp 11], argTypes := #[20] }, type := 70, pos := "order.go:26", after := #[{ on := 4, ground := Go.Ground.data }, { on := 4, ground := Go.Ground.chain }], guard := none }) (oj := { dst := some 5, op := Go.Op.alloc 70, type := 0, pos := "order.go:26", after := #[], guard := none }) (ok := { dst := some 6, op := Go.Op.alloc 70, type := 0, pos := "order.go:26", after := #[], guard := none }) (by kernel_rfl) rfl rfl rfl ?_ ?_ ?_
  · intro K hK
    go_simp
    refine (C5 _ HB).mono ?_
    rintro e u' ⟨rfl, hb⟩
    refine hK _ _ (.inr fun _ => bel_step HB hb) ?_
    clear hK
    try simp only [Act.put, List.setIfInBounds_toArray, List.set_cons_zero, List.set_cons_succ]
    exact st_400 C1 C2 C4 C5 FIN (bel_step HB hb)
  · intro K hK
    go_simp
    refine hK _ _ (.inr fun _ => HB.alloc HB.size _) ?_
    clear hK
    try simp only [Act.put, List.setIfInBounds_toArray, List.set_cons_zero, List.set_cons_succ]
    exact st_310 C1 C2 C4 C5 FIN (HB.alloc HB.size _) (heap_alloc_new u key0) HB.size
  · intro K hK
    go_simp
    refine hK _ _ (.inr fun _ => HB.alloc HB.size _) ?_
    clear hK
    try simp only [Act.put, List.setIfInBounds_toArray, List.set_cons_zero, List.set_cons_succ]
    exact st_301 C1 C2 C4 C5 FIN (HB.alloc HB.size _) (heap_alloc_new u key0) HB.size
set_option maxHeartbeats 2000000 in
theorem st_211 (C1 : RB W 35 #[(.agg #[.int .i64 k1, .int .i64 n1, .string s1])] I1) (C2 : RB W 55 #[I1] (key r1 m1 t1)) (C4 : RB W 35 #[(.agg #[.int .i64 k2, .int .i64 n2, .string s2])] I2) (C5 : RB W 55 #[I2] (key r2 m2 t2)) (FIN : ∀ (g5 g6 : Nat) (u : World), g5 ≠ g6 → W.heap.size ≤ g5 → W.heap.size ≤ g6 → u.heap[g5]? = some (.cells #[.int .i64 r1, .int .i64 m1, .string t1] 70) → u.heap[g6]? = some (.cells #[.int .i64 r2, .int .i64 m2, .string t2] 70) → Below W.heap.size W u → Q .normal { tmps := #[(.agg #[.int .i64 k1, .int .i64 n1, .string s1]), (.agg #[.int .i64 k2, .int .i64 n2, .string s2]), (.pointer (some ⟨w0, 0, none⟩)), (.pointer (some ⟨w0 + 1, 0, none⟩)), (.int .i64 0), (.pointer (some ⟨g5, 0, none⟩)), (.pointer (some ⟨g6, 0, none⟩)), (.agg #[.int .i64 k1, .int .i64 n1, .string s1]), I1, (key r1 m1 t1), (.agg #[.int .i64 k2, .int .i64 n2, .string s2]), I2, (key r2 m2 t2), undef, undef, undef, undef, undef, undef, undef, undef, undef, undef, undef, undef, undef, undef, undef, undef, undef, undef, undef, undef, undef, undef, undef], defers := [] } u) {g5 g6 : Nat} {u : World} (HB : Below W.heap.size W u) (z5 : u.heap[g5]? = some key0) (l5 : W.heap.size ≤ g5) (z6 : u.heap[g6]? = some key0) (l6 : W.heap.size ≤ g6) (ne : g5 ≠ g6) :
    wpAnyD Tryd.prog .any ops1 Q (fun x => Below W.heap.size W x) (fun _ => false) 4 #[true, true, true, true, false, false, true, true, false, false] { tmps := #[(.agg #[.int .i64 k1, .int .i64 n1, .string s1]), (.agg #[.int .i64 k2, .int .i64 n2, .string s2]), (.pointer (some ⟨w0, 0, none⟩)), (.pointer (some ⟨w0 + 1, 0, none⟩)), (.int .i64 0), (.pointer (some ⟨g5, 0, none⟩)), (.pointer (some ⟨g6, 0, none⟩)), (.agg #[.int .i64 k1, .int .i64 n1, .string s1]), I1, (key r1 m1 t1), (.agg #[.int .i64 k2, .int .i64 n2, .string s2]), undef, undef, undef, undef, undef, undef, undef, undef, undef, undef, undef, undef, undef, undef, undef, undef, undef, undef, undef, undef, undef, undef, undef, undef, undef], defers := [] } u := by
  refine wpAnyD_one (i := 4) (o := { dst := some 11, op := Go.Op.call { callee := Go.Callee.value (Go.Operand.func 35), args := #[Go.Operand.tmp 10], argTypes := #[23] }, type := 20, pos := "order.go:26", after := #[{ on := 3, ground := Go.Ground.data }, { on := 2, ground := Go.Ground.chain }], guard := none }) (by kernel_rfl) rfl ?_
  intro K hK
  go_simp
  refine (C4 _ HB).mono ?_
  rintro e u' ⟨rfl, hb⟩
  refine hK _ _ (.inr fun _ => bel_step HB hb) ?_
  clear hK
  try simp only [Act.put, List.setIfInBounds_toArray, List.set_cons_zero, List.set_cons_succ]
  exact st_311 C1 C2 C4 C5 FIN (bel_step HB hb) ((hb.block _ (lt_of z5)).trans z5) l5 ((hb.block _ (lt_of z6)).trans z6) l6 ne
set_option maxHeartbeats 2000000 in
theorem st_210 (C1 : RB W 35 #[(.agg #[.int .i64 k1, .int .i64 n1, .string s1])] I1) (C2 : RB W 55 #[I1] (key r1 m1 t1)) (C4 : RB W 35 #[(.agg #[.int .i64 k2, .int .i64 n2, .string s2])] I2) (C5 : RB W 55 #[I2] (key r2 m2 t2)) (FIN : ∀ (g5 g6 : Nat) (u : World), g5 ≠ g6 → W.heap.size ≤ g5 → W.heap.size ≤ g6 → u.heap[g5]? = some (.cells #[.int .i64 r1, .int .i64 m1, .string t1] 70) → u.heap[g6]? = some (.cells #[.int .i64 r2, .int .i64 m2, .string t2] 70) → Below W.heap.size W u → Q .normal { tmps := #[(.agg #[.int .i64 k1, .int .i64 n1, .string s1]), (.agg #[.int .i64 k2, .int .i64 n2, .string s2]), (.pointer (some ⟨w0, 0, none⟩)), (.pointer (some ⟨w0 + 1, 0, none⟩)), (.int .i64 0), (.pointer (some ⟨g5, 0, none⟩)), (.pointer (some ⟨g6, 0, none⟩)), (.agg #[.int .i64 k1, .int .i64 n1, .string s1]), I1, (key r1 m1 t1), (.agg #[.int .i64 k2, .int .i64 n2, .string s2]), I2, (key r2 m2 t2), undef, undef, undef, undef, undef, undef, undef, undef, undef, undef, undef, undef, undef, undef, undef, undef, undef, undef, undef, undef, undef, undef, undef], defers := [] } u) {g5 : Nat} {u : World} (HB : Below W.heap.size W u) (z5 : u.heap[g5]? = some key0) (l5 : W.heap.size ≤ g5) :
    wpAnyD Tryd.prog .any ops1 Q (fun x => Below W.heap.size W x) (fun _ => false) 5 #[true, true, true, true, false, false, true, false, false, false] { tmps := #[(.agg #[.int .i64 k1, .int .i64 n1, .string s1]), (.agg #[.int .i64 k2, .int .i64 n2, .string s2]), (.pointer (some ⟨w0, 0, none⟩)), (.pointer (some ⟨w0 + 1, 0, none⟩)), (.int .i64 0), (.pointer (some ⟨g5, 0, none⟩)), undef, (.agg #[.int .i64 k1, .int .i64 n1, .string s1]), I1, (key r1 m1 t1), (.agg #[.int .i64 k2, .int .i64 n2, .string s2]), undef, undef, undef, undef, undef, undef, undef, undef, undef, undef, undef, undef, undef, undef, undef, undef, undef, undef, undef, undef, undef, undef, undef, undef, undef], defers := [] } u := by
  refine wpAnyD_two (i := 4) (j := 7) (oi := { dst := some 11, op := Go.Op.call { callee := Go.Callee.value (Go.Operand.func 35), args := #[Go.Operand.tmp 10], argTypes := #[23] }, type := 20, pos := "order.go:26", after := #[{ on := 3, ground := Go.Ground.data }, { on := 2, ground := Go.Ground.chain }], guard := none }) (oj := { dst := some 6, op := Go.Op.alloc 70, type := 0, pos := "order.go:26", after := #[], guard := none }) (by kernel_rfl) rfl rfl ?_ ?_
  · intro K hK
    go_simp
    refine (C4 _ HB).mono ?_
    rintro e u' ⟨rfl, hb⟩
    refine hK _ _ (.inr fun _ => bel_step HB hb) ?_
    clear hK
    try simp only [Act.put, List.setIfInBounds_toArray, List.set_cons_zero, List.set_cons_succ]
    exact st_310 C1 C2 C4 C5 FIN (bel_step HB hb) ((hb.block _ (lt_of z5)).trans z5) l5
  · intro K hK
    go_simp
    refine hK _ _ (.inr fun _ => HB.alloc HB.size _) ?_
    clear hK
    try simp only [Act.put, List.setIfInBounds_toArray, List.set_cons_zero, List.set_cons_succ]
    exact st_211 C1 C2 C4 C5 FIN (HB.alloc HB.size _) ((Below.heap_alloc u key0 _ (lt_of z5)).trans z5) l5 (heap_alloc_new u key0) HB.size (Nat.ne_of_lt (lt_of z5))
set_option maxHeartbeats 2000000 in
theorem st_201 (C1 : RB W 35 #[(.agg #[.int .i64 k1, .int .i64 n1, .string s1])] I1) (C2 : RB W 55 #[I1] (key r1 m1 t1)) (C4 : RB W 35 #[(.agg #[.int .i64 k2, .int .i64 n2, .string s2])] I2) (C5 : RB W 55 #[I2] (key r2 m2 t2)) (FIN : ∀ (g5 g6 : Nat) (u : World), g5 ≠ g6 → W.heap.size ≤ g5 → W.heap.size ≤ g6 → u.heap[g5]? = some (.cells #[.int .i64 r1, .int .i64 m1, .string t1] 70) → u.heap[g6]? = some (.cells #[.int .i64 r2, .int .i64 m2, .string t2] 70) → Below W.heap.size W u → Q .normal { tmps := #[(.agg #[.int .i64 k1, .int .i64 n1, .string s1]), (.agg #[.int .i64 k2, .int .i64 n2, .string s2]), (.pointer (some ⟨w0, 0, none⟩)), (.pointer (some ⟨w0 + 1, 0, none⟩)), (.int .i64 0), (.pointer (some ⟨g5, 0, none⟩)), (.pointer (some ⟨g6, 0, none⟩)), (.agg #[.int .i64 k1, .int .i64 n1, .string s1]), I1, (key r1 m1 t1), (.agg #[.int .i64 k2, .int .i64 n2, .string s2]), I2, (key r2 m2 t2), undef, undef, undef, undef, undef, undef, undef, undef, undef, undef, undef, undef, undef, undef, undef, undef, undef, undef, undef, undef, undef, undef, undef], defers := [] } u) {g6 : Nat} {u : World} (HB : Below W.heap.size W u) (z6 : u.heap[g6]? = some key0) (l6 : W.heap.size ≤ g6) :
    wpAnyD Tryd.prog .any ops1 Q (fun x => Below W.heap.size W x) (fun _ => false) 5 #[true, true, true, true, false, false, false, true, false, false] { tmps := #[(.agg #[.int .i64 k1, .int .i64 n1, .string s1]), (.agg #[.int .i64 k2, .int .i64 n2, .string s2]), (.pointer (some ⟨w0, 0, none⟩)), (.pointer (some ⟨w0 + 1, 0, none⟩)), (.int .i64 0), undef, (.pointer (some ⟨g6, 0, none⟩)), (.agg #[.int .i64 k1, .int .i64 n1, .string s1]), I1, (key r1 m1 t1), (.agg #[.int .i64 k2, .int .i64 n2, .string s2]), undef, undef, undef, undef, undef, undef, undef, undef, undef, undef, undef, undef, undef, undef, undef, undef, undef, undef, undef, undef, undef, undef, undef, undef, undef], defers := [] } u := by
  refine wpAnyD_two (i := 4) (j := 6) (oi := { dst := some 11, op := Go.Op.call { callee := Go.Callee.value (Go.Operand.func 35), args := #[Go.Operand.tmp 10], argTypes := #[23] }, type := 20, pos := "order.go:26", after := #[{ on := 3, ground := Go.Ground.data }, { on := 2, ground := Go.Ground.chain }], guard := none }) (oj := { dst := some 5, op := Go.Op.alloc 70, type := 0, pos := "order.go:26", after := #[], guard := none }) (by kernel_rfl) rfl rfl ?_ ?_
  · intro K hK
    go_simp
    refine (C4 _ HB).mono ?_
    rintro e u' ⟨rfl, hb⟩
    refine hK _ _ (.inr fun _ => bel_step HB hb) ?_
    clear hK
    try simp only [Act.put, List.setIfInBounds_toArray, List.set_cons_zero, List.set_cons_succ]
    exact st_301 C1 C2 C4 C5 FIN (bel_step HB hb) ((hb.block _ (lt_of z6)).trans z6) l6
  · intro K hK
    go_simp
    refine hK _ _ (.inr fun _ => HB.alloc HB.size _) ?_
    clear hK
    try simp only [Act.put, List.setIfInBounds_toArray, List.set_cons_zero, List.set_cons_succ]
    exact st_211 C1 C2 C4 C5 FIN (HB.alloc HB.size _) (heap_alloc_new u key0) HB.size ((Below.heap_alloc u key0 _ (lt_of z6)).trans z6) l6 (Nat.ne_of_gt (lt_of z6))
set_option maxHeartbeats 2000000 in
theorem st_200 (C1 : RB W 35 #[(.agg #[.int .i64 k1, .int .i64 n1, .string s1])] I1) (C2 : RB W 55 #[I1] (key r1 m1 t1)) (C4 : RB W 35 #[(.agg #[.int .i64 k2, .int .i64 n2, .string s2])] I2) (C5 : RB W 55 #[I2] (key r2 m2 t2)) (FIN : ∀ (g5 g6 : Nat) (u : World), g5 ≠ g6 → W.heap.size ≤ g5 → W.heap.size ≤ g6 → u.heap[g5]? = some (.cells #[.int .i64 r1, .int .i64 m1, .string t1] 70) → u.heap[g6]? = some (.cells #[.int .i64 r2, .int .i64 m2, .string t2] 70) → Below W.heap.size W u → Q .normal { tmps := #[(.agg #[.int .i64 k1, .int .i64 n1, .string s1]), (.agg #[.int .i64 k2, .int .i64 n2, .string s2]), (.pointer (some ⟨w0, 0, none⟩)), (.pointer (some ⟨w0 + 1, 0, none⟩)), (.int .i64 0), (.pointer (some ⟨g5, 0, none⟩)), (.pointer (some ⟨g6, 0, none⟩)), (.agg #[.int .i64 k1, .int .i64 n1, .string s1]), I1, (key r1 m1 t1), (.agg #[.int .i64 k2, .int .i64 n2, .string s2]), I2, (key r2 m2 t2), undef, undef, undef, undef, undef, undef, undef, undef, undef, undef, undef, undef, undef, undef, undef, undef, undef, undef, undef, undef, undef, undef, undef], defers := [] } u) {u : World} (HB : Below W.heap.size W u) :
    wpAnyD Tryd.prog .any ops1 Q (fun x => Below W.heap.size W x) (fun _ => false) 6 #[true, true, true, true, false, false, false, false, false, false] { tmps := #[(.agg #[.int .i64 k1, .int .i64 n1, .string s1]), (.agg #[.int .i64 k2, .int .i64 n2, .string s2]), (.pointer (some ⟨w0, 0, none⟩)), (.pointer (some ⟨w0 + 1, 0, none⟩)), (.int .i64 0), undef, undef, (.agg #[.int .i64 k1, .int .i64 n1, .string s1]), I1, (key r1 m1 t1), (.agg #[.int .i64 k2, .int .i64 n2, .string s2]), undef, undef, undef, undef, undef, undef, undef, undef, undef, undef, undef, undef, undef, undef, undef, undef, undef, undef, undef, undef, undef, undef, undef, undef, undef], defers := [] } u := by
  refine wpAnyD_three (i := 4) (j := 6) (k := 7) (oi := { dst := some 11, op := Go.Op.call { callee := Go.Callee.value (Go.Operand.func 35), args := #[Go.Operand.tmp 10], argTypes := #[23] }, type := 20, pos := "order.go:26", after := #[{ on := 3, ground := Go.Ground.data }, { on := 2, ground := Go.Ground.chain }], guard := none }) (oj := { dst := some 5, op := Go.Op.alloc 70, type := 0, pos := "order.go:26", after := #[], guard := none }) (ok := { dst := some 6, op := Go.Op.alloc 70, type := 0, pos := "order.go:26", after := #[], guard := none }) (by kernel_rfl) rfl rfl rfl ?_ ?_ ?_
  · intro K hK
    go_simp
    refine (C4 _ HB).mono ?_
    rintro e u' ⟨rfl, hb⟩
    refine hK _ _ (.inr fun _ => bel_step HB hb) ?_
    clear hK
    try simp only [Act.put, List.setIfInBounds_toArray, List.set_cons_zero, List.set_cons_succ]
    exact st_300 C1 C2 C4 C5 FIN (bel_step HB hb)
  · intro K hK
    go_simp
    refine hK _ _ (.inr fun _ => HB.alloc HB.size _) ?_
    clear hK
    try simp only [Act.put, List.setIfInBounds_toArray, List.set_cons_zero, List.set_cons_succ]
    exact st_210 C1 C2 C4 C5 FIN (HB.alloc HB.size _) (heap_alloc_new u key0) HB.size
  · intro K hK
    go_simp
    refine hK _ _ (.inr fun _ => HB.alloc HB.size _) ?_
    clear hK
    try simp only [Act.put, List.setIfInBounds_toArray, List.set_cons_zero, List.set_cons_succ]
    exact st_201 C1 C2 C4 C5 FIN (HB.alloc HB.size _) (heap_alloc_new u key0) HB.size
set_option maxHeartbeats 2000000 in
theorem st_111 (C1 : RB W 35 #[(.agg #[.int .i64 k1, .int .i64 n1, .string s1])] I1) (C2 : RB W 55 #[I1] (key r1 m1 t1)) (C4 : RB W 35 #[(.agg #[.int .i64 k2, .int .i64 n2, .string s2])] I2) (C5 : RB W 55 #[I2] (key r2 m2 t2)) (FIN : ∀ (g5 g6 : Nat) (u : World), g5 ≠ g6 → W.heap.size ≤ g5 → W.heap.size ≤ g6 → u.heap[g5]? = some (.cells #[.int .i64 r1, .int .i64 m1, .string t1] 70) → u.heap[g6]? = some (.cells #[.int .i64 r2, .int .i64 m2, .string t2] 70) → Below W.heap.size W u → Q .normal { tmps := #[(.agg #[.int .i64 k1, .int .i64 n1, .string s1]), (.agg #[.int .i64 k2, .int .i64 n2, .string s2]), (.pointer (some ⟨w0, 0, none⟩)), (.pointer (some ⟨w0 + 1, 0, none⟩)), (.int .i64 0), (.pointer (some ⟨g5, 0, none⟩)), (.pointer (some ⟨g6, 0, none⟩)), (.agg #[.int .i64 k1, .int .i64 n1, .string s1]), I1, (key r1 m1 t1), (.agg #[.int .i64 k2, .int .i64 n2, .string s2]), I2, (key r2 m2 t2), undef, undef, undef, undef, undef, undef, undef, undef, undef, undef, undef, undef, undef, undef, undef, undef, undef, undef, undef, undef, undef, undef, undef], defers := [] } u) {g5 g6 : Nat} {u : World} (HB : Below W.heap.size W u) (z5 : u.heap[g5]? = some key0) (l5 : W.heap.size ≤ g5) (z6 : u.heap[g6]? = some key0) (l6 : W.heap.size ≤ g6) (ne : g5 ≠ g6) :
    wpAnyD Tryd.prog .any ops1 Q (fun x => Below W.heap.size W x) (fun _ => false) 5 #[true, true, false, true, false, false, true, true, false, false] { tmps := #[(.agg #[.int .i64 k1, .int .i64 n1, .string s1]), (.agg #[.int .i64 k2, .int .i64 n2, .string s2]), (.pointer (some ⟨w0, 0, none⟩)), (.pointer (some ⟨w0 + 1, 0, none⟩)), (.int .i64 0), (.pointer (some ⟨g5, 0, none⟩)), (.pointer (some ⟨g6, 0, none⟩)), (.agg #[.int .i64 k1, .int .i64 n1, .string s1]), I1, undef, (.agg #[.int .i64 k2, .int .i64 n2, .string s2]), undef, undef, undef, undef, undef, undef, undef, undef, undef, undef, undef, undef, undef, undef, undef, undef, undef, undef, undef, undef, undef, undef, undef, undef, undef], defers := [] } u := by
  refine wpAnyD_one (i := 2) (o := { dst := some 9, op := Go.Op.call { callee := Go.Callee.value (Go.Operand.func 55), args := #[Go.Operand.tmp 8], argTypes := #[20] }, type := 70, pos := "order.go:26", after := #[{ on := 1, ground := Go.Ground.data }, { on := 1, ground := Go.Ground.chain }], guard := none }) (by kernel_rfl) rfl ?_
  intro K hK
  go_simp
  refine (C2 _ HB).mono ?_
  rintro e u' ⟨rfl, hb⟩
  refine hK _ _ (.inr fun _ => bel_step HB hb) ?_
  clear hK
  try simp only [Act.put, List.setIfInBounds_toArray, List.set_cons_zero, List.set_cons_succ]
  exact st_211 C1 C2 C4 C5 FIN (bel_step HB hb) ((hb.block _ (lt_of z5)).trans z5) l5 ((hb.block _ (lt_of z6)).trans z6) l6 ne
set_option maxHeartbeats 2000000 in
theorem st_110 (C1 : RB W 35 #[(.agg #[.int .i64 k1, .int .i64 n1, .string s1])] I1) (C2 : RB W 55 #[I1] (key r1 m1 t1)) (C4 : RB W 35 #[(.agg #[.int .i64 k2, .int .i64 n2, .string s2])] I2) (C5 : RB W 55 #[I2] (key r2 m2 t2)) (FIN : ∀ (g5 g6 : Nat) (u : World), g5 ≠ g6 → W.heap.size ≤ g5 → W.heap.size ≤ g6 → u.heap[g5]? = some (.cells #[.int .i64 r1, .int .i64 m1, .string t1] 70) → u.heap[g6]? = some (.cells #[.int .i64 r2, .int .i64 m2, .string t2] 70) → Below W.heap.size W u → Q .normal { tmps := #[(.agg #[.int .i64 k1, .int .i64 n1, .string s1]), (.agg #[.int .i64 k2, .int .i64 n2, .string s2]), (.pointer (some ⟨w0, 0, none⟩)), (.pointer (some ⟨w0 + 1, 0, none⟩)), (.int .i64 0), (.pointer (some ⟨g5, 0, none⟩)), (.pointer (some ⟨g6, 0, none⟩)), (.agg #[.int .i64 k1, .int .i64 n1, .string s1]), I1, (key r1 m1 t1), (.agg #[.int .i64 k2, .int .i64 n2, .string s2]), I2, (key r2 m2 t2), undef, undef, undef, undef, undef, undef, undef, undef, undef, undef, undef, undef, undef, undef, undef, undef, undef, undef, undef, undef, undef, undef, undef], defers := [] } u) {g5 : Nat} {u : World} (HB : Below W.heap.size W u) (z5 : u.heap[g5]? = some key0) (l5 : W.heap.size ≤ g5) :
    wpAnyD Tryd.prog .any ops1 Q (fun x => Below W.heap.size W x) (fun _ => false) 6 #[true, true, false, true, false, false, true, false, false, false] { tmps := #[(.agg #[.int .i64 k1, .int .i64 n1, .string s1]), (.agg #[.int .i64 k2, .int .i64 n2, .string s2]), (.pointer (some ⟨w0, 0, none⟩)), (.pointer (some ⟨w0 + 1, 0, none⟩)), (.int .i64 0), (.pointer (some ⟨g5, 0, none⟩)), undef, (.agg #[.int .i64 k1, .int .i64 n1, .string s1]), I1, undef, (.agg #[.int .i64 k2, .int .i64 n2, .string s2]), undef, undef, undef, undef, undef, undef, undef, undef, undef, undef, undef, undef, undef, undef, undef, undef, undef, undef, undef, undef, undef, undef, undef, undef, undef], defers := [] } u := by
  refine wpAnyD_two (i := 2) (j := 7) (oi := { dst := some 9, op := Go.Op.call { callee := Go.Callee.value (Go.Operand.func 55), args := #[Go.Operand.tmp 8], argTypes := #[20] }, type := 70, pos := "order.go:26", after := #[{ on := 1, ground := Go.Ground.data }, { on := 1, ground := Go.Ground.chain }], guard := none }) (oj := { dst := some 6, op := Go.Op.alloc 70, type := 0, pos := "order.go:26", after := #[], guard := none }) (by kernel_rfl) rfl rfl ?_ ?_
  · intro K hK
    go_simp
    refine (C2 _ HB).mono ?_
    rintro e u' ⟨rfl, hb⟩
    refine hK _ _ (.inr fun _ => bel_step HB hb) ?_
    clear hK
    try simp only [Act.put, List.setIfInBounds_toArray, List.set_cons_zero, List.set_cons_succ]
    exact st_210 C1 C2 C4 C5 FIN (bel_step HB hb) ((hb.block _ (lt_of z5)).trans z5) l5
  · intro K hK
    go_simp
    refine hK _ _ (.inr fun _ => HB.alloc HB.size _) ?_
    clear hK
    try simp only [Act.put, List.setIfInBounds_toArray, List.set_cons_zero, List.set_cons_succ]
    exact st_111 C1 C2 C4 C5 FIN (HB.alloc HB.size _) ((Below.heap_alloc u key0 _ (lt_of z5)).trans z5) l5 (heap_alloc_new u key0) HB.size (Nat.ne_of_lt (lt_of z5))
set_option maxHeartbeats 2000000 in
theorem st_101 (C1 : RB W 35 #[(.agg #[.int .i64 k1, .int .i64 n1, .string s1])] I1) (C2 : RB W 55 #[I1] (key r1 m1 t1)) (C4 : RB W 35 #[(.agg #[.int .i64 k2, .int .i64 n2, .string s2])] I2) (C5 : RB W 55 #[I2] (key r2 m2 t2)) (FIN : ∀ (g5 g6 : Nat) (u : World), g5 ≠ g6 → W.heap.size ≤ g5 → W.heap.size ≤ g6 → u.heap[g5]? = some (.cells #[.int .i64 r1, .int .i64 m1, .string t1] 70) → u.heap[g6]? = some (.cells #[.int .i64 r2, .int .i64 m2, .string t2] 70) → Below W.heap.size W u → Q .normal { tmps := #[(.agg #[.int .i64 k1, .int .i64 n1, .string s1]), (.agg #[.int .i64 k2, .int .i64 n2, .string s2]), (.pointer (some ⟨w0, 0, none⟩)), (.pointer (some ⟨w0 + 1, 0, none⟩)), (.int .i64 0), (.pointer (some ⟨g5, 0, none⟩)), (.pointer (some ⟨g6, 0, none⟩)), (.agg #[.int .i64 k1, .int .i64 n1, .string s1]), I1, (key r1 m1 t1), (.agg #[.int .i64 k2, .int .i64 n2, .string s2]), I2, (key r2 m2 t2), undef, undef, undef, undef, undef, undef, undef, undef, undef, undef, undef, undef, undef, undef, undef, undef, undef, undef, undef, undef, undef, undef, undef], defers := [] } u) {g6 : Nat} {u : World} (HB : Below W.heap.size W u) (z6 : u.heap[g6]? = some key0) (l6 : W.heap.size ≤ g6) :
    wpAnyD Tryd.prog .any ops1 Q (fun x => Below W.heap.size W x) (fun _ => false) 6 #[true, true, false, true, false, false, false, true, false, false] { tmps := #[(.agg #[.int .i64 k1, .int .i64 n1, .string s1]), (.agg #[.int .i64 k2, .int .i64 n2, .string s2]), (.pointer (some ⟨w0, 0, none⟩)), (.pointer (some ⟨w0 + 1, 0, none⟩)), (.int .i64 0), undef, (.pointer (some ⟨g6, 0, none⟩)), (.agg #[.int .i64 k1, .int .i64 n1, .string s1]), I1, undef, (.agg #[.int .i64 k2, .int .i64 n2, .string s2]), undef, undef, undef, undef, undef, undef, undef, undef, undef, undef, undef, undef, undef, undef, undef, undef, undef, undef, undef, undef, undef, undef, undef, undef, undef], defers := [] } u := by
  refine wpAnyD_two (i := 2) (j := 6) (oi := { dst := some 9, op := Go.Op.call { callee := Go.Callee.value (Go.Operand.func 55), args := #[Go.Operand.tmp 8], argTypes := #[20] }, type := 70, pos := "order.go:26", after := #[{ on := 1, ground := Go.Ground.data }, { on := 1, ground := Go.Ground.chain }], guard := none }) (oj := { dst := some 5, op := Go.Op.alloc 70, type := 0, pos := "order.go:26", after := #[], guard := none }) (by kernel_rfl) rfl rfl ?_ ?_
  · intro K hK
    go_simp
    refine (C2 _ HB).mono ?_
    rintro e u' ⟨rfl, hb⟩
    refine hK _ _ (.inr fun _ => bel_step HB hb) ?_
    clear hK
    try simp only [Act.put, List.setIfInBounds_toArray, List.set_cons_zero, List.set_cons_succ]
    exact st_201 C1 C2 C4 C5 FIN (bel_step HB hb) ((hb.block _ (lt_of z6)).trans z6) l6
  · intro K hK
    go_simp
    refine hK _ _ (.inr fun _ => HB.alloc HB.size _) ?_
    clear hK
    try simp only [Act.put, List.setIfInBounds_toArray, List.set_cons_zero, List.set_cons_succ]
    exact st_111 C1 C2 C4 C5 FIN (HB.alloc HB.size _) (heap_alloc_new u key0) HB.size ((Below.heap_alloc u key0 _ (lt_of z6)).trans z6) l6 (Nat.ne_of_gt (lt_of z6))
set_option maxHeartbeats 2000000 in
theorem st_100 (C1 : RB W 35 #[(.agg #[.int .i64 k1, .int .i64 n1, .string s1])] I1) (C2 : RB W 55 #[I1] (key r1 m1 t1)) (C4 : RB W 35 #[(.agg #[.int .i64 k2, .int .i64 n2, .string s2])] I2) (C5 : RB W 55 #[I2] (key r2 m2 t2)) (FIN : ∀ (g5 g6 : Nat) (u : World), g5 ≠ g6 → W.heap.size ≤ g5 → W.heap.size ≤ g6 → u.heap[g5]? = some (.cells #[.int .i64 r1, .int .i64 m1, .string t1] 70) → u.heap[g6]? = some (.cells #[.int .i64 r2, .int .i64 m2, .string t2] 70) → Below W.heap.size W u → Q .normal { tmps := #[(.agg #[.int .i64 k1, .int .i64 n1, .string s1]), (.agg #[.int .i64 k2, .int .i64 n2, .string s2]), (.pointer (some ⟨w0, 0, none⟩)), (.pointer (some ⟨w0 + 1, 0, none⟩)), (.int .i64 0), (.pointer (some ⟨g5, 0, none⟩)), (.pointer (some ⟨g6, 0, none⟩)), (.agg #[.int .i64 k1, .int .i64 n1, .string s1]), I1, (key r1 m1 t1), (.agg #[.int .i64 k2, .int .i64 n2, .string s2]), I2, (key r2 m2 t2), undef, undef, undef, undef, undef, undef, undef, undef, undef, undef, undef, undef, undef, undef, undef, undef, undef, undef, undef, undef, undef, undef, undef], defers := [] } u) {u : World} (HB : Below W.heap.size W u) :
    wpAnyD Tryd.prog .any ops1 Q (fun x => Below W.heap.size W x) (fun _ => false) 7 #[true, true, false, true, false, false, false, false, false, false] { tmps := #[(.agg #[.int .i64 k1, .int .i64 n1, .string s1]), (.agg #[.int .i64 k2, .int .i64 n2, .string s2]), (.pointer (some ⟨w0, 0, none⟩)), (.pointer (some ⟨w0 + 1, 0, none⟩)), (.int .i64 0), undef, undef, (.agg #[.int .i64 k1, .int .i64 n1, .string s1]), I1, undef, (.agg #[.int .i64 k2, .int .i64 n2, .string s2]), undef, undef, undef, undef, undef, undef, undef, undef, undef, undef, undef, undef, undef, undef, undef, undef, undef, undef, undef, undef, undef, undef, undef, undef, undef], defers := [] } u := by
  refine wpAnyD_three (i := 2) (j := 6) (k := 7) (oi := { dst := some 9, op := Go.Op.call { callee := Go.Callee.value (Go.Operand.func 55), args := #[Go.Operand.tmp 8], argTypes := #[20] }, type := 70, pos := "order.go:26", after := #[{ on := 1, ground := Go.Ground.data }, { on := 1, ground := Go.Ground.chain }], guard := none }) (oj := { dst := some 5, op := Go.Op.alloc 70, type := 0, pos := "order.go:26", after := #[], guard := none }) (ok := { dst := some 6, op := Go.Op.alloc 70, type := 0, pos := "order.go:26", after := #[], guard := none }) (by kernel_rfl) rfl rfl rfl ?_ ?_ ?_
  · intro K hK
    go_simp
    refine (C2 _ HB).mono ?_
    rintro e u' ⟨rfl, hb⟩
    refine hK _ _ (.inr fun _ => bel_step HB hb) ?_
    clear hK
    try simp only [Act.put, List.setIfInBounds_toArray, List.set_cons_zero, List.set_cons_succ]
    exact st_200 C1 C2 C4 C5 FIN (bel_step HB hb)
  · intro K hK
    go_simp
    refine hK _ _ (.inr fun _ => HB.alloc HB.size _) ?_
    clear hK
    try simp only [Act.put, List.setIfInBounds_toArray, List.set_cons_zero, List.set_cons_succ]
    exact st_110 C1 C2 C4 C5 FIN (HB.alloc HB.size _) (heap_alloc_new u key0) HB.size
  · intro K hK
    go_simp
    refine hK _ _ (.inr fun _ => HB.alloc HB.size _) ?_
    clear hK
    try simp only [Act.put, List.setIfInBounds_toArray, List.set_cons_zero, List.set_cons_succ]
    exact st_101 C1 C2 C4 C5 FIN (HB.alloc HB.size _) (heap_alloc_new u key0) HB.size
set_option maxHeartbeats 2000000 in
theorem st_011 (C1 : RB W 35 #[(.agg #[.int .i64 k1, .int .i64 n1, .string s1])] I1) (C2 : RB W 55 #[I1] (key r1 m1 t1)) (C4 : RB W 35 #[(.agg #[.int .i64 k2, .int .i64 n2, .string s2])] I2) (C5 : RB W 55 #[I2] (key r2 m2 t2)) (FIN : ∀ (g5 g6 : Nat) (u : World), g5 ≠ g6 → W.heap.size ≤ g5 → W.heap.size ≤ g6 → u.heap[g5]? = some (.cells #[.int .i64 r1, .int .i64 m1, .string t1] 70) → u.heap[g6]? = some (.cells #[.int .i64 r2, .int .i64 m2, .string t2] 70) → Below W.heap.size W u → Q .normal { tmps := #[(.agg #[.int .i64 k1, .int .i64 n1, .string s1]), (.agg #[.int .i64 k2, .int .i64 n2, .string s2]), (.pointer (some ⟨w0, 0, none⟩)), (.pointer (some ⟨w0 + 1, 0, none⟩)), (.int .i64 0), (.pointer (some ⟨g5, 0, none⟩)), (.pointer (some ⟨g6, 0, none⟩)), (.agg #[.int .i64 k1, .int .i64 n1, .string s1]), I1, (key r1 m1 t1), (.agg #[.int .i64 k2, .int .i64 n2, .string s2]), I2, (key r2 m2 t2), undef, undef, undef, undef, undef, undef, undef, undef, undef, undef, undef, undef, undef, undef, undef, undef, undef, undef, undef, undef, undef, undef, undef], defers := [] } u) {g5 g6 : Nat} {u : World} (HB : Below W.heap.size W u) (z5 : u.heap[g5]? = some key0) (l5 : W.heap.size ≤ g5) (z6 : u.heap[g6]? = some key0) (l6 : W.heap.size ≤ g6) (ne : g5 ≠ g6) :
    wpAnyD Tryd.prog .any ops1 Q (fun x => Below W.heap.size W x) (fun _ => false) 6 #[true, false, false, true, false, false, true, true, false, false] { tmps := #[(.agg #[.int .i64 k1, .int .i64 n1, .string s1]), (.agg #[.int .i64 k2, .int .i64 n2, .string s2]), (.pointer (some ⟨w0, 0, none⟩)), (.pointer (some ⟨w0 + 1, 0, none⟩)), (.int .i64 0), (.pointer (some ⟨g5, 0, none⟩)), (.pointer (some ⟨g6, 0, none⟩)), (.agg #[.int .i64 k1, .int .i64 n1, .string s1]), undef, undef, (.agg #[.int .i64 k2, .int .i64 n2, .string s2]), undef, undef, undef, undef, undef, undef, undef, undef, undef, undef, undef, undef, undef, undef, undef, undef, undef, undef, undef, undef, undef, undef, undef, undef, undef], defers := [] } u := by
  refine wpAnyD_one (i := 1) (o := { dst := some 8, op := Go.Op.call { callee := Go.Callee.value (Go.Operand.func 35), args := #[Go.Operand.tmp 7], argTypes := #[23] }, type := 20, pos := "order.go:26", after := #[{ on := 0, ground := Go.Ground.data }], guard := none }) (by kernel_rfl) rfl ?_
  intro K hK
  go_simp
  refine (C1 _ HB).mono ?_
  rintro e u' ⟨rfl, hb⟩
  refine hK _ _ (.inr fun _ => bel_step HB hb) ?_
  clear hK
  try simp only [Act.put, List.setIfInBounds_toArray, List.set_cons_zero, List.set_cons_succ]
  exact st_111 C1 C2 C4 C5 FIN (bel_step HB hb) ((hb.block _ (lt_of z5)).trans z5) l5 ((hb.block _ (lt_of z6)).trans z6) l6 ne
set_option maxHeartbeats 2000000 in
theorem st_010 (C1 : RB W 35 #[(.agg #[.int .i64 k1, .int .i64 n1, .string s1])] I1) (C2 : RB W 55 #[I1] (key r1 m1 t1)) (C4 : RB W 35 #[(.agg #[.int .i64 k2, .int .i64 n2, .string s2])] I2) (C5 : RB W 55 #[I2] (key r2 m2 t2)) (FIN : ∀ (g5 g6 : Nat) (u : World), g5 ≠ g6 → W.heap.size ≤ g5 → W.heap.size ≤ g6 → u.heap[g5]? = some (.cells #[.int .i64 r1, .int .i64 m1, .string t1] 70) → u.heap[g6]? = some (.cells #[.int .i64 r2, .int .i64 m2, .string t2] 70) → Below W.heap.size W u → Q .normal { tmps := #[(.agg #[.int .i64 k1, .int .i64 n1, .string s1]), (.agg #[.int .i64 k2, .int .i64 n2, .string s2]), (.pointer (some ⟨w0, 0, none⟩)), (.pointer (some ⟨w0 + 1, 0, none⟩)), (.int .i64 0), (.pointer (some ⟨g5, 0, none⟩)), (.pointer (some ⟨g6, 0, none⟩)), (.agg #[.int .i64 k1, .int .i64 n1, .string s1]), I1, (key r1 m1 t1), (.agg #[.int .i64 k2, .int .i64 n2, .string s2]), I2, (key r2 m2 t2), undef, undef, undef, undef, undef, undef, undef, undef, undef, undef, undef, undef, undef, undef, undef, undef, undef, undef, undef, undef, undef, undef, undef], defers := [] } u) {g5 : Nat} {u : World} (HB : Below W.heap.size W u) (z5 : u.heap[g5]? = some key0) (l5 : W.heap.size ≤ g5) :
    wpAnyD Tryd.prog .any ops1 Q (fun x => Below W.heap.size W x) (fun _ => false) 7 #[true, false, false, true, false, false, true, false, false, false] { tmps := #[(.agg #[.int .i64 k1, .int .i64 n1, .string s1]), (.agg #[.int .i64 k2, .int .i64 n2, .string s2]), (.pointer (some ⟨w0, 0, none⟩)), (.pointer (some ⟨w0 + 1, 0, none⟩)), (.int .i64 0), (.pointer (some ⟨g5, 0, none⟩)), undef, (.agg #[.int .i64 k1, .int .i64 n1, .string s1]), undef, undef, (.agg #[.int .i64 k2, .int .i64 n2, .string s2]), undef, undef, undef, undef, undef, undef, undef, undef, undef, undef, undef, undef, undef, undef, undef, undef, undef, undef, undef, undef, undef, undef, undef, undef, undef], defers := [] } u := by
  refine wpAnyD_two (i := 1) (j := 7) (oi := { dst := some 8, op := Go.Op.call { callee := Go.Callee.value (Go.Operand.func 35), args := #[Go.Operand.tmp 7], argTypes := #[23] }, type := 20, pos := "order.go:26", after := #[{ on := 0, ground := Go.Ground.data }], guard := none }) (oj := { dst := some 6, op := Go.Op.alloc 70, type := 0, pos := "order.go:26", after := #[], guard := none }) (by kernel_rfl) rfl rfl ?_ ?_
  · intro K hK
    go_simp
    refine (C1 _ HB).mono ?_
    rintro e u' ⟨rfl, hb⟩
    refine hK _ _ (.inr fun _ => bel_step HB hb) ?_
    clear hK
    try simp only [Act.put, List.setIfInBounds_toArray, List.set_cons_zero, List.set_cons_succ]
    exact st_110 C1 C2 C4 C5 FIN (bel_step HB hb) ((hb.block _ (lt_of z5)).trans z5) l5
  · intro K hK
    go_simp
    refine hK _ _ (.inr fun _ => HB.alloc HB.size _) ?_
    clear hK
    try simp only [Act.put, List.setIfInBounds_toArray, List.set_cons_zero, List.set_cons_succ]
    exact st_011 C1 C2 C4 C5 FIN (HB.alloc HB.size _) ((Below.heap_alloc u key0 _ (lt_of z5)).trans z5) l5 (heap_alloc_new u key0) HB.size (Nat.ne_of_lt (lt_of z5))
set_option maxHeartbeats 2000000 in
theorem st_001 (C1 : RB W 35 #[(.agg #[.int .i64 k1, .int .i64 n1, .string s1])] I1) (C2 : RB W 55 #[I1] (key r1 m1 t1)) (C4 : RB W 35 #[(.agg #[.int .i64 k2, .int .i64 n2, .string s2])] I2) (C5 : RB W 55 #[I2] (key r2 m2 t2)) (FIN : ∀ (g5 g6 : Nat) (u : World), g5 ≠ g6 → W.heap.size ≤ g5 → W.heap.size ≤ g6 → u.heap[g5]? = some (.cells #[.int .i64 r1, .int .i64 m1, .string t1] 70) → u.heap[g6]? = some (.cells #[.int .i64 r2, .int .i64 m2, .string t2] 70) → Below W.heap.size W u → Q .normal { tmps := #[(.agg #[.int .i64 k1, .int .i64 n1, .string s1]), (.agg #[.int .i64 k2, .int .i64 n2, .string s2]), (.pointer (some ⟨w0, 0, none⟩)), (.pointer (some ⟨w0 + 1, 0, none⟩)), (.int .i64 0), (.pointer (some ⟨g5, 0, none⟩)), (.pointer (some ⟨g6, 0, none⟩)), (.agg #[.int .i64 k1, .int .i64 n1, .string s1]), I1, (key r1 m1 t1), (.agg #[.int .i64 k2, .int .i64 n2, .string s2]), I2, (key r2 m2 t2), undef, undef, undef, undef, undef, undef, undef, undef, undef, undef, undef, undef, undef, undef, undef, undef, undef, undef, undef, undef, undef, undef, undef], defers := [] } u) {g6 : Nat} {u : World} (HB : Below W.heap.size W u) (z6 : u.heap[g6]? = some key0) (l6 : W.heap.size ≤ g6) :
    wpAnyD Tryd.prog .any ops1 Q (fun x => Below W.heap.size W x) (fun _ => false) 7 #[true, false, false, true, false, false, false, true, false, false] { tmps := #[(.agg #[.int .i64 k1, .int .i64 n1, .string s1]), (.agg #[.int .i64 k2, .int .i64 n2, .string s2]), (.pointer (some ⟨w0, 0, none⟩)), (.pointer (some ⟨w0 + 1, 0, none⟩)), (.int .i64 0), undef, (.pointer (some ⟨g6, 0, none⟩)), (.agg #[.int .i64 k1, .int .i64 n1, .string s1]), undef, undef, (.agg #[.int .i64 k2, .int .i64 n2, .string s2]), undef, undef, undef, undef, undef, undef, undef, undef, undef, undef, undef, undef, undef, undef, undef, undef, undef, undef, undef, undef, undef, undef, undef, undef, undef], defers := [] } u := by
  refine wpAnyD_two (i := 1) (j := 6) (oi := { dst := some 8, op := Go.Op.call { callee := Go.Callee.value (Go.Operand.func 35), args := #[Go.Operand.tmp 7], argTypes := #[23] }, type := 20, pos := "order.go:26", after := #[{ on := 0, ground := Go.Ground.data }], guard := none }) (oj := { dst := some 5, op := Go.Op.alloc 70, type := 0, pos := "order.go:26", after := #[], guard := none }) (by kernel_rfl) rfl rfl ?_ ?_
  · intro K hK
    go_simp
    refine (C1 _ HB).mono ?_
    rintro e u' ⟨rfl, hb⟩
    refine hK _ _ (.inr fun _ => bel_step HB hb) ?_
    clear hK
    try simp only [Act.put, List.setIfInBounds_toArray, List.set_cons_zero, List.set_cons_succ]
    exact st_101 C1 C2 C4 C5 FIN (bel_step HB hb) ((hb.block _ (lt_of z6)).trans z6) l6
  · intro K hK
    go_simp
    refine hK _ _ (.inr fun _ => HB.alloc HB.size _) ?_
    clear hK
    try simp only [Act.put, List.setIfInBounds_toArray, List.set_cons_zero, List.set_cons_succ]
    exact st_011 C1 C2 C4 C5 FIN (HB.alloc HB.size _) (heap_alloc_new u key0) HB.size ((Below.heap_alloc u key0 _ (lt_of z6)).trans z6) l6 (Nat.ne_of_gt (lt_of z6))
set_option maxHeartbeats 2000000 in
theorem st_000 (C1 : RB W 35 #[(.agg #[.int .i64 k1, .int .i64 n1, .string s1])] I1) (C2 : RB W 55 #[I1] (key r1 m1 t1)) (C4 : RB W 35 #[(.agg #[.int .i64 k2, .int .i64 n2, .string s2])] I2) (C5 : RB W 55 #[I2] (key r2 m2 t2)) (FIN : ∀ (g5 g6 : Nat) (u : World), g5 ≠ g6 → W.heap.size ≤ g5 → W.heap.size ≤ g6 → u.heap[g5]? = some (.cells #[.int .i64 r1, .int .i64 m1, .string t1] 70) → u.heap[g6]? = some (.cells #[.int .i64 r2, .int .i64 m2, .string t2] 70) → Below W.heap.size W u → Q .normal { tmps := #[(.agg #[.int .i64 k1, .int .i64 n1, .string s1]), (.agg #[.int .i64 k2, .int .i64 n2, .string s2]), (.pointer (some ⟨w0, 0, none⟩)), (.pointer (some ⟨w0 + 1, 0, none⟩)), (.int .i64 0), (.pointer (some ⟨g5, 0, none⟩)), (.pointer (some ⟨g6, 0, none⟩)), (.agg #[.int .i64 k1, .int .i64 n1, .string s1]), I1, (key r1 m1 t1), (.agg #[.int .i64 k2, .int .i64 n2, .string s2]), I2, (key r2 m2 t2), undef, undef, undef, undef, undef, undef, undef, undef, undef, undef, undef, undef, undef, undef, undef, undef, undef, undef, undef, undef, undef, undef, undef], defers := [] } u) {u : World} (HB : Below W.heap.size W u) :
    wpAnyD Tryd.prog .any ops1 Q (fun x => Below W.heap.size W x) (fun _ => false) 8 #[true, false, false, true, false, false, false, false, false, false] { tmps := #[(.agg #[.int .i64 k1, .int .i64 n1, .string s1]), (.agg #[.int .i64 k2, .int .i64 n2, .string s2]), (.pointer (some ⟨w0, 0, none⟩)), (.pointer (some ⟨w0 + 1, 0, none⟩)), (.int .i64 0), undef, undef, (.agg #[.int .i64 k1, .int .i64 n1, .string s1]), undef, undef, (.agg #[.int .i64 k2, .int .i64 n2, .string s2]), undef, undef, undef, undef, undef, undef, undef, undef, undef, undef, undef, undef, undef, undef, undef, undef, undef, undef, undef, undef, undef, undef, undef, undef, undef], defers := [] } u := by
  refine wpAnyD_three (i := 1) (j := 6) (k := 7) (oi := { dst := some 8, op := Go.Op.call { callee := Go.Callee.value (Go.Operand.func 35), args := #[Go.Operand.tmp 7], argTypes := #[23] }, type := 20, pos := "order.go:26", after := #[{ on := 0, ground := Go.Ground.data }], guard := none }) (oj := { dst := some 5, op := Go.Op.alloc 70, type := 0, pos := "order.go:26", after := #[], guard := none }) (ok := { dst := some 6, op := Go.Op.alloc 70, type := 0, pos := "order.go:26", after := #[], guard := none }) (by kernel_rfl) rfl rfl rfl ?_ ?_ ?_
  · intro K hK
    go_simp
    refine (C1 _ HB).mono ?_
    rintro e u' ⟨rfl, hb⟩
    refine hK _ _ (.inr fun _ => bel_step HB hb) ?_
    clear hK
    try simp only [Act.put, List.setIfInBounds_toArray, List.set_cons_zero, List.set_cons_succ]
    exact st_100 C1 C2 C4 C5 FIN (bel_step HB hb)
  · intro K hK
    go_simp
    refine hK _ _ (.inr fun _ => HB.alloc HB.size _) ?_
    clear hK
    try simp only [Act.put, List.setIfInBounds_toArray, List.set_cons_zero, List.set_cons_succ]
    exact st_010 C1 C2 C4 C5 FIN (HB.alloc HB.size _) (heap_alloc_new u key0) HB.size
  · intro K hK
    go_simp
    refine hK _ _ (.inr fun _ => HB.alloc HB.size _) ?_
    clear hK
    try simp only [Act.put, List.setIfInBounds_toArray, List.set_cons_zero, List.set_cons_succ]
    exact st_001 C1 C2 C4 C5 FIN (HB.alloc HB.size _) (heap_alloc_new u key0) HB.size
set_option maxHeartbeats 2000000 in
theorem region1 {id : Nat} {u : World} (C1 : RB W 35 #[(.agg #[.int .i64 k1, .int .i64 n1, .string s1])] I1) (C2 : RB W 55 #[I1] (key r1 m1 t1)) (C4 : RB W 35 #[(.agg #[.int .i64 k2, .int .i64 n2, .string s2])] I2) (C5 : RB W 55 #[I2] (key r2 m2 t2)) (FIN : ∀ (g5 g6 : Nat) (u : World), g5 ≠ g6 → W.heap.size ≤ g5 → W.heap.size ≤ g6 → u.heap[g5]? = some (.cells #[.int .i64 r1, .int .i64 m1, .string t1] 70) → u.heap[g6]? = some (.cells #[.int .i64 r2, .int .i64 m2, .string t2] 70) → Below W.heap.size W u → Q .normal { tmps := #[(.agg #[.int .i64 k1, .int .i64 n1, .string s1]), (.agg #[.int .i64 k2, .int .i64 n2, .string s2]), (.pointer (some ⟨w0, 0, none⟩)), (.pointer (some ⟨w0 + 1, 0, none⟩)), (.int .i64 0), (.pointer (some ⟨g5, 0, none⟩)), (.pointer (some ⟨g6, 0, none⟩)), (.agg #[.int .i64 k1, .int .i64 n1, .string s1]), I1, (key r1 m1 t1), (.agg #[.int .i64 k2, .int .i64 n2, .string s2]), I2, (key r2 m2 t2), undef, undef, undef, undef, undef, undef, undef, undef, undef, undef, undef, undef, undef, undef, undef, undef, undef, undef, undef, undef, undef, undef, undef], defers := [] } u) (HQ : ∀ c (a : Act) x (d : Nat) (v : Value), Q (.panic c) (a.put (some d) v) x → Q (.panic c) a x) (HB : Below W.heap.size W u)
    (B1 : ∀ x : World, Below W.heap.size W x → x.cell? ⟨w0, 0, none⟩ = some (.int .i64 k1) ∧ x.cell? ⟨w0, 1, none⟩ = some (.int .i64 n1) ∧ x.cell? ⟨w0, 2, none⟩ = some (.string s1))
    (B2 : ∀ x : World, Below W.heap.size W x → x.cell? ⟨w0 + 1, 0, none⟩ = some (.int .i64 k2) ∧ x.cell? ⟨w0 + 1, 1, none⟩ = some (.int .i64 n2) ∧ x.cell? ⟨w0 + 1, 2, none⟩ = some (.string s2)) :
    (Code.region id ops1 true).wp Tryd.prog Q { tmps := #[(.agg #[.int .i64 k1, .int .i64 n1, .string s1]), (.agg #[.int .i64 k2, .int .i64 n2, .string s2]), (.pointer (some ⟨w0, 0, none⟩)), (.pointer (some ⟨w0 + 1, 0, none⟩)), (.int .i64 0), undef, undef, undef, undef, undef, undef, undef, undef, undef, undef, undef, undef, undef, undef, undef, undef, undef, undef, undef, undef, undef, undef, undef, undef, undef, undef, undef, undef, undef, undef, undef], defers := [] } u := by
  refine wp_region_d (fun x => Below W.heap.size W x) (fun _ => false) (by kernel_rfl) ?_
  refine wpAnyD_loadd (i := 0) (oi := { dst := some 7, op := Go.Op.load 23 (Go.Operand.tmp 2), type := 23, pos := "order.go:26", after := #[], guard := none }) (d := 7) (v := (.agg #[.int .i64 k1, .int .i64 n1, .string s1])) rfl rfl (by kernel_rfl) (by kernel_rfl) (by kernel_rfl) (by kernel_rfl) (fun _ _ _ h => HQ _ _ _ _ _ h) (by rfl) (fun x hx => exec_ld23 rfl rfl (B1 x hx)) HB.drew ?_
  try simp only [Act.put, List.setIfInBounds_toArray, List.set_cons_zero, List.set_cons_succ]
  refine wpAnyD_loadd (i := 3) (oi := { dst := some 10, op := Go.Op.load 23 (Go.Operand.tmp 3), type := 23, pos := "order.go:26", after := #[], guard := none }) (d := 10) (v := (.agg #[.int .i64 k2, .int .i64 n2, .string s2])) rfl rfl (by kernel_rfl) (by kernel_rfl) (by kernel_rfl) (by kernel_rfl) (fun _ _ _ h => HQ _ _ _ _ _ h) (by rfl) (fun x hx => exec_ld23 rfl rfl (B2 x hx)) HB.drew ?_
  try simp only [Act.put, List.setIfInBounds_toArray, List.set_cons_zero, List.set_cons_succ]
  exact st_000 C1 C2 C4 C5 FIN HB.drew
end
end Go.Proofs.YtelpllilepkjmaaDoor
