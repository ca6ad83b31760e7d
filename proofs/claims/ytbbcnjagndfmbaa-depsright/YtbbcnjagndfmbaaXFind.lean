/- Where one is put among those that may come; how all begins; what is told of lists. -/
import Derived.Test.YtbbcnjagndfmbaaXQst
import Derived.Test.YtbbcnjagndfmbaaDReach
namespace Go.Proofs.Ytbbcnjagndfmbaa
open Go.RowKit Go.Dp
set_option maxRecDepth 100000
set_option linter.unusedVariables false
set_option linter.unusedSimpArgs false
theorem count_low : ∀ {l : List Nat} (h : l.Pairwise (· < ·)) (x : Nat), (∀ y ∈ l.take (l.countP fun y => decide (y < x)), y < x) ∧ ∀ y ∈ l.drop (l.countP fun y => decide (y < x)), x ≤ y
  | [], _, x => ⟨by simp, by simp⟩
  | a :: l, h, x => by
    obtain ⟨h1, h2⟩ := List.pairwise_cons.1 h
    obtain ⟨i1, i2⟩ := count_low h2 x
    by_cases e : a < x
    · rw [List.countP_cons_of_pos (by simpa using e), List.take_succ_cons, List.drop_succ_cons]
      refine ⟨fun y hy => ?_, i2⟩
      rcases List.mem_cons.1 hy with rfl | hy
      · exact e
      · exact i1 y hy
    · have z : (l.countP fun y => decide (y < x)) = 0 := List.countP_eq_zero.2 fun y hy => by have := h1 y hy; simp; omega
      rw [List.countP_cons_of_neg (by simpa using e), z, List.take_zero, List.drop_zero]
      refine ⟨by simp, fun y hy => ?_⟩
      rcases List.mem_cons.1 hy with rfl | hy
      · omega
      · have := h1 y hy; omega
theorem find_any {base : Nat} {w : World} {rv : Value} {rl : List Nat} (h : Mo base w 3 rv rl.length (nV rl)) (hs : rl.Pairwise (· < ·)) (x : Nat) (hn : rl.length ≤ 4398046511104) :
    Calls Try.prog 20 #[rv, .int .i64 (x : Nat)] w fun e w' => ∃ f q, e = .returned (.tuple #[.int .i64 ((rl.countP fun y => decide (y < x) : Nat) : Nat), .bool f]) ∧ w' = w.drewN q := by
  rcases h with ⟨rfl, q1, q2⟩ | ⟨g, off, cap, cur, rfl, b1, b2, b3, b4, b5, b6⟩
  · obtain rfl : rl = [] := List.eq_nil_of_length_eq_zero q1
    refine Calls.mono (Try.slices_BinarySearch_int_empty none 0 (x : Nat) w) ?_
    rintro e w' ⟨rfl, rfl⟩
    exact ⟨false, 0, rfl, rfl⟩
  · have hl : (rl.map fun y : Nat => (y : Int)).length = rl.length := List.length_map ..
    have ht : (rl.map fun y : Nat => (y : Int)).take rl.length = rl.map fun y : Nat => (y : Int) := List.take_of_length_le (by omega)
    have C := Try.slices_BinarySearch_int g off rl.length cap (rl.map fun y : Nat => (y : Int)) (x : Nat) w (by omega) (by omega) (fun j hj => by
      have hj' : j < rl.length := by omega
      have hb := congrArg (·[j]?) b6
      rw [List.getElem?_take, if_pos hj', List.getElem?_drop, List.getElem?_map, List.getElem?_eq_getElem hj'] at hb
      rw [cell_of_row w g (off + j) _ _ _ b2]
      rw [List.getD_eq_getElem?_getD, List.getElem?_map, List.getElem?_eq_getElem hj']
      simpa using hb) (by
      rw [ht, List.pairwise_map]
      exact hs.imp fun {a b} q => by omega)
    rw [ht, List.countP_map] at C
    refine Calls.mono C ?_
    rintro e w' ⟨rfl, q, rfl⟩
    have hf : ((fun y : Int => decide (y < (x : Nat))) ∘ fun y : Nat => (y : Int)) = fun y => decide (y < x) := by
      funext y
      simp
    rw [hf]
    exact ⟨_, q, rfl, rfl⟩
section
variable {w0 w : World} {Am Ar Aw : Addr} {n : Nat} {fm fr : Nat → List Nat} {fw : Nat → Nat} {rv : Value} {rl : List Nat} {ov : Value} {ol : List Nat} {b : Nat → Nat → Option Nat} {vm vr : List Value}
theorem QB.cellR {w' : World} {S : Nat → Prop} {K : Nat → Nat → Prop} (h : QB w0 w Am Ar Aw n fm fr fw rv rl ov ol b vm vr) (k : Kp w w' S) (hs : ∀ x, S x → ∃ i g, K i g ∧ b i g = some x) (h1 : ¬ K 101 0) (j : Nat) : w'.cell? (Ar.add j) = w.cell? (Ar.add j) := by
  obtain ⟨g, rfl, _, hg⟩ := h.rr.out.form
  rw [Addr.add_mid]
  exact World.cell?_of_block (k.block g hg (h.free hs h1 h.rr.blk))
theorem QQ.readyR {w' : World} (h : QQ w0 w Am Ar Aw n fm fr fw rv rl ov ol) (k : Kp w w' fun y => rv.ownBlock = some y) (j : Nat) : w'.cell? (Ar.add j) = w.cell? (Ar.add j) := by
  obtain ⟨b, vm, vr, h⟩ := h
  exact h.cellR (K := fun i j => i = 3 ∧ j = 0) k (fun y e => ⟨3, 0, ⟨rfl, rfl⟩, h.br.symm.trans e⟩) (by omega) j
theorem QQ.setWR (h : QQ w0 w Am Ar Aw n fm fr fw rv rl ov ol) {g : Nat} (z : Value) (j : Nat) : (w.setCell (Aw.add g) z).cell? (Ar.add j) = w.cell? (Ar.add j) := by
  obtain ⟨b, vm, vr, h⟩ := h
  exact h.cellR (K := fun i j => i = 2 ∧ j = 0) (Kp.of_grown (set_block h.wa g z)) (fun y e => ⟨2, 0, ⟨rfl, rfl⟩, by cases e; exact h.bw⟩) (by omega) j
theorem QQ.rdrsAt (h : QQ w0 w Am Ar Aw n fm fr fw rv rl ov ol) {g : Nat} (hg : g < n) {v : Value} (e : w.cell? (Ar.add g) = some v) : Rd w v (fr g).length (nV (fr g)) := by
  obtain ⟨a, c, h1, h2⟩ := h.rdrs hg
  rw [h1] at e
  cases e
  exact h2
theorem QQ.forms (h : QQ w0 w Am Ar Aw n fm fr fw rv rl ov ol) : (∃ a c, rv = .slice a rl.length c) ∧ ∃ a c, ov = .slice a ol.length c := by
  obtain ⟨b, vm, vr, h⟩ := h
  exact ⟨h.re.slice, own_slice h.od⟩
theorem QQ.find (h : QQ w0 w Am Ar Aw n fm fr fw rv rl ov ol) (hs : rl.Pairwise (· < ·)) (x : Nat) (hn : rl.length ≤ 4398046511104) :
    Calls Try.prog 20 #[rv, .int .i64 (x : Nat)] w fun e w' => ∃ f q, e = .returned (.tuple #[.int .i64 ((rl.countP fun y => decide (y < x) : Nat) : Nat), .bool f]) ∧ w' = w.drewN q := by
  obtain ⟨b, vm, vr, h⟩ := h
  exact find_any h.re hs x hn
theorem QQ.ins (h : QQ w0 w Am Ar Aw n fm fr fw rv rl ov ol) (x : Nat) {i : Nat} (hi : i ≤ rl.length) (hn : rl.length ≤ 100000) :
    Calls Try.prog 21 #[rv, .int .i64 (i : Nat), .slice (some ⟨w.heap.size, 0, none⟩) 1 1] (w.alloc (.cells #[.int .i64 (x : Nat)] 3)) fun e w' => ∃ v, e = .returned v ∧ QQ w0 w' Am Ar Aw n fm fr fw v (rl.take i ++ x :: rl.drop i) ov ol ∧ ∀ j, w'.cell? (Ar.add j) = w.cell? (Ar.add j) := by
  have h0 := h
  obtain ⟨b, vm, vr, h⟩ := h
  refine Calls.mono (ins_any h.re x hi hn h.bel.size) ?_
  rintro e w' ⟨a, c, rfl, hm, hk, ho⟩
  exact ⟨_, rfl, h0.ready hk hm ho, h0.readyR hk⟩
end
theorem QQ.begin {w0 w1 w2 w3 : World} {Am Ar Aw : Addr} {n : Nat} (h1 : Ro w0.heap.size w1 24 Am n n (List.replicate n (.slice none 0 0))) (b1 : Below w0.heap.size w0 w1) (h2 : Ro w1.heap.size w2 24 Ar n n (List.replicate n (.slice none 0 0))) (b2 : Below w1.heap.size w1 w2)
    (h3 : Ro w2.heap.size w3 3 Aw n n (List.replicate n (.int .i64 0))) (b3 : Below w2.heap.size w2 w3) : QQ w0 w3 Am Ar Aw n (fun _ => []) (fun _ => []) (fun _ => 0) (.slice none 0 0) [] (.slice none 0 0) [] := by
  obtain ⟨gm, rfl, m1, m2⟩ := h1.form
  obtain ⟨ga, rfl, r1, r2⟩ := h2.form
  obtain ⟨gw, rfl, q1, q2⟩ := h3.form
  have s1 := b1.size
  have s2 := b2.size
  have s3 := b3.size
  have hb : Below w0.heap.size w0 w3 := bel_step (bel_step b1 b2) b3
  refine ⟨fun k j => if k = 100 ∧ j = 0 then some gm else if k = 101 ∧ j = 0 then some ga else if k = 2 ∧ j = 0 then some gw else none, _, _, ⟨fun k1 j1 k2 j2 x e1 e2 => ?_, fun k j x e => ?_⟩, ⟨(h1.below b2).below b3, rfl, fun j hj => ⟨.slice none 0 0, by simp [hj], World.ownsRow_nil .., by simp [Value.ownBlock]⟩⟩,
    ⟨⟨World.ownsRow.mono (h2.below b3).own s1⟩, rfl, fun j hj => ⟨.slice none 0 0, by simp [hj], World.ownsRow_nil .., by simp [Value.ownBlock]⟩⟩, ⟨?_⟩, rfl, .inl ⟨rfl, rfl, rfl⟩, rfl, World.ownsRow_nil .., rfl, hb⟩
  · repeat' split at e1
    all_goals first
      | (cases e1; done)
      | (repeat' split at e2
         all_goals first
           | (cases e2; done)
           | (cases e1; cases e2; omega)
           | (cases e1; cases e2; exfalso; omega))
  · repeat' split at e
    all_goals first
      | (cases e; done)
      | (cases e; omega)
  · have e : nV ((List.range n).map fun _ => 0) = List.replicate n (.int .i64 0) := by
      apply List.ext_getElem?
      intro j
      by_cases hj : j < n
      · simp [List.getElem?_range hj, hj]
      · simp [hj]
    rw [e]
    exact World.ownsRow.mono h3.own (by omega)
section
variable {n : Nat} {E : List (Nat × Nat)} {gr : Nat → Nat}
theorem mbr_upd {k : Nat} : mbr gr (k + 1) = upd (mbr gr k) (gr k) (mbr gr k (gr k) ++ [k]) := by
  funext g
  rw [mbr_succ]
  unfold upd
  by_cases e : gr k = g
  · rw [if_pos e, if_pos e.symm, e]
  · rw [if_neg e, if_neg fun q => e q.symm]
theorem rdr_upd {P : List (Nat × Nat)} {p : Nat × Nat} (e : gr p.2 ≠ gr p.1) : rdr gr (P ++ [p]) = upd (rdr gr P) (gr p.2) (rdr gr P (gr p.2) ++ [gr p.1]) := by
  funext h
  rw [rdr_out e]
  unfold upd
  by_cases q : gr p.2 = h
  · rw [if_pos q, if_pos q.symm, q]
  · rw [if_neg q, if_neg fun z => q z.symm]
theorem wt_upd {P : List (Nat × Nat)} {p : Nat × Nat} (e : gr p.2 ≠ gr p.1) : wt gr (P ++ [p]) = upd (wt gr P) (gr p.1) (wt gr P (gr p.1) + 1) := by
  funext g
  rw [wt_out e]
  unfold upd
  by_cases q : gr p.1 = g
  · rw [if_pos q, if_pos q.symm, q]
  · rw [if_neg q, if_neg fun z => q z.symm]
theorem PP_le (k : Nat) : (PP E k).length ≤ k * E.length := by
  induction k with
  | zero => exact Nat.le_of_eq (by unfold PP; simp)
  | succ k ih =>
    have := reads_len (E := E) (a := k)
    rw [PP_succ, List.length_append, List.length_map, Nat.succ_mul]
    omega
theorem wj_len {P : List (Nat × Nat)} {out L : List Nat} {j h : Nat} : wj gr P out L j h ≤ P.length + L.length := by
  unfold wj wo
  have h1 : P.countP (fun p => gr p.1 == h && gr p.2 != h && !out.contains p.2) ≤ P.length := List.countP_le_length
  have h2 : (L.drop j).count h ≤ (L.drop j).length := List.count_le_length
  rw [List.length_drop] at h2
  omega
theorem wj_upd {P : List (Nat × Nat)} {out L : List Nat} {j : Nat} (hj : j < L.length) : upd (wj gr P out L j) L[j] (wj gr P out L (j + 1) L[j]) = wj gr P out L (j + 1) := by
  funext h
  unfold upd
  by_cases e : h = L[j]
  · rw [if_pos e, ← e]
  · rw [if_neg e, wj_succ hj, if_neg fun q => e q.symm]
    rfl
/-- Those that wait for none, as far as they were looked at. -/
def rdy (n : Nat) (E : List (Nat × Nat)) (gr : Nat → Nat) (k : Nat) : List Nat := (List.range k).filter fun a => decide (a = gr a) && decide (wt gr (PP E n) (gr a) = 0)
theorem rdyq_yes {k : Nat} (e : gr k = k) (z : wt gr (PP E n) k = 0) : rdy n E gr (k + 1) = rdy n E gr k ++ [k] := by
  unfold rdy
  rw [List.range_succ, List.filter_append]
  simp [e, z]
theorem rdyq_no {k : Nat} (e : ¬ (gr k = k ∧ wt gr (PP E n) k = 0)) : rdy n E gr (k + 1) = rdy n E gr k := by
  unfold rdy
  rw [List.range_succ, List.filter_append]
  have : (decide (k = gr k) && decide (wt gr (PP E n) (gr k) = 0)) = false := by
    rw [Bool.and_eq_false_iff]
    by_cases q : gr k = k
    · right
      rw [q]
      exact decide_eq_false fun z => e ⟨q, z⟩
    · left
      exact decide_eq_false fun z => q z.symm
  simp [this]
theorem rdyq_len {k : Nat} : (rdy n E gr k).length ≤ k := by
  have := List.length_filter_le (fun a => decide (a = gr a) && decide (wt gr (PP E n) (gr a) = 0)) (List.range k)
  rw [List.length_range] at this
  exact this
end
end Go.Proofs.Ytbbcnjagndfmbaa
