/- A row that is taken from its head: cut, searched, one put between. -/
import Derived.Test.YtbbcnjagndfmbaaXSuf
import Derived.Test.YtbbcnjagndfmbaaDQueue
namespace Go.Proofs.Ytbbcnjagndfmbaa
open Go.RowKit Go.Dp
set_option maxRecDepth 100000
set_option linter.unusedVariables false
set_option linter.unusedSimpArgs false
/-- Cells of a row set one by one, as a list. -/
theorem setCells_row (g : Nat) (t : TypeId) : ∀ (vs : List Value) (o : Nat) (w : World) (cur : Array Value), w.heap[g]? = some (.cells cur t (0, 0)) → o + vs.length ≤ cur.size →
    (∃ cur', (w.setCells g o vs).heap[g]? = some (.cells cur' t (0, 0)) ∧ cur'.toList = cur.toList.take o ++ vs ++ cur.toList.drop (o + vs.length)) ∧ w.grownBy (w.setCells g o vs) (some g)
  | [], o, w, cur, h, hl => by
    refine ⟨⟨cur, h, ?_⟩, World.grownBy.refl _ _⟩
    simp
  | v :: r, o, w, cur, h, hl => by
    simp only [List.length_cons] at hl
    have h1 : (w.setCell ⟨g, o, none⟩ v).heap[g]? = some (.cells (cur.setIfInBounds o v) t (0, 0)) := heap_setCell_same w g o cur t v h
    obtain ⟨⟨cur', e, c⟩, gr⟩ := setCells_row g t r (o + 1) (w.setCell ⟨g, o, none⟩ v) _ h1 (by simp; omega)
    have g1 : w.grownBy (w.setCell ⟨g, o, none⟩ v) (some g) := ⟨rfl, rfl, rfl, by simp, fun k _ hk => heap_setCell_other w ⟨g, o, none⟩ k v (fun e => hk (by rw [e]))⟩
    refine ⟨⟨cur', e, ?_⟩, ⟨gr.os.trans g1.os, gr.tape.trans g1.tape, gr.output.trans g1.output, Nat.le_trans g1.size gr.size, fun k hk hne => (gr.block k (Nat.lt_of_lt_of_le hk g1.size) hne).trans (g1.block k hk hne)⟩⟩
    have hsz : cur.toList.length = cur.size := Array.length_toList
    have t1 : (cur.toList.set o v).take (o + 1) = cur.toList.take o ++ [v] := by
      rw [List.take_succ_eq_append_getElem (by rw [List.length_set]; omega), List.take_set_of_le (Nat.le_refl _), List.getElem_set_self]
    have t2 : (cur.toList.set o v).drop (o + 1 + r.length) = cur.toList.drop (o + (v :: r).length) := by
      rw [List.drop_set_of_lt (by omega), List.length_cons]
      congr 1
      omega
    rw [c, Array.toList_setIfInBounds, t1, t2]
    simp
theorem ins_list {cur cs : List Value} {off n i : Nat} {x : Value} (hc : cs = (cur.drop off).take n) (hi : i ≤ n) (hs : off + (n + 1) ≤ cur.length) :
    (((cur.take (off + (i + 1)) ++ cs.drop i ++ cur.drop (off + (i + 1) + (cs.drop i).length)).take (off + i) ++ [x] ++ (cur.take (off + (i + 1)) ++ cs.drop i ++ cur.drop (off + (i + 1) + (cs.drop i).length)).drop (off + i + 1)).drop off).take (n + 1) = cs.take i ++ x :: cs.drop i := by
  subst hc
  apply List.ext_getElem?
  intro j
  simp only [List.getElem?_take, List.getElem?_drop, List.getElem?_append, List.length_append, List.length_take, List.length_drop, List.length_cons, List.length_nil, List.getElem?_cons, List.getElem?_nil]
  repeat' split
  all_goals first
    | rfl
    | (exfalso; omega)
    | (congr 1; omega)
theorem end_list {cur cs : List Value} {off n : Nat} {x : Value} (hc : cs = (cur.drop off).take n) (hs : off + (n + 1) ≤ cur.length) :
    ((cur.take (off + n) ++ [x] ++ cur.drop (off + n + [x].length)).drop off).take (n + 1) = cs ++ [x] := by
  subst hc
  apply List.ext_getElem?
  intro j
  simp only [List.getElem?_take, List.getElem?_drop, List.getElem?_append, List.length_append, List.length_take, List.length_drop, List.length_cons, List.length_nil, List.getElem?_cons, List.getElem?_nil]
  repeat' split
  all_goals first
    | rfl
    | (exfalso; omega)
    | (congr 1; omega)
theorem grow_list {row cs z : List Value} {n i : Nat} {x : Value} (hr : row = cs.take i ++ z) (hn : cs.length = n) (hi : i ≤ n) (hz : n + 1 - i ≤ z.length) :
    (((row.take i ++ [x] ++ row.drop (i + [x].length)).take (i + 1) ++ cs.drop i ++ (row.take i ++ [x] ++ row.drop (i + [x].length)).drop (i + 1 + (cs.drop i).length)).drop 0).take (n + 1) = cs.take i ++ x :: cs.drop i := by
  subst hr
  apply List.ext_getElem?
  intro j
  simp only [List.getElem?_take, List.getElem?_drop, List.getElem?_append, List.length_append, List.length_take, List.length_drop, List.length_cons, List.length_nil, List.getElem?_cons, List.getElem?_nil]
  repeat' split
  all_goals first
    | rfl
    | (exfalso; omega)
    | exact (List.getElem?_eq_none (by omega)).symm
    | (congr 1; omega)
theorem Kp.bel {w w' : World} {S : Nat → Prop} {base : Nat} (h : Kp w w' S) (hs : ∀ x, S x → base ≤ x) (hb : base ≤ w.heap.size) : Below base w w' :=
  ⟨h.os, h.tape, h.output, h.size, fun i hi => h.block i (by omega) fun e => by have := hs i e; omega⟩
theorem nV_one (l : List Nat) : ∀ v ∈ nV l, v.oneCell' = true := fun v hv => by
  obtain ⟨x, _, rfl⟩ := List.mem_map.1 hv
  rfl
/-- What Insert leaves. -/
def InsP (base : Nat) (w : World) (rv : Value) (l : List Nat) (e : Ending) (w' : World) : Prop :=
  ∃ a c, e = .returned (.slice a l.length c) ∧ Mo base w' 3 (.slice a l.length c) l.length (nV l) ∧ Kp w w' (fun y => rv.ownBlock = some y) ∧ ((Value.slice a l.length c).ownBlock = rv.ownBlock ∨ ∀ y, (Value.slice a l.length c).ownBlock = some y → w.heap.size ≤ y)
theorem ins_any {base : Nat} {w : World} {rv : Value} {rl : List Nat} (h : Mo base w 3 rv rl.length (nV rl)) (x : Nat) {i : Nat} (hi : i ≤ rl.length) (hn : rl.length ≤ 100000) (hbase : base ≤ w.heap.size) :
    Calls Try.prog 21 #[rv, .int .i64 (i : Nat), .slice (some ⟨w.heap.size, 0, none⟩) 1 1] (w.alloc (.cells #[.int .i64 (x : Nat)] 3)) (InsP base w rv (rl.take i ++ x :: rl.drop i)) := by
  have hW : (w.alloc (.cells #[.int .i64 (x : Nat)] 3)).heap.size = w.heap.size + 1 := by simp
  have hB : Below w.heap.size w (w.alloc (.cells #[.int .i64 (x : Nat)] 3)) := bel_alloc (Below.refl _ _) _
  have hvb := heap_alloc_new w (.cells #[.int .i64 (x : Nat)] 3)
  have hM := h.below hB
  have hvs : ∀ j v, ([.int .i64 (x : Nat)] : List Value)[j]? = some v → (w.alloc (.cells #[.int .i64 (x : Nat)] 3)).cell? ⟨w.heap.size, 0 + j, none⟩ = some v := fun j v hj => by
    rw [cell_of_row _ w.heap.size (0 + j) _ _ _ hvb, Nat.zero_add, ← hj]
    simp
  have h1v : ∀ v ∈ ([.int .i64 (x : Nat)] : List Value), v.oneCell' = true := fun v hv => by rw [List.mem_singleton.1 hv]; rfl
  have hfv : ∀ k, (w.alloc (.cells #[.int .i64 (x : Nat)] 3)).frozen? ⟨w.heap.size, k, none⟩ = false := fun k => frozen_of_row _ w.heap.size k _ _ hvb
  have hsv : (w.alloc (.cells #[.int .i64 (x : Nat)] 3)).shape? w.heap.size = some (3, 1) := by unfold World.shape?; rw [hvb]; rfl
  have hnv : nV (rl.take i ++ x :: rl.drop i) = (nV rl).take i ++ .int .i64 (x : Nat) :: (nV rl).drop i := by
    simp [List.map_append, List.map_take, List.map_drop]
  have hll : (rl.take i ++ x :: rl.drop i).length = rl.length + 1 := by
    simp
    omega
  have hlv : (nV rl).length = rl.length := List.length_map ..
  generalize hWW : w.alloc (.cells #[.int .i64 (x : Nat)] 3) = W at *
  have szr : ∀ (l : List Value) (k : Nat), (l.toArray ++ Builtin.zeroCells (Value.int .i64 0).cells k).size = l.length + k := fun l k => by
    rw [Array.size_append, size_zeroCells]
    simp [Value.cells]
  have grow : ∀ (w' : World) (row : Array Value) (k c : Nat), W.heap.size ≤ k → w'.heap[k]? = some (.cells row 3 (0, 0)) → (row.toList.drop 0).take (rl.length + 1) = (nV rl).take i ++ .int .i64 (x : Nat) :: (nV rl).drop i → rl.length + 1 ≤ c → c ≤ maxLen → c ≤ row.size → Kp W w' (fun _ => False) →
      InsP base w rv (rl.take i ++ x :: rl.drop i) (.returned (.slice (some ⟨k, 0, none⟩) (rl.length + 1) c)) w' := fun w' row k c hk hr ht h1 h2 h3 kp => by
    refine ⟨some ⟨k, 0, none⟩, c, by rw [hll], ?_, ((Kp.of_below hB).trans kp).sub (fun y hy => (hy.elim id id).elim), .inr fun y hy => by
      have : y = k := by simpa [Value.ownBlock] using hy.symm
      omega⟩
    rw [hll]
    exact .inr ⟨k, 0, c, row, rfl, by omega, hr, h1, h2, by omega, by rw [hnv]; exact ht⟩
  rcases hM with ⟨rfl, q1, q2⟩ | ⟨g, off, cap, cur, rfl, b1, b2, b3, b4, b5, b6⟩
  · have hz : rl = [] := List.eq_nil_of_length_eq_zero q1
    subst hz
    obtain rfl : i = 0 := by simpa using hi
    have C := Any2.slices_Insert_int_end_grow Try.laysNm221 none 0 0 w.heap.size 0 1 1 [] [.int .i64 (x : Nat)] W (by omega) (by omega) (by omega) (by omega) rfl rfl (fun _ => rfl) (fun a ha => by cases ha) hvs h1v
    refine Calls.mono C ?_
    rintro e w' ⟨rfl, rfl⟩
    refine grow _ _ W.heap.size _ (Nat.le_refl _) (heap_alloc_new W.drew _) ?_ (grownCap_ge _ _ _ _) (grownCap_le_maxLen _ _ _ _ (by decide)) ?_ (Kp.of_below (bel_alloc (Below.refl W.heap.size W).drew _))
    · simp
    · have hge : 0 + 1 ≤ grownCap W (0 + 1) 0 3 := grownCap_ge W (0 + 1) 0 3
      rw [szr]
      simp only [List.length_append, List.length_nil, List.length_cons]
      show grownCap W (0 + 1) 0 3 ≤ 0 + (0 + 1) + (grownCap W (0 + 1) 0 3 - (0 + 1))
      omega
  · have hsz : cur.toList.length = cur.size := Array.length_toList
    have hmax : cap ≤ 9223372036854775807 := by have := b4; unfold maxLen at this; omega
    have hcs : ∀ j v, (nV rl)[j]? = some v → W.cell? ⟨g, off + j, none⟩ = some v := fun j v hj => by
      have hjn : j < rl.length := by have := (List.getElem?_eq_some_iff.1 hj).1; omega
      rw [cell_of_row W g (off + j) _ _ _ b2]
      rw [← b6, List.getElem?_take, if_pos hjn, List.getElem?_drop] at hj
      rw [← hj]
      simp
    have hsp : ∀ j, off + j < cur.size → (W.cell? ⟨g, off + j, none⟩).isSome = true := fun j hj => by
      rw [cell_of_row W g (off + j) _ _ _ b2, Array.getElem?_eq_getElem hj]
      rfl
    have hfz : ∀ j, W.frozen? ⟨g, j, none⟩ = false := fun j => frozen_of_row _ g j _ _ b2
    have hne : w.heap.size ≠ g := by
      rcases h with ⟨e, _⟩ | ⟨g', off', cap', cur', e, _, c2, _⟩
      · cases e
      · cases e
        have := (Array.getElem?_eq_some_iff.1 c2).1
        omega
    have keepK : ∀ w', Kp W w' (fun y => y = g) → Kp w w' (fun y => (Value.slice (some ⟨g, off, none⟩) rl.length cap).ownBlock = some y) := fun w' kp =>
      ((Kp.of_below hB).trans kp).sub fun y hy => by
        rcases hy with hy | hy
        · exact hy.elim
        · rw [hy]; rfl
    by_cases hroom : rl.length + 1 ≤ cap
    · by_cases hin : i < rl.length
      · have C := Any2.slices_Insert_int_shift Try.laysNm221 g off rl.length cap i w.heap.size 0 1 1 (nV rl) [.int .i64 (x : Nat)] W hin (by omega) hroom hmax hne hlv rfl hcs (fun j hj => hsp j (by omega)) (fun j _ => hfz _) hvs (nV_one rl) h1v 3 3 1 cur.size hsv (by unfold World.shape?; rw [b2]) (by omega) (hfv 0) (hfv 1)
        refine Calls.mono C ?_
        rintro e w' ⟨rfl, rfl⟩
        have hdl : ((nV rl).drop i).length = rl.length - i := by rw [List.length_drop, hlv]
        obtain ⟨⟨c1, e1, l1⟩, k1⟩ := setCells_row g 3 ((nV rl).drop i) (off + (i + 1)) W.drew cur b2 (by rw [hdl]; omega)
        have hs1 : c1.size = cur.size := by
          have := congrArg List.length l1
          simp only [List.length_append, List.length_take, List.length_drop, Array.length_toList] at this
          omega
        obtain ⟨⟨c2, e2, l2⟩, k2⟩ := setCells_row g 3 [.int .i64 (x : Nat)] (off + i) _ c1 e1 (by simp; omega)
        have hs2 : c2.size = cur.size := by
          have := congrArg List.length l2
          simp only [List.length_append, List.length_take, List.length_drop, Array.length_toList, List.length_cons, List.length_nil] at this
          omega
        refine ⟨some ⟨g, off, none⟩, cap, by rw [hll], ?_, keepK _ (((Kp.of_below (Below.refl W.heap.size W).drew).trans ((Kp.of_grown k1).trans (Kp.of_grown k2))).sub fun y hy => by simpa [eq_comm] using hy), .inl rfl⟩
        rw [hll]
        refine .inr ⟨g, off, cap, c2, rfl, b1, e2, hroom, b4, by omega, ?_⟩
        rw [hnv, l2, l1]
        exact ins_list (x := .int .i64 (x : Nat)) b6.symm (by omega) (by omega)
      · obtain rfl : i = rl.length := by omega
        have C := Any2.slices_Insert_int_end_room Try.laysNm221 g off rl.length cap w.heap.size 0 1 1 [.int .i64 (x : Nat)] W (by omega) hroom hmax rfl (fun j hj => by rw [Nat.add_assoc]; exact hsp _ (by omega)) (fun j _ => hfz _) hvs h1v
        refine Calls.mono C ?_
        rintro e w' ⟨rfl, rfl⟩
        obtain ⟨⟨c2, e2, l2⟩, k2⟩ := setCells_row g 3 [.int .i64 (x : Nat)] (off + rl.length) W cur b2 (by simp; omega)
        have hs2 : c2.size = cur.size := by
          have := congrArg List.length l2
          simp only [List.length_append, List.length_take, List.length_drop, Array.length_toList, List.length_cons, List.length_nil] at this
          omega
        refine ⟨some ⟨g, off, none⟩, cap, by rw [hll], ?_, keepK _ ((Kp.of_grown k2).sub fun y hy => by simpa [eq_comm] using hy), .inl rfl⟩
        rw [hll]
        refine .inr ⟨g, off, cap, c2, rfl, b1, e2, hroom, b4, by omega, ?_⟩
        have t1 : (nV rl).take rl.length = nV rl := List.take_of_length_le (by omega)
        have t2 : (nV rl).drop rl.length = [] := List.drop_eq_nil_of_le (by omega)
        rw [hnv, l2, t1, t2]
        exact end_list (x := .int .i64 (x : Nat)) b6.symm (by omega)
    · by_cases hin : i < rl.length
      · have C := Any2.slices_Insert_int_grow Try.laysNm221 g off rl.length cap i w.heap.size 0 1 1 (nV rl) [.int .i64 (x : Nat)] W hin (by omega) (by omega) (by omega) (by omega) hlv rfl hcs hvs (nV_one rl) h1v
        refine Calls.mono C ?_
        rintro e w' ⟨rfl, rfl⟩
        have hge : rl.length + 1 ≤ grownCap W (rl.length + 1) cap 3 := grownCap_ge _ _ _ _
        have hle : grownCap W (rl.length + 1) cap 3 ≤ maxLen := grownCap_le_maxLen _ _ _ _ (by unfold maxLen; omega)
        show InsP _ _ _ _ (.returned (.slice (some ⟨W.heap.size, 0, none⟩) (rl.length + 1) (grownCap W (rl.length + 1) cap 3))) ((((W.alloc (.cells (((nV rl).take i).toArray ++ Builtin.zeroCells (Value.int .i64 0).cells (rl.length + 1 - i) ++ Builtin.zeroCells (Value.int .i64 0).cells (grownCap W (rl.length + 1) cap 3 - (rl.length + 1))) 3)).drew.setCells W.heap.size i [.int .i64 (x : Nat)]).drew).setCells W.heap.size (i + 1) ((nV rl).drop i))
        generalize grownCap W (rl.length + 1) cap 3 = G at *
        have hrow : (((nV rl).take i).toArray ++ Builtin.zeroCells (Value.int .i64 0).cells (rl.length + 1 - i) ++ Builtin.zeroCells (Value.int .i64 0).cells (G - (rl.length + 1))).toList = (nV rl).take i ++ ((Builtin.zeroCells (Value.int .i64 0).cells (rl.length + 1 - i)).toList ++ (Builtin.zeroCells (Value.int .i64 0).cells (G - (rl.length + 1))).toList) := by simp
        have hz1 : (Builtin.zeroCells (Value.int .i64 0).cells (rl.length + 1 - i)).toList.length = rl.length + 1 - i := by rw [Array.length_toList, size_zeroCells]; simp [Value.cells]
        have hz2 : (Builtin.zeroCells (Value.int .i64 0).cells (G - (rl.length + 1))).toList.length = G - (rl.length + 1) := by rw [Array.length_toList, size_zeroCells]; simp [Value.cells]
        generalize ((nV rl).take i).toArray ++ Builtin.zeroCells (Value.int .i64 0).cells (rl.length + 1 - i) ++ Builtin.zeroCells (Value.int .i64 0).cells (G - (rl.length + 1)) = ROW at *
        have hrs : ROW.size = G := by
          have := congrArg List.length hrow
          rw [List.length_append, List.length_append, hz1, hz2, List.length_take, hlv, Array.length_toList] at this
          omega
        have hdl : ((nV rl).drop i).length = rl.length - i := by rw [List.length_drop, hlv]
        obtain ⟨⟨c1, e1, l1⟩, k1⟩ := setCells_row W.heap.size 3 [.int .i64 (x : Nat)] i (W.alloc (.cells ROW 3)).drew ROW (heap_alloc_new W _) (by simp; omega)
        have hs1 : c1.size = G := by
          have := congrArg List.length l1
          simp only [List.length_append, List.length_take, List.length_drop, Array.length_toList, List.length_cons, List.length_nil] at this
          omega
        obtain ⟨⟨c2, e2, l2⟩, k2⟩ := setCells_row W.heap.size 3 ((nV rl).drop i) (i + 1) ((W.alloc (.cells ROW 3)).drew.setCells W.heap.size i [.int .i64 (x : Nat)]).drew c1 e1 (by rw [hdl]; omega)
        have hs2 : c2.size = G := by
          have := congrArg List.length l2
          simp only [List.length_append, List.length_take, List.length_drop, Array.length_toList] at this
          omega
        refine grow _ c2 W.heap.size G (Nat.le_refl _) e2 ?_ hge hle (by omega) ?_
        · rw [l2, l1]
          exact grow_list (x := .int .i64 (x : Nat)) hrow hlv (by omega) (by rw [List.length_append, hz1]; omega)
        · have kA : Kp W (W.alloc (.cells ROW 3)).drew (fun _ => False) := Kp.of_below (bel_alloc (Below.refl W.heap.size W) _).drew
          have szA : (W.alloc (.cells ROW 3)).drew.heap.size = W.heap.size + 1 := by simp [World.drew]
          exact ⟨k2.os.trans (k1.os.trans kA.os), k2.tape.trans (k1.tape.trans kA.tape), k2.output.trans (k1.output.trans kA.output), Nat.le_trans kA.size (Nat.le_trans k1.size k2.size), fun y hy _ => (k2.block y (by have := k1.size; show y < ((W.alloc (.cells ROW 3)).drew.setCells W.heap.size i [.int .i64 (x : Nat)]).heap.size; omega) (by simp; omega)).trans ((k1.block y (by omega) (by simp; omega)).trans (kA.block y hy id))⟩
      · obtain rfl : i = rl.length := by omega
        have C := Any2.slices_Insert_int_end_grow Try.laysNm221 (some ⟨g, off, none⟩) rl.length cap w.heap.size 0 1 1 (nV rl) [.int .i64 (x : Nat)] W (by omega) (by omega) (by omega) (by omega) hlv rfl (fun e => by cases e) (fun a ha j v hj => by cases ha; rw [Addr.add_mid]; exact hcs j v hj) hvs h1v
        refine Calls.mono C ?_
        rintro e w' ⟨rfl, rfl⟩
        have hge : rl.length + 1 ≤ grownCap W (rl.length + 1) cap 3 := grownCap_ge _ _ _ _
        have hle : grownCap W (rl.length + 1) cap 3 ≤ maxLen := grownCap_le_maxLen _ _ _ _ (by unfold maxLen; omega)
        refine grow _ _ W.heap.size _ (Nat.le_refl _) (heap_alloc_new W.drew _) ?_ hge hle ?_ (Kp.of_below (bel_alloc (Below.refl W.heap.size W).drew _))
        · have t1 : (nV rl).take rl.length = nV rl := List.take_of_length_le (by omega)
          have t2 : (nV rl).drop rl.length = [] := List.drop_eq_nil_of_le (by omega)
          have t3 : (nV rl ++ [Value.int .i64 (x : Nat)]).length = rl.length + 1 := by rw [List.length_append, hlv]; rfl
          rw [t1, t2, List.drop_zero, Array.toList_append, ← t3]
          exact List.take_left
        · rw [szr, List.length_append, hlv]
          show grownCap W (rl.length + 1) cap 3 ≤ rl.length + 1 + (grownCap W (rl.length + 1) cap 3 - (rl.length + 1))
          omega
end Go.Proofs.Ytbbcnjagndfmbaa
