/- The contract of takeBook. -/
import Derived.Test.YtohndhmhgdelmaaDoorBkTkN
import Derived.Test.YtohndhmhgdelmaaDoorBkTkL
import Derived.Test.YtohndhmhgdelmaaDoorBkTkS
namespace Go.Proofs.YtohndhmhgdelmaaDoor
open Go.RowKit
set_option maxRecDepth 100000
set_option linter.unusedVariables false
theorem size_alloc (w : World) (o : Obj) : (w.alloc o).heap.size = w.heap.size + 1 := by simp

structure OwnBk (base : Nat) (w : World) (sv nv lv : Value) (x : BookT) : Prop where
  sh : OwnSl base w sv x.sheets
  nm : OwnNl base w nv x.names
  lk : OwnLl base w lv x.links
theorem OwnBk.bkm {base : Nat} {w : World} {sv nv lv : Value} {x : BookT} (h : OwnBk base w sv nv lv x) : BkM base w.heap.size w sv nv lv x := ⟨h.sh.shs, h.nm.nms, h.lk.lks⟩
theorem OwnBk.kept {base : Nat} {w w' : World} {sv nv lv : Value} {x : BookT} (h : OwnBk base w sv nv lv x) (hk : ∀ i, base ≤ i → i < w.heap.size → w'.heap[i]? = w.heap[i]?) : OwnBk base w' sv nv lv x :=
  ⟨h.sh.kept hk, OwnR.of_block h.nm fun g hg => hk g (OwnR.lt h.nm hg).1 (OwnR.lt h.nm hg).2, OwnR.of_block h.lk fun g hg => hk g (OwnR.lt h.lk hg).1 (OwnR.lt h.lk hg).2⟩
theorem OwnSl.mono {base base' : Nat} {w : World} {v : Value} {L : List SheetT} (h : OwnSl base w v L) (hb : base' ≤ base) : OwnSl base' w v L := by
  obtain ⟨cv, h1, h2⟩ := h
  exact ⟨cv, h1.mono hb, fun j o hj => ⟨OwnR.mono (h2 j o hj).1 hb, (h2 j o hj).2⟩⟩
theorem OwnBk.mono {base base' : Nat} {w : World} {sv nv lv : Value} {x : BookT} (h : OwnBk base w sv nv lv x) (hb : base' ≤ base) : OwnBk base' w sv nv lv x := ⟨h.sh.mono hb, OwnR.mono h.nm hb, OwnR.mono h.lk hb⟩
def TkB (base B : Nat) (w : World) (rb : Nat) (o : Option (BookT × List UInt8)) (e : Ending) (w' : World) : Prop :=
  (∃ sv nv lv x r, o = some (x, r) ∧ e = .returned (.agg #[sv, nv, lv]) ∧ OwnBk base w' sv nv lv x ∧ Rd B w' rb r ∧ w.grownBy w' (some rb)) ∨ (o = none ∧ e = .panicked noneP ∧ w.grownBy w' (some rb))
theorem lstR_len {α : Type} {R : Rdr α} {l : List UInt8} {x : List α} {r : List UInt8} {B : α → List UInt8} {P : α → Prop} (hR : ∀ l x r, R l = some (x, r) → l = B x ++ r ∧ P x) (h : lstR R l = some (x, r)) : r.length < l.length := by
  obtain ⟨e, _⟩ := lstR_inv hR h
  have := numB_pos x.length
  rw [e]
  simp [lstB]
  omega

set_option maxHeartbeats 4000000 in
theorem takeBook_tk {B : Nat} {w : World} {rb : Nat} {l : List UInt8} (h : Rd B w rb l) (hB : B ≤ w.heap.size) (hrb : rb < w.heap.size) (hl : l.length ≤ 536870911999) :
    Calls Tryd.prog 30 #[ptrOf rb] w fun e w' => TkB w.heap.size B w rb (bookR l) e w' := by
  have rd0 : Hid (Rd B (w.alloc (.cells #[.slice none 0 0, .slice none 0 0, .slice none 0 0] 26)) rb l) := h.alloc hB hrb _
  have HB : Hid (B ≤ w.heap.size) := hB
  have C1 := takeSheets_tk rd0.out (by simpa using Nat.le_succ_of_le hB) (by simpa using Nat.lt_succ_of_lt hrb) hl
  clear h hB
  go_enter Tryd.func30, Tryd.ntmps30
  go_wp2_with fail
  refine C1.mono ?_
  rintro e w1 (⟨sv, x1, l1, q1, rfl, o1, rd, g⟩ | ⟨q1, rfl, g⟩)
  rotate_left
  · exact ⟨rfl, .inr ⟨by simp only [bookR, q1, Option.bind_none], rfl, grown_trans grown_alloc g⟩⟩
  have t1 := lstR_len sheetR_inv q1
  have Q1 : Hid _ := q1
  have G1 : Hid _ := g
  have O1 : Hid (OwnSl (w.alloc (.cells #[.slice none 0 0, .slice none 0 0, .slice none 0 0] 26)).heap.size w1 sv x1) := o1
  have C2 := takeNames_tk rd (Nat.le_trans (by simpa using Nat.le_succ_of_le HB.out) G1.out.size) (Nat.lt_of_lt_of_le (by simpa using Nat.lt_succ_of_lt hrb) G1.out.size) (by omega)
  clear C1 rd q1 g rd0 o1
  go_wp2_with fail
  refine C2.mono ?_
  rintro e w2 (⟨nv, x2, l2, q2, rfl, o2, rd, g⟩ | ⟨q2, rfl, g⟩)
  rotate_left
  · exact ⟨rfl, .inr ⟨by simp only [bookR, Q1.out, q2, Option.bind_some, Option.bind_none], rfl, grown_trans grown_alloc (grown_trans G1.out g)⟩⟩
  have t2 := lstR_len nameR_inv q2
  have Q2 : Hid _ := q2
  have G2 : Hid _ := grown_trans G1.out g
  have O2 : Hid (OwnNl w1.heap.size w2 nv x2) := o2
  have E12 : Hid (w1.grownBy w2 (some rb)) := g
  have C3 := takeLinks_tk rd (Nat.le_trans (by simpa using Nat.le_succ_of_le HB.out) G2.out.size) (Nat.lt_of_lt_of_le (by simpa using Nat.lt_succ_of_lt hrb) G2.out.size) (by omega)
  clear C2 rd q2 g o2
  go_wp2_with fail
  refine C3.mono ?_
  rintro e w3 (⟨lv, x3, l3, q3, rfl, o3, rd, g⟩ | ⟨q3, rfl, g⟩)
  rotate_left
  · exact ⟨rfl, .inr ⟨by simp only [bookR, Q1.out, Q2.out, q3, Option.bind_some, Option.bind_none], rfl, grown_trans grown_alloc (grown_trans G2.out g)⟩⟩
  have Q3 : Hid _ := q3
  have G3 : Hid _ := grown_trans G2.out g
  have hsz1 : w.heap.size + 1 ≤ w1.heap.size := by have := G1.out.size; simpa using this
  have hsz2 : w.heap.size + 1 ≤ w2.heap.size := by have := G2.out.size; simpa using this
  obtain ⟨sa, sc, rfl, _, _⟩ := O1.out.shs.slice
  obtain ⟨na, nc, rfl, _, _⟩ := O2.out.nms.slice
  obtain ⟨la, lc, rfl, _, _⟩ := o3.lks.slice
  obtain ⟨wz, RS, HZ, HE, HK⟩ := take_end2 (es := #[.slice sa x1.length sc, .slice na x2.length nc, .slice la x3.length lc]) (by simpa using HB.out) hrb G3.out rd inf26 rfl rfl (by simp [Value.oneCell'])
  have OB : Hid (OwnBk w.heap.size wz (.slice sa x1.length sc) (.slice na x2.length nc) (.slice la x3.length lc) ⟨x1, x2, x3⟩) := by
    have k1 : OwnSl (w.heap.size + 1) wz (.slice sa x1.length sc) x1 := by
      have o1 := O1.out
      simp only [size_alloc] at o1
      refine o1.kept fun i hi1 hi2 => ?_
      rw [HK.out i (by omega), g.block i (Nat.lt_of_lt_of_le hi2 E12.out.size) (by simp; omega), E12.out.block i hi2 (by simp; omega)]
    have k2 : OwnNl (w.heap.size + 1) wz (.slice na x2.length nc) x2 := by
      have o2 := OwnR.mono O2.out hsz1
      exact OwnR.of_block o2 fun i hi => by
        have := OwnR.lt o2 hi
        rw [HK.out i (by omega), g.block i this.2 (by simp; omega)]
    have k3 : OwnLl (w.heap.size + 1) wz (.slice la x3.length lc) x3 := by
      have o3 := OwnR.mono o3 hsz2
      exact OwnR.of_block o3 fun i hi => by
        have := OwnR.lt o3 hi
        rw [HK.out i (by omega)]
    exact OwnBk.mono ⟨k1, k2, k3⟩ (by omega)
  clear C3 rd q3 g G1 G2 o3 hsz1 hsz2 O1 O2 E12
  go_wp2_with (refine wpList_store_run rfl 26 _ _ rfl _ _ _ rfl rfl RS.out ?_)
  refine bodyPost_ret_by (results_cell_row rfl _ _ w.heap.size 26 _ (0, 0) _ rfl HZ.out Tryd.underlying26 rfl (by kernel_rfl)) rfl (.inl ⟨_, _, _, ⟨x1, x2, x3⟩, l3, ?_, rfl, OB.out, HE.out⟩)
  simp only [bookR, Q1.out, Q2.out, Q3.out, Option.bind_some]

end Go.Proofs.YtohndhmhgdelmaaDoor
