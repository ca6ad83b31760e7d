/- The contract of takeList of cells. -/
import Derived.Test.YtohndhmhgdelmaaDoorTkCell
namespace Go.Proofs.YtohndhmhgdelmaaDoor
open Go.RowKit
set_option maxRecDepth 100000

theorem itemsR_cons {α : Type} {R : Rdr α} {m : Nat} {l r : List UInt8} {x : α} (h : R l = some (x, r)) : itemsR R (m + 1) l = (itemsR R m r).bind fun q => some (x :: q.1, q.2) := by
  rw [itemsR, h]; rfl
theorem itemsR_none {α : Type} {R : Rdr α} {m : Nat} {l : List UInt8} (h : R l = none) : itemsR R (m + 1) l = none := by
  rw [itemsR, h]; rfl
theorem itemsR_step {α : Type} {R : Rdr α} {n k m : Nat} {r rest rest' : List UInt8} {xs : List α} {x : α} (hm : n - k = m + 1) (h : R rest = some (x, rest')) (ht : itemsR R n r = (itemsR R (n - k) rest).bind fun p => some (xs ++ p.1, p.2)) :
    itemsR R n r = (itemsR R (n - (k + 1)) rest').bind fun p => some ((xs ++ [x]) ++ p.1, p.2) := by
  rw [ht, hm, itemsR_cons h, show n - (k + 1) = m by omega]
  rcases itemsR R m rest' with _ | ⟨ys, t⟩
  · rfl
  · simp

theorem items_start {α : Type} (o : Option (List α × List UInt8)) : o = o.bind fun p => some ([] ++ p.1, p.2) := by rcases o with _ | ⟨x, y⟩ <;> rfl

def cellsC (L : List CellT) : Nat → List Value := fun j => (L[j]?.map cellC).getD []
def OwnCl (base : Nat) (w : World) (v : Value) (L : List CellT) : Prop := OwnR base 101 3 w v L.length (cellsC L)
theorem OwnCl.cls {base : Nat} {w : World} {v : Value} {L : List CellT} (h : OwnCl base w v L) : Cls base w.heap.size w v L := OwnR.rws h
theorem own_cell {base : Nat} {w : World} {v : Value} {L : List CellT} (h : OwnCl base w v L) (hb : base ≤ w.heap.size) (x : CellT) (hl : L.length + 1 ≤ 1099511627776) :
    ∃ v' w', (Builtin.append_ #[50, 50] 50 #[v, .slice (some ⟨w.heap.size, 0, none⟩) 1 1]).run Tryd.prog (w.alloc (.cells #[.int .i64 x.row, .int .i64 x.col, .string x.text] 101)) = .ok v' w' ∧ OwnCl base w' v' (L ++ [x]) ∧ Below base w w' := by
  have h' : OwnR base 101 3 (w.alloc (.cells (cellC x).toArray 101)) v L.length (cellsC L) := h.of_block fun g hg => Below.heap_alloc w _ g (h.lt hg).2
  obtain ⟨v', w', h1, h2, _, h4, _⟩ := row_app Tryd.underlying50 inf101 rfl (by decide) h' (b := w.heap.size) (es := cellC x) (z := (0, 0)) (heap_alloc_new w _) rfl (by intro u hu; simp [cellC] at hu; rcases hu with rfl | rfl | rfl <;> rfl) (by omega) hl (by simp; omega)
  refine ⟨v', w', h1, ?_, ((Below.refl base w).alloc hb _).trans h4⟩
  unfold OwnCl
  rw [List.length_append]
  refine (show OwnR base 101 3 w' v' (L.length + 1) (cellsC (L ++ [x])) from ?_)
  obtain ⟨xs, k1, k2⟩ := h2
  refine ⟨xs, k1, fun j i u hj hu => k2 j i u hj ?_⟩
  dsimp only
  by_cases hjn : j = L.length
  · rw [if_pos hjn]
    subst hjn
    simpa [cellsC] using hu
  · rw [if_neg hjn]
    simpa [cellsC, List.getElem?_append_left (show j < L.length by omega)] using hu

def TkC (base B : Nat) (w : World) (rb : Nat) (o : Option (List CellT × List UInt8)) (e : Ending) (w' : World) : Prop :=
  (∃ v xs r, o = some (xs, r) ∧ e = .returned v ∧ OwnCl base w' v xs ∧ Rd B w' rb r ∧ w.grownBy w' (some rb)) ∨ (o = none ∧ e = .panicked noneP ∧ w.grownBy w' (some rb))

set_option maxHeartbeats 2000000 in
theorem takeCells_tk {B : Nat} {w : World} {rb : Nat} {l : List UInt8} (h : Rd B w rb l) (hB : B ≤ w.heap.size) (hrb : rb < w.heap.size) (hl : l.length ≤ 1099511627776) :
    Calls Tryd.prog 76 #[ptrOf rb, .func (.func 77) #[] #[]] w fun e w' => TkC w.heap.size B w rb (lstR cellR l) e w' := by
  have C := count_any h hl
  rcases hnx : countR l with _ | ⟨n, r⟩
  · have C2 : Calls Tryd.prog 74 #[ptrOf rb] w fun e w' => e = .panicked noneP ∧ Hid (w.grownBy w' (some rb)) := by
      refine C.mono ?_
      rintro e w' hc
      rw [hnx] at hc
      exact ⟨hc.2, hc.1⟩
    have HC : Hid (lstR cellR l = none) := by show _ = _; unfold lstR; rw [hnx]; rfl
    clear h hnx C
    go_enter Tryd.func76, Tryd.ntmps76
    go_wp2_with (go_at_call 74; refine C2.mono ?_; rintro e w1 ⟨rfl, hg⟩)
    exact ⟨rfl, .inr ⟨HC.out, rfl, hg.out⟩⟩
  · have hr := countR_len hnx
    have C2 : Calls Tryd.prog 74 #[ptrOf rb] w fun e w' => e = .returned (.int .i64 n) ∧ Hid (Rd B w' rb r ∧ w.grownBy w' (some rb)) := by
      refine C.mono ?_
      rintro e w' hc
      rw [hnx] at hc
      exact ⟨hc.2.1, hc.2.2.1, hc.1⟩
    have hn : n ≤ 1099511627776 := by
      have := (countR_inv hnx).2.1
      omega
    have HC : Hid (lstR cellR l = itemsR cellR n r) := by show _ = _; unfold lstR; rw [hnx]; rfl
    have HL : Hid (r.length ≤ 1099511627776) := by show _ ≤ _; omega
    have HB : Hid (B ≤ w.heap.size) := hB
    have HRB : Hid (rb < w.heap.size) := hrb
    clear h hnx C hr hl hB hrb
    go_enter Tryd.func76, Tryd.ntmps76
    go_wp2_with (go_at_call 74; refine C2.mono ?_; rintro e w1 ⟨rfl, HR⟩)
    clear C2
    go_loopw [5, 8] (fun u5 u8 wr => ∃ k : Nat, u8 = .int .i64 k ∧ k ≤ n ∧ Hid (∃ xs rest, xs.length = k ∧ rest.length ≤ r.length ∧ itemsR cellR n r = (itemsR cellR (n - k) rest).bind (fun p => some (xs ++ p.1, p.2)) ∧ OwnCl w.heap.size wr u5 xs ∧ Rd B wr rb rest ∧ w.grownBy wr (some rb))) (fun _ u8 _ => n - (intOf u8).toNat)
    case atStart => exact ⟨0, rfl, by omega, [], r, rfl, Nat.le_refl _, items_start _, OwnR.nil _ _ _ _ _, HR.out.1, HR.out.2⟩
    case round =>
      obtain ⟨k, rfl, hk, HD⟩ := hrel
      clear HR
      by_cases hlt : k < n
      · have C2 : Calls Tryd.prog 77 #[ptrOf rb] wr fun e w' => (∃ x : CellT, e = .returned (cellV x) ∧ ∃ v3 w3, Hid ((Builtin.append_ #[50, 50] 50 #[u5, .slice (some ⟨w'.heap.size, 0, none⟩) 1 1]).run Tryd.prog (w'.alloc (.cells #[.int .i64 x.row, .int .i64 x.col, .string x.text] 101)) = .ok v3 w3) ∧
            Hid (∃ xs rest, xs.length = k + 1 ∧ rest.length ≤ r.length ∧ itemsR cellR n r = (itemsR cellR (n - (k + 1)) rest).bind (fun p => some (xs ++ p.1, p.2)) ∧ OwnCl w.heap.size w3 v3 xs ∧ Rd B w3 rb rest ∧ w.grownBy w3 (some rb))) ∨
            (e = .panicked noneP ∧ Hid (TkC w.heap.size B w rb (lstR cellR l) (.panicked noneP) w')) := by
          obtain ⟨xs, rest, hx, hrl, ht, ho, hrd, hg⟩ := HD.out
          obtain ⟨m, hm⟩ : ∃ m, n - k = m + 1 := ⟨n - k - 1, by omega⟩
          refine (takeCell_tk hrd (Nat.le_trans HB.out hg.size) (Nat.lt_of_lt_of_le HRB.out hg.size) (by have := HL.out; omega)).mono ?_
          rintro e w' (⟨x, r', q, rfl, rd1, g1⟩ | ⟨q, rfl, g1⟩)
          · left
            have hsz : w.heap.size ≤ w'.heap.size := Nat.le_trans hg.size g1.size
            have ho1 : OwnCl w.heap.size w' u5 xs := OwnR.of_block ho fun g hgg => g1.block g (OwnR.lt ho hgg).2 (by have := (OwnR.lt ho hgg).1; have := HRB.out; simp; omega)
            obtain ⟨v3, w3, run, o3, b3⟩ := own_cell ho1 hsz x (by omega)
            have hrl2 := inv_len cellB_pos cellR_inv q
            refine ⟨x, rfl, v3, w3, run, xs ++ [x], r', by simp [hx], by omega, itemsR_step hm q ht, o3, rd1.kept HB.out HRB.out b3, grown_below (grown_trans hg g1) b3 (Nat.le_refl _)⟩
          · right
            refine ⟨rfl, .inr ⟨?_, rfl, grown_trans hg g1⟩⟩
            rw [HC.out, ht, hm, itemsR_none q]
            rfl
        clear HD
        go_wp2_with fail
        refine C2.mono ?_
        rintro e w2 (⟨x, rfl, v3, w3, R3, HF⟩ | ⟨rfl, HT⟩)
        rotate_left
        · exact ⟨rfl, HT.out⟩
        clear C2
        go_wp2_with (at_builtin; refine wpList_append_run rfl _ _ 50 rfl _ _ _ _ rfl rfl R3.out ?_)
        clear R3
        go_roundw
        case rel => exact ⟨k + 1, by go_num, by omega, HF⟩
        case measure => simp [intOf]; omega
      · have HT : Hid (TkC w.heap.size B w rb (lstR cellR l) (.returned u5) wr) := by
          obtain ⟨xs, rest, hx, hrl, ht, ho, hrd, hg⟩ := HD.out
          refine .inl ⟨u5, xs, rest, ?_, rfl, ho, hrd, hg⟩
          rw [HC.out, ht, show n - k = 0 by omega]
          simp [itemsR]
        clear HD HC
        go_wp2_with fail
        go_ret
        exact HT.out
end Go.Proofs.YtohndhmhgdelmaaDoor
