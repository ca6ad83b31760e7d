/- The contracts of takeList of changes and of takeOps. -/
import Derived.Test.YtohndhmhgdelmaaDoorTkOp
namespace Go.Proofs.YtohndhmhgdelmaaDoor
open Go.RowKit
set_option maxRecDepth 100000

def opsC (L : List OpT) (cv : Nat → Value) : Nat → List Value := fun j => (L[j]?.map fun o => opC o (cv j)).getD []
def OwnOl (base : Nat) (w : World) (v : Value) (L : List OpT) : Prop :=
  ∃ cv : Nat → Value, OwnR base 84 19 w v L.length (opsC L cv) ∧ ∀ j o, L[j]? = some o → OwnCl base w (cv j) o.cells ∧ ∀ g, (cv j).ownBlock = some g → v.ownBlock ≠ some g
theorem OwnOl.nil (w : World) (base : Nat) : OwnOl base w (.slice none 0 0) [] := ⟨fun _ => .slice none 0 0, OwnR.nil _ _ _ _ _, fun j o hj => by simp at hj⟩
theorem OwnOl.opl {base : Nat} {w : World} {v : Value} {L : List OpT} (h : OwnOl base w v L) : Opl base w.heap.size w v L := by
  obtain ⟨cv, h1, h2⟩ := h
  exact ⟨cv, h1.rws, fun j o hj => (h2 j o hj).1.cls⟩
theorem OwnOl.kept {base : Nat} {w w' : World} {v : Value} {L : List OpT} (h : OwnOl base w v L) (hk : ∀ i, base ≤ i → i < w.heap.size → w'.heap[i]? = w.heap[i]?) : OwnOl base w' v L := by
  obtain ⟨cv, h1, h2⟩ := h
  refine ⟨cv, h1.of_block fun g hg => hk g (h1.lt hg).1 (h1.lt hg).2, fun j o hj => ?_⟩
  obtain ⟨k1, k2⟩ := h2 j o hj
  exact ⟨OwnR.of_block k1 fun g hg => hk g (OwnR.lt k1 hg).1 (OwnR.lt k1 hg).2, k2⟩
theorem OwnOl.lt {base : Nat} {w : World} {v : Value} {L : List OpT} (h : OwnOl base w v L) {g : Nat} (hg : v.ownBlock = some g) : base ≤ g ∧ g < w.heap.size := by
  obtain ⟨cv, h1, h2⟩ := h
  exact h1.lt hg

theorem own_op {base : Nat} {w : World} {v : Value} {L : List OpT} (h : OwnOl base w v L) (hb : base ≤ w.heap.size) (x : OpT) {cv : Value} (hc : OwnCl base w cv x.cells) (hne : ∀ g, cv.ownBlock = some g → v.ownBlock ≠ some g) (hl : L.length + 1 ≤ 536870912000) :
    ∃ v' w', (Builtin.append_ #[37, 37] 37 #[v, .slice (some ⟨w.heap.size, 0, none⟩) 1 1]).run Tryd.prog (w.alloc (.cells #[.int .i64 x.kind, .string x.book, .string x.sheet, .int .i64 x.at1, .int .i64 x.n, .int .i64 x.row, .int .i64 x.col, .string x.text, .string x.name.scope, .string x.name.name, .string x.name.text, .string x.link.book, .string x.link.sheet, .int .i64 x.link.row, .int .i64 x.link.col, .int .i64 x.link.value.kind, .int .i64 x.link.value.n, .string x.link.value.s, cv] 84)) = .ok v' w' ∧ OwnOl base w' v' (L ++ [x]) ∧ Below base w w' := by
  obtain ⟨cvs, h1, h2⟩ := h
  have ha : ∀ g, g < w.heap.size → (w.alloc (.cells (opC x cv).toArray 84)).heap[g]? = w.heap[g]? := fun g hg => Below.heap_alloc w _ g hg
  have h' : OwnR base 84 19 (w.alloc (.cells (opC x cv).toArray 84)) v L.length (opsC L cvs) := h1.of_block fun g hg => ha g (h1.lt hg).2
  obtain ⟨ca, cc, ecv, _, _⟩ := hc.cls.slice
  obtain ⟨v', w', r1, r2, r3, r4, r5⟩ := row_app Tryd.underlying37 inf84 rfl (by decide) h' (b := w.heap.size) (es := opC x cv) (z := (0, 0)) (heap_alloc_new w _) rfl (by
    intro u hu
    rw [ecv] at hu
    simp only [opC, List.mem_cons, List.not_mem_nil, or_false] at hu
    rcases hu with rfl | rfl | rfl | rfl | rfl | rfl | rfl | rfl | rfl | rfl | rfl | rfl | rfl | rfl | rfl | rfl | rfl | rfl | rfl <;> rfl) (by omega) (by omega) (by simp; omega)
  have keep : ∀ {c : Value} {l : List CellT}, OwnCl base w c l → (∀ g, c.ownBlock = some g → v.ownBlock ≠ some g) → OwnCl base w' c l ∧ ∀ g, c.ownBlock = some g → v'.ownBlock ≠ some g := fun {c l} k1 k2 => by
    refine ⟨OwnR.of_block k1 fun g hg => ?_, fun g hg e => ?_⟩
    · have hlt := (OwnR.lt k1 hg).2
      exact (r3.block g (by simp; omega) (fun e => k2 g hg e.symm)).trans (ha g hlt)
    · rcases r5 g e with h | h
      · exact k2 g hg h
      · have := (OwnR.lt k1 hg).2
        simp at h
        omega
  refine ⟨v', w', r1, ⟨fun j => if j = L.length then cv else cvs j, ?_, fun j o hj => ?_⟩, ((Below.refl base w).alloc hb _).trans r4⟩
  · rw [List.length_append]
    refine (show OwnR base 84 19 w' v' (L.length + 1) _ from ?_)
    obtain ⟨xs, k1, k2⟩ := r2
    refine ⟨xs, k1, fun j i u hj hu => k2 j i u hj ?_⟩
    dsimp only
    by_cases hjn : j = L.length
    · rw [if_pos hjn]
      subst hjn
      simpa [opsC] using hu
    · rw [if_neg hjn]
      simpa [opsC, hjn, List.getElem?_append_left (show j < L.length by omega)] using hu
  · dsimp only
    by_cases hjn : j = L.length
    · rw [if_pos hjn]
      subst hjn
      simp at hj
      subst hj
      exact keep hc hne
    · rw [if_neg hjn]
      have hlt : j < L.length := by
        rcases Nat.lt_or_ge j (L ++ [x]).length with h | h
        · simp at h; omega
        · rw [List.getElem?_eq_none h] at hj; cases hj
      rw [List.getElem?_append_left hlt] at hj
      exact keep (h2 j o hj).1 (h2 j o hj).2

def TkOs (base B : Nat) (w : World) (rb : Nat) (o : Option (List OpT × List UInt8)) (e : Ending) (w' : World) : Prop :=
  (∃ v xs r, o = some (xs, r) ∧ e = .returned v ∧ OwnOl base w' v xs ∧ Rd B w' rb r ∧ w.grownBy w' (some rb)) ∨ (o = none ∧ e = .panicked noneP ∧ w.grownBy w' (some rb))

set_option maxHeartbeats 2000000 in
theorem takeOpList_tk {B : Nat} {w : World} {rb : Nat} {l : List UInt8} (h : Rd B w rb l) (hB : B ≤ w.heap.size) (hrb : rb < w.heap.size) (hl : l.length ≤ 536870911999) :
    Calls Tryd.prog 64 #[ptrOf rb, .func (.func 65) #[] #[]] w fun e w' => TkOs w.heap.size B w rb (opsR l) e w' := by
  have C := count_any h (by omega)
  rcases hnx : countR l with _ | ⟨n, r⟩
  · have C2 : Calls Tryd.prog 74 #[ptrOf rb] w fun e w' => e = .panicked noneP ∧ Hid (w.grownBy w' (some rb)) := by
      refine C.mono ?_
      rintro e w' hc
      rw [hnx] at hc
      exact ⟨hc.2, hc.1⟩
    have HC : Hid (opsR l = none) := by show _ = _; unfold opsR lstR; rw [hnx]; rfl
    clear h hnx C
    go_enter Tryd.func64, Tryd.ntmps64
    go_wp2_with (go_at_call 74; refine C2.mono ?_; rintro e w1 ⟨rfl, hg⟩)
    exact ⟨rfl, .inr ⟨HC.out, rfl, hg.out⟩⟩
  · have hr := countR_len hnx
    have C2 : Calls Tryd.prog 74 #[ptrOf rb] w fun e w' => e = .returned (.int .i64 n) ∧ Hid (Rd B w' rb r ∧ w.grownBy w' (some rb)) := by
      refine C.mono ?_
      rintro e w' hc
      rw [hnx] at hc
      exact ⟨hc.2.1, hc.2.2.1, hc.1⟩
    have hn : n ≤ 536870911999 := by
      have := (countR_inv hnx).2.1
      omega
    have HC : Hid (opsR l = itemsR opR n r) := by show _ = _; unfold opsR lstR; rw [hnx]; rfl
    have HL : Hid (r.length ≤ 536870911999) := by show _ ≤ _; omega
    have HB : Hid (B ≤ w.heap.size) := hB
    have HRB : Hid (rb < w.heap.size) := hrb
    clear h hnx C hr hl hB hrb
    go_enter Tryd.func64, Tryd.ntmps64
    go_wp2_with (go_at_call 74; refine C2.mono ?_; rintro e w1 ⟨rfl, HR⟩)
    clear C2
    go_loopw [5, 8] (fun u5 u8 wr => ∃ k : Nat, u8 = .int .i64 k ∧ k ≤ n ∧ Hid (∃ xs rest, xs.length = k ∧ rest.length ≤ r.length ∧ itemsR opR n r = (itemsR opR (n - k) rest).bind (fun p => some (xs ++ p.1, p.2)) ∧ OwnOl w.heap.size wr u5 xs ∧ Rd B wr rb rest ∧ w.grownBy wr (some rb))) (fun _ u8 _ => n - (intOf u8).toNat)
    case atStart => exact ⟨0, rfl, by omega, [], r, rfl, Nat.le_refl _, items_start _, OwnOl.nil _ _, HR.out.1, HR.out.2⟩
    case round =>
      obtain ⟨k, rfl, hk, HD⟩ := hrel
      clear HR
      by_cases hlt : k < n
      · have C2 : Calls Tryd.prog 65 #[ptrOf rb] wr fun e w' => (∃ (x : OpT) (ca : Option Addr) (cn cc : Nat), e = .returned (opV x (.slice ca cn cc)) ∧ ∃ v3 w3, Hid ((Builtin.append_ #[37, 37] 37 #[u5, .slice (some ⟨w'.heap.size, 0, none⟩) 1 1]).run Tryd.prog (w'.alloc (.cells #[.int .i64 x.kind, .string x.book, .string x.sheet, .int .i64 x.at1, .int .i64 x.n, .int .i64 x.row, .int .i64 x.col, .string x.text, .string x.name.scope, .string x.name.name, .string x.name.text, .string x.link.book, .string x.link.sheet, .int .i64 x.link.row, .int .i64 x.link.col, .int .i64 x.link.value.kind, .int .i64 x.link.value.n, .string x.link.value.s, .slice ca cn cc] 84)) = .ok v3 w3) ∧
            Hid (∃ xs rest, xs.length = k + 1 ∧ rest.length ≤ r.length ∧ itemsR opR n r = (itemsR opR (n - (k + 1)) rest).bind (fun p => some (xs ++ p.1, p.2)) ∧ OwnOl w.heap.size w3 v3 xs ∧ Rd B w3 rb rest ∧ w.grownBy w3 (some rb))) ∨
            (e = .panicked noneP ∧ Hid (TkOs w.heap.size B w rb (opsR l) (.panicked noneP) w')) := by
          obtain ⟨xs, rest, hx, hrl, ht, ho, hrd, hg⟩ := HD.out
          obtain ⟨m, hm⟩ : ∃ m, n - k = m + 1 := ⟨n - k - 1, by omega⟩
          refine (takeOp_tk hrd (Nat.le_trans HB.out hg.size) (Nat.lt_of_lt_of_le HRB.out hg.size) (by have := HL.out; omega)).mono ?_
          rintro e w' (⟨cv, x, r', q, rfl, oc, rd1, g1⟩ | ⟨q, rfl, g1⟩)
          · left
            have hsz : w.heap.size ≤ w'.heap.size := Nat.le_trans hg.size g1.size
            have ho1 : OwnOl w.heap.size w' u5 xs := ho.kept fun i hi1 hi2 => g1.block i hi2 (by have := HRB.out; simp; omega)
            obtain ⟨ca, cc, rfl, _, _⟩ := oc.cls.slice
            obtain ⟨v3, w3, run, o3, b3⟩ := own_op ho1 hsz x (OwnR.mono oc hg.size) (fun g hgg e => by have := (OwnR.lt oc hgg).1; have := (ho.lt e).2; omega) (by omega)
            have hrl2 := inv_len opB_pos opR_inv q
            exact ⟨x, ca, _, cc, rfl, v3, w3, run, xs ++ [x], r', by simp [hx], by omega, itemsR_step hm q ht, o3, rd1.kept HB.out HRB.out b3, grown_below (grown_trans hg g1) b3 (Nat.le_refl _)⟩
          · right
            refine ⟨rfl, .inr ⟨?_, rfl, grown_trans hg g1⟩⟩
            rw [HC.out, ht, hm, itemsR_none q]
            rfl
        clear HD
        go_wp2_with fail
        refine C2.mono ?_
        rintro e w2 (⟨x, ca, cn, cc, rfl, v3, w3, R3, HF⟩ | ⟨rfl, HT⟩)
        rotate_left
        · exact ⟨rfl, HT.out⟩
        clear C2
        go_wp2_with (at_builtin; refine wpList_append_run rfl _ _ 37 rfl _ _ _ _ rfl rfl R3.out ?_)
        clear R3
        go_roundw
        case rel => exact ⟨k + 1, by go_num, by omega, HF⟩
        case measure => simp [intOf]; omega
      · have HT : Hid (TkOs w.heap.size B w rb (opsR l) (.returned u5) wr) := by
          obtain ⟨xs, rest, hx, hrl, ht, ho, hrd, hg⟩ := HD.out
          refine .inl ⟨u5, xs, rest, ?_, rfl, ho, hrd, hg⟩
          rw [HC.out, ht, show n - k = 0 by omega]
          simp [itemsR]
        clear HD HC
        go_wp2_with fail
        go_ret
        exact HT.out

set_option maxHeartbeats 1000000 in
theorem takeOps_tk {B : Nat} {w : World} {rb : Nat} {l : List UInt8} (h : Rd B w rb l) (hB : B ≤ w.heap.size) (hrb : rb < w.heap.size) (hl : l.length ≤ 536870911999) :
    Calls Tryd.prog 37 #[ptrOf rb] w fun e w' => TkOs w.heap.size B w rb (opsR l) e w' := by
  have C := takeOpList_tk h hB hrb hl
  clear h hB hrb
  go_enter Tryd.func37, Tryd.ntmps37
  go_wp2_with fail
  refine C.mono ?_
  rintro e w1 (⟨v, xs, r, q, rfl, rest⟩ | ⟨q, rfl, rest⟩)
  · have Q : Hid _ := q
    have HR : Hid _ := rest
    clear q rest C
    go_wp2_with fail
    go_ret
    exact .inl ⟨v, xs, r, Q.out, rfl, HR.out⟩
  · exact ⟨rfl, .inr ⟨q, rfl, rest⟩⟩
end Go.Proofs.YtohndhmhgdelmaaDoor
