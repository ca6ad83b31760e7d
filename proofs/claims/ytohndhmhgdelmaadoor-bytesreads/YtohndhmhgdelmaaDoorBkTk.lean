import Derived.Test.YtohndhmhgdelmaaDoorBkMem
import Derived.Test.YtohndhmhgdelmaaDoorTkCells
import Derived.Test.YtohndhmhgdelmaaDoorTkOp
/- The contract of takeList of names. -/
namespace Go.Proofs.YtohndhmhgdelmaaDoor
open Go.RowKit
set_option maxRecDepth 100000
set_option linter.unusedVariables false
def OwnNl (base : Nat) (w : World) (v : Value) (L : List NameT) : Prop := OwnR base 64 3 w v L.length (namesC L)
theorem OwnNl.nms {base : Nat} {w : World} {v : Value} {L : List NameT} (h : OwnNl base w v L) : Nms base w.heap.size w v L := OwnR.rws h
theorem own_name {base : Nat} {w : World} {v : Value} {L : List NameT} (h : OwnNl base w v L) (hb : base ≤ w.heap.size) (x : NameT) (hl : L.length + 1 ≤ 1099511627776) :
    ∃ v' w', (Builtin.append_ #[23, 23] 23 #[v, .slice (some ⟨w.heap.size, 0, none⟩) 1 1]).run Tryd.prog (w.alloc (.cells #[.string x.scope, .string x.name, .string x.text] 64)) = .ok v' w' ∧ OwnNl base w' v' (L ++ [x]) ∧ Below base w w' := by
  have h' : OwnR base 64 3 (w.alloc (.cells (nameC x).toArray 64)) v L.length (namesC L) := h.of_block fun g hg => Below.heap_alloc w _ g (h.lt hg).2
  obtain ⟨v', w', h1, h2, _, h4, _⟩ := row_app Tryd.underlying23 inf64 rfl (by decide) h' (b := w.heap.size) (es := nameC x) (z := (0, 0)) (heap_alloc_new w _) rfl (by intro u hu; simp [nameC] at hu; rcases hu with rfl | rfl | rfl <;> rfl) (by omega) hl (by simp; omega)
  refine ⟨v', w', h1, ?_, ((Below.refl base w).alloc hb _).trans h4⟩
  unfold OwnNl
  rw [List.length_append]
  refine (show OwnR base 64 3 w' v' (L.length + 1) (namesC (L ++ [x])) from ?_)
  obtain ⟨xs, k1, k2⟩ := h2
  refine ⟨xs, k1, fun j i u hj hu => k2 j i u hj ?_⟩
  dsimp only
  by_cases hjn : j = L.length
  · rw [if_pos hjn]
    subst hjn
    simpa [namesC] using hu
  · rw [if_neg hjn]
    simpa [namesC, List.getElem?_append_left (show j < L.length by omega)] using hu

def TkNs (base B : Nat) (w : World) (rb : Nat) (o : Option (List NameT × List UInt8)) (e : Ending) (w' : World) : Prop :=
  (∃ v xs r, o = some (xs, r) ∧ e = .returned v ∧ OwnNl base w' v xs ∧ Rd B w' rb r ∧ w.grownBy w' (some rb)) ∨ (o = none ∧ e = .panicked noneP ∧ w.grownBy w' (some rb))

set_option maxHeartbeats 2000000 in
theorem takeNames_tk {B : Nat} {w : World} {rb : Nat} {l : List UInt8} (h : Rd B w rb l) (hB : B ≤ w.heap.size) (hrb : rb < w.heap.size) (hl : l.length ≤ 1099511627776) :
    Calls Tryd.prog 58 #[ptrOf rb, .func (.func 59) #[] #[]] w fun e w' => TkNs w.heap.size B w rb (lstR nameR l) e w' := by
  have C := count_any h hl
  rcases hnx : countR l with _ | ⟨n, r⟩
  · have C2 : Calls Tryd.prog 74 #[ptrOf rb] w fun e w' => e = .panicked noneP ∧ Hid (w.grownBy w' (some rb)) := by
      refine C.mono ?_
      rintro e w' hc
      rw [hnx] at hc
      exact ⟨hc.2, hc.1⟩
    have HC : Hid (lstR nameR l = none) := by show _ = _; unfold lstR; rw [hnx]; rfl
    clear h hnx C
    go_enter Tryd.func58, Tryd.ntmps58
    go_wp2_with (go_at_call 74; refine C2.mono ?_; rintro e w1 ⟨rfl, hg⟩)
    exact ⟨rfl, .inr ⟨HC.out, rfl, hg.out⟩⟩
  · have hr := countR_len hnx
    have C2 : Calls Tryd.prog 74 #[ptrOf rb] w fun e w' => e = .returned (.int .i64 n) ∧ Hid (Rd B w' rb r ∧ w.grownBy w' (some rb)) := by
      refine C.mono ?_
      rintro e w' hc
      rw [hnx] at hc
      exact ⟨hc.2.1, hc.2.2.1, hc.1⟩
    have hn : n ≤ 1099511627776 := by
      have := (countR_inv hnx).2.1
      omega
    have HC : Hid (lstR nameR l = itemsR nameR n r) := by show _ = _; unfold lstR; rw [hnx]; rfl
    have HL : Hid (r.length ≤ 1099511627776) := by show _ ≤ _; omega
    have HB : Hid (B ≤ w.heap.size) := hB
    have HRB : Hid (rb < w.heap.size) := hrb
    clear h hnx C hr hl hB hrb
    go_enter Tryd.func58, Tryd.ntmps58
    go_wp2_with (go_at_call 74; refine C2.mono ?_; rintro e w1 ⟨rfl, HR⟩)
    clear C2
    go_loopw [5, 8] (fun u5 u8 wr => ∃ k : Nat, u8 = .int .i64 k ∧ k ≤ n ∧ Hid (∃ xs rest, xs.length = k ∧ rest.length ≤ r.length ∧ itemsR nameR n r = (itemsR nameR (n - k) rest).bind (fun p => some (xs ++ p.1, p.2)) ∧ OwnNl w.heap.size wr u5 xs ∧ Rd B wr rb rest ∧ w.grownBy wr (some rb))) (fun _ u8 _ => n - (intOf u8).toNat)
    case atStart => exact ⟨0, rfl, by omega, [], r, rfl, Nat.le_refl _, items_start _, OwnR.nil _ _ _ _ _, HR.out.1, HR.out.2⟩
    case round =>
      obtain ⟨k, rfl, hk, HD⟩ := hrel
      clear HR
      by_cases hlt : k < n
      · have C2 : Calls Tryd.prog 59 #[ptrOf rb] wr fun e w' => (∃ x : NameT, e = .returned (nameV x) ∧ ∃ v3 w3, Hid ((Builtin.append_ #[23, 23] 23 #[u5, .slice (some ⟨w'.heap.size, 0, none⟩) 1 1]).run Tryd.prog (w'.alloc (.cells #[.string x.scope, .string x.name, .string x.text] 64)) = .ok v3 w3) ∧
            Hid (∃ xs rest, xs.length = k + 1 ∧ rest.length ≤ r.length ∧ itemsR nameR n r = (itemsR nameR (n - (k + 1)) rest).bind (fun p => some (xs ++ p.1, p.2)) ∧ OwnNl w.heap.size w3 v3 xs ∧ Rd B w3 rb rest ∧ w.grownBy w3 (some rb))) ∨
            (e = .panicked noneP ∧ Hid (TkNs w.heap.size B w rb (lstR nameR l) (.panicked noneP) w')) := by
          obtain ⟨xs, rest, hx, hrl, ht, ho, hrd, hg⟩ := HD.out
          obtain ⟨m, hm⟩ : ∃ m, n - k = m + 1 := ⟨n - k - 1, by omega⟩
          refine (takeName_tk hrd (Nat.le_trans HB.out hg.size) (Nat.lt_of_lt_of_le HRB.out hg.size) (by have := HL.out; omega)).mono ?_
          rintro e w' (⟨x, r', q, rfl, rd1, g1⟩ | ⟨q, rfl, g1⟩)
          · left
            have hsz : w.heap.size ≤ w'.heap.size := Nat.le_trans hg.size g1.size
            have ho1 : OwnNl w.heap.size w' u5 xs := OwnR.of_block ho fun g hgg => g1.block g (OwnR.lt ho hgg).2 (by have := (OwnR.lt ho hgg).1; have := HRB.out; simp; omega)
            obtain ⟨v3, w3, run, o3, b3⟩ := own_name ho1 hsz x (by omega)
            have hrl2 := inv_len nameB_pos nameR_inv q
            refine ⟨x, rfl, v3, w3, run, xs ++ [x], r', by simp [hx], by omega, itemsR_step hm q ht, o3, rd1.kept HB.out HRB.out b3, grown_below (grown_trans hg g1) b3 (Nat.le_refl _)⟩
          · right
            refine ⟨rfl, .inr ⟨?_, rfl, grown_trans hg g1⟩⟩
            rw [HC.out, ht, hm, itemsR_none q]
            rfl
        clear HD
        go_wp2_with fail
        refine C2.mono ?_
        rintro e w2 (⟨x, rfl, v3, w3, R3, HF⟩ | ⟨rfl, HT⟩)
        rotate_left
        · exact ⟨rfl, HT.out⟩
        clear C2
        go_wp2_with (at_builtin; refine wpList_append_run rfl _ _ 23 rfl _ _ _ _ rfl rfl R3.out ?_)
        clear R3
        go_roundw
        case rel => exact ⟨k + 1, by go_num, by omega, HF⟩
        case measure => simp [intOf]; omega
      · have HT : Hid (TkNs w.heap.size B w rb (lstR nameR l) (.returned u5) wr) := by
          obtain ⟨xs, rest, hx, hrl, ht, ho, hrd, hg⟩ := HD.out
          refine .inl ⟨u5, xs, rest, ?_, rfl, ho, hrd, hg⟩
          rw [HC.out, ht, show n - k = 0 by omega]
          simp [itemsR]
        clear HD HC
        go_wp2_with fail
        go_ret
        exact HT.out

end Go.Proofs.YtohndhmhgdelmaaDoor

/- The contract of takeList of links. -/
namespace Go.Proofs.YtohndhmhgdelmaaDoor
open Go.RowKit
set_option maxRecDepth 100000
set_option linter.unusedVariables false
def OwnLl (base : Nat) (w : World) (v : Value) (L : List LinkT) : Prop := OwnR base 69 7 w v L.length (linksC L)
theorem OwnLl.lks {base : Nat} {w : World} {v : Value} {L : List LinkT} (h : OwnLl base w v L) : Lks base w.heap.size w v L := OwnR.rws h
theorem own_link {base : Nat} {w : World} {v : Value} {L : List LinkT} (h : OwnLl base w v L) (hb : base ≤ w.heap.size) (x : LinkT) (hl : L.length + 1 ≤ 1099511627776) :
    ∃ v' w', (Builtin.append_ #[24, 24] 24 #[v, .slice (some ⟨w.heap.size, 0, none⟩) 1 1]).run Tryd.prog (w.alloc (.cells #[.string x.book, .string x.sheet, .int .i64 x.row, .int .i64 x.col, .int .i64 x.value.kind, .int .i64 x.value.n, .string x.value.s] 69)) = .ok v' w' ∧ OwnLl base w' v' (L ++ [x]) ∧ Below base w w' := by
  have h' : OwnR base 69 7 (w.alloc (.cells (linkC x).toArray 69)) v L.length (linksC L) := h.of_block fun g hg => Below.heap_alloc w _ g (h.lt hg).2
  obtain ⟨v', w', h1, h2, _, h4, _⟩ := row_app Tryd.underlying24 inf69 rfl (by decide) h' (b := w.heap.size) (es := linkC x) (z := (0, 0)) (heap_alloc_new w _) rfl (by intro u hu; simp [linkC] at hu; rcases hu with rfl | rfl | rfl | rfl | rfl | rfl | rfl <;> rfl) (by omega) hl (by simp; omega)
  refine ⟨v', w', h1, ?_, ((Below.refl base w).alloc hb _).trans h4⟩
  unfold OwnLl
  rw [List.length_append]
  refine (show OwnR base 69 7 w' v' (L.length + 1) (linksC (L ++ [x])) from ?_)
  obtain ⟨xs, k1, k2⟩ := h2
  refine ⟨xs, k1, fun j i u hj hu => k2 j i u hj ?_⟩
  dsimp only
  by_cases hjn : j = L.length
  · rw [if_pos hjn]
    subst hjn
    simpa [linksC] using hu
  · rw [if_neg hjn]
    simpa [linksC, List.getElem?_append_left (show j < L.length by omega)] using hu

def TkLs (base B : Nat) (w : World) (rb : Nat) (o : Option (List LinkT × List UInt8)) (e : Ending) (w' : World) : Prop :=
  (∃ v xs r, o = some (xs, r) ∧ e = .returned v ∧ OwnLl base w' v xs ∧ Rd B w' rb r ∧ w.grownBy w' (some rb)) ∨ (o = none ∧ e = .panicked noneP ∧ w.grownBy w' (some rb))

set_option maxHeartbeats 2000000 in
theorem takeLinks_tk {B : Nat} {w : World} {rb : Nat} {l : List UInt8} (h : Rd B w rb l) (hB : B ≤ w.heap.size) (hrb : rb < w.heap.size) (hl : l.length ≤ 1099511627776) :
    Calls Tryd.prog 60 #[ptrOf rb, .func (.func 61) #[] #[]] w fun e w' => TkLs w.heap.size B w rb (lstR linkR l) e w' := by
  have C := count_any h hl
  rcases hnx : countR l with _ | ⟨n, r⟩
  · have C2 : Calls Tryd.prog 74 #[ptrOf rb] w fun e w' => e = .panicked noneP ∧ Hid (w.grownBy w' (some rb)) := by
      refine C.mono ?_
      rintro e w' hc
      rw [hnx] at hc
      exact ⟨hc.2, hc.1⟩
    have HC : Hid (lstR linkR l = none) := by show _ = _; unfold lstR; rw [hnx]; rfl
    clear h hnx C
    go_enter Tryd.func60, Tryd.ntmps60
    go_wp2_with (go_at_call 74; refine C2.mono ?_; rintro e w1 ⟨rfl, hg⟩)
    exact ⟨rfl, .inr ⟨HC.out, rfl, hg.out⟩⟩
  · have hr := countR_len hnx
    have C2 : Calls Tryd.prog 74 #[ptrOf rb] w fun e w' => e = .returned (.int .i64 n) ∧ Hid (Rd B w' rb r ∧ w.grownBy w' (some rb)) := by
      refine C.mono ?_
      rintro e w' hc
      rw [hnx] at hc
      exact ⟨hc.2.1, hc.2.2.1, hc.1⟩
    have hn : n ≤ 1099511627776 := by
      have := (countR_inv hnx).2.1
      omega
    have HC : Hid (lstR linkR l = itemsR linkR n r) := by show _ = _; unfold lstR; rw [hnx]; rfl
    have HL : Hid (r.length ≤ 1099511627776) := by show _ ≤ _; omega
    have HB : Hid (B ≤ w.heap.size) := hB
    have HRB : Hid (rb < w.heap.size) := hrb
    clear h hnx C hr hl hB hrb
    go_enter Tryd.func60, Tryd.ntmps60
    go_wp2_with (go_at_call 74; refine C2.mono ?_; rintro e w1 ⟨rfl, HR⟩)
    clear C2
    go_loopw [5, 8] (fun u5 u8 wr => ∃ k : Nat, u8 = .int .i64 k ∧ k ≤ n ∧ Hid (∃ xs rest, xs.length = k ∧ rest.length ≤ r.length ∧ itemsR linkR n r = (itemsR linkR (n - k) rest).bind (fun p => some (xs ++ p.1, p.2)) ∧ OwnLl w.heap.size wr u5 xs ∧ Rd B wr rb rest ∧ w.grownBy wr (some rb))) (fun _ u8 _ => n - (intOf u8).toNat)
    case atStart => exact ⟨0, rfl, by omega, [], r, rfl, Nat.le_refl _, items_start _, OwnR.nil _ _ _ _ _, HR.out.1, HR.out.2⟩
    case round =>
      obtain ⟨k, rfl, hk, HD⟩ := hrel
      clear HR
      by_cases hlt : k < n
      · have C2 : Calls Tryd.prog 61 #[ptrOf rb] wr fun e w' => (∃ x : LinkT, e = .returned (linkV x) ∧ ∃ v3 w3, Hid ((Builtin.append_ #[24, 24] 24 #[u5, .slice (some ⟨w'.heap.size, 0, none⟩) 1 1]).run Tryd.prog (w'.alloc (.cells #[.string x.book, .string x.sheet, .int .i64 x.row, .int .i64 x.col, .int .i64 x.value.kind, .int .i64 x.value.n, .string x.value.s] 69)) = .ok v3 w3) ∧
            Hid (∃ xs rest, xs.length = k + 1 ∧ rest.length ≤ r.length ∧ itemsR linkR n r = (itemsR linkR (n - (k + 1)) rest).bind (fun p => some (xs ++ p.1, p.2)) ∧ OwnLl w.heap.size w3 v3 xs ∧ Rd B w3 rb rest ∧ w.grownBy w3 (some rb))) ∨
            (e = .panicked noneP ∧ Hid (TkLs w.heap.size B w rb (lstR linkR l) (.panicked noneP) w')) := by
          obtain ⟨xs, rest, hx, hrl, ht, ho, hrd, hg⟩ := HD.out
          obtain ⟨m, hm⟩ : ∃ m, n - k = m + 1 := ⟨n - k - 1, by omega⟩
          refine (takeLink_tk hrd (Nat.le_trans HB.out hg.size) (Nat.lt_of_lt_of_le HRB.out hg.size) (by have := HL.out; omega)).mono ?_
          rintro e w' (⟨x, r', q, rfl, rd1, g1⟩ | ⟨q, rfl, g1⟩)
          · left
            have hsz : w.heap.size ≤ w'.heap.size := Nat.le_trans hg.size g1.size
            have ho1 : OwnLl w.heap.size w' u5 xs := OwnR.of_block ho fun g hgg => g1.block g (OwnR.lt ho hgg).2 (by have := (OwnR.lt ho hgg).1; have := HRB.out; simp; omega)
            obtain ⟨v3, w3, run, o3, b3⟩ := own_link ho1 hsz x (by omega)
            have hrl2 := inv_len linkB_pos linkR_inv q
            refine ⟨x, rfl, v3, w3, run, xs ++ [x], r', by simp [hx], by omega, itemsR_step hm q ht, o3, rd1.kept HB.out HRB.out b3, grown_below (grown_trans hg g1) b3 (Nat.le_refl _)⟩
          · right
            refine ⟨rfl, .inr ⟨?_, rfl, grown_trans hg g1⟩⟩
            rw [HC.out, ht, hm, itemsR_none q]
            rfl
        clear HD
        go_wp2_with fail
        refine C2.mono ?_
        rintro e w2 (⟨x, rfl, v3, w3, R3, HF⟩ | ⟨rfl, HT⟩)
        rotate_left
        · exact ⟨rfl, HT.out⟩
        clear C2
        go_wp2_with (at_builtin; refine wpList_append_run rfl _ _ 24 rfl _ _ _ _ rfl rfl R3.out ?_)
        clear R3
        go_roundw
        case rel => exact ⟨k + 1, by go_num, by omega, HF⟩
        case measure => simp [intOf]; omega
      · have HT : Hid (TkLs w.heap.size B w rb (lstR linkR l) (.returned u5) wr) := by
          obtain ⟨xs, rest, hx, hrl, ht, ho, hrd, hg⟩ := HD.out
          refine .inl ⟨u5, xs, rest, ?_, rfl, ho, hrd, hg⟩
          rw [HC.out, ht, show n - k = 0 by omega]
          simp [itemsR]
        clear HD HC
        go_wp2_with fail
        go_ret
        exact HT.out

end Go.Proofs.YtohndhmhgdelmaaDoor

/- The contracts of takeSheet and of takeList of sheets. -/
namespace Go.Proofs.YtohndhmhgdelmaaDoor
open Go.RowKit
set_option maxRecDepth 100000
set_option linter.unusedVariables false

def TkS (base B : Nat) (w : World) (rb : Nat) (o : Option (SheetT × List UInt8)) (e : Ending) (w' : World) : Prop :=
  (∃ cv x r, o = some (x, r) ∧ e = .returned (sheetV x cv) ∧ OwnCl base w' cv x.cells ∧ Rd B w' rb r ∧ w.grownBy w' (some rb)) ∨ (o = none ∧ e = .panicked noneP ∧ w.grownBy w' (some rb))

set_option maxHeartbeats 4000000 in
theorem takeSheet_tk {B : Nat} {w : World} {rb : Nat} {l : List UInt8} (h : Rd B w rb l) (hB : B ≤ w.heap.size) (hrb : rb < w.heap.size) (hl : l.length ≤ 1099511627776) :
    Calls Tryd.prog 57 #[ptrOf rb] w fun e w' => TkS w.heap.size B w rb (sheetR l) e w' := by
  have rd0 : Hid (Rd B (w.alloc (.cells #[strE, .slice none 0 0] 52)) rb l) := h.alloc hB hrb _
  have HB : Hid (B ≤ w.heap.size) := hB
  have C1 := text_tk rd0.out hl
  clear h hB
  go_enter Tryd.func57, Tryd.ntmps57
  go_wp2_with fail
  refine C1.mono ?_
  rintro e w1 (⟨x1, l1, q1, rfl, rd, g⟩ | ⟨q1, rfl, g⟩)
  rotate_left
  · exact ⟨rfl, .inr ⟨by simp only [sheetR, q1, Option.bind_none], rfl, grown_trans grown_alloc g⟩⟩
  have t1 := textR_len q1
  have Q1 : Hid _ := q1
  have G1 : Hid _ := g
  have C2 := takeCells_tk rd (Nat.le_trans (by simpa using Nat.le_succ_of_le HB.out) G1.out.size) (Nat.lt_of_lt_of_le (by simpa using Nat.lt_succ_of_lt hrb) G1.out.size) (by omega)
  clear C1 rd q1 g rd0
  go_wp2_with fail
  refine C2.mono ?_
  rintro e w2 (⟨cv, x2, l2, q2, rfl, oc, rd, g⟩ | ⟨q2, rfl, g⟩)
  rotate_left
  · exact ⟨rfl, .inr ⟨by simp only [sheetR, Q1.out, q2, Option.bind_some, Option.bind_none], rfl, grown_trans grown_alloc (grown_trans G1.out g)⟩⟩
  have Q2 : Hid _ := q2
  have G2 : Hid _ := grown_trans G1.out g
  have hsz : w.heap.size + 1 ≤ w1.heap.size := by have := G1.out.size; simpa using this
  obtain ⟨ca, cc, rfl, _, _⟩ := oc.cls.slice
  obtain ⟨wz, RS, HZ, HE, HK⟩ := take_end2 (es := #[.string x1, .slice ca x2.length cc]) (by simpa using HB.out) hrb G2.out rd inf52 rfl rfl (by simp [Value.oneCell'])
  have OC : Hid (OwnCl w.heap.size wz (.slice ca x2.length cc) x2) := (OwnR.mono oc (by omega)).of_block fun g hg => HK.out g (by have := (OwnR.lt oc hg).1; omega)
  clear C2 rd q2 g G1 oc hsz
  go_wp2_with (refine wpList_store_run rfl 52 _ _ rfl _ _ _ rfl rfl RS.out ?_)
  refine bodyPost_ret_by (results_cell_row rfl _ _ w.heap.size 52 _ (0, 0) _ rfl HZ.out Tryd.underlying52 rfl (by kernel_rfl)) rfl (.inl ⟨_, ⟨x1, x2⟩, l2, ?_, rfl, OC.out, HE.out⟩)
  simp only [sheetR, Q1.out, Q2.out, Option.bind_some]

def OwnSl (base : Nat) (w : World) (v : Value) (L : List SheetT) : Prop :=
  ∃ cv : Nat → Value, OwnR base 52 2 w v L.length (sheetsC L cv) ∧ ∀ j o, L[j]? = some o → OwnCl base w (cv j) o.cells ∧ ∀ g, (cv j).ownBlock = some g → v.ownBlock ≠ some g
theorem OwnSl.nil (w : World) (base : Nat) : OwnSl base w (.slice none 0 0) [] := ⟨fun _ => .slice none 0 0, OwnR.nil _ _ _ _ _, fun j o hj => by simp at hj⟩
theorem OwnSl.shs {base : Nat} {w : World} {v : Value} {L : List SheetT} (h : OwnSl base w v L) : Shs base w.heap.size w v L := by
  obtain ⟨cv, h1, h2⟩ := h
  exact ⟨cv, h1.rws, fun j o hj => (h2 j o hj).1.cls⟩
theorem OwnSl.kept {base : Nat} {w w' : World} {v : Value} {L : List SheetT} (h : OwnSl base w v L) (hk : ∀ i, base ≤ i → i < w.heap.size → w'.heap[i]? = w.heap[i]?) : OwnSl base w' v L := by
  obtain ⟨cv, h1, h2⟩ := h
  refine ⟨cv, h1.of_block fun g hg => hk g (h1.lt hg).1 (h1.lt hg).2, fun j o hj => ?_⟩
  obtain ⟨k1, k2⟩ := h2 j o hj
  exact ⟨OwnR.of_block k1 fun g hg => hk g (OwnR.lt k1 hg).1 (OwnR.lt k1 hg).2, k2⟩
theorem OwnSl.lt {base : Nat} {w : World} {v : Value} {L : List SheetT} (h : OwnSl base w v L) {g : Nat} (hg : v.ownBlock = some g) : base ≤ g ∧ g < w.heap.size := by
  obtain ⟨cv, h1, h2⟩ := h
  exact h1.lt hg

theorem own_sheet {base : Nat} {w : World} {v : Value} {L : List SheetT} (h : OwnSl base w v L) (hb : base ≤ w.heap.size) (x : SheetT) {cv : Value} (hc : OwnCl base w cv x.cells) (hne : ∀ g, cv.ownBlock = some g → v.ownBlock ≠ some g) (hl : L.length + 1 ≤ 536870912000) :
    ∃ v' w', (Builtin.append_ #[22, 22] 22 #[v, .slice (some ⟨w.heap.size, 0, none⟩) 1 1]).run Tryd.prog (w.alloc (.cells #[.string x.name, cv] 52)) = .ok v' w' ∧ OwnSl base w' v' (L ++ [x]) ∧ Below base w w' := by
  obtain ⟨cvs, h1, h2⟩ := h
  have ha : ∀ g, g < w.heap.size → (w.alloc (.cells (sheetC x cv).toArray 52)).heap[g]? = w.heap[g]? := fun g hg => Below.heap_alloc w _ g hg
  have h' : OwnR base 52 2 (w.alloc (.cells (sheetC x cv).toArray 52)) v L.length (sheetsC L cvs) := h1.of_block fun g hg => ha g (h1.lt hg).2
  obtain ⟨ca, cc, ecv, _, _⟩ := hc.cls.slice
  obtain ⟨v', w', r1, r2, r3, r4, r5⟩ := row_app Tryd.underlying22 inf52 rfl (by decide) h' (b := w.heap.size) (es := sheetC x cv) (z := (0, 0)) (heap_alloc_new w _) rfl (by
    intro u hu
    rw [ecv] at hu
    simp only [sheetC, List.mem_cons, List.not_mem_nil, or_false] at hu
    rcases hu with rfl | rfl <;> rfl) (by omega) (by omega) (by simp; omega)
  have keep : ∀ {c : Value} {l : List CellT}, OwnCl base w c l → (∀ g, c.ownBlock = some g → v.ownBlock ≠ some g) → OwnCl base w' c l ∧ ∀ g, c.ownBlock = some g → v'.ownBlock ≠ some g := fun {c l} k1 k2 => by
    refine ⟨OwnR.of_block k1 fun g hg => ?_, fun g hg e => ?_⟩
    · have hlt := (OwnR.lt k1 hg).2
      exact (r3.block g (by simp; omega) (fun e => k2 g hg e.symm)).trans (ha g hlt)
    · rcases r5 g e with h | h
      · exact k2 g hg h
      · have := (OwnR.lt k1 hg).2
        simp at h
        omega
  refine ⟨v', w', r1, ⟨fun j => if j = L.length then cv else cvs j, ?_, fun j o hj => ?_⟩, ((Below.refl base w).alloc hb _).trans r4⟩
  · rw [List.length_append]
    refine (show OwnR base 52 2 w' v' (L.length + 1) _ from ?_)
    obtain ⟨xs, k1, k2⟩ := r2
    refine ⟨xs, k1, fun j i u hj hu => k2 j i u hj ?_⟩
    dsimp only
    by_cases hjn : j = L.length
    · rw [if_pos hjn]
      subst hjn
      simpa [sheetsC] using hu
    · rw [if_neg hjn]
      simpa [sheetsC, hjn, List.getElem?_append_left (show j < L.length by omega)] using hu
  · dsimp only
    by_cases hjn : j = L.length
    · rw [if_pos hjn]
      subst hjn
      simp at hj
      subst hj
      exact keep hc hne
    · rw [if_neg hjn]
      have hlt : j < L.length := by
        rcases Nat.lt_or_ge j (L ++ [x]).length with h | h
        · simp at h; omega
        · rw [List.getElem?_eq_none h] at hj; cases hj
      rw [List.getElem?_append_left hlt] at hj
      exact keep (h2 j o hj).1 (h2 j o hj).2

def TkSs (base B : Nat) (w : World) (rb : Nat) (o : Option (List SheetT × List UInt8)) (e : Ending) (w' : World) : Prop :=
  (∃ v xs r, o = some (xs, r) ∧ e = .returned v ∧ OwnSl base w' v xs ∧ Rd B w' rb r ∧ w.grownBy w' (some rb)) ∨ (o = none ∧ e = .panicked noneP ∧ w.grownBy w' (some rb))

set_option maxHeartbeats 2000000 in
theorem takeSheets_tk {B : Nat} {w : World} {rb : Nat} {l : List UInt8} (h : Rd B w rb l) (hB : B ≤ w.heap.size) (hrb : rb < w.heap.size) (hl : l.length ≤ 536870911999) :
    Calls Tryd.prog 56 #[ptrOf rb, .func (.func 57) #[] #[]] w fun e w' => TkSs w.heap.size B w rb (lstR sheetR l) e w' := by
  have C := count_any h (by omega)
  rcases hnx : countR l with _ | ⟨n, r⟩
  · have C2 : Calls Tryd.prog 74 #[ptrOf rb] w fun e w' => e = .panicked noneP ∧ Hid (w.grownBy w' (some rb)) := by
      refine C.mono ?_
      rintro e w' hc
      rw [hnx] at hc
      exact ⟨hc.2, hc.1⟩
    have HC : Hid (lstR sheetR l = none) := by show _ = _; unfold lstR; rw [hnx]; rfl
    clear h hnx C
    go_enter Tryd.func56, Tryd.ntmps56
    go_wp2_with (go_at_call 74; refine C2.mono ?_; rintro e w1 ⟨rfl, hg⟩)
    exact ⟨rfl, .inr ⟨HC.out, rfl, hg.out⟩⟩
  · have hr := countR_len hnx
    have C2 : Calls Tryd.prog 74 #[ptrOf rb] w fun e w' => e = .returned (.int .i64 n) ∧ Hid (Rd B w' rb r ∧ w.grownBy w' (some rb)) := by
      refine C.mono ?_
      rintro e w' hc
      rw [hnx] at hc
      exact ⟨hc.2.1, hc.2.2.1, hc.1⟩
    have hn : n ≤ 536870911999 := by
      have := (countR_inv hnx).2.1
      omega
    have HC : Hid (lstR sheetR l = itemsR sheetR n r) := by show _ = _; unfold lstR; rw [hnx]; rfl
    have HL : Hid (r.length ≤ 536870911999) := by show _ ≤ _; omega
    have HB : Hid (B ≤ w.heap.size) := hB
    have HRB : Hid (rb < w.heap.size) := hrb
    clear h hnx C hr hl hB hrb
    go_enter Tryd.func56, Tryd.ntmps56
    go_wp2_with (go_at_call 74; refine C2.mono ?_; rintro e w1 ⟨rfl, HR⟩)
    clear C2
    go_loopw [5, 8] (fun u5 u8 wr => ∃ k : Nat, u8 = .int .i64 k ∧ k ≤ n ∧ Hid (∃ xs rest, xs.length = k ∧ rest.length ≤ r.length ∧ itemsR sheetR n r = (itemsR sheetR (n - k) rest).bind (fun p => some (xs ++ p.1, p.2)) ∧ OwnSl w.heap.size wr u5 xs ∧ Rd B wr rb rest ∧ w.grownBy wr (some rb))) (fun _ u8 _ => n - (intOf u8).toNat)
    case atStart => exact ⟨0, rfl, by omega, [], r, rfl, Nat.le_refl _, items_start _, OwnSl.nil _ _, HR.out.1, HR.out.2⟩
    case round =>
      obtain ⟨k, rfl, hk, HD⟩ := hrel
      clear HR
      by_cases hlt : k < n
      · have C2 : Calls Tryd.prog 57 #[ptrOf rb] wr fun e w' => (∃ (x : SheetT) (ca : Option Addr) (cn cc : Nat), e = .returned (sheetV x (.slice ca cn cc)) ∧ ∃ v3 w3, Hid ((Builtin.append_ #[22, 22] 22 #[u5, .slice (some ⟨w'.heap.size, 0, none⟩) 1 1]).run Tryd.prog (w'.alloc (.cells #[.string x.name, .slice ca cn cc] 52)) = .ok v3 w3) ∧
            Hid (∃ xs rest, xs.length = k + 1 ∧ rest.length ≤ r.length ∧ itemsR sheetR n r = (itemsR sheetR (n - (k + 1)) rest).bind (fun p => some (xs ++ p.1, p.2)) ∧ OwnSl w.heap.size w3 v3 xs ∧ Rd B w3 rb rest ∧ w.grownBy w3 (some rb))) ∨
            (e = .panicked noneP ∧ Hid (TkSs w.heap.size B w rb (lstR sheetR l) (.panicked noneP) w')) := by
          obtain ⟨xs, rest, hx, hrl, ht, ho, hrd, hg⟩ := HD.out
          obtain ⟨m, hm⟩ : ∃ m, n - k = m + 1 := ⟨n - k - 1, by omega⟩
          refine (takeSheet_tk hrd (Nat.le_trans HB.out hg.size) (Nat.lt_of_lt_of_le HRB.out hg.size) (by have := HL.out; omega)).mono ?_
          rintro e w' (⟨cv, x, r', q, rfl, oc, rd1, g1⟩ | ⟨q, rfl, g1⟩)
          · left
            have hsz : w.heap.size ≤ w'.heap.size := Nat.le_trans hg.size g1.size
            have ho1 : OwnSl w.heap.size w' u5 xs := ho.kept fun i hi1 hi2 => g1.block i hi2 (by have := HRB.out; simp; omega)
            obtain ⟨ca, cc, rfl, _, _⟩ := oc.cls.slice
            obtain ⟨v3, w3, run, o3, b3⟩ := own_sheet ho1 hsz x (OwnR.mono oc hg.size) (fun g hgg e => by have := (OwnR.lt oc hgg).1; have := (ho.lt e).2; omega) (by omega)
            have hrl2 := inv_len sheetB_pos sheetR_inv q
            exact ⟨x, ca, _, cc, rfl, v3, w3, run, xs ++ [x], r', by simp [hx], by omega, itemsR_step hm q ht, o3, rd1.kept HB.out HRB.out b3, grown_below (grown_trans hg g1) b3 (Nat.le_refl _)⟩
          · right
            refine ⟨rfl, .inr ⟨?_, rfl, grown_trans hg g1⟩⟩
            rw [HC.out, ht, hm, itemsR_none q]
            rfl
        clear HD
        go_wp2_with fail
        refine C2.mono ?_
        rintro e w2 (⟨x, ca, cn, cc, rfl, v3, w3, R3, HF⟩ | ⟨rfl, HT⟩)
        rotate_left
        · exact ⟨rfl, HT.out⟩
        clear C2
        go_wp2_with (at_builtin; refine wpList_append_run rfl _ _ 22 rfl _ _ _ _ rfl rfl R3.out ?_)
        clear R3
        go_roundw
        case rel => exact ⟨k + 1, by go_num, by omega, HF⟩
        case measure => simp [intOf]; omega
      · have HT : Hid (TkSs w.heap.size B w rb (lstR sheetR l) (.returned u5) wr) := by
          obtain ⟨xs, rest, hx, hrl, ht, ho, hrd, hg⟩ := HD.out
          refine .inl ⟨u5, xs, rest, ?_, rfl, ho, hrd, hg⟩
          rw [HC.out, ht, show n - k = 0 by omega]
          simp [itemsR]
        clear HD HC
        go_wp2_with fail
        go_ret
        exact HT.out


end Go.Proofs.YtohndhmhgdelmaaDoor

/- The contract of takeBook. -/
namespace Go.Proofs.YtohndhmhgdelmaaDoor
open Go.RowKit
set_option maxRecDepth 100000
set_option linter.unusedVariables false
theorem size_alloc (w : World) (o : Obj) : (w.alloc o).heap.size = w.heap.size + 1 := by simp

structure OwnBk (base : Nat) (w : World) (sv nv lv : Value) (x : BookT) : Prop where
  sh : OwnSl base w sv x.sheets
  nm : OwnNl base w nv x.names
  lk : OwnLl base w lv x.links
theorem OwnBk.bkm {base : Nat} {w : World} {sv nv lv : Value} {x : BookT} (h : OwnBk base w sv nv lv x) : BkM base w.heap.size w sv nv lv x := ⟨h.sh.shs, h.nm.nms, h.lk.lks⟩
theorem OwnBk.kept {base : Nat} {w w' : World} {sv nv lv : Value} {x : BookT} (h : OwnBk base w sv nv lv x) (hk : ∀ i, base ≤ i → i < w.heap.size → w'.heap[i]? = w.heap[i]?) : OwnBk base w' sv nv lv x :=
  ⟨h.sh.kept hk, OwnR.of_block h.nm fun g hg => hk g (OwnR.lt h.nm hg).1 (OwnR.lt h.nm hg).2, OwnR.of_block h.lk fun g hg => hk g (OwnR.lt h.lk hg).1 (OwnR.lt h.lk hg).2⟩
theorem OwnSl.mono {base base' : Nat} {w : World} {v : Value} {L : List SheetT} (h : OwnSl base w v L) (hb : base' ≤ base) : OwnSl base' w v L := by
  obtain ⟨cv, h1, h2⟩ := h
  exact ⟨cv, h1.mono hb, fun j o hj => ⟨OwnR.mono (h2 j o hj).1 hb, (h2 j o hj).2⟩⟩
theorem OwnBk.mono {base base' : Nat} {w : World} {sv nv lv : Value} {x : BookT} (h : OwnBk base w sv nv lv x) (hb : base' ≤ base) : OwnBk base' w sv nv lv x := ⟨h.sh.mono hb, OwnR.mono h.nm hb, OwnR.mono h.lk hb⟩
def TkB (base B : Nat) (w : World) (rb : Nat) (o : Option (BookT × List UInt8)) (e : Ending) (w' : World) : Prop :=
  (∃ sv nv lv x r, o = some (x, r) ∧ e = .returned (.agg #[sv, nv, lv]) ∧ OwnBk base w' sv nv lv x ∧ Rd B w' rb r ∧ w.grownBy w' (some rb)) ∨ (o = none ∧ e = .panicked noneP ∧ w.grownBy w' (some rb))
theorem lstR_len {α : Type} {R : Rdr α} {l : List UInt8} {x : List α} {r : List UInt8} {B : α → List UInt8} {P : α → Prop} (hR : ∀ l x r, R l = some (x, r) → l = B x ++ r ∧ P x) (h : lstR R l = some (x, r)) : r.length < l.length := by
  obtain ⟨e, _⟩ := lstR_inv hR h
  have := numB_pos x.length
  rw [e]
  simp [lstB]
  omega

set_option maxHeartbeats 4000000 in
theorem takeBook_tk {B : Nat} {w : World} {rb : Nat} {l : List UInt8} (h : Rd B w rb l) (hB : B ≤ w.heap.size) (hrb : rb < w.heap.size) (hl : l.length ≤ 536870911999) :
    Calls Tryd.prog 30 #[ptrOf rb] w fun e w' => TkB w.heap.size B w rb (bookR l) e w' := by
  have rd0 : Hid (Rd B (w.alloc (.cells #[.slice none 0 0, .slice none 0 0, .slice none 0 0] 26)) rb l) := h.alloc hB hrb _
  have HB : Hid (B ≤ w.heap.size) := hB
  have C1 := takeSheets_tk rd0.out (by simpa using Nat.le_succ_of_le hB) (by simpa using Nat.lt_succ_of_lt hrb) hl
  clear h hB
  go_enter Tryd.func30, Tryd.ntmps30
  go_wp2_with fail
  refine C1.mono ?_
  rintro e w1 (⟨sv, x1, l1, q1, rfl, o1, rd, g⟩ | ⟨q1, rfl, g⟩)
  rotate_left
  · exact ⟨rfl, .inr ⟨by simp only [bookR, q1, Option.bind_none], rfl, grown_trans grown_alloc g⟩⟩
  have t1 := lstR_len sheetR_inv q1
  have Q1 : Hid _ := q1
  have G1 : Hid _ := g
  have O1 : Hid (OwnSl (w.alloc (.cells #[.slice none 0 0, .slice none 0 0, .slice none 0 0] 26)).heap.size w1 sv x1) := o1
  have C2 := takeNames_tk rd (Nat.le_trans (by simpa using Nat.le_succ_of_le HB.out) G1.out.size) (Nat.lt_of_lt_of_le (by simpa using Nat.lt_succ_of_lt hrb) G1.out.size) (by omega)
  clear C1 rd q1 g rd0 o1
  go_wp2_with fail
  refine C2.mono ?_
  rintro e w2 (⟨nv, x2, l2, q2, rfl, o2, rd, g⟩ | ⟨q2, rfl, g⟩)
  rotate_left
  · exact ⟨rfl, .inr ⟨by simp only [bookR, Q1.out, q2, Option.bind_some, Option.bind_none], rfl, grown_trans grown_alloc (grown_trans G1.out g)⟩⟩
  have t2 := lstR_len nameR_inv q2
  have Q2 : Hid _ := q2
  have G2 : Hid _ := grown_trans G1.out g
  have O2 : Hid (OwnNl w1.heap.size w2 nv x2) := o2
  have E12 : Hid (w1.grownBy w2 (some rb)) := g
  have C3 := takeLinks_tk rd (Nat.le_trans (by simpa using Nat.le_succ_of_le HB.out) G2.out.size) (Nat.lt_of_lt_of_le (by simpa using Nat.lt_succ_of_lt hrb) G2.out.size) (by omega)
  clear C2 rd q2 g o2
  go_wp2_with fail
  refine C3.mono ?_
  rintro e w3 (⟨lv, x3, l3, q3, rfl, o3, rd, g⟩ | ⟨q3, rfl, g⟩)
  rotate_left
  · exact ⟨rfl, .inr ⟨by simp only [bookR, Q1.out, Q2.out, q3, Option.bind_some, Option.bind_none], rfl, grown_trans grown_alloc (grown_trans G2.out g)⟩⟩
  have Q3 : Hid _ := q3
  have G3 : Hid _ := grown_trans G2.out g
  have hsz1 : w.heap.size + 1 ≤ w1.heap.size := by have := G1.out.size; simpa using this
  have hsz2 : w.heap.size + 1 ≤ w2.heap.size := by have := G2.out.size; simpa using this
  obtain ⟨sa, sc, rfl, _, _⟩ := O1.out.shs.slice
  obtain ⟨na, nc, rfl, _, _⟩ := O2.out.nms.slice
  obtain ⟨la, lc, rfl, _, _⟩ := o3.lks.slice
  obtain ⟨wz, RS, HZ, HE, HK⟩ := take_end2 (es := #[.slice sa x1.length sc, .slice na x2.length nc, .slice la x3.length lc]) (by simpa using HB.out) hrb G3.out rd inf26 rfl rfl (by simp [Value.oneCell'])
  have OB : Hid (OwnBk w.heap.size wz (.slice sa x1.length sc) (.slice na x2.length nc) (.slice la x3.length lc) ⟨x1, x2, x3⟩) := by
    have k1 : OwnSl (w.heap.size + 1) wz (.slice sa x1.length sc) x1 := by
      have o1 := O1.out
      simp only [size_alloc] at o1
      refine o1.kept fun i hi1 hi2 => ?_
      rw [HK.out i (by omega), g.block i (Nat.lt_of_lt_of_le hi2 E12.out.size) (by simp; omega), E12.out.block i hi2 (by simp; omega)]
    have k2 : OwnNl (w.heap.size + 1) wz (.slice na x2.length nc) x2 := by
      have o2 := OwnR.mono O2.out hsz1
      exact OwnR.of_block o2 fun i hi => by
        have := OwnR.lt o2 hi
        rw [HK.out i (by omega), g.block i this.2 (by simp; omega)]
    have k3 : OwnLl (w.heap.size + 1) wz (.slice la x3.length lc) x3 := by
      have o3 := OwnR.mono o3 hsz2
      exact OwnR.of_block o3 fun i hi => by
        have := OwnR.lt o3 hi
        rw [HK.out i (by omega)]
    exact OwnBk.mono ⟨k1, k2, k3⟩ (by omega)
  clear C3 rd q3 g G1 G2 o3 hsz1 hsz2 O1 O2 E12
  go_wp2_with (refine wpList_store_run rfl 26 _ _ rfl _ _ _ rfl rfl RS.out ?_)
  refine bodyPost_ret_by (results_cell_row rfl _ _ w.heap.size 26 _ (0, 0) _ rfl HZ.out Tryd.underlying26 rfl (by kernel_rfl)) rfl (.inl ⟨_, _, _, ⟨x1, x2, x3⟩, l3, ?_, rfl, OB.out, HE.out⟩)
  simp only [bookR, Q1.out, Q2.out, Q3.out, Option.bind_some]

end Go.Proofs.YtohndhmhgdelmaaDoor
