/- The contract of readGroup. -/
import Derived.Test.YtcheikpmhdliiaaDoorJRead
namespace Go.Proofs.YtcheikpmhdliiaaDoor
open Go.RowKit
set_option maxRecDepth 100000

theorem add_zero_addr (a : Addr) : a.add 0 = a := by unfold Addr.add; rfl
theorem Bts.tail {w : World} {a : Addr} {m cap : Nat} {l : List UInt8} (h2 : m ≤ l.length) (h3 : l.length ≤ cap) (h4 : cap ≤ maxLen) (h : ∀ j u, (bcells l)[j]? = some u → w.cell? (a.add j) = some u) :
    Bts w (.slice (if cap = m then some a else some (a.add m)) (l.length - m) (cap - m)) (l.drop m) := by
  by_cases hc : cap = m
  · rw [if_pos hc]
    have e : l.drop m = [] := List.drop_eq_nil_of_le (by omega)
    rw [e]
    refine .inr ⟨a, cap - m, ?_, by simp, by omega, fun j u hj => by simp [bcells] at hj⟩
    have : l.length - m = 0 := by omega
    rw [this]; rfl
  · rw [if_neg hc]
    by_cases hm : m = 0
    · subst hm
      rw [add_zero_addr]
      exact .inr ⟨a, cap, rfl, h3, h4, h⟩
    · have := Bts.later (n := l.length - m) hm (by omega) (by omega) h4 h
      rwa [List.take_of_length_le (by simp)] at this

/-- The numbers ahead, in what the walk holds: none, not one, or one. -/
theorem headInts {w : World} {v : Value} {l : List UInt8} (h : Bts w v l) (hl : l.length ≤ 1099511627776) :
    Calls Tryd.prog 25 #[v] w fun e w' => (readI l = none ∧ e = .returned (.tuple #[.slice none 0 0, .int .i64 12]) ∧ Below w.heap.size w w') ∨
      (∃ ns a' c', readI l = some ns ∧ e = .returned (.tuple #[.slice a' ns.length c', .int .i64 0]) ∧ Its w' (.slice a' ns.length c') ns ∧ (∀ n ∈ ns, In64 n) ∧ Below w.heap.size w w') := by
  rcases hq : readI l with _ | ns
  · refine (readInts_none h hl hq).mono ?_
    rintro e w1 ⟨rfl, b1⟩
    exact .inl ⟨rfl, rfl, b1⟩
  · refine (readInts_some h hl hq).mono ?_
    rintro e w1 ⟨x, rfl, i1, hI, b1⟩
    rcases i1 with ⟨rfl, rfl⟩ | ⟨p, cap, rfl, h1, h2, h3⟩
    · exact .inr ⟨[], none, 0, rfl, rfl, .inl ⟨rfl, rfl⟩, hI, b1⟩
    · exact .inr ⟨ns, some p, cap, rfl, rfl, .inr ⟨p, cap, rfl, h1, h2, h3⟩, hI, b1⟩

abbrev gz : Obj := .cells #[.int .i64 0, .slice none 0 0] 94
def RdG (w : World) (l : List UInt8) (e : Ending) (w' : World) : Prop :=
  (readG l = none ∧ e = .returned (.tuple #[.agg #[.int .i64 0, .slice none 0 0], .bool false]) ∧ Below w.heap.size w w') ∨
  (∃ s L lv, readG l = some (s, L) ∧ e = .returned (.tuple #[.agg #[.int .i64 s, lv], .bool true]) ∧ In64 s ∧ OwnOl w.heap.size w' lv L ∧ Below w.heap.size w w')

set_option maxHeartbeats 2000000 in
theorem readGroup_any {w : World} {v : Value} {l : List UInt8} (h : Bts w v l) (hl : l.length ≤ 131072) : Calls Tryd.prog 86 #[v] w fun e w' => RdG w l e w' := by
  have h' : Bts (w.alloc gz) v l := h.alloc _
  have E := endOne_any h' (by omega)
  have hle := endOne_le l
  rcases h' with ⟨rfl, rfl⟩ | ⟨a, cap, rfl, h2, h3, h4⟩
  · have hb0 : Bts (w.alloc gz) (.slice none 0 0) [] := .inl ⟨rfl, rfl⟩
    have C : Calls Tryd.prog 25 #[.slice none 0 0] (w.alloc gz) fun e w' => e = .returned (.tuple #[.slice none 0 0, .int .i64 12]) ∧ Hid (Below (w.heap.size + 1) (w.alloc gz) w') := by
      refine (readInts_none hb0 (by simp) (by decide)).mono ?_
      rintro e w1 ⟨rfl, b1⟩
      exact ⟨rfl, below_size b1⟩
    have e0 : endOne [] = 0 := rfl
    rw [e0] at E
    have HN : Hid (readG [] = none) := by show _ = _; decide
    clear h hb0 e0 hl hle
    go_enter Tryd.func86, Tryd.ntmps86
    go_wp2_with (go_at_call 92; refine E.mono ?_; rintro e w' ⟨rfl, hw⟩; obtain rfl := hw.symm; clear hw)
    refine C.mono ?_
    rintro e w1 ⟨rfl, b1⟩
    obtain ⟨wz, RS, HZ, HB, _⟩ := ret_end (w := w) (es := #[.int .i64 0, .slice none 0 0]) b1.out inf94 rfl rfl (by simp [Value.oneCell'])
    clear C b1 E
    go_wp2_with (refine wpList_store_run rfl 94 _ _ rfl _ _ _ rfl rfl RS.out ?_)
    exact bodyPost_ret_by (results2_row rfl _ _ w.heap.size 94 _ (0, 0) _ _ rfl HZ.out Tryd.underlying94 rfl (by kernel_rfl) rfl) rfl (.inl ⟨HN.out, rfl, HB.out⟩)
  · have h3' : cap ≤ 9223372036854775807 := h3
    have P1 := headInts (Bts.part hle (by omega) h3 h4) (by simp; omega)
    have BT : Hid (∀ w', Below (w.heap.size + 1) (w.alloc gz) w' → Bts w' (.slice (if cap = endOne l then some a else some (a.add (endOne l))) (l.length - endOne l) (cap - endOne l)) (l.drop (endOne l))) := fun w' hb =>
      (Bts.tail hle h2 h3 h4).kept fun i hi => hb.block i (by simpa using hi)
    have HR : Hid (readG l = match readI (l.take (endOne l)) with
      | some [s] => match readO (l.drop (endOne l)) with
        | some (o :: os) => some (s, o :: os)
        | _ => none
      | _ => none) := rfl
    have n1 : (endOne l : Int) ≤ (l.length : Int) := by omega
    have n2 : (endOne l : Int) ≤ (cap : Int) := by omega
    have hdl : (l.drop (endOne l)).length ≤ 536870911999 := by simp; omega
    clear h h4
    generalize endOne l = en at *
    by_cases hce : cap = en
    · subst hce
      rw [if_pos rfl, Nat.sub_self, show l.length - cap = 0 by omega] at BT
      go_enter Tryd.func86, Tryd.ntmps86
      go_wp2_with (go_at_call 92; refine E.mono ?_; rintro e w' ⟨rfl, hw⟩; obtain rfl := hw.symm; clear hw)
      refine P1.mono ?_
      rintro e w1 (⟨q, rfl, b1⟩ | ⟨ns, a', c', q, rfl, i1, hI, b1⟩)
      · have HN : Hid (readG l = none) := by show _ = _; rw [HR.out, q]
        obtain ⟨wz, RS, HZ, HB, _⟩ := ret_end (w := w) (es := #[.int .i64 0, .slice none 0 0]) (below_size b1) inf94 rfl rfl (by simp [Value.oneCell'])
        clear P1 b1 E BT HR q
        go_wp2_with (refine wpList_store_run rfl 94 _ _ rfl _ _ _ rfl rfl RS.out ?_)
        exact bodyPost_ret_by (results2_row rfl _ _ w.heap.size 94 _ (0, 0) _ _ rfl HZ.out Tryd.underlying94 rfl (by kernel_rfl) rfl) rfl (.inl ⟨HN.out, rfl, HB.out⟩)
      · by_cases h1 : ns.length = 1
        · obtain ⟨s, rfl⟩ : ∃ s, ns = [s] := by
            match ns, h1 with
            | [s], _ => exact ⟨s, rfl⟩
          have hs : In64 s := hI s (by simp)
          obtain ⟨p, rfl, cp⟩ : ∃ p, a' = some p ∧ ∀ w2, Below w1.heap.size w1 w2 → w2.cell? p = some (.int .i64 s) := by
            rcases i1 with ⟨e1, _⟩ | ⟨p, cap', e1, _, _, hc⟩
            · cases e1
            · cases e1
              refine ⟨p, rfl, fun w2 hb => ?_⟩
              have hc0 := hc 0 s rfl
              rw [add_zero_addr] at hc0
              rw [← hc0]
              exact World.cell?_of_block (hb.block _ (World.block_lt_of_cell? w1 _ hc0))
          have b1' := below_size b1
          have hsz1 : w.heap.size + 1 ≤ w1.heap.size := by have := b1'.size; simpa using this
          have Bt := BT.out w1 b1'
          rcases hq : readO (l.drop cap) with _ | L
          · have C : Calls Tryd.prog 13 #[.slice (some a) 0 0] w1 fun e w' => e = .returned (.tuple #[.slice none 0 0, .int .i64 12]) ∧ Hid (Below (w.heap.size + 1) (w.alloc gz) w') := by
              refine (readOps_none Bt hdl hq).mono ?_
              rintro e w2 ⟨rfl, b2⟩
              exact ⟨rfl, b1'.trans (b2.mono hsz1)⟩
            have HN : Hid (readG l = none) := by show _ = _; rw [HR.out, q, hq]
            clear P1 b1 b1' E BT HR q hq Bt cp i1 hI h1
            go_wp2_with fail
            refine C.mono ?_
            rintro e w2 ⟨rfl, b2⟩
            obtain ⟨wz, RS, HZ, HB, _⟩ := ret_end (w := w) (es := #[.int .i64 0, .slice none 0 0]) b2.out inf94 rfl rfl (by simp [Value.oneCell'])
            clear C b2
            go_wp2_with (refine wpList_store_run rfl 94 _ _ rfl _ _ _ rfl rfl RS.out ?_)
            exact bodyPost_ret_by (results2_row rfl _ _ w.heap.size 94 _ (0, 0) _ _ rfl HZ.out Tryd.underlying94 rfl (by kernel_rfl) rfl) rfl (.inl ⟨HN.out, rfl, HB.out⟩)
          · rcases L with _ | ⟨o, os⟩
            · have C : Calls Tryd.prog 13 #[.slice (some a) 0 0] w1 fun e w' => ∃ a2 c2, e = .returned (.tuple #[.slice a2 0 c2, .int .i64 0]) ∧ Hid (Below (w.heap.size + 1) (w.alloc gz) w') := by
                refine (readOps_some Bt hdl hq).mono ?_
                rintro e w2 ⟨x, rfl, o2, b2⟩
                obtain ⟨a2, c2, rfl, _, _⟩ := o2.opl.slice
                exact ⟨a2, c2, rfl, b1'.trans (b2.mono hsz1)⟩
              have HN : Hid (readG l = none) := by show _ = _; rw [HR.out, q, hq]
              clear P1 b1 b1' E BT HR q hq Bt cp i1 hI h1
              go_wp2_with fail
              refine C.mono ?_
              rintro e w2 ⟨a2, c2, rfl, b2⟩
              obtain ⟨wz, RS, HZ, HB, _⟩ := ret_end (w := w) (es := #[.int .i64 0, .slice none 0 0]) b2.out inf94 rfl rfl (by simp [Value.oneCell'])
              clear C b2
              go_wp2_with (refine wpList_store_run rfl 94 _ _ rfl _ _ _ rfl rfl RS.out ?_)
              exact bodyPost_ret_by (results2_row rfl _ _ w.heap.size 94 _ (0, 0) _ _ rfl HZ.out Tryd.underlying94 rfl (by kernel_rfl) rfl) rfl (.inl ⟨HN.out, rfl, HB.out⟩)
            · have C : Calls Tryd.prog 13 #[.slice (some a) 0 0] w1 fun e w' => ∃ a2 n2 c2, e = .returned (.tuple #[.slice a2 (n2 + 1) c2, .int .i64 0]) ∧ w'.cell? p = some (.int .i64 s) ∧ Hid (OwnOl (w.heap.size + 1) w' (.slice a2 (n2 + 1) c2) (o :: os) ∧ Below (w.heap.size + 1) (w.alloc gz) w') := by
                refine (readOps_some Bt hdl hq).mono ?_
                rintro e w2 ⟨x, rfl, o2, b2⟩
                obtain ⟨a2, c2, rfl, _, _⟩ := o2.opl.slice
                exact ⟨a2, os.length, c2, rfl, cp w2 b2, o2.mono hsz1, b1'.trans (b2.mono hsz1)⟩
              have HN : Hid (readG l = some (s, o :: os)) := by show _ = _; rw [HR.out, q, hq]
              have HS : Hid (In64 s) := hs
              clear P1 b1 b1' E BT HR q hq Bt cp i1 hI h1 hs
              go_wp2_with fail
              refine C.mono ?_
              rintro e w2 ⟨a2, n2, c2, rfl, cp2, b2⟩
              obtain ⟨wz, RS, HZ, HB, HK⟩ := ret_end (w := w) (es := #[.int .i64 s, .slice a2 (n2 + 1) c2]) b2.out.2 inf94 rfl rfl (by simp [Value.oneCell'])
              have OL : Hid (OwnOl w.heap.size wz (.slice a2 (n2 + 1) c2) (o :: os)) := (b2.out.1.kept fun i hi _ => HK.out i (by omega)).mono (by omega)
              clear C b2
              go_wp2_with (refine wpList_store_run rfl 94 _ _ rfl _ _ _ rfl rfl RS.out ?_)
              exact bodyPost_ret_by (results2_row rfl _ _ w.heap.size 94 _ (0, 0) _ _ rfl HZ.out Tryd.underlying94 rfl (by kernel_rfl) rfl) rfl (.inr ⟨s, o :: os, _, HN.out, rfl, HS.out, OL.out, HB.out⟩)
        · have HN : Hid (readG l = none) := by
            show _ = _
            rw [HR.out, q]
            match ns, h1 with
            | [], _ => rfl
            | [_], h1 => simp at h1
            | _ :: _ :: _, _ => rfl
          have h1' : ¬ (ns.length : Int) = 1 := by omega
          obtain ⟨wz, RS, HZ, HB, _⟩ := ret_end (w := w) (es := #[.int .i64 0, .slice none 0 0]) (below_size b1) inf94 rfl rfl (by simp [Value.oneCell'])
          clear P1 b1 E BT HR q i1 hI h1
          generalize ns.length = n at *
          go_wp2_with (refine wpList_store_run rfl 94 _ _ rfl _ _ _ rfl rfl RS.out ?_)
          exact bodyPost_ret_by (results2_row rfl _ _ w.heap.size 94 _ (0, 0) _ _ rfl HZ.out Tryd.underlying94 rfl (by kernel_rfl) rfl) rfl (.inl ⟨HN.out, rfl, HB.out⟩)
    · rw [if_neg hce] at BT
      go_enter Tryd.func86, Tryd.ntmps86
      go_wp2_with (go_at_call 92; refine E.mono ?_; rintro e w' ⟨rfl, hw⟩; obtain rfl := hw.symm; clear hw)
      refine P1.mono ?_
      rintro e w1 (⟨q, rfl, b1⟩ | ⟨ns, a', c', q, rfl, i1, hI, b1⟩)
      · have HN : Hid (readG l = none) := by show _ = _; rw [HR.out, q]
        obtain ⟨wz, RS, HZ, HB, _⟩ := ret_end (w := w) (es := #[.int .i64 0, .slice none 0 0]) (below_size b1) inf94 rfl rfl (by simp [Value.oneCell'])
        clear P1 b1 E BT HR q
        go_wp2_with (refine wpList_store_run rfl 94 _ _ rfl _ _ _ rfl rfl RS.out ?_)
        exact bodyPost_ret_by (results2_row rfl _ _ w.heap.size 94 _ (0, 0) _ _ rfl HZ.out Tryd.underlying94 rfl (by kernel_rfl) rfl) rfl (.inl ⟨HN.out, rfl, HB.out⟩)
      · by_cases h1 : ns.length = 1
        · obtain ⟨s, rfl⟩ : ∃ s, ns = [s] := by
            match ns, h1 with
            | [s], _ => exact ⟨s, rfl⟩
          have hs : In64 s := hI s (by simp)
          obtain ⟨p, rfl, cp⟩ : ∃ p, a' = some p ∧ ∀ w2, Below w1.heap.size w1 w2 → w2.cell? p = some (.int .i64 s) := by
            rcases i1 with ⟨e1, _⟩ | ⟨p, cap', e1, _, _, hc⟩
            · cases e1
            · cases e1
              refine ⟨p, rfl, fun w2 hb => ?_⟩
              have hc0 := hc 0 s rfl
              rw [add_zero_addr] at hc0
              rw [← hc0]
              exact World.cell?_of_block (hb.block _ (World.block_lt_of_cell? w1 _ hc0))
          have b1' := below_size b1
          have hsz1 : w.heap.size + 1 ≤ w1.heap.size := by have := b1'.size; simpa using this
          have Bt := BT.out w1 b1'
          rcases hq : readO (l.drop en) with _ | L
          · have C : Calls Tryd.prog 13 #[.slice (some (a.add en)) (l.length - en) (cap - en)] w1 fun e w' => e = .returned (.tuple #[.slice none 0 0, .int .i64 12]) ∧ Hid (Below (w.heap.size + 1) (w.alloc gz) w') := by
              refine (readOps_none Bt hdl hq).mono ?_
              rintro e w2 ⟨rfl, b2⟩
              exact ⟨rfl, b1'.trans (b2.mono hsz1)⟩
            have HN : Hid (readG l = none) := by show _ = _; rw [HR.out, q, hq]
            clear P1 b1 b1' E BT HR q hq Bt cp i1 hI h1
            go_wp2_with fail
            refine C.mono ?_
            rintro e w2 ⟨rfl, b2⟩
            obtain ⟨wz, RS, HZ, HB, _⟩ := ret_end (w := w) (es := #[.int .i64 0, .slice none 0 0]) b2.out inf94 rfl rfl (by simp [Value.oneCell'])
            clear C b2
            go_wp2_with (refine wpList_store_run rfl 94 _ _ rfl _ _ _ rfl rfl RS.out ?_)
            exact bodyPost_ret_by (results2_row rfl _ _ w.heap.size 94 _ (0, 0) _ _ rfl HZ.out Tryd.underlying94 rfl (by kernel_rfl) rfl) rfl (.inl ⟨HN.out, rfl, HB.out⟩)
          · rcases L with _ | ⟨o, os⟩
            · have C : Calls Tryd.prog 13 #[.slice (some (a.add en)) (l.length - en) (cap - en)] w1 fun e w' => ∃ a2 c2, e = .returned (.tuple #[.slice a2 0 c2, .int .i64 0]) ∧ Hid (Below (w.heap.size + 1) (w.alloc gz) w') := by
                refine (readOps_some Bt hdl hq).mono ?_
                rintro e w2 ⟨x, rfl, o2, b2⟩
                obtain ⟨a2, c2, rfl, _, _⟩ := o2.opl.slice
                exact ⟨a2, c2, rfl, b1'.trans (b2.mono hsz1)⟩
              have HN : Hid (readG l = none) := by show _ = _; rw [HR.out, q, hq]
              clear P1 b1 b1' E BT HR q hq Bt cp i1 hI h1
              go_wp2_with fail
              refine C.mono ?_
              rintro e w2 ⟨a2, c2, rfl, b2⟩
              obtain ⟨wz, RS, HZ, HB, _⟩ := ret_end (w := w) (es := #[.int .i64 0, .slice none 0 0]) b2.out inf94 rfl rfl (by simp [Value.oneCell'])
              clear C b2
              go_wp2_with (refine wpList_store_run rfl 94 _ _ rfl _ _ _ rfl rfl RS.out ?_)
              exact bodyPost_ret_by (results2_row rfl _ _ w.heap.size 94 _ (0, 0) _ _ rfl HZ.out Tryd.underlying94 rfl (by kernel_rfl) rfl) rfl (.inl ⟨HN.out, rfl, HB.out⟩)
            · have C : Calls Tryd.prog 13 #[.slice (some (a.add en)) (l.length - en) (cap - en)] w1 fun e w' => ∃ a2 n2 c2, e = .returned (.tuple #[.slice a2 (n2 + 1) c2, .int .i64 0]) ∧ w'.cell? p = some (.int .i64 s) ∧ Hid (OwnOl (w.heap.size + 1) w' (.slice a2 (n2 + 1) c2) (o :: os) ∧ Below (w.heap.size + 1) (w.alloc gz) w') := by
                refine (readOps_some Bt hdl hq).mono ?_
                rintro e w2 ⟨x, rfl, o2, b2⟩
                obtain ⟨a2, c2, rfl, _, _⟩ := o2.opl.slice
                exact ⟨a2, os.length, c2, rfl, cp w2 b2, o2.mono hsz1, b1'.trans (b2.mono hsz1)⟩
              have HN : Hid (readG l = some (s, o :: os)) := by show _ = _; rw [HR.out, q, hq]
              have HS : Hid (In64 s) := hs
              clear P1 b1 b1' E BT HR q hq Bt cp i1 hI h1 hs
              go_wp2_with fail
              refine C.mono ?_
              rintro e w2 ⟨a2, n2, c2, rfl, cp2, b2⟩
              obtain ⟨wz, RS, HZ, HB, HK⟩ := ret_end (w := w) (es := #[.int .i64 s, .slice a2 (n2 + 1) c2]) b2.out.2 inf94 rfl rfl (by simp [Value.oneCell'])
              have OL : Hid (OwnOl w.heap.size wz (.slice a2 (n2 + 1) c2) (o :: os)) := (b2.out.1.kept fun i hi _ => HK.out i (by omega)).mono (by omega)
              clear C b2
              go_wp2_with (refine wpList_store_run rfl 94 _ _ rfl _ _ _ rfl rfl RS.out ?_)
              exact bodyPost_ret_by (results2_row rfl _ _ w.heap.size 94 _ (0, 0) _ _ rfl HZ.out Tryd.underlying94 rfl (by kernel_rfl) rfl) rfl (.inr ⟨s, o :: os, _, HN.out, rfl, HS.out, OL.out, HB.out⟩)
        · have HN : Hid (readG l = none) := by
            show _ = _
            rw [HR.out, q]
            match ns, h1 with
            | [], _ => rfl
            | [_], h1 => simp at h1
            | _ :: _ :: _, _ => rfl
          have h1' : ¬ (ns.length : Int) = 1 := by omega
          obtain ⟨wz, RS, HZ, HB, _⟩ := ret_end (w := w) (es := #[.int .i64 0, .slice none 0 0]) (below_size b1) inf94 rfl rfl (by simp [Value.oneCell'])
          clear P1 b1 E BT HR q i1 hI h1
          generalize ns.length = n at *
          go_wp2_with (refine wpList_store_run rfl 94 _ _ rfl _ _ _ rfl rfl RS.out ?_)
          exact bodyPost_ret_by (results2_row rfl _ _ w.heap.size 94 _ (0, 0) _ _ rfl HZ.out Tryd.underlying94 rfl (by kernel_rfl) rfl) rfl (.inl ⟨HN.out, rfl, HB.out⟩)
end Go.Proofs.YtcheikpmhdliiaaDoor
