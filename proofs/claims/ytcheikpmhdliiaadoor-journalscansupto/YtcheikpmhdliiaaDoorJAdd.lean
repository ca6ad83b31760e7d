/- The contracts of Scan and Add. -/
import Derived.Test.YtcheikpmhdliiaaDoorJScan
namespace Go.Proofs.YtcheikpmhdliiaaDoor
open Go.RowKit
set_option maxRecDepth 100000

theorem ownJ_nil : ownJ [] = none := by unfold ownJ; rw [first_nil]
set_option maxHeartbeats 2000000 in
theorem scan_any {w : World} {v : Value} {l : List UInt8} (h : Bts w v l) (T : Tab w) {id : Int} (hl : l.length ≤ 1000000000) :
    Calls Tryd.prog 18 #[v, .int .i64 id] w fun e w' => LgJ w (scanJ l id) e w' := by
  have O := ownId_any (h.alloc (.cells logZ 38)) (T.alloc _)
  have HT : Hid (Tab w) := T
  have H : Hid (Bts w v l) := h
  rcases hq : ownJ l with _ | ⟨own, n⟩
  · have HN : Hid (scanJ l id = ⟨[], 0, false⟩) := by show _ = _; unfold scanJ; rw [hq]
    have C : Calls Tryd.prog 39 #[v] (w.alloc (.cells logZ 38)) fun e w1 => e = .returned (.tuple #[.int .i64 0, .int .i64 0, .bool false]) ∧ Hid (Below (w.heap.size + 1) (w.alloc (.cells logZ 38)) w1) := by
      refine O.mono ?_
      rintro e w1 (⟨_, rfl, b1⟩ | ⟨id', n', q, _⟩)
      · exact ⟨rfl, below_size b1⟩
      · rw [hq] at q; cases q
    clear O h T hq H
    go_enter Tryd.func18, Tryd.ntmps18
    go_wp2_with fail
    refine C.mono ?_
    rintro e w1 ⟨rfl, b1⟩
    obtain ⟨wz, RS, HZ, HB, _⟩ := ret_end (w := w) (es := logZ) b1.out inf38 rfl rfl (by simp [Value.oneCell'])
    clear C b1
    go_wp2_with (refine wpList_store_run rfl 38 _ _ rfl _ _ _ rfl rfl RS.out ?_)
    refine bodyPost_ret_by (results_cell_row rfl _ _ w.heap.size 38 _ (0, 0) _ rfl HZ.out Tryd.underlying38 rfl (by kernel_rfl)) rfl ?_
    rw [HN.out]
    exact ⟨none, 0, rfl, Gps.nil _ _ _, by simp, HB.out⟩
  · have C : Calls Tryd.prog 39 #[v] (w.alloc (.cells logZ 38)) fun e w1 => e = .returned (.tuple #[.int .i64 own, .int .i64 (n : Int), .bool true]) ∧ n ≤ l.length ∧ Hid (Below (w.heap.size + 1) (w.alloc (.cells logZ 38)) w1) := by
      refine O.mono ?_
      rintro e w1 (⟨q, _⟩ | ⟨id', n', q, rfl, _, _, hn, b1⟩)
      · rw [hq] at q; cases q
      · rw [hq] at q
        cases q
        exact ⟨rfl, hn, below_size b1⟩
    by_cases hid : own = id
    · have HN : Hid (scanJ l id = followJ l n) := by show _ = _; unfold scanJ; rw [hq]; simp [hid]
      obtain ⟨a, cap, rfl⟩ : ∃ a cap, v = .slice (some a) l.length cap := by
        rcases h with ⟨rfl, rfl⟩ | ⟨a, cap, rfl, _⟩
        · rw [ownJ_nil] at hq; cases hq
        · exact ⟨a, cap, rfl⟩
      subst hid
      clear O h T hq
      go_enter Tryd.func18, Tryd.ntmps18
      go_wp2_with fail
      refine C.mono ?_
      rintro e w1 ⟨rfl, hn, b1⟩
      have hsz1 : w.heap.size + 1 ≤ w1.heap.size := by have := b1.out.size; simpa using this
      have hB1 : Below w.heap.size w w1 := ((Below.refl _ w).alloc (Nat.le_refl _) _).trans (b1.out.mono (by omega))
      have F := follow_any (H.out.below hB1) (HT.out.below (Nat.le_refl _) hB1) hn hl
      have C2 : Calls Tryd.prog 41 #[.slice (some a) l.length cap, .int .i64 (n : Int)] w1 fun e w2 => ∃ ga gc gn good gb wz, e = .returned (.agg #[.slice ga gn gc, .int .i64 (good : Int), .bool gb]) ∧
          Hid ((Instr.storeAt 38 (.pointer (some ⟨w.heap.size, 0, none⟩)) (.agg #[.slice ga gn gc, .int .i64 (good : Int), .bool gb])).run Tryd.prog w2 = .ok () wz) ∧ Hid (wz.heap[w.heap.size]? = some (.cells #[.slice ga gn gc, .int .i64 (good : Int), .bool gb] 38 (0, 0))) ∧
          Hid (LgJ w (scanJ l own) (.returned (.agg #[.slice ga gn gc, .int .i64 (good : Int), .bool gb])) wz) := by
        refine F.mono ?_
        rintro e w2 ⟨ga, gc, rfl, gp, ok, b2⟩
        have b2' : Below (w.heap.size + 1) (w.alloc (.cells logZ 38)) w2 := b1.out.trans (b2.mono hsz1)
        obtain ⟨wz, RS, HZ, HB, HK⟩ := ret_end (w := w) (es := #[.slice ga (followJ l n).groups.length gc, .int .i64 ((followJ l n).good : Int), .bool (followJ l n).bound]) b2' inf38 rfl rfl (by simp [Value.oneCell'])
        refine ⟨ga, gc, _, _, _, wz, rfl, RS, HZ, ?_⟩
        rw [HN.out]
        have gp2 : Gps w1.heap.size w2.heap.size wz (.slice ga (followJ l n).groups.length gc) (followJ l n).groups := gp.kept fun i hi _ => HK.out i (by omega)
        have hszz : w2.heap.size ≤ wz.heap.size := by
          rcases Nat.lt_or_ge wz.heap.size w2.heap.size with h | h
          · exfalso
            by_cases e : wz.heap.size = w.heap.size
            · have := HZ.out
              rw [Array.getElem?_eq_none (by omega)] at this
              cases this
            · have := HK.out wz.heap.size e
              rw [Array.getElem?_eq_none (Nat.le_refl _), Array.getElem?_eq_getElem h] at this
              cases this
          · exact h
        exact ⟨ga, gc, rfl, gp2.mono (by omega) hszz, ok, HB.out⟩
      clear F C b1 hB1 H HT HN hsz1 hn
      go_wp2_with fail
      refine C2.mono ?_
      rintro e w2 ⟨ga, gc, gn, good, gb, wz, rfl, RS, HZ, LG⟩
      clear C2
      go_wp2_with (refine wpList_store_run rfl 38 _ _ rfl _ _ _ rfl rfl RS.out ?_)
      exact bodyPost_ret_by (results_cell_row rfl _ _ w.heap.size 38 _ (0, 0) _ rfl HZ.out Tryd.underlying38 rfl (by kernel_rfl)) rfl LG.out
    · have HN : Hid (scanJ l id = ⟨[], 0, false⟩) := by show _ = _; unfold scanJ; rw [hq]; simp [hid]
      clear O h T hq H HT
      go_enter Tryd.func18, Tryd.ntmps18
      go_wp2_with fail
      refine C.mono ?_
      rintro e w1 ⟨rfl, hn, b1⟩
      obtain ⟨wz, RS, HZ, HB, _⟩ := ret_end (w := w) (es := logZ) b1.out inf38 rfl rfl (by simp [Value.oneCell'])
      clear C b1
      go_wp2_with (refine wpList_store_run rfl 38 _ _ rfl _ _ _ rfl rfl RS.out ?_)
      refine bodyPost_ret_by (results_cell_row rfl _ _ w.heap.size 38 _ (0, 0) _ rfl HZ.out Tryd.underlying38 rfl (by kernel_rfl)) rfl ?_
      rw [HN.out]
      exact ⟨none, 0, rfl, Gps.nil _ _ _, by simp, HB.out⟩

set_option maxHeartbeats 2000000 in
theorem add_any {w : World} {v : Value} {l : List UInt8} (h : Bts w v l) (T : Tab w) (hl : l.length ≤ 1000000000) {lo hi : Nat} {lv : Value} {L : List OpT} (hL : Opl lo hi w lv L) (hhi : hi ≤ w.heap.size) (ok : ∀ o ∈ L, o.Ok) (hlen : (opsB L).length + 1000 ≤ 140737488355328) :
    Calls Tryd.prog 15 #[v, lv] w fun e w' => ∃ v', e = .returned (.tuple #[v', .int .i64 (addJ l L).2]) ∧ Own w.heap.size w' v' (addJ l L).1 ∧ Below w.heap.size w w' := by
  have O := ownId_any h T
  have HT : Hid (Tab w) := T
  have H : Hid (Bts w v l) := h
  have HLL : Hid (Opl lo hi w lv L) := hL
  obtain ⟨va, vc, rfl, _, _⟩ := h.slice
  obtain ⟨la, lc, rfl, _, _⟩ := hL.slice
  rcases hq : ownJ l with _ | ⟨own, n⟩
  · have HN : Hid (addJ l L = ([], 12)) := by show _ = _; unfold addJ; rw [hq]
    have C : Calls Tryd.prog 39 #[.slice va l.length vc] w fun e w1 => e = .returned (.tuple #[.int .i64 0, .int .i64 0, .bool false]) ∧ Hid (Below w.heap.size w w1) := by
      refine O.mono ?_
      rintro e w1 (⟨_, rfl, b1⟩ | ⟨id', n', q, _⟩)
      · exact ⟨rfl, b1⟩
      · rw [hq] at q; cases q
    clear O h T hq H hL HLL HT
    go_enter Tryd.func15, Tryd.ntmps15
    go_wp2_with (go_at_call 39; refine C.mono ?_; rintro e w1 ⟨rfl, b1⟩)
    go_ret2
    exact ⟨.slice none 0 0, by rw [HN.out]; rfl, by rw [HN.out]; exact Own.nil _ _, b1.out⟩
  · have C : Calls Tryd.prog 39 #[.slice va l.length vc] w fun e w1 => e = .returned (.tuple #[.int .i64 own, .int .i64 (n : Int), .bool true]) ∧ Hid (Below w.heap.size w w1) := by
      refine O.mono ?_
      rintro e w1 (⟨q, _⟩ | ⟨id', n', q, rfl, _, _, hn, b1⟩)
      · rw [hq] at q; cases q
      · rw [hq] at q
        cases q
        exact ⟨rfl, b1⟩
    have HA : Hid (addJ l L = if (scanJ l own).good < l.length then ([], 12) else groupJ ((scanJ l own).groups.length + 1 : Nat) L) := by show _ = _; unfold addJ; rw [hq]
    clear O h T hq hL
    go_enter Tryd.func15, Tryd.ntmps15
    go_wp2_with fail
    refine C.mono ?_
    rintro e w1 ⟨rfl, b1⟩
    have S := scan_any (id := own) (H.out.below b1.out) (HT.out.below (Nat.le_refl _) b1.out) hl
    have C2 : Calls Tryd.prog 18 #[.slice va l.length vc, .int .i64 own] w1 fun e w2 => ∃ (ga : Option Addr) (gc gn good : Nat) (gb : Bool), e = .returned (.agg #[.slice ga gn gc, .int .i64 (good : Int), .bool gb]) ∧ Hid (gn = (scanJ l own).groups.length ∧ good = (scanJ l own).good ∧ gn ≤ 1099511627776 ∧ Below w.heap.size w w2) := by
      refine S.mono ?_
      rintro e w2 ⟨ga, gc, rfl, gp, _, b2⟩
      refine ⟨ga, gc, _, _, _, rfl, rfl, rfl, ?_, b1.out.trans (b2.mono b1.out.size)⟩
      unfold scanJ
      split
      · split
        · rename_i hn _
          have := followF_bound (l.length + 1) (l.drop ‹Nat›) 0
          simp only [followJ, List.length_drop] at *
          omega
        · simp
      · simp
    clear C S H b1
    go_wp2_with fail
    refine C2.mono ?_
    rintro e w2 ⟨ga, gc, gn, good, gb, rfl, HG⟩
    obtain ⟨hgn, hgood, hg40, hB2⟩ := HG.out
    by_cases hlt : good < l.length
    · have HN : Hid (addJ l L = ([], 12)) := by show _ = _; rw [HA.out, ← hgood, if_pos hlt]
      have B2 : Hid (Below w.heap.size w w2) := hB2
      clear C2 HG hgn hgood hB2 HA HLL HT
      go_wp2
      go_ret2
      exact ⟨.slice none 0 0, by rw [HN.out]; rfl, by rw [HN.out]; exact Own.nil _ _, B2.out.alloc B2.out.size _⟩
    · have HN : Hid (addJ l L = groupJ ((gn : Int) + 1) L) := by show _ = _; rw [HA.out, ← hgood, if_neg hlt, ← hgn]; rfl
      have hB3 : Below w.heap.size w (w2.alloc (.cells #[.slice ga gn gc, .int .i64 (good : Int), .bool gb] 38)) := hB2.alloc hB2.size _
      have G := group_any (HT.out.below (Nat.le_refl _) hB3) (seq := (gn : Int) + 1) (by constructor <;> omega) (HLL.out.below hhi hB3) (Nat.le_trans hhi hB3.size) ok hlen
      have C3 : Calls Tryd.prog 22 #[.int .i64 ((gn : Int) + 1), .slice la L.length lc] (w2.alloc (.cells #[.slice ga gn gc, .int .i64 (good : Int), .bool gb] 38)) fun e w3 => ∃ v' er, e = .returned (.tuple #[v', .int .i64 er]) ∧ Hid (er = (addJ l L).2 ∧ Own w.heap.size w3 v' (addJ l L).1 ∧ Below w.heap.size w w3) := by
        refine G.mono ?_
        rintro e w3 ⟨v', rfl, o3, b3⟩
        rw [HN.out]
        exact ⟨v', _, rfl, rfl, o3.mono_base hB3.size, hB3.trans (b3.mono hB3.size)⟩
      clear C2 HG hgn hgood hB2 HA HLL HT hB3 G HN
      go_wp2_with fail
      refine C3.mono ?_
      rintro e w3 ⟨v', er, rfl, HO⟩
      clear C3
      go_wp2_with fail
      go_ret2
      exact ⟨v', by rw [HO.out.1]; rfl, HO.out.2⟩
end Go.Proofs.YtcheikpmhdliiaaDoor
