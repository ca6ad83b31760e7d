/- The contracts of the reference's Scan and Add. -/
import Derived.Test.YtcheikpmhdliiaaDoorRsScan2
import Derived.Test.YtcheikpmhdliiaaDoorJGroups
namespace Go.Proofs.YtcheikpmhdliiaaDoor
open Go.RowKit
set_option maxRecDepth 100000

theorem rscan_any {w : World} {v : Value} {l : List UInt8} (h : Bts w v l) {id : Int} (hid : In64 id) (hl : l.length ≤ 1000000000) :
    Calls Tryd.prog 19 #[v, .int .i64 id] w fun e w' => LgJ w (scanJ l id) e w' := by
  by_cases h1 : l.length < (beginJ id).length
  · exact rscan_short h hid h1
  · by_cases h2 : l.take (beginJ id).length = beginJ id
    · exact rscan_yes h hid (by omega) h2 hl
    · exact rscan_other h hid (by omega) h2

set_option maxHeartbeats 2000000 in
theorem radd_any {w : World} {v : Value} {l : List UInt8} (h : Bts w v l) (hl : l.length ≤ 1000000000) {lo hi : Nat} {lv : Value} {L : List OpT} (hL : Opl lo hi w lv L) (hhi : hi ≤ w.heap.size) (ok : ∀ o ∈ L, o.Ok) (hlen : (opsB L).length + 1000 ≤ 140737488355328) :
    Calls Tryd.prog 16 #[v, lv] w fun e w' => ∃ v', e = .returned (.tuple #[v', .int .i64 (addJ l L).2]) ∧ Own w.heap.size w' v' (addJ l L).1 ∧ Below w.heap.size w w' := by
  have O := rown_any h
  have H : Hid (Bts w v l) := h
  have HLL : Hid (Opl lo hi w lv L) := hL
  obtain ⟨va, vc, rfl, _, _⟩ := h.slice
  obtain ⟨la, lc, rfl, _, _⟩ := hL.slice
  rcases hq : ownJ l with _ | ⟨own, n⟩
  · have HN : Hid (addJ l L = ([], 12)) := by show _ = _; unfold addJ; rw [hq]
    have C : Calls Tryd.prog 40 #[.slice va l.length vc] w fun e w1 => e = .returned (.tuple #[.int .i64 0, .bool false]) ∧ Hid (Below w.heap.size w w1) := by
      refine O.mono ?_
      rintro e w1 (⟨_, rfl, b1⟩ | ⟨id', n', q, _⟩)
      · exact ⟨rfl, b1⟩
      · rw [hq] at q; cases q
    clear O h hq H hL HLL
    go_enter Tryd.func16, Tryd.ntmps16
    go_wp2_with (go_at_call 40; refine C.mono ?_; rintro e w1 ⟨rfl, b1⟩)
    go_ret2
    exact ⟨.slice none 0 0, by rw [HN.out]; rfl, by rw [HN.out]; exact Own.nil _ _, b1.out⟩
  · have C : Calls Tryd.prog 40 #[.slice va l.length vc] w fun e w1 => e = .returned (.tuple #[.int .i64 own, .bool true]) ∧ Hid (Below w.heap.size w w1) := by
      refine O.mono ?_
      rintro e w1 (⟨q, _⟩ | ⟨id', n', q, rfl, _, b1⟩)
      · rw [hq] at q; cases q
      · rw [hq] at q
        cases q
        exact ⟨rfl, b1⟩
    have hown : In64 own := (own_inv hq).2.2
    have HA : Hid (addJ l L = if (scanJ l own).good < l.length then ([], 12) else groupJ ((scanJ l own).groups.length + 1 : Nat) L) := by show _ = _; unfold addJ; rw [hq]
    clear O h hq hL
    go_enter Tryd.func16, Tryd.ntmps16
    go_wp2_with fail
    refine C.mono ?_
    rintro e w1 ⟨rfl, b1⟩
    have S := rscan_any (H.out.below b1.out) hown hl
    have C2 : Calls Tryd.prog 19 #[.slice va l.length vc, .int .i64 own] w1 fun e w2 => ∃ (ga : Option Addr) (gc gn good : Nat) (gb : Bool), e = .returned (.agg #[.slice ga gn gc, .int .i64 (good : Int), .bool gb]) ∧ Hid (gn = (scanJ l own).groups.length ∧ good = (scanJ l own).good ∧ gn ≤ 1099511627776 ∧ Below w.heap.size w w2) := by
      refine S.mono ?_
      rintro e w2 ⟨ga, gc, rfl, gp, _, b2⟩
      refine ⟨ga, gc, _, _, _, rfl, rfl, rfl, ?_, b1.out.trans (b2.mono b1.out.size)⟩
      unfold scanJ
      split
      · split
        · rename_i hn _
          have := followF_bound (l.length + 1) (l.drop ‹Nat›) 0
          simp only [followJ, List.length_drop] at *
          omega
        · simp
      · simp
    clear C S H b1
    go_wp2_with fail
    refine C2.mono ?_
    rintro e w2 ⟨ga, gc, gn, good, gb, rfl, HG⟩
    obtain ⟨hgn, hgood, hg40, hB2⟩ := HG.out
    by_cases hlt : good < l.length
    · have HN : Hid (addJ l L = ([], 12)) := by show _ = _; rw [HA.out, ← hgood, if_pos hlt]
      have B2 : Hid (Below w.heap.size w w2) := hB2
      clear C2 HG hgn hgood hB2 HA  HLL
      go_wp2
      go_ret2
      exact ⟨.slice none 0 0, by rw [HN.out]; rfl, by rw [HN.out]; exact Own.nil _ _, B2.out.alloc B2.out.size _⟩
    · have HN : Hid (addJ l L = groupJ ((gn : Int) + 1) L) := by show _ = _; rw [HA.out, ← hgood, if_neg hlt, ← hgn]; rfl
      have hB3 : Below w.heap.size w (w2.alloc (.cells #[.slice ga gn gc, .int .i64 (good : Int), .bool gb] 40)) := hB2.alloc hB2.size _
      have G := refGroup_any (seq := (gn : Int) + 1) (by constructor <;> omega) (HLL.out.below hhi hB3) (Nat.le_trans hhi hB3.size) ok hlen
      have C3 : Calls Tryd.prog 23 #[.int .i64 ((gn : Int) + 1), .slice la L.length lc] (w2.alloc (.cells #[.slice ga gn gc, .int .i64 (good : Int), .bool gb] 40)) fun e w3 => ∃ v' er, e = .returned (.tuple #[v', .int .i64 er]) ∧ Hid (er = (addJ l L).2 ∧ Own w.heap.size w3 v' (addJ l L).1 ∧ Below w.heap.size w w3) := by
        refine G.mono ?_
        rintro e w3 ⟨v', rfl, o3, b3⟩
        rw [HN.out]
        exact ⟨v', _, rfl, rfl, o3.mono_base hB3.size, hB3.trans (b3.mono hB3.size)⟩
      clear C2 HG hgn hgood hB2 HA  HLL hB3 G HN
      go_wp2_with fail
      refine C3.mono ?_
      rintro e w3 ⟨v', er, rfl, HO⟩
      clear C3
      go_wp2_with fail
      go_ret2
      exact ⟨v', by rw [HO.out.1]; rfl, HO.out.2⟩
end Go.Proofs.YtcheikpmhdliiaaDoor
