import Derived.Test.YtcheikpmhdliiaaDoorRsScan2
import Derived.Test.YtcheikpmhdliiaaDoorJGroups
import Derived.Test.YtcheikpmhdliiaaDoorJAll
/- The contracts of the reference's Scan and Add. -/
namespace Go.Proofs.YtcheikpmhdliiaaDoor
open Go.RowKit
set_option maxRecDepth 100000

theorem rscan_any {w : World} {v : Value} {l : List UInt8} (h : Bts w v l) {id : Int} (hid : In64 id) (hl : l.length ≤ 1000000000) :
    Calls Tryd.prog 19 #[v, .int .i64 id] w fun e w' => LgJ w (scanJ l id) e w' := by
  by_cases h1 : l.length < (beginJ id).length
  · exact rscan_short h hid h1
  · by_cases h2 : l.take (beginJ id).length = beginJ id
    · exact rscan_yes h hid (by omega) h2 hl
    · exact rscan_other h hid (by omega) h2

set_option maxHeartbeats 2000000 in
theorem radd_any {w : World} {v : Value} {l : List UInt8} (h : Bts w v l) (hl : l.length ≤ 1000000000) {lo hi : Nat} {lv : Value} {L : List OpT} (hL : Opl lo hi w lv L) (hhi : hi ≤ w.heap.size) (ok : ∀ o ∈ L, o.Ok) (hlen : (opsB L).length + 1000 ≤ 140737488355328) :
    Calls Tryd.prog 16 #[v, lv] w fun e w' => ∃ v', e = .returned (.tuple #[v', .int .i64 (addJ l L).2]) ∧ Own w.heap.size w' v' (addJ l L).1 ∧ Below w.heap.size w w' := by
  have O := rown_any h
  have H : Hid (Bts w v l) := h
  have HLL : Hid (Opl lo hi w lv L) := hL
  obtain ⟨va, vc, rfl, _, _⟩ := h.slice
  obtain ⟨la, lc, rfl, _, _⟩ := hL.slice
  rcases hq : ownJ l with _ | ⟨own, n⟩
  · have HN : Hid (addJ l L = ([], 12)) := by show _ = _; unfold addJ; rw [hq]
    have C : Calls Tryd.prog 40 #[.slice va l.length vc] w fun e w1 => e = .returned (.tuple #[.int .i64 0, .bool false]) ∧ Hid (Below w.heap.size w w1) := by
      refine O.mono ?_
      rintro e w1 (⟨_, rfl, b1⟩ | ⟨id', n', q, _⟩)
      · exact ⟨rfl, b1⟩
      · rw [hq] at q; cases q
    clear O h hq H hL HLL
    go_enter Tryd.func16, Tryd.ntmps16
    go_wp2_with (go_at_call 40; refine C.mono ?_; rintro e w1 ⟨rfl, b1⟩)
    go_ret2
    exact ⟨.slice none 0 0, by rw [HN.out]; rfl, by rw [HN.out]; exact Own.nil _ _, b1.out⟩
  · have C : Calls Tryd.prog 40 #[.slice va l.length vc] w fun e w1 => e = .returned (.tuple #[.int .i64 own, .bool true]) ∧ Hid (Below w.heap.size w w1) := by
      refine O.mono ?_
      rintro e w1 (⟨q, _⟩ | ⟨id', n', q, rfl, _, b1⟩)
      · rw [hq] at q; cases q
      · rw [hq] at q
        cases q
        exact ⟨rfl, b1⟩
    have hown : In64 own := (own_inv hq).2.2
    have HA : Hid (addJ l L = if (scanJ l own).good < l.length then ([], 12) else groupJ ((scanJ l own).groups.length + 1 : Nat) L) := by show _ = _; unfold addJ; rw [hq]
    clear O h hq hL
    go_enter Tryd.func16, Tryd.ntmps16
    go_wp2_with fail
    refine C.mono ?_
    rintro e w1 ⟨rfl, b1⟩
    have S := rscan_any (H.out.below b1.out) hown hl
    have C2 : Calls Tryd.prog 19 #[.slice va l.length vc, .int .i64 own] w1 fun e w2 => ∃ (ga : Option Addr) (gc gn good : Nat) (gb : Bool), e = .returned (.agg #[.slice ga gn gc, .int .i64 (good : Int), .bool gb]) ∧ Hid (gn = (scanJ l own).groups.length ∧ good = (scanJ l own).good ∧ gn ≤ 1099511627776 ∧ Below w.heap.size w w2) := by
      refine S.mono ?_
      rintro e w2 ⟨ga, gc, rfl, gp, _, b2⟩
      refine ⟨ga, gc, _, _, _, rfl, rfl, rfl, ?_, b1.out.trans (b2.mono b1.out.size)⟩
      unfold scanJ
      split
      · split
        · rename_i hn _
          have := followF_bound (l.length + 1) (l.drop ‹Nat›) 0
          simp only [followJ, List.length_drop] at *
          omega
        · simp
      · simp
    clear C S H b1
    go_wp2_with fail
    refine C2.mono ?_
    rintro e w2 ⟨ga, gc, gn, good, gb, rfl, HG⟩
    obtain ⟨hgn, hgood, hg40, hB2⟩ := HG.out
    by_cases hlt : good < l.length
    · have HN : Hid (addJ l L = ([], 12)) := by show _ = _; rw [HA.out, ← hgood, if_pos hlt]
      have B2 : Hid (Below w.heap.size w w2) := hB2
      clear C2 HG hgn hgood hB2 HA  HLL
      go_wp2
      go_ret2
      exact ⟨.slice none 0 0, by rw [HN.out]; rfl, by rw [HN.out]; exact Own.nil _ _, B2.out.alloc B2.out.size _⟩
    · have HN : Hid (addJ l L = groupJ ((gn : Int) + 1) L) := by show _ = _; rw [HA.out, ← hgood, if_neg hlt, ← hgn]; rfl
      have hB3 : Below w.heap.size w (w2.alloc (.cells #[.slice ga gn gc, .int .i64 (good : Int), .bool gb] 40)) := hB2.alloc hB2.size _
      have G := refGroup_any (seq := (gn : Int) + 1) (by constructor <;> omega) (HLL.out.below hhi hB3) (Nat.le_trans hhi hB3.size) ok hlen
      have C3 : Calls Tryd.prog 23 #[.int .i64 ((gn : Int) + 1), .slice la L.length lc] (w2.alloc (.cells #[.slice ga gn gc, .int .i64 (good : Int), .bool gb] 40)) fun e w3 => ∃ v' er, e = .returned (.tuple #[v', .int .i64 er]) ∧ Hid (er = (addJ l L).2 ∧ Own w.heap.size w3 v' (addJ l L).1 ∧ Below w.heap.size w w3) := by
        refine G.mono ?_
        rintro e w3 ⟨v', rfl, o3, b3⟩
        rw [HN.out]
        exact ⟨v', _, rfl, rfl, o3.mono_base hB3.size, hB3.trans (b3.mono hB3.size)⟩
      clear C2 HG hgn hgood hB2 HA  HLL hB3 G HN
      go_wp2_with fail
      refine C3.mono ?_
      rintro e w3 ⟨v', er, rfl, HO⟩
      clear C3
      go_wp2_with fail
      go_ret2
      exact ⟨v', by rw [HO.out.1]; rfl, HO.out.2⟩
end Go.Proofs.YtcheikpmhdliiaaDoor

/- The contract of the law's own comparison of two logs. -/
namespace Go.Proofs.YtcheikpmhdliiaaDoor
open Go.RowKit
set_option maxRecDepth 100000

theorem next_len {l : List UInt8} {k n : Nat} {L : List OpT} (h : nextJ l k = some (L, n)) : (opsB L).length ≤ 131072 := by
  have hb := (unframe_bound l).2.2
  by_cases h0 : (unframeB l).2.2 = 0
  · rcases hq : readG (unframeB l).1 with _ | ⟨s, L'⟩
    · rw [next_bad h0 (by intro L' e; rw [hq] at e; cases e)] at h
      cases h
    · obtain ⟨r, h1, h2, _⟩ := readG_ref.1 hq
      have e1 := lst_len h1
      have e2 := (readO_inv h2).1
      by_cases hs : s = (k : Int) + 1
      · subst hs
        rw [next_ref h0 hq] at h
        cases h
        rw [← e2]
        omega
      · rw [next_bad h0 (by intro L'' e; rw [hq] at e; cases e; exact hs rfl)] at h
        cases h
  · rw [next_err h0] at h
    cases h
theorem follow_len : ∀ (f : Nat) (l : List UInt8) (k : Nat), ∀ g ∈ (followF f l k).1, (opsB g).length ≤ 131072 := by
  intro f
  induction f with
  | zero => intro l k g hg; simp [followF] at hg
  | succ f ih =>
    intro l k g hg
    rw [followF] at hg
    rcases hq : nextJ l k with _ | ⟨os, n⟩
    · rw [hq] at hg; simp at hg
    · rw [hq] at hg
      dsimp only at hg
      rcases List.mem_cons.1 hg with rfl | hg
      · exact next_len hq
      · exact ih _ _ g hg
theorem scan_len (l : List UInt8) (id : Int) : (∀ g ∈ (scanJ l id).groups, (opsB g).length ≤ 131072) ∧ (scanJ l id).groups.length ≤ l.length ∧ (scanJ l id).good ≤ l.length := by
  unfold scanJ
  split
  · rename_i own n hq
    split
    · have h1 := follow_len (l.length + 1) (l.drop n) 0
      have h2 := followF_bound (l.length + 1) (l.drop n) 0
      have h3 := own_inv hq
      have h4 := congrArg List.length h3.1
      rw [List.length_append, List.length_drop] at h4
      simp only [followJ, List.length_drop] at *
      exact ⟨h1, by omega, by omega⟩
    · simp
  · simp

/-- The two logs and a group of each, as the walk reads them. -/
def K4 (B : Nat) (a1 : Option Addr) (n c1 : Nat) (a2 : Option Addr) (c2 : Nat) (p q : Addr) (pa : Option Addr) (m pc : Nat) (qa : Option Addr) (qc : Nat) (u : World) : Prop :=
  u.cell? ⟨B, 0, none⟩ = some (.slice a1 n c1) ∧ u.cell? ⟨B + 1, 0, none⟩ = some (.slice a2 n c2) ∧ u.cell? p = some (.slice pa m pc) ∧ u.cell? q = some (.slice qa m qc)
theorem K4.kept {B : Nat} {a1 : Option Addr} {n c1 : Nat} {a2 : Option Addr} {c2 : Nat} {p q : Addr} {pa : Option Addr} {m pc : Nat} {qa : Option Addr} {qc : Nat} {u u' : World} (h : K4 B a1 n c1 a2 c2 p q pa m pc qa qc u) (hb : Below u.heap.size u u') : K4 B a1 n c1 a2 c2 p q pa m pc qa qc u' := by
  have k : ∀ {x : Addr} {v : Value}, u.cell? x = some v → u'.cell? x = some v := fun {x v} hx => by
    rw [← hx]
    exact World.cell?_of_block (hb.block _ (World.block_lt_of_cell? u _ hx))
  exact ⟨k h.1, k h.2.1, k h.2.2.1, k h.2.2.2⟩

set_option maxHeartbeats 4000000 in
theorem sameLogs {w : World} {a1 a2 : Option Addr} {c1 c2 : Nat} {gs : List (List OpT)} {good : Int} {bd : Bool} (h1 : Gps 0 w.heap.size w (.slice a1 gs.length c1) gs) (h2 : Gps 0 w.heap.size w (.slice a2 gs.length c2) gs) (ok : ∀ g ∈ gs, ∀ o ∈ g, o.Ok) (hlen : ∀ g ∈ gs, (opsB g).length ≤ 131072) (hn : gs.length ≤ 1000000000) :
    Calls Tryd.prog 17 #[.agg #[.slice a1 gs.length c1, .int .i64 good, .bool bd], .agg #[.slice a2 gs.length c2, .int .i64 good, .bool bd]] w fun e w' => e = .returned (.bool true) ∧ Below w.heap.size w w' := by
  have H1 : Hid (Gps 0 w.heap.size w (.slice a1 gs.length c1) gs) := h1
  have H2 : Hid (Gps 0 w.heap.size w (.slice a2 gs.length c2) gs) := h2
  have OK : Hid ((∀ g ∈ gs, ∀ o ∈ g, o.Ok) ∧ ∀ g ∈ gs, (opsB g).length ≤ 131072) := ⟨ok, hlen⟩
  have hbd : (bd != bd) = false := by simp
  clear h1 h2 ok hlen
  go_enter Tryd.func17, Tryd.ntmps17
  go_wp2_with fail
  go_loopw [30] (fun u30 wr => ∃ i : Nat, u30 = .int .i64 i ∧ i ≤ gs.length ∧ Hid (Below w.heap.size w wr ∧ wr.heap[w.heap.size]? = some (.cells #[.slice a1 gs.length c1, .int .i64 good, .bool bd] 38 (0, 0)) ∧ wr.heap[w.heap.size + 1]? = some (.cells #[.slice a2 gs.length c2, .int .i64 good, .bool bd] 40 (0, 0)))) (fun u30 _ => gs.length - (intOf u30).toNat)
  case atStart =>
    refine ⟨0, rfl, by omega, ((Below.refl _ w).alloc (Nat.le_refl _) _).alloc (by simp) _, ?_, ?_⟩
    · exact (Below.heap_alloc _ _ _ (by simp)).trans (heap_alloc_new w _)
    · have := heap_alloc_new (w.alloc (.cells #[.slice a1 gs.length c1, .int .i64 good, .bool bd] 38)) (.cells #[.slice a2 gs.length c2, .int .i64 good, .bool bd] 40)
      simpa using this
  case round =>
    obtain ⟨i, rfl, hi, HB⟩ := hrel
    by_cases hlt : i < gs.length
    · obtain ⟨hb, hx1, hx2⟩ := HB.out
      have hil : (i : Int) < (gs.length : Int) := by omega
      obtain ⟨p, gv, e1, cp, o1⟩ := (H1.out.below (Nat.le_refl _) hb).at hlt
      obtain ⟨q, iv, e2, cq, o2⟩ := (H2.out.below (Nat.le_refl _) hb).at hlt
      obtain ⟨pa, pc, rfl, _, _⟩ := o1.slice
      obtain ⟨qa, qc, rfl, _, _⟩ := o2.slice
      subst e1 e2
      have O1 : Hid (Opl 0 wr.heap.size wr (.slice pa gs[i].length pc) gs[i]) := o1.mono (Nat.le_refl _) hb.size
      have O2 : Hid (Opl 0 wr.heap.size wr (.slice qa gs[i].length qc) gs[i]) := o2.mono (Nat.le_refl _) hb.size
      have HOK : Hid ((∀ o ∈ gs[i], o.Ok) ∧ (opsB gs[i]).length ≤ 131072) := ⟨OK.out.1 _ (List.getElem_mem hlt), OK.out.2 _ (List.getElem_mem hlt)⟩
      have hgl : gs[i].length ≤ 131072 := by
        have h1 := flatMap_ge opB_pos gs[i]
        have h2 := HOK.out.2
        simp only [opsB, lstB, List.length_append] at h2
        omega
      have HK : Hid (K4 w.heap.size (some p) gs.length c1 (some q) c2 (p.add i) (q.add i) pa gs[i].length pc qa qc wr) := ⟨cell_heap hx1 rfl, cell_heap hx2 rfl, cp, cq⟩
      clear o1 o2 hx1 hx2 hb
      generalize gs[i] = g at *
      have T1 : Hid (Calls Tryd.prog 12 #[.slice pa g.length pc] wr.drew fun e w' => ∃ v', e = .returned v' ∧ Hid (K4 w.heap.size (some p) gs.length c1 (some q) c2 (p.add i) (q.add i) pa g.length pc qa qc w') ∧ Hid (Own wr.heap.size w' v' (opsB g) ∧ Below wr.heap.size wr w')) := by
        have O1' : Opl 0 wr.heap.size wr.drew (.slice pa g.length pc) g := O1.out.kept fun _ _ _ => rfl
        refine (refOps_any O1' (Nat.le_refl _) HOK.out.1 (by have := HOK.out.2; omega)).mono ?_
        rintro e w' ⟨v', rfl, o', b'⟩
        have b'' : Below wr.heap.size wr w' := ⟨b'.os, b'.tape, b'.output, b'.size, b'.block⟩
        exact ⟨v', rfl, HK.out.kept b'', o', b''⟩
      have T2 : Hid (∀ w1 v1, Hid (K4 w.heap.size (some p) gs.length c1 (some q) c2 (p.add i) (q.add i) pa g.length pc qa qc w1) → Hid (Own wr.heap.size w1 v1 (opsB g) ∧ Below wr.heap.size wr w1) → Calls Tryd.prog 12 #[.slice qa g.length qc] w1 fun e w' => ∃ v', e = .returned v' ∧ Hid (K4 w.heap.size (some p) gs.length c1 (some q) c2 (p.add i) (q.add i) pa g.length pc qa qc w') ∧ Hid (Bts w' v1 (opsB g) ∧ Bts w' v' (opsB g) ∧ Below wr.heap.size wr w')) := by
        intro w1 v1 hk1 ho1
        refine (refOps_any (O2.out.below (Nat.le_refl _) ho1.out.2) ho1.out.2.size HOK.out.1 (by have := HOK.out.2; omega)).mono ?_
        rintro e w' ⟨v', rfl, o', b'⟩
        exact ⟨v', rfl, hk1.out.kept b', ho1.out.1.bts.below b', o'.bts, ho1.out.2.trans (b'.mono ho1.out.2.size)⟩
      have T3 : Hid (∀ w2 v1 v2, Hid (Bts w2 v1 (opsB g) ∧ Bts w2 v2 (opsB g) ∧ Below wr.heap.size wr w2) → Calls Tryd.prog 11 #[v1, v2] w2 fun e w' => e = .returned (.bool true) ∧ w' = w2) := fun w2 v1 v2 ho => same_yes ho.out.1 ho.out.2.1
      clear O1 O2 HOK cq cp
      go_wp2_with fail
      go_region_held_law (fun u => u.cell? ⟨w.heap.size, 0, none⟩ = some (.slice (some p) gs.length c1) ∧ u.cell? ⟨w.heap.size + 1, 0, none⟩ = some (.slice (some q) gs.length c2) ∧ u.cell? (p.add i) = some (.slice pa g.length pc) ∧ u.cell? (q.add i) = some (.slice qa g.length qc)) (exact HK.out) (first
        | (go_at_call_of 12 pa; refine T1.out.mono ?_; rintro e w5 ⟨v5, rfl, HK, HO⟩)
        | (go_at_call_of 12 qa; refine (T2.out _ _ HK HO).mono ?_; rintro e w6 ⟨v6, rfl, HK, HO2⟩)
        | (go_at_call 11; refine (T3.out _ _ _ HO2).mono ?_; rintro e w7 ⟨rfl, hw⟩; obtain rfl := hw.symm; clear hw))
      have HC2 : Hid (Below w.heap.size w w6 ∧ w6.heap[w.heap.size]? = some (.cells #[.slice (some p) gs.length c1, .int .i64 good, .bool bd] 38 (0, 0)) ∧ w6.heap[w.heap.size + 1]? = some (.cells #[.slice (some q) gs.length c2, .int .i64 good, .bool bd] 40 (0, 0))) := by
        obtain ⟨hb, hx1, hx2⟩ := HB.out
        have b6 := HO2.out.2.2
        have lt : ∀ {i : Nat} {o : Obj}, wr.heap[i]? = some o → i < wr.heap.size := fun {i o} h => (Array.getElem?_eq_some_iff.1 h).1
        exact ⟨hb.trans (b6.mono hb.size), (b6.block _ (lt hx1)).trans hx1, (b6.block _ (lt hx2)).trans hx2⟩
      clear T1 T2 T3 HK HO HO2 HB
      go_wp2_with fail
      go_roundw
      case rel => exact ⟨i + 1, by go_num, by omega, HC2⟩
      case measure => simp [intOf]; omega
    · have B : Hid (Below w.heap.size w wr) := HB.out.1
      clear HB
      go_wp2_with fail
      go_ret
      exact ⟨rfl, B.out⟩
end Go.Proofs.YtcheikpmhdliiaaDoor
