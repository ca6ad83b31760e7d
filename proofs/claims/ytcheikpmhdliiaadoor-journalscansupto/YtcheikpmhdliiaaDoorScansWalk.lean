/- The walk of the law JournalScans, and a handed row of bytes opened. -/
import Derived.Test.YtcheikpmhdliiaaDoorRsSame
import Derived.Test.YtcheikpmhdliiaaDoorJLives
import Derived.Test.YtcheikpmhdliiaaDoorOpOpens
namespace Go.Proofs.YtcheikpmhdliiaaDoor
open Go.ChangeShapes Go.WideShapes Go.ChangeAt Go.WideElems Go.RowKit Go.Deep
set_option maxRecDepth 100000

theorem wf_u8 {n : Int} (h : (Lit.int .u8 n).wf = true) : 0 ≤ n ∧ n < 256 := by
  have h1 : IntKind.u8.min = 0 := rfl
  have h2 : IntKind.u8.max = 255 := rfl
  simp [Lit.wf] at h
  omega
theorem bts_row {W : World} {x : Addr} {len cap : Nat} {zs : List Int} (h1 : len ≤ cap) (h2 : cap ≤ maxLen) (hz : zs.length = cap) (hc : ∀ i, i < zs.length → W.cell? (x.add i) = some (.int .u8 (zs.getD i 0))) (hw : ∀ n ∈ zs, (Lit.int .u8 n).wf = true) :
    Bts W (.slice (some x) len cap) ((zs.take len).map fun z => UInt8.ofNat z.toNat) := by
  have hl : ((zs.take len).map fun z => UInt8.ofNat z.toNat).length = len := by simp; omega
  refine .inr ⟨x, cap, by rw [hl], by omega, h2, fun j u hj => ?_⟩
  have hjn : j < len := by
    rcases Nat.lt_or_ge j len with e | e
    · exact e
    · rw [List.getElem?_eq_none (by rw [bcells_length, hl]; exact e)] at hj; cases hj
  have hjz : j < zs.length := by omega
  have hz1 : zs[j]? = some zs[j] := List.getElem?_eq_getElem hjz
  obtain ⟨q1, q2⟩ := wf_u8 (hw zs[j] (List.getElem_mem _))
  rw [hc j hjz, List.getD_eq_getElem?_getD, hz1]
  simp [bcells, hjn, hz1] at hj
  subst hj
  simp
  omega
theorem bts_open {H : Type} {enc : TypeId × Value → H} {W : World} {fuel : Nat} {a0 : Option Addr} {len0 cap0 : Nat} {x : DataW H × List MemPlace} (hf : DataW.trod enc Tryd.prog W 0 (fun _ => true) true fuel 24 [.slice a0 len0 cap0] = some x) : ∃ l, Bts W (.slice a0 len0 cap0) l ∧ True := by
  rcases open_ints Tryd.underlying24 Tryd.underlying5 (by kernel_rfl) hf with ⟨hcs, _⟩ | ⟨x, l, c, zs, hcs, _, hl, hm, hz, hx, hcell, hwz⟩
  · simp at hcs
    obtain ⟨rfl, rfl, rfl⟩ := hcs
    exact ⟨[], .inl ⟨rfl, rfl⟩, trivial⟩
  · simp at hcs
    obtain ⟨rfl, rfl, rfl⟩ := hcs
    simp only [if_true] at hz
    exact ⟨_, bts_row hl hm (by omega) hcell hwz, trivial⟩

theorem LgJ.logs {w w' : World} {x : LogT} {e : Ending} (h : LgJ w x e w') : ∃ a c, e = .returned (.agg #[.slice a x.groups.length c, .int .i64 (x.good : Int), .bool x.bound]) ∧ Gps 0 w'.heap.size w' (.slice a x.groups.length c) x.groups ∧ (∀ g ∈ x.groups, ∀ o ∈ g, o.Ok) ∧ Below w.heap.size w w' := by
  obtain ⟨a, c, e1, e2, e3, e4⟩ := h
  exact ⟨a, c, e1, e2.mono (Nat.zero_le _) (Nat.le_refl _), e3, e4⟩

set_option maxHeartbeats 8000000 in
theorem scans_walk {w : World} {v : Value} {l : List UInt8} (h : Bts w v l) (T : Tab w) {id : Int} (hid : In64 id) {lv : Value} {L : List OpT} (hL : Opl 0 w.heap.size w lv L) (ok : ∀ o ∈ L, o.Ok) (hlen : (opsB L).length ≤ 10485760) :
    Calls Tryd.prog 4 #[v, .int .i64 id, lv] w fun e w' => e = .returned (.bool true) ∧ Below w.heap.size w w' := by
  obtain ⟨va, vc, rfl, hvc, hvm⟩ := h.slice
  obtain ⟨la, lc, rfl, _, _⟩ := hL.slice
  have hLl : L.length ≤ 10485760 := by
    have h1 := flatMap_ge opB_pos L
    simp only [opsB, lstB, List.length_append] at hlen
    omega
  have hvm' : l.length ≤ 9223372036854775807 := Nat.le_trans hvc hvm
  by_cases hbig : 20000 < l.length ∨ 50 < L.length
  · have C := livesJ_any T
    clear h T hL ok hlen
    by_cases h1 : 20000 < l.length
    · go_enter Tryd.func4, Tryd.ntmps4
      go_wp2_with (go_at_call 14; refine C.mono ?_; rintro e w' ⟨rfl, hb⟩)
      go_ret
      exact ⟨rfl, hb⟩
    · have h2 : 50 < L.length := by omega
      go_enter Tryd.func4, Tryd.ntmps4
      go_wp2_with (go_at_call 14; refine C.mono ?_; rintro e w' ⟨rfl, hb⟩)
      go_ret
      exact ⟨rfl, hb⟩
  · have hl1 : ¬ 20000 < l.length := by omega
    have hl2 : ¬ 50 < L.length := by omega
    have A1 := add_any h T (by omega) hL (Nat.le_refl _) ok (by omega)
    have H : Hid (Bts w (.slice va l.length vc) l) := h
    have HT : Hid (Tab w) := T
    have HL : Hid (Opl 0 w.heap.size w (.slice la L.length lc) L) := hL
    have HOK : Hid (∀ o ∈ L, o.Ok) := ok
    have SL : Hid ((∀ g ∈ (scanJ l id).groups, (opsB g).length ≤ 131072) ∧ (scanJ l id).groups.length ≤ l.length ∧ (scanJ l id).good ≤ l.length) := scan_len l id
    clear h T hL ok
    go_enter Tryd.func4, Tryd.ntmps4
    go_wp2_with fail
    refine A1.mono ?_
    rintro e w1 ⟨v1, rfl, o1, b1⟩
    have A2 : Calls Tryd.prog 16 #[.slice va l.length vc, .slice la L.length lc] w1 fun e w2 => ∃ v2, e = .returned (.tuple #[v2, .int .i64 (addJ l L).2]) ∧ Hid (Bts w2 v1 (addJ l L).1 ∧ Bts w2 v2 (addJ l L).1 ∧ Below w.heap.size w w2) := by
      refine (radd_any (H.out.below b1) (by omega) (HL.out.below (Nat.le_refl _) b1) b1.size HOK.out (by omega)).mono ?_
      rintro e w2 ⟨v2, rfl, o2, b2⟩
      exact ⟨v2, rfl, o1.bts.below b2, o2.bts, b1.trans (b2.mono b1.size)⟩
    clear A1 o1 b1
    generalize addJ l L = ad at *
    obtain ⟨ab, ae⟩ := ad
    dsimp only at *
    go_wp2_with fail
    refine A2.mono ?_
    rintro e w2 ⟨v2, rfl, HA⟩
    have S1 := scan_any (id := id) (H.out.below HA.out.2.2) (HT.out.below (Nat.le_refl _) HA.out.2.2) (by omega)
    have S1' : Calls Tryd.prog 18 #[.slice va l.length vc, .int .i64 id] w2 fun e w3 => ∃ a1 c1, e = .returned (.agg #[.slice a1 (scanJ l id).groups.length c1, .int .i64 ((scanJ l id).good : Int), .bool (scanJ l id).bound]) ∧ Hid (Gps 0 w3.heap.size w3 (.slice a1 (scanJ l id).groups.length c1) (scanJ l id).groups ∧ Below w2.heap.size w2 w3 ∧ ∀ g ∈ (scanJ l id).groups, ∀ o ∈ g, o.Ok) := by
      refine S1.mono ?_
      rintro e w3 hlg
      obtain ⟨a1, c1, rfl, g1, ok1, b3⟩ := hlg.logs
      exact ⟨a1, c1, rfl, g1, b3, ok1⟩
    clear A2 S1
    have S2 : Hid (∀ w3, Below w2.heap.size w2 w3 → Calls Tryd.prog 19 #[.slice va l.length vc, .int .i64 id] w3 fun e w4 => LgJ w3 (scanJ l id) e w4) := fun w3 hb => rscan_any ((H.out.below HA.out.2.2).below hb) hid (by omega)
    generalize scanJ l id = x at *
    go_wp2_with fail
    refine S1'.mono ?_
    rintro e w3 ⟨a1, c1, rfl, H3⟩
    have S2' : Calls Tryd.prog 19 #[.slice va l.length vc, .int .i64 id] w3 fun e w4 => ∃ a2 c2, e = .returned (.agg #[.slice a2 x.groups.length c2, .int .i64 (x.good : Int), .bool x.bound]) ∧ Hid (Gps 0 w4.heap.size w4 (.slice a1 x.groups.length c1) x.groups ∧ Gps 0 w4.heap.size w4 (.slice a2 x.groups.length c2) x.groups ∧ Below w2.heap.size w2 w4 ∧ ∀ g ∈ x.groups, ∀ o ∈ g, o.Ok) := by
      refine (S2.out w3 H3.out.2.1).mono ?_
      rintro e w4 hlg
      obtain ⟨a2, c2, rfl, g2, ok2, b4⟩ := hlg.logs
      exact ⟨a2, c2, rfl, (H3.out.1.below (Nat.le_refl _) b4).mono (Nat.le_refl _) b4.size, g2, H3.out.2.1.trans (b4.mono H3.out.2.1.size), ok2⟩
    clear S1' S2 H3
    go_wp2_with fail
    refine S2'.mono ?_
    rintro e w4 ⟨a2, c2, rfl, H4⟩
    have E1 : Calls Tryd.prog 17 #[.agg #[.slice a1 x.groups.length c1, .int .i64 (x.good : Int), .bool x.bound], .agg #[.slice a2 x.groups.length c2, .int .i64 (x.good : Int), .bool x.bound]] w4 fun e w5 => e = .returned (.bool true) ∧ Hid (Below w2.heap.size w2 w5) := by
      refine (sameLogs H4.out.1 H4.out.2.1 H4.out.2.2.2 SL.out.1 (by have := SL.out.2.1; omega)).mono ?_
      rintro e w5 ⟨rfl, b5⟩
      exact ⟨rfl, H4.out.2.2.1.trans (b5.mono H4.out.2.2.1.size)⟩
    clear S2' H4 SL
    generalize x.groups.length = xn at *
    go_wp2_with fail
    refine E1.mono ?_
    rintro e w5 ⟨rfl, B5⟩
    have hb5 : Below w.heap.size w w5 := HA.out.2.2.trans (B5.out.mono HA.out.2.2.size)
    have G1 := begin_any (HT.out.below (Nat.le_refl _) hb5) hid
    clear E1
    go_wp2_with fail
    refine G1.mono ?_
    rintro e w6 ⟨v6, rfl, o6, b6⟩
    have G2 : Calls Tryd.prog 21 #[.int .i64 id] w6 fun e w7 => ∃ v7, e = .returned v7 ∧ Hid (Bts w7 v6 (beginJ id) ∧ Bts w7 v7 (beginJ id) ∧ Below w5.heap.size w5 w7) := by
      refine (rbegin_any w6 hid).mono ?_
      rintro e w7 ⟨v7, rfl, o7, b7⟩
      exact ⟨v7, rfl, o6.bts.below b7, o7.bts, b6.trans (b7.mono b6.size)⟩
    clear G1 o6 b6
    go_wp2_with fail
    refine G2.mono ?_
    rintro e w7 ⟨v7, rfl, H7⟩
    have hb7 : Below w.heap.size w w7 := hb5.trans (H7.out.2.2.mono hb5.size)
    have hb27 : Below w2.heap.size w2 w7 := B5.out.trans (H7.out.2.2.mono B5.out.size)
    have D1 := same_yes H7.out.1 H7.out.2.1
    have D2 := same_yes (HA.out.1.below hb27) (HA.out.2.1.below hb27)
    have D3 := livesJ_any (HT.out.below (Nat.le_refl _) hb7)
    have B7 : Hid (Below w.heap.size w w7) := hb7
    clear G2 H7 hb5 hb7 hb27 B5
    go_wp2_with fail
    refine D1.mono ?_
    rintro e w' ⟨rfl, hw⟩; obtain rfl := hw.symm; clear hw D1
    go_wp2_with fail
    refine D2.mono ?_
    rintro e w' ⟨rfl, hw⟩; obtain rfl := hw.symm; clear hw D2
    go_wp2_with fail
    refine D3.mono ?_
    rintro e w8 ⟨rfl, b8⟩
    have B8 : Hid (Below w.heap.size w w8) := B7.out.trans (b8.mono B7.out.size)
    clear D3 b8
    go_wp2_with fail
    go_ret
    exact ⟨rfl, B8.out⟩
end Go.Proofs.YtcheikpmhdliiaaDoor
