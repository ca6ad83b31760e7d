import Derived.Test.YtcheikpmhdliiaaDoorJGroup
/- The contracts of first and ownId. -/
namespace Go.Proofs.YtcheikpmhdliiaaDoor
open Go.RowKit
set_option maxRecDepth 100000

def FsJ (w : World) (l : List UInt8) (e : Ending) (w' : World) : Prop :=
  (firstJ l = none ∧ e = .returned (.tuple #[.nilIface, .int .i64 0]) ∧ Below w.heap.size w w') ∨
  (∃ id n, firstJ l = some (.hdr id, n) ∧ e = .returned (.tuple #[.iface 92 (.agg #[.int .i64 id]), .int .i64 (n : Int)]) ∧ In64 id ∧ Below w.heap.size w w') ∨
  (∃ s L n lv, firstJ l = some (.grp s L, n) ∧ e = .returned (.tuple #[.iface 94 (.agg #[.int .i64 s, lv]), .int .i64 (n : Int)]) ∧ In64 s ∧ (∀ o ∈ L, o.Ok) ∧ OwnOl w.heap.size w' lv L ∧ Below w.heap.size w w')

theorem readG_ok {l : List UInt8} {s : Int} {L : List OpT} (h : readG l = some (s, L)) : ∀ o ∈ L, o.Ok := by
  unfold readG at h
  split at h
  · split at h
    · rename_i hq
      cases h
      exact (readO_inv hq).2
    · cases h
  · cases h
theorem readH_in {l : List UInt8} {id : Int} (h : readH l = some id) : In64 id := by
  unfold readH at h
  split at h
  · rename_i hq
    split at h
    · cases h
      exact (readI_inv hq).2 _ (by simp)
    · cases h
  · cases h

set_option maxHeartbeats 2000000 in
theorem first_any {w : World} {v : Value} {l : List UInt8} (h : Bts w v l) (T : Tab w) : Calls Tryd.prog 64 #[v] w fun e w' => FsJ w l e w' := by
  have hub := unframe_bound l
  have HF : Hid (firstJ l = if (unframeB l).2.2 = 0 then (recJ (unframeB l).1).map fun r => (r, (unframeB l).2.1) else none) := rfl
  have U := unframe_any h T
  clear h T
  generalize unframeB l = u at *
  obtain ⟨c, n, er⟩ := u
  dsimp only at *
  have hcl : c.length ≤ 131072 := hub.2.2
  by_cases he : er = 0
  · subst he
    clear hub
    go_enter Tryd.func64, Tryd.ntmps64
    go_wp2_with fail
    refine U.mono ?_
    rintro e w1 ⟨cv, rfl, o1, b1⟩
    have G := readGroup_any o1.bts hcl
    have BC : Hid (Bts w1 cv c) := o1.bts
    have B1 : Hid (Below w.heap.size w w1) := b1
    clear U o1 b1
    go_wp2_with fail
    refine G.mono ?_
    rintro e w2 (⟨q, rfl, b2⟩ | ⟨s, L, lv, q, rfl, hs, ol, b2⟩)
    · have B2 : Hid (Below w.heap.size w w2) := B1.out.trans (b2.mono B1.out.size)
      have BC2 : Hid (Bts (w2.alloc (.cells #[.int .i64 0, .slice none 0 0] 94)) cv c) := (BC.out.below b2).alloc _
      rcases hq : readH c with _ | id
      · have Hd := readHeader_none BC2.out (by omega) hq
        have HN : Hid (firstJ l = none) := by
          show _ = _
          rw [HF.out]
          simp only [if_true, recJ, q, hq, Option.map_none]
        have B3 : Hid (∀ w3, Below (w2.alloc (.cells #[.int .i64 0, .slice none 0 0] 94)).heap.size (w2.alloc (.cells #[.int .i64 0, .slice none 0 0] 94)) w3 → Below w.heap.size w w3) := fun w3 hb => (B2.out.alloc B2.out.size _).trans (hb.mono (by have := B2.out.size; simp; omega))
        clear G b2 q HF BC BC2 B1 B2 hq
        go_wp2_with fail
        refine Hd.mono ?_
        rintro e w3 ⟨rfl, b3⟩
        have B4 : Hid (Below w.heap.size w w3) := B3.out w3 b3
        clear Hd b3 B3
        go_wp2_with fail
        go_ret2
        exact .inl ⟨HN.out, rfl, B4.out.alloc B4.out.size _⟩
      · have Hd := readHeader_some BC2.out (by omega) hq
        have HN : Hid (firstJ l = some (.hdr id, n)) := by
          show _ = _
          rw [HF.out]
          simp only [if_true, recJ, q, hq, Option.map_some]
        have HI : Hid (In64 id) := readH_in hq
        have B3 : Hid (∀ w3, Below (w2.alloc (.cells #[.int .i64 0, .slice none 0 0] 94)).heap.size (w2.alloc (.cells #[.int .i64 0, .slice none 0 0] 94)) w3 → Below w.heap.size w w3) := fun w3 hb => (B2.out.alloc B2.out.size _).trans (hb.mono (by have := B2.out.size; simp; omega))
        clear G b2 q HF BC BC2 B1 B2 hq
        go_wp2_with fail
        refine Hd.mono ?_
        rintro e w3 ⟨rfl, b3⟩
        have B4 : Hid (Below w.heap.size w w3) := B3.out w3 b3
        clear Hd b3 B3
        go_wp2_with fail
        go_ret2
        exact .inr (.inl ⟨id, n, HN.out, rfl, HI.out, B4.out.alloc B4.out.size _⟩)
    · have HN : Hid (firstJ l = some (.grp s L, n)) := by
        show _ = _
        rw [HF.out]
        simp only [if_true, recJ, q, Option.map_some]
      have HS : Hid (In64 s ∧ (∀ o ∈ L, o.Ok) ∧ OwnOl w.heap.size (w2.alloc (.cells #[.int .i64 s, lv] 94)) lv L ∧ Below w.heap.size w (w2.alloc (.cells #[.int .i64 s, lv] 94))) := by
        have B2 : Below w.heap.size w w2 := B1.out.trans (b2.mono B1.out.size)
        exact ⟨hs, readG_ok q, (ol.kept fun i _ hi => Below.heap_alloc w2 _ i hi).mono B1.out.size, B2.alloc B2.size _⟩
      obtain ⟨la, lc, rfl, _, _⟩ := ol.opl.slice
      clear G b2 q HF BC B1 ol hs
      go_wp2_with fail
      go_ret2
      exact .inr (.inr ⟨s, L, n, _, HN.out, rfl, HS.out⟩)
  · have he' : ¬ (er : Int) = 0 := by omega
    have HN : Hid (firstJ l = none) := by show _ = _; rw [HF.out, if_neg he]
    clear hub HF he
    go_enter Tryd.func64, Tryd.ntmps64
    go_wp2_with (go_at_call 26; refine U.mono ?_; rintro e w1 ⟨cv, rfl, o1, b1⟩)
    go_ret2
    exact .inl ⟨HN.out, rfl, b1⟩

theorem taH_yes (W : World) (v : Value) : (Instr.typeAssert (.iface 92 v) 117 92 true).run Tryd.prog W = .ok (.tuple #[v, .bool true]) W := by kernel_rfl
theorem taH_grp (W : World) (v : Value) : (Instr.typeAssert (.iface 94 v) 117 92 true).run Tryd.prog W = .ok (.tuple #[.agg #[.int .i64 0], .bool false]) W := by kernel_rfl
theorem taH_nil (W : World) : (Instr.typeAssert .nilIface 117 92 true).run Tryd.prog W = .ok (.tuple #[.agg #[.int .i64 0], .bool false]) W := by kernel_rfl
theorem taG_yes (W : World) (v : Value) : (Instr.typeAssert (.iface 94 v) 117 94 true).run Tryd.prog W = .ok (.tuple #[v, .bool true]) W := by kernel_rfl
theorem taG_hdr (W : World) (v : Value) : (Instr.typeAssert (.iface 92 v) 117 94 true).run Tryd.prog W = .ok (.tuple #[.agg #[.int .i64 0, .slice none 0 0], .bool false]) W := by kernel_rfl
theorem taG_nil (W : World) : (Instr.typeAssert .nilIface 117 94 true).run Tryd.prog W = .ok (.tuple #[.agg #[.int .i64 0, .slice none 0 0], .bool false]) W := by kernel_rfl

def OwJ (w : World) (l : List UInt8) (e : Ending) (w' : World) : Prop :=
  (ownJ l = none ∧ e = .returned (.tuple #[.int .i64 0, .int .i64 0, .bool false]) ∧ Below w.heap.size w w') ∨
  (∃ (id : Int) (n : Nat), ownJ l = some (id, n) ∧ e = .returned (.tuple #[.int .i64 id, .int .i64 (n : Int), .bool true]) ∧ In64 id ∧ 8 ≤ n ∧ n ≤ l.length ∧ Below w.heap.size w w')

set_option maxHeartbeats 1000000 in
theorem ownId_any {w : World} {v : Value} {l : List UInt8} (h : Bts w v l) (T : Tab w) : Calls Tryd.prog 39 #[v] w fun e w' => OwJ w l e w' := by
  have F := first_any h T
  have t1 := taH_yes
  have t2 := taH_grp
  have t3 := taH_nil
  clear h T
  go_enter Tryd.func39, Tryd.ntmps39
  go_wp2_with fail
  refine F.mono ?_
  rintro e w1 (⟨q, rfl, b1⟩ | ⟨id, n, q, rfl, hid, b1⟩ | ⟨s, L, n, lv, q, rfl, _, _, ol, b1⟩)
  · have HN : Hid (ownJ l = none ∧ Below w.heap.size w w1) := ⟨by unfold ownJ; rw [q], b1⟩
    clear q b1 F
    go_wp2_with fail
    go_ret3
    exact .inl ⟨HN.out.1, rfl, HN.out.2.alloc HN.out.2.size _⟩
  · have HN : Hid (ownJ l = some (id, n) ∧ In64 id ∧ 8 ≤ n ∧ n ≤ l.length ∧ Below w.heap.size w w1) := ⟨by unfold ownJ; rw [q], hid, (firstJ_bound q).1, (firstJ_bound q).2, b1⟩
    clear q b1 F hid
    go_wp2_with fail
    go_ret3
    exact .inr ⟨id, n, HN.out.1, rfl, HN.out.2.1, HN.out.2.2.1, HN.out.2.2.2.1, HN.out.2.2.2.2.alloc HN.out.2.2.2.2.size _⟩
  · have HN : Hid (ownJ l = none ∧ Below w.heap.size w w1) := ⟨by unfold ownJ; rw [q], b1⟩
    clear q b1 F ol
    go_wp2_with fail
    go_ret3
    exact .inl ⟨HN.out.1, rfl, HN.out.2.alloc HN.out.2.size _⟩
end Go.Proofs.YtcheikpmhdliiaaDoor

/- A row of groups of one's own, and a group that is appended to it; no walk. -/
namespace Go.Proofs.YtcheikpmhdliiaaDoor
open Go.RowKit

def OwnGp (lo0 base : Nat) (w : World) (v : Value) (L : List (List OpT)) : Prop :=
  ∃ gv : Nat → Value, OwnR base 22 1 w v L.length (fun j => [gv j]) ∧ ∀ j g, L[j]? = some g → ∃ lo hi, Opl lo hi w (gv j) g ∧ lo0 ≤ lo ∧ hi ≤ w.heap.size ∧ ∀ b, v.ownBlock = some b → b < lo ∨ hi ≤ b
theorem OwnGp.nil (w : World) (lo0 base : Nat) : OwnGp lo0 base w (.slice none 0 0) [] := ⟨fun _ => .slice none 0 0, OwnR.nil _ _ _ _ _, fun j o hj => by simp at hj⟩
theorem OwnGp.gps {lo0 base : Nat} {w : World} {v : Value} {L : List (List OpT)} (h : OwnGp lo0 base w v L) : Gps 0 w.heap.size w v L := by
  obtain ⟨gv, h1, h2⟩ := h
  refine ⟨gv, h1.rws.mono (Nat.zero_le _) (Nat.le_refl _), fun j g hj => ?_⟩
  obtain ⟨lo, hi, k1, _, k2, _⟩ := h2 j g hj
  exact k1.mono (Nat.zero_le _) k2
theorem OwnGp.gps2 {base : Nat} {w : World} {v : Value} {L : List (List OpT)} (h : OwnGp base base w v L) : Gps base w.heap.size w v L := by
  obtain ⟨gv, h1, h2⟩ := h
  refine ⟨gv, h1.rws, fun j g hj => ?_⟩
  obtain ⟨lo, hi, k1, k0, k2, _⟩ := h2 j g hj
  exact k1.mono k0 k2
theorem OwnGp.lt {lo0 base : Nat} {w : World} {v : Value} {L : List (List OpT)} (h : OwnGp lo0 base w v L) {g : Nat} (hg : v.ownBlock = some g) : base ≤ g ∧ g < w.heap.size := by
  obtain ⟨gv, h1, h2⟩ := h
  exact h1.lt hg
theorem OwnGp.mono {lo0 base base' : Nat} {w : World} {v : Value} {L : List (List OpT)} (h : OwnGp lo0 base w v L) (hb : base' ≤ base) : OwnGp lo0 base' w v L := by
  obtain ⟨gv, h1, h2⟩ := h
  exact ⟨gv, h1.mono hb, h2⟩
/-- All that is there stays: the row of groups, too. -/
theorem OwnGp.kept {lo0 base : Nat} {w w' : World} {v : Value} {L : List (List OpT)} (h : OwnGp lo0 base w v L) (hk : ∀ i, i < w.heap.size → w'.heap[i]? = w.heap[i]?) (hs : w.heap.size ≤ w'.heap.size) : OwnGp lo0 base w' v L := by
  obtain ⟨gv, h1, h2⟩ := h
  refine ⟨gv, h1.of_block fun g hg => hk g (h1.lt hg).2, fun j g hj => ?_⟩
  obtain ⟨lo, hi, k1, k0, k2, k3⟩ := h2 j g hj
  exact ⟨lo, hi, k1.kept fun i _ hi => hk i (by omega), k0, by omega, k3⟩
/-- Blocks ahead of it may turn. -/
theorem OwnGp.kept2 {base : Nat} {w w' : World} {v : Value} {L : List (List OpT)} (h : OwnGp base base w v L) (hk : ∀ i, base ≤ i → i < w.heap.size → w'.heap[i]? = w.heap[i]?) (hs : w.heap.size ≤ w'.heap.size) : OwnGp base base w' v L := by
  obtain ⟨gv, h1, h2⟩ := h
  refine ⟨gv, h1.of_block fun g hg => hk g (h1.lt hg).1 (h1.lt hg).2, fun j g hj => ?_⟩
  obtain ⟨lo, hi, k1, k0, k2, k3⟩ := h2 j g hj
  exact ⟨lo, hi, k1.kept fun i hi1 hi2 => hk i (by omega) (by omega), k0, by omega, k3⟩

theorem own_gp {lo0 base : Nat} {w : World} {v : Value} {L : List (List OpT)} (h : OwnGp lo0 base w v L) (hb : base ≤ w.heap.size) {lo hi : Nat} {lv : Value} {g : List OpT} (hg : Opl lo hi w lv g) (hlo : lo0 ≤ lo) (hhi : hi ≤ w.heap.size) (hne : ∀ b, v.ownBlock = some b → b < lo ∨ hi ≤ b) (hl : L.length + 1 ≤ 1099511627776) :
    ∃ v' w', (Builtin.append_ #[36, 36] 36 #[v, .slice (some ⟨w.heap.size, 0, none⟩) 1 1]).run Tryd.prog (w.alloc (.cells #[lv] 22)) = .ok v' w' ∧ OwnGp lo0 base w' v' (L ++ [g]) ∧ Below base w w' ∧ w.grownBy w' v.ownBlock := by
  obtain ⟨gv, h1, h2⟩ := h
  have ha : ∀ i, i < w.heap.size → (w.alloc (.cells #[lv] 22)).heap[i]? = w.heap[i]? := fun i hi => Below.heap_alloc w _ i hi
  have h' : OwnR base 22 1 (w.alloc (.cells #[lv] 22)) v L.length (fun j => [gv j]) := h1.of_block fun g hg => ha g (h1.lt hg).2
  obtain ⟨la, lc, elv, _, _⟩ := hg.slice
  obtain ⟨v', w', r1, r2, r3, r4, r5⟩ := row_app Tryd.underlying36 inf22 rfl (by decide) h' (b := w.heap.size) (es := [lv]) (z := (0, 0)) (heap_alloc_new w _) rfl (by intro u hu; simp at hu; rw [hu, elv]; rfl) (by omega) hl (by simp; omega)
  have hsz : w.heap.size + 1 ≤ w'.heap.size := by have := r3.size; simpa using this
  have keep : ∀ {lo hi : Nat} {c : Value} {l : List OpT}, Opl lo hi w c l → hi ≤ w.heap.size → (∀ b, v.ownBlock = some b → b < lo ∨ hi ≤ b) → Opl lo hi w' c l ∧ hi ≤ w'.heap.size ∧ ∀ b, v'.ownBlock = some b → b < lo ∨ hi ≤ b := fun {lo hi c l} k1 k2 k3 => by
    refine ⟨k1.kept fun i hi1 hi2 => ?_, by omega, fun b hb' => ?_⟩
    · refine (r3.block i (by simp; omega) (fun e => ?_)).trans (ha i (by omega))
      have := k3 i e.symm
      omega
    · rcases r5 b hb' with h | h
      · exact k3 b h
      · simp at h; omega
  refine ⟨v', w', r1, ⟨fun j => if j = L.length then lv else gv j, ?_, fun j o hj => ?_⟩, ((Below.refl base w).alloc hb _).trans r4, ⟨r3.os, r3.tape, r3.output, by omega, fun k hk hne' => (r3.block k (by simp; omega) hne').trans (ha k hk)⟩⟩
  · rw [List.length_append]
    refine (show OwnR base 22 1 w' v' (L.length + 1) _ from ?_)
    obtain ⟨xs, k1, k2⟩ := r2
    refine ⟨xs, k1, fun j i u hj hu => k2 j i u hj ?_⟩
    dsimp only at hu ⊢
    by_cases hjn : j = L.length
    · rw [if_pos hjn] at hu ⊢
      exact hu
    · rw [if_neg hjn] at hu ⊢
      exact hu
  · dsimp only
    by_cases hjn : j = L.length
    · rw [if_pos hjn]
      subst hjn
      simp at hj
      subst hj
      obtain ⟨q1, q2, q3⟩ := keep hg hhi hne
      exact ⟨lo, hi, q1, hlo, q2, q3⟩
    · rw [if_neg hjn]
      have hlt : j < L.length := by
        rcases Nat.lt_or_ge j (L ++ [g]).length with h | h
        · simp at h; omega
        · rw [List.getElem?_eq_none h] at hj; cases hj
      rw [List.getElem?_append_left hlt] at hj
      obtain ⟨lo', hi', k1, k0, k2, k3⟩ := h2 j o hj
      obtain ⟨q1, q2, q3⟩ := keep k1 k2 k3
      exact ⟨lo', hi', q1, k0, q2, q3⟩
end Go.Proofs.YtcheikpmhdliiaaDoor
