/- The contract of octavolaw04.all: a journal of groups. -/
import Derived.Test.YtcheikpmhdliiaaDoorJLives
namespace Go.Proofs.YtcheikpmhdliiaaDoor
open Go.RowKit
set_option maxRecDepth 100000

theorem Gps.at {lo hi : Nat} {w : World} {a : Option Addr} {c : Nat} {L : List (List OpT)} (h : Gps lo hi w (.slice a L.length c) L) {k : Nat} (hk : k < L.length) :
    ∃ a' gv, a = some a' ∧ w.cell? (a'.add k) = some gv ∧ Opl lo hi w gv L[k] := by
  obtain ⟨gv, h1, h2⟩ := h
  obtain ⟨a', e1, e2, _⟩ := Rws.at h1 hk
  exact ⟨a', gv k, e1, by simpa using e2 _ rfl, h2 k _ (List.getElem?_eq_getElem hk)⟩
theorem Own.notRow {base b2 : Nat} {w : World} {v u : Value} {l : List UInt8} {t : TypeId} {sz n : Nat} {C : Nat → List Value} (h : Own base w v l) (ho : OwnR b2 t sz w u n C) (ht : t ≠ 5) {g : Nat} (hg : v.ownBlock = some g) : u.ownBlock ≠ some g := by
  intro e
  obtain ⟨xs, h1, _⟩ := ho
  rcases h1.2 with ⟨rfl, _⟩ | ⟨g', cap, cur, rfl, _, hh, _⟩
  · simp [Value.ownBlock] at e
  · simp [Value.ownBlock] at e
    subst e
    exact h.notBox ht hh hg.symm

theorem flatJ_len : ∀ (gs : List (List OpT)) (k : Nat), Fits k gs → (flatJ k gs).length ≤ 131080 * gs.length := by
  intro gs
  induction gs with
  | nil => intro k _; simp [flatJ]
  | cons g gs ih =>
    intro k h
    have := ih (k + 1) h.2
    have := h.1.2.2
    simp only [flatJ, List.length_append, frameB_length, List.length_cons]
    omega
theorem jrn_len {id : Int} (hid : In64 id) {gs : List (List OpT)} (h : Fits 0 gs) (hk : gs.length ≤ 40) : (jrn id gs).length ≤ 10000000 := by
  have := flatJ_len gs 0 h
  have := beginJ_len hid
  unfold jrn
  rw [List.length_append]
  omega
theorem group_code {seq : Int} {L : List OpT} (h : (groupJ seq L).2 = 0) : L ≠ [] ∧ (groupC seq L).length ≤ 131072 ∧ (groupJ seq L).1 = frameB (groupC seq L) := by
  unfold groupJ at *
  split at h
  · simp at h
  · rename_i h1
    split at h
    · simp at h
    · rename_i h2
      refine ⟨fun e => h1 (.inr (by simp [e])), by omega, ?_⟩
      rw [if_neg h1, if_neg h2]
theorem group_err {seq : Int} (h1 : 1 ≤ seq) {L : List OpT} (hL : L ≠ []) (h : ¬ (groupJ seq L).2 = 0) : (groupJ seq L).2 = 9 := by
  unfold groupJ at *
  rw [if_neg (by rintro (h | h); · omega
                 · exact hL (List.eq_nil_of_length_eq_zero h))] at *
  split at h
  · rename_i h2; rw [if_pos h2]
  · simp at h

/-- A journal that was made: its bytes, and the groups that are in it. -/
structure Made (w : World) (id : Int) (wr : World) (bv iv : Value) (ins : List (List OpT)) : Prop where
  bytes : Own w.heap.size wr bv (jrn id ins)
  groups : OwnGp 0 w.heap.size wr iv ins
  fits : Fits 0 ins
  few : ins.length ≤ 30
  below : Below w.heap.size w wr

theorem Made.kept {w : World} {id : Int} {wr w1 : World} {bv iv : Value} {ins : List (List OpT)} (h : Made w id wr bv iv ins) (hb : Below wr.heap.size wr w1) : Made w id w1 bv iv ins :=
  ⟨h.bytes.kept hb.block, h.groups.kept hb.block hb.size, h.fits, h.few, h.below.trans (hb.mono h.below.size)⟩

theorem Made.more {w : World} {id : Int} {wr : World} {bv iv xv lv : Value} {ins : List (List OpT)} {g : List OpT} (h : Made w id wr bv iv ins) (hid : In64 id) (hx : Bts wr xv (groupJ ((ins.length + 1 : Nat) : Int) g).1) (hc : (groupJ ((ins.length + 1 : Nat) : Int) g).2 = 0) (ok : ∀ o ∈ g, o.Ok) {hi : Nat} (hg : Opl 0 hi wr lv g) (hhi : hi ≤ w.heap.size) (hlt : ins.length < 30) :
    ∃ v1 w1 v2 w2 v3 w3, Hid ((Builtin.append_ #[24, 24] 24 #[.slice (some ⟨wr.heap.size, 0, none⟩) 0 0, bv]).run Tryd.prog (wr.alloc (.cells #[] 5)) = .ok v1 w1) ∧ Hid ((Builtin.append_ #[24, 24] 24 #[v1, xv]).run Tryd.prog w1 = .ok v2 w2) ∧
      Hid ((Builtin.append_ #[36, 36] 36 #[iv, .slice (some ⟨w2.heap.size, 0, none⟩) 1 1]).run Tryd.prog (w2.alloc (.cells #[lv] 22)) = .ok v3 w3) ∧ Hid (Made w id w3 v2 v3 (ins ++ [g])) := by
  obtain ⟨hne, hlen, e1⟩ := group_code hc
  have hjl := jrn_len hid h.fits (by have := h.few; omega)
  have ec : ((ins.length + 1 : Nat) : Int) = (ins.length : Int) + 1 := by omega
  obtain ⟨v1, w1, v2, w2, r1, r2, HJ⟩ := join2 h.bytes.bts hx (by rw [e1, frameB_length]; omega)
  have m2 : Below wr.heap.size wr w2 := HJ.out.2
  have g2 := h.groups.kept m2.block m2.size
  have hb2 : w.heap.size ≤ w2.heap.size := Nat.le_trans h.below.size m2.size
  obtain ⟨v3, w3, r3, g3, b3, gr3⟩ := own_gp g2 hb2 (hg.kept fun i _ hi => m2.block i (by have := h.below.size; omega)) (Nat.le_refl _) (by omega) (fun b hb => by have := (g2.lt hb).1; omega) (by omega)
  have hbl : Below w.heap.size w w2 := h.below.trans (m2.mono h.below.size)
  refine ⟨v1, w1, v2, w2, v3, w3, r1, r2, r3, ⟨?_, g3, ?_, by simp; omega, hbl.trans b3⟩⟩
  · have o2 : Own w.heap.size w2 v2 (jrn id ins ++ (groupJ ((ins.length + 1 : Nat) : Int) g).1) := HJ.out.1.mono_base h.below.size
    rw [e1, ec, ← jrn_snoc] at o2
    refine o2.of_block fun b hb => gr3.block b (o2.lt hb).2 ?_
    obtain ⟨gv, q1, _⟩ := g2
    exact fun e => o2.notRow q1 (by decide) hb e.symm
  · rw [Fits_append]
    refine ⟨h.fits, ?_, trivial⟩
    rw [Nat.zero_add]
    rw [ec] at hlen
    exact ⟨ok, hne, hlen⟩

set_option maxHeartbeats 4000000 in
theorem all_any {w : World} (T : Tab w) {id : Int} (hid : In64 id) {gv : Value} {G : List (List OpT)} (h : Gps 0 w.heap.size w gv G) (ok : ∀ g ∈ G, ∀ o ∈ g, o.Ok) (hl : ∀ g ∈ G, (opsB g).length ≤ 10485760) (hG : G.length ≤ 1000) :
    Calls Tryd.prog 24 #[.int .i64 id, gv] w fun e w' => ∃ bv iv ins, e = .returned (.tuple #[bv, iv]) ∧ Made w id w' bv iv ins := by
  have C1 := begin_any T hid
  have H : Hid (∀ w', Below w.heap.size w w' → Gps 0 w.heap.size w' gv G) := fun w' hb => h.below (Nat.le_refl _) hb
  have HT : Hid (Tab w) := T
  obtain ⟨ga, gc, rfl, _, _⟩ := h.slice
  clear h T
  go_enter Tryd.func24, Tryd.ntmps24
  go_wp2_with fail
  refine C1.mono ?_
  rintro e w1 ⟨bv, rfl, o1, b1⟩
  have HM0 : Hid (Made w id w1 bv (.slice none 0 0) []) := ⟨by rw [jrn_nil]; exact o1, OwnGp.nil _ _ _, trivial, by simp, b1⟩
  clear C1 o1 b1
  go_wp2_with fail
  go_loopw [6, 7, 16] (fun u6 u7 u16 wr => ∃ k : Nat, u16 = .int .i64 k ∧ k ≤ G.length ∧ ∃ ins, Hid (Made w id wr u6 u7 ins)) (fun _ _ u16 _ => G.length - (intOf u16).toNat)
  case atStart => exact ⟨0, rfl, by omega, [], HM0⟩
  case round =>
    obtain ⟨k, rfl, hk, ins, HM1⟩ := hrel
    clear HM0
    obtain ⟨ia, ic, rfl, _, _⟩ := HM1.out.groups.gps.slice
    by_cases hlt : k < G.length
    · obtain ⟨a', lv, rfl, cl, hop⟩ := (H.out wr HM1.out.below).at hlt
      have okg := ok _ (List.getElem_mem hlt)
      have hgl := hl _ (List.getElem_mem hlt)
      have hjl := jrn_len hid HM1.out.fits (by have := HM1.out.few; omega)
      have A := add_any HM1.out.bytes.bts (HT.out.below (Nat.le_refl _) HM1.out.below) (by omega) hop HM1.out.below.size okg (by omega)
      rw [add_jrn hid HM1.out.fits (by have := HM1.out.few; omega)] at A
      have hfew := HM1.out.few
      obtain ⟨la, lc, rfl, _, _⟩ := hop.slice
      have hgn : G[k].length ≤ 10485760 := by
        have := flatMap_ge opB_pos G[k]
        simp only [opsB, lstB, List.length_append] at hgl
        omega
      have hk63 : k < 9223372036854775807 := by omega
      have HOP : Hid (Opl 0 w.heap.size wr (.slice la G[k].length lc) G[k]) := hop
      have HOK : Hid (∀ o ∈ G[k], o.Ok) := okg
      clear hop okg hgl hjl
      by_cases hacc : (groupJ ((ins.length + 1 : Nat) : Int) G[k]).2 = 0 ∧ ins.length < 30 ∧ G[k].length < 30
      · have CA : Calls Tryd.prog 15 #[u6, .slice la G[k].length lc] wr fun e w1 => ∃ xv v1 w2 v2 w3 v3 w4, e = .returned (.tuple #[xv, .int .i64 0]) ∧ Hid ((Builtin.append_ #[24, 24] 24 #[.slice (some ⟨w1.heap.size, 0, none⟩) 0 0, u6]).run Tryd.prog (w1.alloc (.cells #[] 5)) = .ok v1 w2) ∧ Hid ((Builtin.append_ #[24, 24] 24 #[v1, xv]).run Tryd.prog w2 = .ok v2 w3) ∧
            Hid ((Builtin.append_ #[36, 36] 36 #[.slice ia ins.length ic, .slice (some ⟨w3.heap.size, 0, none⟩) 1 1]).run Tryd.prog (w3.alloc (.cells #[.slice la G[k].length lc] 22)) = .ok v3 w4) ∧ Hid (Made w id w4 v2 v3 (ins ++ [G[k]])) := by
          refine A.mono ?_
          rintro e w1 ⟨xv, rfl, o1, b1⟩
          obtain ⟨v1, w2, v2, w3, v3, w4, r1, r2, r3, m⟩ := (HM1.out.kept b1).more hid o1.bts hacc.1 HOK.out (HOP.out.kept fun i _ hi => b1.block i (by have := HM1.out.below.size; omega)) (Nat.le_refl _) hacc.2.1
          rw [hacc.1]
          exact ⟨xv, v1, w2, v2, w3, v3, w4, rfl, r1, r2, r3, m⟩
        obtain ⟨-, hi30, hg30⟩ := hacc
        generalize G[k] = g at *
        clear A HOP HOK
        go_wp2_with fail
        refine CA.mono ?_
        rintro e w1 ⟨xv, v1, w2, v2, w3, v3, w4, rfl, R1, R2, R3, HM⟩
        clear CA HM1
        go_wp2_with (at_builtin; first
          | (refine wpList_append_run rfl _ _ 24 rfl _ _ _ _ rfl rfl R1.out ?_)
          | (refine wpList_append_run rfl _ _ 24 rfl _ _ _ _ rfl rfl R2.out ?_)
          | (refine wpList_append_run rfl _ _ 36 rfl _ _ _ _ rfl rfl R3.out ?_))
        go_roundw
        case rel => exact ⟨k + 1, by go_num, by omega, _, HM⟩
        case measure => simp [intOf]; omega
      · have CA : Calls Tryd.prog 15 #[u6, .slice la G[k].length lc] wr fun e w1 => ∃ xv, e = .returned (.tuple #[xv, .int .i64 ((groupJ ((ins.length + 1 : Nat) : Int) G[k]).2 : Int)]) ∧ Hid (Made w id w1 u6 (.slice ia ins.length ic) ins) := by
          refine A.mono ?_
          rintro e w1 ⟨xv, rfl, o1, b1⟩
          exact ⟨xv, rfl, HM1.out.kept b1⟩
        clear A HOP HOK
        generalize (groupJ ((ins.length + 1 : Nat) : Int) G[k]).2 = er at *
        generalize G[k].length = gn at *
        by_cases h0 : er = 0
        · subst h0
          by_cases h30 : ins.length < 30
          · have hg30 : ¬ gn < 30 := fun h => hacc ⟨rfl, h30, h⟩
            clear hacc
            go_wp2_with fail
            refine CA.mono ?_
            rintro e w1 ⟨xv, rfl, HM⟩
            clear CA HM1
            go_wp2_with fail
            go_roundw
            case rel => exact ⟨k + 1, by go_num, by omega, ins, HM⟩
            case measure => simp [intOf]; omega
          · clear hacc
            go_wp2_with fail
            refine CA.mono ?_
            rintro e w1 ⟨xv, rfl, HM⟩
            clear CA HM1
            go_wp2_with fail
            go_roundw
            case rel => exact ⟨k + 1, by go_num, by omega, ins, HM⟩
            case measure => simp [intOf]; omega
        · have h0' : ¬ (er : Int) = 0 := by omega
          clear hacc
          go_wp2_with fail
          refine CA.mono ?_
          rintro e w1 ⟨xv, rfl, HM⟩
          clear CA HM1
          go_wp2_with fail
          go_roundw
          case rel => exact ⟨k + 1, by go_num, by omega, ins, HM⟩
          case measure => simp [intOf]; omega
    · go_wp2_with fail
      go_ret2
      exact ⟨_, _, ins, rfl, HM1.out⟩
end Go.Proofs.YtcheikpmhdliiaaDoor
