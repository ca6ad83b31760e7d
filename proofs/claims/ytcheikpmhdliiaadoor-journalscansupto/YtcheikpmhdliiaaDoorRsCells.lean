/- The contract of the reference's cells (read). -/
import Derived.Test.YtcheikpmhdliiaaDoorRsVal
namespace Go.Proofs.YtcheikpmhdliiaaDoor
open Go.RowKit
set_option maxRecDepth 100000

/-- How far a list has been read. -/
def Sq {α : Type} (R : Rdr α) (n : Nat) (l0 : List UInt8) (wr0 : Bool) (xs : List α) (li : List UInt8) (wri : Bool) : Prop :=
  (wri = false ∧ wr0 = false ∧ xs.length ≤ n ∧ n ≤ 1099511627776 ∧ itemsR R n l0 = (itemsR R (n - xs.length) li).bind fun p => some (xs ++ p.1, p.2)) ∨ (wri = true ∧ (wr0 = true ∨ itemsR R n l0 = none))
theorem Sq.start {α : Type} {R : Rdr α} {wr wr0 : Bool} {l l0 : List UInt8} {n : Nat} (s : Sp wr (countR l) n l0 wr0) (hl : l0.length ≤ 1099511627776) : Sq R n l0 wr0 [] l0 wr0 := by
  rcases s with ⟨rfl, _, q⟩ | ⟨rfl, _⟩
  · obtain ⟨_, h, _⟩ := countR_inv q
    exact .inl ⟨rfl, rfl, Nat.zero_le _, by omega, items_start _⟩
  · exact .inr ⟨rfl, .inl rfl⟩
theorem Sq.step {α : Type} {R : Rdr α} {n : Nat} {l0 : List UInt8} {wr0 : Bool} {xs : List α} {li : List UInt8} (h : Sq R n l0 wr0 xs li false) (hlt : xs.length < n) {x : α} {l' : List UInt8} {wr' : Bool} (s : Sp false (R li) x l' wr') : Sq R n l0 wr0 (xs ++ [x]) l' wr' := by
  rcases h with ⟨_, h1, h2, h3, h4⟩ | ⟨h, _⟩
  · obtain ⟨m, hm⟩ : ∃ m, n - xs.length = m + 1 := ⟨n - xs.length - 1, by omega⟩
    rcases s with ⟨rfl, _, q⟩ | ⟨rfl, q | q⟩
    · refine .inl ⟨rfl, h1, by simp; omega, h3, ?_⟩
      rw [List.length_append]
      exact itemsR_step hm q h4
    · cases q
    · refine .inr ⟨rfl, .inr ?_⟩
      rw [h4, hm, itemsR_none q]
      rfl
  · cases h
theorem Sq.stop {α : Type} {R : Rdr α} {n : Nat} {l0 : List UInt8} {wr0 : Bool} {xs : List α} {li : List UInt8} {wri : Bool} (h : Sq R n l0 wr0 xs li wri) (he : wri = false → n ≤ xs.length) : Sp wr0 (itemsR R n l0) xs li wri := by
  rcases h with ⟨rfl, h1, h2, h3, h4⟩ | ⟨rfl, h⟩
  · refine .inl ⟨rfl, h1, ?_⟩
    have := he rfl
    rw [h4, show n - xs.length = 0 by omega]
    simp [itemsR]
  · exact .inr ⟨rfl, h⟩
theorem Sq.few {α : Type} {R : Rdr α} {n : Nat} {l0 : List UInt8} {wr0 : Bool} {xs : List α} {li : List UInt8} (h : Sq R n l0 wr0 xs li false) : n ≤ 1099511627776 := by
  rcases h with ⟨_, _, _, h, _⟩ | ⟨h, _⟩
  · exact h
  · cases h

def TkRC (base B : Nat) (w : World) (rb : Nat) (o : Option (List CellT × List UInt8)) (wr : Bool) (e : Ending) (w' : World) : Prop :=
  ∃ v xs l' wr', e = .returned v ∧ OwnCl base w' v xs ∧ RS B w' rb l' wr' ∧ w.grownBy w' (some rb) ∧ Sp wr o xs l' wr' ∧ l'.length ≤ 1099511627776

set_option maxHeartbeats 4000000 in
theorem rcells_any {B : Nat} {w : World} {rb : Nat} {l : List UInt8} {wq : Bool} (h : RS B w rb l wq) (hrb : rb < w.heap.size) (hl : l.length ≤ 1099511627776) :
    Calls Tryd.prog 73 #[ptrOf rb] w fun e w' => TkRC w.heap.size B w rb (lstR cellR l) wq e w' := by
  have C := rcount_any h hl
  have HRB : Hid (rb < w.heap.size) := hrb
  clear h hrb
  go_enter Tryd.func73, Tryd.ntmps73
  go_wp2_with fail
  refine C.mono ?_
  rintro e w1 ⟨n, l0, wr0, rfl, rs, g, s0, hl0⟩
  have S0 : Hid (Sp wq (countR l) n l0 wr0) := s0
  have ST : Hid (∃ li wri, RS B w1 rb li wri ∧ w.grownBy w1 (some rb) ∧ Sq cellR n l0 wr0 [] li wri ∧ li.length ≤ 1099511627776) := ⟨l0, wr0, rs, g, Sq.start s0 hl0, hl0⟩
  clear C rs g s0
  go_wp2_with fail
  go_loopw [3, 5] (fun u3 u5 wk => ∃ i : Nat, u5 = .int .i64 i ∧ ∃ xs, xs.length = i ∧ Hid (OwnCl w.heap.size wk u3 xs) ∧ Hid (∃ li wri, RS B wk rb li wri ∧ w.grownBy wk (some rb) ∧ Sq cellR n l0 wr0 xs li wri ∧ li.length ≤ 1099511627776)) (fun _ u5 _ => n - (intOf u5).toNat)
  case atStart => exact ⟨0, rfl, [], rfl, OwnR.nil _ _ _ _ _, ST⟩
  case round =>
    obtain ⟨i, rfl, xs, hxi, HO, HS⟩ := hrel
    clear ST
    obtain ⟨li, wri, rs, g, sq, hli⟩ := HS.out
    clear HS
    obtain ⟨a, c, h1, h2, h3, h4⟩ := rs.cells
    obtain ⟨c0, f0, c1, f1⟩ := cells126 h1
    by_cases hgo : i < n ∧ wri = false
    · obtain ⟨hlt, rfl⟩ := hgo
      have hn40 := sq.few
      have C1 := rnum_any rs hli
      have SQ : Hid (Sq cellR n l0 wr0 xs li false) := sq
      have G0 : Hid (w.grownBy wr (some rb)) := g
      clear rs g sq h1 h2 h3 h4
      go_wp2_with fail
      refine C1.mono ?_
      rintro e w2 ⟨x1, l1, wr1, rfl, rs1, g1, s1, hl1⟩
      have C2 := rnum_any rs1 hl1
      have S1 : Hid (Sp false (numR li) x1 l1 wr1) := s1
      have G1 : Hid _ := grown_trans G0.out g1
      have K1 : Hid _ := g1
      clear C1 rs1 g1 s1 G0 c0 f0 c1 f1
      go_wp2_with fail
      refine C2.mono ?_
      rintro e w3 ⟨x2, l2, wr2, rfl, rs2, g2, s2, hl2⟩
      have S2 : Hid (Sp wr1 (numR l1) x2 l2 wr2) := s2
      have G2 : Hid _ := grown_trans G1.out g2
      have K2 : Hid _ := grown_trans K1.out g2
      have C3 : Calls Tryd.prog 70 #[ptrOf rb] w3 fun e w4 => ∃ (x3 : ByteArray) (v4 : Value) (w5 : World), e = .returned (.string x3) ∧ Hid ((Builtin.append_ #[56, 56] 56 #[u3, .slice (some ⟨w4.heap.size, 0, none⟩) 1 1]).run Tryd.prog (w4.alloc (.cells #[.int .i64 x1, .int .i64 x2, .string x3] 104)) = .ok v4 w5) ∧
          Hid (∃ xs', xs'.length = i + 1 ∧ OwnCl w.heap.size w5 v4 xs' ∧ ∃ li wri, RS B w5 rb li wri ∧ w.grownBy w5 (some rb) ∧ Sq cellR n l0 wr0 xs' li wri ∧ li.length ≤ 1099511627776) := by
        refine (rtext_any rs2 hl2).mono ?_
        rintro e w4 ⟨x3, l3, wr3, rfl, rs3, g3, s3, hl3⟩
        have G3 := grown_trans G2.out g3
        have K3 := grown_trans K2.out g3
        have hsz : w.heap.size ≤ w4.heap.size := G3.size
        have ho : OwnCl w.heap.size w4 u3 xs := OwnR.of_block HO.out fun b hb => K3.block b (OwnR.lt HO.out hb).2 (by have := (OwnR.lt HO.out hb).1; have := HRB.out; simp; omega)
        obtain ⟨v4, w5, r5, o5, b5⟩ := own_cell ho hsz ⟨x1, x2, x3⟩ (by omega)
        have sp : Sp false (cellR li) (⟨x1, x2, x3⟩ : CellT) l3 wr3 := by
          unfold cellR
          exact Sp.bindK S1.out (Sp.bindK S2.out (Sp.bindK s3 (Sp.pure wr3 _ l3)))
        exact ⟨x3, v4, w5, rfl, r5, xs ++ [⟨x1, x2, x3⟩], by simp [hxi], o5, l3, wr3, rs3.kept HRB.out b5, grown_below G3 b5 (Nat.le_refl _), SQ.out.step (by omega) sp, hl3⟩
      clear C2 rs2 g2 s2 S1 S2 G1 G2 K1 K2 SQ
      go_wp2_with fail
      refine C3.mono ?_
      rintro e w4 ⟨x3, v4, w5, rfl, R5, HF⟩
      clear C3
      go_wp2_with (at_builtin; refine wpList_append_run rfl _ _ 56 rfl _ _ _ _ rfl rfl R5.out ?_)
      have HF2 : Hid (∃ xs', xs'.length = i + 1 ∧ Hid (OwnCl w.heap.size w5 v4 xs') ∧ Hid (∃ li wri, RS B w5 rb li wri ∧ w.grownBy w5 (some rb) ∧ Sq cellR n l0 wr0 xs' li wri ∧ li.length ≤ 1099511627776)) := by
        obtain ⟨xs', e1, e2, e3⟩ := HF.out
        exact ⟨xs', e1, e2, e3⟩
      clear R5 HF
      go_roundw
      case rel => exact ⟨i + 1, by go_num, HF2.out⟩
      case measure => simp [intOf]; omega
    · have HT : Hid (TkRC w.heap.size B w rb (lstR cellR l) wq (.returned u3) wr) :=
        ⟨u3, xs, li, wri, rfl, HO.out, rs, g, Sp.bindK S0.out (sq.stop fun hw => by
          have : ¬ i < n := fun h => hgo ⟨h, hw⟩
          omega), hli⟩
      clear rs g sq h1 h2 h3 h4
      by_cases hlt : i < n
      · have hw : wri = true := by
          cases wri
          · exact absurd ⟨hlt, rfl⟩ hgo
          · rfl
        subst hw
        clear hgo
        go_wp2_with fail
        go_ret
        exact HT.out
      · clear hgo
        go_wp2_with fail
        go_ret
        exact HT.out
end Go.Proofs.YtcheikpmhdliiaaDoor
