/- The contracts of the reference's ReadInts and First. -/
import Derived.Test.YtohndhmhgdelmaaDoorRsCells
namespace Go.Proofs.YtohndhmhgdelmaaDoor
open Go.RowKit
set_option maxRecDepth 100000

theorem takeN_items (n : Nat) : ∀ l, takeN n l = itemsR numR n l := by
  induction n with
  | zero => intro l; rfl
  | succ n ih =>
    intro l
    rw [itemsR]
    rcases hq : numAux 0 0 l with _ | ⟨u, r⟩
    · rw [takeN_none hq]
      unfold numR
      rw [hq]
      rfl
    · rw [takeN_cons hq, ih]
      have e : numR l = some (unfoldI u, r) := by unfold numR; rw [hq]; rfl
      rw [e, Option.bind_some]
      rcases itemsR numR n r with _ | ⟨xs, t⟩ <;> rfl

theorem listR_lstR (l : List UInt8) : listR l = lstR numR l := by
  unfold listR lstR
  rcases hc : countR l with _ | ⟨n, t⟩
  · rfl
  · dsimp only [Option.bind_some]
    rw [takeN_items]
theorem readI_yes {l : List UInt8} {ns : List Int} (h : lstR numR l = some (ns, [])) : readI l = some ns := by
  unfold readI
  rw [listR_lstR, h]
theorem readI_no {l : List UInt8} {ns : List Int} {r : List UInt8} (h : lstR numR l = some (ns, r)) (hr : 0 < r.length) : readI l = none := by
  unfold readI
  rw [listR_lstR, h]
  cases r with
  | nil => simp at hr
  | cons d r => rfl
theorem readI_bad {l : List UInt8} (h : lstR numR l = none) : readI l = none := by
  unfold readI
  rw [listR_lstR, h]

/-- The world in which the reference's reader begins. -/
abbrev rsW (w : World) (v : Value) : World := w.alloc (.cells #[v, .bool false] 75)
theorem rs_start {w : World} {v : Value} {l : List UInt8} (h : Bts w v l) : RS w.heap.size (rsW w v) w.heap.size l false :=
  ⟨Nat.le_refl _, v, heap_alloc_new w _, h.alloc _, fun hne a n c e => by
    rcases h with ⟨_, h⟩ | ⟨a', cap, e1, _, _, h4⟩
    · exact absurd h hne
    · rw [e1] at e
      cases e
      obtain ⟨d, r, rfl⟩ := List.exists_cons_of_ne_nil hne
      have := h4 0 _ rfl
      have hlt := World.block_lt_of_cell? _ _ this
      rwa [addr_block] at hlt⟩
theorem rsW_below {w w3 : World} {v : Value} (hg : (rsW w v).grownBy w3 (some w.heap.size)) : Below w.heap.size w w3 :=
  ((Below.refl _ w).alloc (Nat.le_refl _) _).grown hg (by simp) (by intro k hk; cases hk; omega)

def RsI (w : World) (l : List UInt8) (e : Ending) (w' : World) : Prop :=
  (∃ ns v, readI l = some ns ∧ e = .returned (.tuple #[v, .int .i64 0]) ∧ OwnI w.heap.size w' v ns ∧ Below w.heap.size w w') ∨
  (readI l = none ∧ e = .returned (.tuple #[.slice none 0 0, .int .i64 12]) ∧ Below w.heap.size w w')
theorem OwnI.mono {b b' : Nat} {w : World} {v : Value} {ns : List Int} (h : OwnI b w v ns) (hb : b' ≤ b) : OwnI b' w v ns := by
  obtain ⟨h0, h1⟩ := h
  refine ⟨h0, ?_⟩
  rcases h1 with h1 | ⟨g, cap, cur, h1, h2, h3⟩
  · exact .inl h1
  · exact .inr ⟨g, cap, cur, h1, by omega, h3⟩

set_option maxHeartbeats 4000000 in
theorem rints_any {w : World} {v : Value} {l : List UInt8} (h : Bts w v l) (hl : l.length ≤ 1099511627776) :
    Calls Tryd.prog 17 #[v] w fun e w' => RsI w l e w' := by
  have C := rcount_any (rs_start h) hl
  obtain ⟨va, vc, rfl, _, _⟩ := h.slice
  clear h
  go_enter Tryd.func17, Tryd.ntmps17
  go_wp2_with fail
  refine C.mono ?_
  rintro e w1 ⟨n, l0, wr0, rfl, rs, g, s0, hl0⟩
  have S0 : Hid (Sp false (countR l) n l0 wr0) := s0
  have ST : Hid (∃ li wri, RS w.heap.size w1 w.heap.size li wri ∧ (rsW w (.slice va l.length vc)).grownBy w1 (some w.heap.size) ∧ Sq numR n l0 wr0 [] li wri ∧ li.length ≤ 1099511627776) := ⟨l0, wr0, rs, g, Sq.start s0 hl0, hl0⟩
  clear C rs g s0
  go_wp2_with fail
  go_loopw [5, 7] (fun u5 u7 wk => ∃ i : Nat, u7 = .int .i64 i ∧ ∃ xs, xs.length = i ∧ Hid (OwnI (w.heap.size + 1) wk u5 xs) ∧ Hid (∃ li wri, RS w.heap.size wk w.heap.size li wri ∧ (rsW w (.slice va l.length vc)).grownBy wk (some w.heap.size) ∧ Sq numR n l0 wr0 xs li wri ∧ li.length ≤ 1099511627776)) (fun _ u7 _ => n - (intOf u7).toNat)
  case atStart => exact ⟨0, rfl, [], rfl, World.ownsRow_nil _ _ _ _, ST⟩
  case round =>
    obtain ⟨i, rfl, xs, hxi, HO, HS⟩ := hrel
    clear ST
    obtain ⟨li, wri, rs, g, sq, hli⟩ := HS.out
    clear HS
    obtain ⟨a, c, h1, h2, h3, h4⟩ := rs.cells
    obtain ⟨c0, f0, c1, f1⟩ := cells75 h1
    by_cases hgo : i < n ∧ wri = false
    · obtain ⟨hlt, rfl⟩ := hgo
      have hn40 := sq.few
      have C3 : Calls Tryd.prog 38 #[ptrOf w.heap.size] wr fun e w4 => ∃ (x : Int) (v4 : Value) (w5 : World), e = .returned (.int .i64 x) ∧ Hid ((Builtin.append_ #[43, 43] 43 #[u5, .slice (some ⟨w4.heap.size, 0, none⟩) 1 1]).run Tryd.prog (w4.alloc (.cells #[.int .i64 x] 3)) = .ok v4 w5) ∧
          Hid (∃ xs', xs'.length = i + 1 ∧ Hid (OwnI (w.heap.size + 1) w5 v4 xs') ∧ Hid (∃ li wri, RS w.heap.size w5 w.heap.size li wri ∧ (rsW w (.slice va l.length vc)).grownBy w5 (some w.heap.size) ∧ Sq numR n l0 wr0 xs' li wri ∧ li.length ≤ 1099511627776)) := by
        refine (rnum_any rs hli).mono ?_
        rintro e w4 ⟨x, l3, wr3, rfl, rs3, g3, s3, hl3⟩
        have G3 := grown_trans g g3
        have hsz : w.heap.size + 1 ≤ w4.heap.size := by have := G3.size; simpa using this
        have ho : OwnI (w.heap.size + 1) w4 u5 xs := ownsRow_of_block HO.out fun b hb => g3.block b (World.ownsRow.lt HO.out b hb).2 (by have := (World.ownsRow.lt HO.out b hb).1; simp; omega)
        obtain ⟨v4, w5, r5, o5, b5⟩ := own_int ho hsz x (by omega)
        exact ⟨x, v4, w5, rfl, r5, xs ++ [x], by simp [hxi], o5, l3, wr3, rs3.kept (by omega) b5, grown_below G3 b5 (by simp), sq.step (by omega) s3, hl3⟩
      clear rs g sq h1 h2 h3 h4
      go_wp2_with fail
      refine C3.mono ?_
      rintro e w4 ⟨x3, v4, w5, rfl, R5, HF⟩
      clear C3 c0 f0 c1 f1
      go_wp2_with (at_builtin; refine wpList_append_run rfl _ _ 43 rfl _ _ _ _ rfl rfl R5.out ?_)
      clear R5
      go_roundw
      case rel => exact ⟨i + 1, by go_num, HF.out⟩
      case measure => simp [intOf]; omega
    · have sp : Sp false (lstR numR l) xs li wri := Sp.bindK S0.out (sq.stop fun hw => by
          have : ¬ i < n := fun h => hgo ⟨h, hw⟩
          omega)
      have B1 : Hid (Below w.heap.size w wr) := rsW_below g
      clear rs g sq h2 h3 h4 h1
      by_cases hlt : i < n
      · have hw : wri = true := by
          cases wri
          · exact absurd ⟨hlt, rfl⟩ hgo
          · rfl
        subst hw
        have HN : Hid (readI l = none) := by
          rcases sp with ⟨h, _⟩ | ⟨_, h | h⟩
          · cases h
          · cases h
          · exact readI_bad h
        clear hgo sp
        go_wp2_with fail
        go_ret2
        exact .inr ⟨HN.out, rfl, B1.out⟩
      · clear hgo
        cases wri with
        | true =>
          have HN : Hid (readI l = none) := by
            rcases sp with ⟨h, _⟩ | ⟨_, h | h⟩
            · cases h
            · cases h
            · exact readI_bad h
          clear sp
          go_wp2_with fail
          go_ret2
          exact .inr ⟨HN.out, rfl, B1.out⟩
        | false =>
          have hq : lstR numR l = some (xs, li) := by
            rcases sp with ⟨_, _, h⟩ | ⟨h, _⟩
            · exact h
            · cases h
          clear sp
          by_cases hz : 0 < li.length
          · have HN : Hid (readI l = none) := readI_no hq hz
            clear hq
            generalize li.length = m at *
            go_wp2_with fail
            go_ret2
            exact .inr ⟨HN.out, rfl, B1.out⟩
          · have HN : Hid (readI l = some xs) := readI_yes (by rw [hq]; congr; exact List.eq_nil_of_length_eq_zero (by omega))
            clear hq
            have OI : Hid (OwnI w.heap.size wr u5 xs) := HO.out.mono (by omega)
            generalize li.length = m at *
            go_wp2_with fail
            go_ret2
            exact .inl ⟨xs, u5, HN.out, rfl, OI.out, B1.out⟩
end Go.Proofs.YtohndhmhgdelmaaDoor
