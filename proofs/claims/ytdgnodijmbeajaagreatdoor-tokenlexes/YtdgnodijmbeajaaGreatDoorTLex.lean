/- Lex of the program. -/
import Derived.Test.YtdgnodijmbeajaaGreatDoorTSeq
namespace Go.Proofs.YtdgnodijmbeajaaGreatDoor
open Go.RowKit
set_option maxRecDepth 100000
set_option linter.unusedVariables false
set_option linter.unusedSimpArgs false
theorem LX.own {W w w' : World} {b : Nat} {l : List UInt8} {v : Value} {L : List TT} (h : LX W b l w) (ho : OwnT 35 W.heap.size w v L) (hg : w.grownBy w' v.ownBlock) : LX W b l w' :=
  h.grown hg fun k hk => ⟨(World.ownsRow.lt ho k hk).1, fun e => by
    rcases ho.ne h.blk (fun c z => by simp) with h1 | h1
    · rw [h1] at hk; cases hk
    · exact h1 (by rw [hk, e])⟩
theorem OwnT.meth {W u u1 : World} {b : Nat} {l m : List UInt8} {v : Value} {L : List TT} (h : OwnT 35 W.heap.size u v L) (X : LX W b l u) (k : St W b m u u1) : OwnT 35 W.heap.size u1 v L :=
  h.kept k.2 (h.ne X.blk (fun c z => by simp))
/-- What Lex answers of a text that is not too long. -/
def LexS (w : World) (o : Option (List Tk.Tok)) (e : Ending) (w' : World) : Prop :=
  Below w.heap.size w w' ∧ match o with
    | none => e = .returned (.tuple #[.slice none 0 0, .int .i64 10])
    | some L => ∃ v, e = .returned (.tuple #[v, .int .i64 0]) ∧ OwnT 35 w.heap.size w' v (L.map tk) ∧ L.length ≤ 255
/-- What Lex answers. -/
def LexA (w : World) (l : List UInt8) (e : Ending) (w' : World) : Prop :=
  if 255 < l.length then e = .returned (.tuple #[.slice none 0 0, .int .i64 3]) ∧ w' = w else LexS w (lexF l) e w'
theorem cell9 (t : TT) : t.cs = tcs t.k t.n t.s t.b t.h t.r t.c t.fr t.fc := rfl
theorem blank_ne {l : List UInt8} {c : UInt8} {r : List UInt8} (h : l.dropWhile Tk.blank = c :: r) : Tk.blank c = false := drop_head h
/-- What an append leaves, all told. -/
theorem app_all {W w2 : World} {b : Nat} {m : List UInt8} {v : Value} {L : List TT} (X : LX W b m w2) (ho : OwnT 35 W.heap.size w2 v L) (t : TT) (hn : L.length + 1 ≤ 1000000) :
    ∃ v' w4, Hid ((Builtin.append_ #[22, 22] 22 #[v, .slice (some ⟨w2.heap.size + 1, 0, none⟩) 1 1]).run Tryz.prog ((w2.alloc (.cells (tcs t.k t.n t.s t.b t.h t.r t.c t.fr t.fc) 35)).alloc (.cells (tcs t.k t.n t.s t.b t.h t.r t.c t.fr t.fc) 35)) = .ok v' w4) ∧ Hid (OwnT 35 W.heap.size w4 v' (L ++ [t])) ∧ Hid (LX W b m w4) := by
  have X3 := (X.alloc (.cells (tcs t.k t.n t.s t.b t.h t.r t.c t.fr t.fc) 35)).alloc (.cells (tcs t.k t.n t.s t.b t.h t.r t.c t.fr t.fc) 35)
  have o3 : OwnT 35 W.heap.size ((w2.alloc (.cells (tcs t.k t.n t.s t.b t.h t.r t.c t.fr t.fc) 35)).alloc (.cells (tcs t.k t.n t.s t.b t.h t.r t.c t.fr t.fc) 35)) v L :=
    (ho.below (bel_alloc (Below.refl _ _) _)).below (bel_alloc (Below.refl _ _) _)
  obtain ⟨v', w4, R, o4, g4, _⟩ := ownT_app (t := t) (g := w2.heap.size + 1) (e' := 35) (z := (0, 0)) Tryz.underlying22 inf35z o3 (by
    have := heap_alloc_new (w2.alloc (.cells (tcs t.k t.n t.s t.b t.h t.r t.c t.fr t.fc) 35)) (.cells (tcs t.k t.n t.s t.b t.h t.r t.c t.fr t.fc) 35)
    rw [show (w2.alloc (.cells (tcs t.k t.n t.s t.b t.h t.r t.c t.fr t.fc) 35)).heap.size = w2.heap.size + 1 by simp] at this
    exact this) hn X3.bel.size
  exact ⟨v', w4, R, o4, X3.own o3 g4⟩
set_option maxHeartbeats 4000000 in
theorem lex_long (l : List UInt8) (w : World) (hl : 255 < l.length) : Calls Tryz.prog 6 #[.string (ba l)] w fun e w' => e = .returned (.tuple #[.slice none 0 0, .int .i64 3]) ∧ w' = w := by
  have hs : (ba l).size = l.length := size_mk l
  have h1 : (255 : Int) < l.length := by omega
  generalize ba l = A at *
  generalize l.length = n at *
  go_enter Tryz.func6, Tryz.ntmps6
  go_wp2
  go_ret2
  exact ⟨rfl, rfl⟩
set_option maxHeartbeats 4000000 in
theorem lex_short (l : List UInt8) (w : World) (T : Tab9 w) (hl : l.length ≤ 255) : Calls Tryz.prog 6 #[.string (ba l)] w (LexS w (lexF l)) := by
  have hs : (ba l).size = l.length := size_mk l
  have h1 : ¬ (255 : Int) < l.length := by omega
  have X0 : Hid (LX w w.heap.size l (w.alloc (lexO l))) := ⟨T, bel_alloc (Below.refl _ _) _, Nat.le_refl _, heap_alloc_new w _⟩
  generalize ho : lexF l = o
  have HO : Hid (lexF l = o) := ho
  clear ho T
  go_enter Tryz.func6, Tryz.ntmps6
  go_wp2
  clear hs h1
  go_loopw [4] (fun v wr => ∃ (L : List Tk.Tok) (m : List UInt8), L.length + m.length ≤ 255 ∧ Hid (o = (lexF m).map (L ++ ·)) ∧ Hid (LX w w.heap.size m wr) ∧ Hid (OwnT 35 w.heap.size wr v (L.map tk))) (fun _ wr => leftN w.heap.size wr)
  case atStart => exact ⟨[], l, by simpa using hl, by show _ = _; rw [← HO.out]; cases lexF l <;> simp, X0, OwnT.nil _ _ _⟩
  case round =>
    obtain ⟨L, m, hlen, HQ, HX, HW⟩ := hrel
    clear HO X0
    have hm : m.length ≤ 255 := by omega
    have hlm := leftN_eq HX.out
    have MO := fun u (Y : LX w w.heap.size m u) => more_any Y hm
    have hdl := Tk.drop_le Tk.blank m
    cases hD : m.dropWhile Tk.blank with
    | nil =>
      rw [hD] at MO
      have HN : Hid (o = some L) := by
        show _ = _
        rw [HQ.out, ← lex_drop, hD]
        show some (L ++ []) = _
        rw [List.append_nil]
      have MO' : ∀ u, LX w w.heap.size m u → Calls Tryz.prog 14 #[.pointer (some ⟨w.heap.size, 0, none⟩)] u fun e w' => e = .returned (.bool false) ∧ St w w.heap.size [] u w' := MO
      clear MO HQ
      go_wp2_with (go_at_call 14; refine (MO' _ HX.out).mono ?_; rintro e w2 ⟨rfl, hs⟩; have H2 : Hid (St w w.heap.size [] wr w2) := hs; clear hs)
      go_ret2
      rw [HN.out]
      exact ⟨H2.out.1.bel, _, rfl, HW.out.meth HX.out H2.out, by omega⟩
    | cons c r =>
      rw [hD] at MO hdl
      have MO' : ∀ u, LX w w.heap.size m u → Calls Tryz.prog 14 #[.pointer (some ⟨w.heap.size, 0, none⟩)] u fun e w' => e = .returned (.bool true) ∧ St w w.heap.size (c :: r) u w' := MO
      have hb := blank_ne hD
      have NX := fun u (Y : LX w w.heap.size (c :: r) u) => next_any Y (by omega)
      have hlx := lex_cons (r := r) hb
      rw [← hD, lex_drop] at hlx
      rw [hD] at hlx
      cases h1 : Tk.one gnF trB pnF (c :: r) with
      | none =>
        rw [h1] at NX hlx
        have HN : Hid (o = none) := by
          show _ = _
          rw [HQ.out, hlx]; rfl
        have NX' : ∀ u, LX w w.heap.size (c :: r) u → Calls Tryz.prog 15 #[.pointer (some ⟨w.heap.size, 0, none⟩)] u fun e w' => ∃ (t : TT) (q : List UInt8), e = .returned (.tuple #[.agg (tcs t.k t.n t.s t.b t.h t.r t.c t.fr t.fc), .bool false]) ∧ St w w.heap.size q u w' := fun u Y => (NX u Y).mono (by
          rintro e w' ⟨⟨t, rfl⟩, q, h⟩
          exact ⟨t, q, rfl, h⟩)
        clear MO NX HQ hlx
        go_wp2_with (first
          | (go_at_call 14; refine (MO' _ HX.out).mono ?_; rintro e w2 ⟨rfl, hs⟩; have H2 : Hid (St w w.heap.size (c :: r) wr w2) := hs; clear hs)
          | (go_at_call 15; refine (NX' _ H2.out.1).mono ?_; rintro e w3 ⟨t, q, rfl, hs⟩; have H3 : Hid (St w w.heap.size q wr w3) := H2.out.step hs; clear hs))
        go_ret2
        rw [HN.out]
        exact ⟨((H3.out.alloc _).1).bel, rfl⟩
      | some p =>
        obtain ⟨t, q⟩ := p
        have hql := one_len h1
        rw [h1] at NX hlx
        have HN : Hid (o = (lexF q).map ((L ++ [t]) ++ ·)) := by
          show _ = _
          rw [HQ.out, hlx]
          simp only
          cases lexF q <;> simp
        have NX' : ∀ u, LX w w.heap.size (c :: r) u → Calls Tryz.prog 15 #[.pointer (some ⟨w.heap.size, 0, none⟩)] u fun e w' => e = .returned (.tuple #[.agg (tcs (tk t).k (tk t).n (tk t).s (tk t).b (tk t).h (tk t).r (tk t).c (tk t).fr (tk t).fc), .bool true]) ∧ St w w.heap.size q u w' := fun u Y => (NX u Y).mono (by
          rintro e w' ⟨rfl, h⟩
          exact ⟨rfl, h⟩)
        have HL : Hid ((L ++ [t]).length + q.length ≤ 255) := by show _ ≤ _; simp at hql hdl ⊢; omega
        have HM : Hid (q.length < m.length) := by show _ < _; simp at hql hdl ⊢; omega
        have HT : Hid (∀ x, x = tk t → (L ++ [t]).map tk = L.map tk ++ [x]) := fun x e => by rw [e]; simp
        clear MO NX HQ hlx h1 hql
        generalize htt : tk t = tt at *
        have HT2 : Hid ((L ++ [t]).map tk = L.map tk ++ [tt]) := HT.out tt rfl
        clear HT htt
        go_wp2_with (first
          | (go_at_call 14; refine (MO' _ HX.out).mono ?_; rintro e w2 ⟨rfl, hs⟩; have H2 : Hid (St w w.heap.size (c :: r) wr w2) := hs; clear hs)
          | (go_at_call 15; refine (NX' _ H2.out.1).mono ?_; rintro e w3 ⟨rfl, hs⟩; have H3 : Hid (St w w.heap.size q wr w3) := H2.out.step hs; clear hs; obtain ⟨v', w4, RR, HO4, HX4⟩ := app_all H3.out.1 (HW.out.meth HX.out H3.out) tt (by have := HL.out; simp at this ⊢; omega))
          | (at_builtin; refine wpList_append_run rfl _ _ 22 rfl _ _ _ _ rfl rfl RR.out ?_))
        go_roundw
        case rel => exact ⟨L ++ [t], q, HL.out, HN, HX4, by show OwnT _ _ _ _ _; rw [HT2.out]; exact HO4.out⟩
        case measure => rw [leftN_eq HX4.out, hlm]; exact HM.out
theorem lex_any (l : List UInt8) (w : World) (T : Tab9 w) : Calls Tryz.prog 6 #[.string (ba l)] w (LexA w l) := by
  unfold LexA
  by_cases h : 255 < l.length
  · simp only [if_pos h]
    exact lex_long l w h
  · simp only [if_neg h]
    exact lex_short l w T (by omega)
end Go.Proofs.YtdgnodijmbeajaaGreatDoor
