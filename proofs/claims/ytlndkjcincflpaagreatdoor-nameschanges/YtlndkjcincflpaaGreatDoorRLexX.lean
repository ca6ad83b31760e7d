/- RLex. -/
import Derived.Test.YtlndkjcincflpaaGreatDoorRNumX
import Derived.Test.YtlndkjcincflpaaGreatDoorROpsX
set_option linter.unusedVariables false
set_option linter.unusedSimpArgs false
namespace Go.Proofs.YtlndkjcincflpaaGreatDoor
open Go.RowKit
set_option maxRecDepth 100000
theorem rone_any (c : UInt8) (r : List UInt8) (hl : (c :: r).length ≤ 255) (w : World) : Calls Tryz.prog 123 #[.string (ba (c :: r))] w (AnsR w (c :: r) (Tk.one gnF trB pnF (c :: r))) := by
  have hz : 0 < (ba (c :: r)).size := by rw [size_mk]; simp
  have h0 : (ba (c :: r))[0] = c := ba_el (X := []) (Z := r) rfl rfl hz
  have D : ∀ u, Calls Tryz.prog 90 #[.int .u8 ((ba (c :: r))[0].toNat : Nat)] u fun e w' => e = .returned (.bool (Ad.isD c)) ∧ w' = u := fun u => by rw [h0]; exact rdigit_any c u
  have L : ∀ u, Calls Tryz.prog 88 #[.int .u8 ((ba (c :: r))[0].toNat : Nat)] u fun e w' => e = .returned (.bool (Ad.isL c)) ∧ w' = u := fun u => by rw [h0]; exact rletter_any c u
  have no : ∀ d : UInt8, c ≠ d → (((ba (c :: r))[0].toNat : Int) == (d.toNat : Int)) = false := fun d h => by rw [h0]; exact int_ne h
  have yes : ∀ d : UInt8, c = d → (((ba (c :: r))[0].toNat : Int) == (d.toNat : Int)) = true := fun d h => by rw [h0, h]; simp
  unfold Tk.one
  simp only
  by_cases hd : Ad.isD c = true
  · rw [if_pos hd]
    rw [hd] at D
    have hsp := tw_dw Tk.numC (c :: r)
    have hlen := congrArg List.length hsp
    rw [List.length_append] at hlen
    exact lone_num (c :: r) (ba (c :: r)) (size_mk _) (fun k h h2 => ba_get _ k h h2) hl hz w D (ba_sub (X := []) (Z := (c :: r).dropWhile Tk.numC) (by rw [hsp]; rfl) rfl (by simp)) (by omega)
      (fun u => rparse_s (ba ((c :: r).takeWhile Tk.numC)) (by rw [size_mk]; omega) u)
  have hd' : Ad.isD c = false := by simpa using hd
  rw [hd'] at D
  rw [if_neg hd]
  by_cases h34 : c = 34
  · rw [if_pos h34]
    subst h34
    exact one_quote hz D (yes 34 rfl) ((quoted_any r hl _).mono fun e w' h => h.q)
  rw [if_neg h34]
  by_cases h35 : c = 35
  · rw [if_pos h35]
    exact one_err (c :: r) (ba (c :: r)) rfl (size_mk _) hl hz w D (no 34 h34) (yes 35 h35)
  rw [if_neg h35]
  by_cases hn : c = 91 ∨ c = 36 ∨ Ad.isL c = true
  · rw [if_pos hn]
    refine one_named hz D (no 34 h34) (no 35 h35) ?_ ((rnamed_any hl).mono fun e w' h => h.q)
    by_cases h91 : c = 91
    · exact .inl (yes 91 h91)
    · by_cases h36 : c = 36
      · exact .inr (.inl ⟨no 91 h91, yes 36 h36⟩)
      · rcases hn with h | h | h
        · exact absurd h h91
        · exact absurd h h36
        · rw [h] at L
          exact .inr (.inr ⟨no 91 h91, no 36 h36, L⟩)
  · rw [if_neg hn]
    have hL : Ad.isL c = false := by
      cases h : Ad.isL c
      · rfl
      · exact absurd (.inr (.inr h)) hn
    rw [hL] at L
    exact one_op2 c r (c :: r) rfl (ba (c :: r)) rfl (size_mk _) hl hz w D (no 34 h34) (no 35 h35) (no 91 fun h => hn (.inl h)) (no 36 fun h => hn (.inr (.inl h))) L
theorem quo_suf : ∀ (k : Nat) (l s r : List UInt8), l.length ≤ k → Tk.quoF l = some (s, r) → r <:+ l
  | 0, l, s, r, hk, h => by
    have : l = [] := List.eq_nil_of_length_eq_zero (by omega)
    subst this; cases h
  | k + 1, [], s, r, hk, h => by cases h
  | k + 1, [c], s, r, hk, h => by
    unfold Tk.quoF at h
    split at h
    · cases h; exact List.nil_suffix
    · cases h
  | k + 1, c :: d :: l, s, r, hk, h => by
    unfold Tk.quoF at h
    simp only [List.length_cons] at hk
    split at h
    · split at h
      · cases hq : Tk.quoF l with
        | none => rw [hq] at h; cases h
        | some p =>
          rw [hq] at h
          cases h
          exact ((quo_suf k l p.1 p.2 (by omega) hq).trans (List.suffix_cons _ _)).trans (List.suffix_cons _ _)
      · cases h; exact List.suffix_cons _ _
    · cases hq : Tk.quoF (d :: l) with
      | none => rw [hq] at h; cases h
      | some p =>
        rw [hq] at h
        cases h
        exact (quo_suf k (d :: l) p.1 p.2 (by simp only [List.length_cons]; omega) hq).trans (List.suffix_cons _ _)
theorem tail_suf {b pre l m : List UInt8} {t : Tk.Tok} (h : Tk.tailN gnF trB b pre l = some (t, m)) : m <:+ l := by
  unfold Tk.tailN at h
  have hs := List.dropWhile_suffix (p := Tk.runC) (l := l)
  split at h
  · rename_i q hq
    rw [hq] at hs
    cases hp : Ad.refP gnF (pre ++ l.takeWhile Tk.runC ++ 33 :: q.takeWhile Tk.runC) with
    | none => rw [hp] at h; cases h
    | some x =>
      rw [hp] at h
      cases h
      exact ((List.dropWhile_suffix _).trans (List.suffix_cons _ _)).trans hs
  · split at h
    · split at h
      · cases h; exact hs
      · split at h
        · cases h; exact hs
        · cases h
    · split at h
      · cases h; exact hs
      · cases h
theorem one_suf {l m : List UInt8} {t : Tk.Tok} (h : Tk.one gnF trB pnF l = some (t, m)) : m <:+ l := by
  cases l with
  | nil => cases h
  | cons c r =>
    unfold Tk.one at h
    simp only at h
    split at h
    · cases hp : pnF ((c :: r).takeWhile Tk.numC) with
      | none => rw [hp] at h; cases h
      | some n =>
        rw [hp] at h
        cases h
        exact List.dropWhile_suffix _
    · split at h
      · cases hq : Tk.quoF r with
        | none => rw [hq] at h; cases h
        | some p =>
          rw [hq] at h
          cases h
          exact (quo_suf r.length r p.1 p.2 (Nat.le_refl _) hq).trans (List.suffix_cons _ _)
      · split at h
        · unfold Tk.badF at h
          cases hf : [1, 2, 3, 4, 5, 6, 7, 8].find? fun i => (Tk.errN i).isPrefixOf (c :: r) with
          | none => rw [hf] at h; cases h
          | some i => rw [hf] at h; cases h; exact List.drop_suffix _ _
        · split at h
          · unfold Tk.named at h
            split at h
            · rename_i m' he
              cases he
              cases ha : Ad.at_ 93 r with
              | none => rw [ha] at h; cases h
              | some p =>
                obtain ⟨a, q⟩ := p
                rw [ha] at h
                simp only at h
                split at h
                · have h1 := tail_suf h
                  have h2 : q <:+ r := ⟨a ++ [93], by rw [at_eq ha]; simp⟩
                  exact (h1.trans h2).trans (List.suffix_cons _ _)
                · cases h
            · exact tail_suf h
          · rcases r with _ | ⟨d, r⟩
            · simp only [Tk.opF] at h
              split at h
              · cases h; exact List.nil_suffix
              · cases h
            · simp only [Tk.opF] at h
              split at h
              · cases h; exact (List.suffix_cons _ _).trans (List.suffix_cons _ _)
              · split at h
                · cases h; exact List.suffix_cons _ _
                · cases h
theorem suf_drop {l m : List UInt8} (h : m <:+ l) : l.drop (l.length - m.length) = m := by
  obtain ⟨X, rfl⟩ := h
  rw [List.length_append, show X.length + m.length - m.length = X.length by omega]
  exact List.drop_left
def LexT (w : World) (o : Option (List Tk.Tok)) (e : Ending) (w' : World) : Prop :=
  Below w.heap.size w w' ∧ match o with
    | none => e = .returned (.tuple #[.slice none 0 0, .int .i64 10])
    | some L => ∃ v, e = .returned (.tuple #[v, .int .i64 0]) ∧ OwnT 138 w.heap.size w' v (L.map tk) ∧ L.length ≤ 255
def LexB (w : World) (l : List UInt8) (e : Ending) (w' : World) : Prop :=
  if 255 < l.length then e = .returned (.tuple #[.slice none 0 0, .int .i64 3]) ∧ w' = w else LexT w (lexF l) e w'
theorem app_allR {W w2 : World} {v : Value} {L : List TT} (hb : Below W.heap.size W w2) (ho : OwnT 138 W.heap.size w2 v L) (t : TT) (hn : L.length + 1 ≤ 1000000) :
    ∃ v' w4, Hid ((Builtin.append_ #[115, 115] 115 #[v, .slice (some ⟨w2.heap.size + 1, 0, none⟩) 1 1]).run Tryz.prog ((w2.alloc (.cells (tcs t.k t.n t.s t.b t.h t.r t.c t.fr t.fc) 138)).alloc (.cells (tcs t.k t.n t.s t.b t.h t.r t.c t.fr t.fc) 138)) = .ok v' w4) ∧ Hid (OwnT 138 W.heap.size w4 v' (L ++ [t])) ∧ Hid (Below W.heap.size W w4) := by
  have b3 : Below W.heap.size W ((w2.alloc (.cells (tcs t.k t.n t.s t.b t.h t.r t.c t.fr t.fc) 138)).alloc (.cells (tcs t.k t.n t.s t.b t.h t.r t.c t.fr t.fc) 138)) := bel_alloc (bel_alloc hb _) _
  have o3 : OwnT 138 W.heap.size ((w2.alloc (.cells (tcs t.k t.n t.s t.b t.h t.r t.c t.fr t.fc) 138)).alloc (.cells (tcs t.k t.n t.s t.b t.h t.r t.c t.fr t.fc) 138)) v L :=
    (ho.below (bel_alloc (Below.refl _ _) _)).below (bel_alloc (Below.refl _ _) _)
  obtain ⟨v', w4, R, o4, g4, b4⟩ := ownT_app (t := t) (g := w2.heap.size + 1) (e' := 138) (z := (0, 0)) Tryz.underlying115 inf46z o3 (by
    have := heap_alloc_new (w2.alloc (.cells (tcs t.k t.n t.s t.b t.h t.r t.c t.fr t.fc) 138)) (.cells (tcs t.k t.n t.s t.b t.h t.r t.c t.fr t.fc) 138)
    rw [show (w2.alloc (.cells (tcs t.k t.n t.s t.b t.h t.r t.c t.fr t.fc) 138)).heap.size = w2.heap.size + 1 by simp] at this
    exact this) hn b3.size
  exact ⟨v', w4, R, o4, b3.trans b4⟩
def strN : Value → Nat
  | .string A => A.size
  | _ => 0
set_option maxHeartbeats 4000000 in
theorem rlex_long (l : List UInt8) (w : World) (hl : 255 < l.length) : Calls Tryz.prog 91 #[.string (ba l)] w fun e w' => e = .returned (.tuple #[.slice none 0 0, .int .i64 3]) ∧ w' = w := by
  have hs : (ba l).size = l.length := size_mk l
  have h1 : (255 : Int) < l.length := by omega
  generalize ba l = A at *
  generalize l.length = n at *
  go_enter Tryz.func91, Tryz.ntmps91
  go_wp2
  go_ret2
  exact ⟨rfl, rfl⟩
set_option maxHeartbeats 4000000 in
theorem rlex_short (l : List UInt8) (w : World) (hl : l.length ≤ 255) : Calls Tryz.prog 91 #[.string (ba l)] w (LexT w (lexF l)) := by
  have hs : (ba l).size = l.length := size_mk l
  have h1 : ¬ (255 : Int) < l.length := by omega
  generalize ho : lexF l = o
  have HO : Hid (lexF l = o) := ho
  clear ho
  go_enter Tryz.func91, Tryz.ntmps91
  go_wp2
  clear hs h1
  go_loopw [0, 4] (fun s v wr => ∃ (L : List Tk.Tok) (m : List UInt8), L.length + m.length ≤ 255 ∧ s = .string (ba m) ∧ Hid (o = (lexF m).map (L ++ ·)) ∧ Hid (Below w.heap.size w wr) ∧ Hid (OwnT 138 w.heap.size wr v (L.map tk))) (fun s _ _ => strN s)
  case atStart => exact ⟨[], l, by simpa using hl, rfl, by show _ = _; rw [← HO.out]; cases lexF l <;> simp, Below.refl _ _, OwnT.nil _ _ _⟩
  case round =>
    obtain ⟨L, m, hlen, rfl, HQ, HB, HW⟩ := hrel
    clear HO
    cases m with
    | nil =>
      have HN : Hid (o = some L) := by
        show _ = _
        rw [HQ.out]
        show some (L ++ []) = _
        rw [List.append_nil]
      have hem : (ba []).toList = [] := by rw [ByteArray.toList_eq]
      clear HQ
      go_wp2
      go_ret2
      rw [HN.out]
      exact ⟨HB.out, _, rfl, HW.out, by omega⟩
    | cons c r =>
      have hz : 0 < (ba (c :: r)).size := by rw [size_mk]; simp
      have h0 : (ba (c :: r))[0] = c := ba_el (X := []) (Z := r) rfl rfl hz
      have BL : ∀ u, Calls Tryz.prog 122 #[.int .u8 ((ba (c :: r))[0].toNat : Nat)] u fun e w' => e = .returned (.bool (Tk.blank c)) ∧ w' = u := fun u => by rw [h0]; exact rblank_any c u
      have hne : ((ba (c :: r)).toList == []) = false := nil_beq (c :: r)
      have hsz : (ba (c :: r)).size = r.length + 1 := size_mk (c :: r)
      simp only [List.length_cons] at hlen
      clear h0
      cases hb : Tk.blank c with
      | true =>
        rw [hb] at BL
        have HN : Hid (o = (lexF r).map (L ++ ·)) := by show _ = _; rw [HQ.out, lex_blank hb]
        have HD : Hid ((ba (c :: r)).extract 1 (r.length + 1) = ba r) := ba_sub (X := [c]) (Y := r) (Z := []) (by simp) rfl (by simp; omega)
        have HD2 := HD.out
        obtain ⟨R, hR⟩ : ∃ R, R = ba r := ⟨_, rfl⟩
        rw [← hR] at HD2
        have HR : Hid (R = ba r) := hR
        have HM : Hid (strN (.string R) < strN (.string (ba (c :: r)))) := by show R.size < (ba (c :: r)).size; rw [hR, size_mk, size_mk]; simp
        have hi1 : (1 : Int) ≤ (r.length : Int) + 1 := by omega
        clear HQ HD hR
        generalize ba (c :: r) = S at *
        go_wp2_with (go_at_call 122; refine (BL _).mono ?_; rintro e w' ⟨rfl, hw⟩; obtain rfl := hw.symm; clear hw)
        go_roundw
        case rel => exact ⟨L, r, by omega, by rw [HR.out], HN, HB, HW⟩
        case measure => exact HM.out
      | false =>
        rw [hb] at BL
        have NX := fun u => rone_any c r (by simp only [List.length_cons]; omega) u
        have hlx := lex_cons (r := r) hb
        cases h1 : Tk.one gnF trB pnF (c :: r) with
        | none =>
          rw [h1] at NX hlx
          have HN : Hid (o = none) := by
            show _ = _
            rw [HQ.out, hlx]; rfl
          have NX' : ∀ u, Calls Tryz.prog 123 #[.string (ba (c :: r))] u fun e w' => e = .returned (.tuple #[.agg tk0, .int .i64 0]) ∧ Below u.heap.size u w' := fun u => (NX u).mono (by
            rintro e w' ⟨h, rfl⟩
            exact ⟨rfl, h⟩)
          clear NX HQ hlx
          generalize ba (c :: r) = S at *
          go_wp2_with (first
            | (go_at_call 122; refine (BL _).mono ?_; rintro e w' ⟨rfl, hw⟩; obtain rfl := hw.symm; clear hw)
            | (go_at_call 123; refine (NX' _).mono ?_; rintro e w3 ⟨rfl, hs⟩; have H3 : Hid (Below w.heap.size w w3) := bel_step HB.out hs; clear hs))
          go_ret2
          rw [HN.out]
          exact ⟨bel_alloc H3.out _, rfl⟩
        | some p =>
          obtain ⟨t, q⟩ := p
          have hql := one_len h1
          have hqd := suf_drop (one_suf h1)
          rw [h1] at NX hlx
          have HN : Hid (o = (lexF q).map ((L ++ [t]) ++ ·)) := by
            show _ = _
            rw [HQ.out, hlx]
            simp only
            cases lexF q <;> simp
          simp only [List.length_cons] at hql
          have NX' : ∀ u, Calls Tryz.prog 123 #[.string (ba (c :: r))] u fun e w' => e = .returned (.tuple #[.agg (tcs (tk t).k (tk t).n (tk t).s (tk t).b (tk t).h (tk t).r (tk t).c (tk t).fr (tk t).fc), .int .i64 ((r.length + 1 - q.length : Nat) : Int)]) ∧ Below u.heap.size u w' := fun u => (NX u).mono (by
            rintro e w' ⟨h, rfl⟩
            exact ⟨rfl, h⟩)
          have HL : Hid ((L ++ [t]).length + q.length ≤ 255) := by show _ ≤ _; simp; omega
          have HT : Hid (∀ x, x = tk t → (L ++ [t]).map tk = L.map tk ++ [x]) := fun x e => by rw [e]; simp
          have HD : Hid ((ba (c :: r)).extract (r.length + 1 - q.length) (r.length + 1) = ba q) := by
            show _ = _
            have := ba_drop (c :: r) (r.length + 1 - q.length)
            simp only [List.length_cons] at this hqd
            rw [this, hqd]
          obtain ⟨R, hR⟩ : ∃ R, R = ba q := ⟨_, rfl⟩
          have HD2 := HD.out
          rw [← hR] at HD2
          have HR : Hid (R = ba q) := hR
          have HM : Hid (strN (.string R) < strN (.string (ba (c :: r)))) := by show R.size < (ba (c :: r)).size; rw [hR, size_mk, size_mk]; simp; omega
          clear NX HQ hlx h1 hqd HD hR
          obtain ⟨z, hz1⟩ : ∃ z, z = r.length + 1 - q.length := ⟨_, rfl⟩
          rw [← hz1] at NX' HD2
          have hz2 : 1 ≤ z := by omega
          have hz3 : (z : Int) ≤ (r.length : Int) + 1 := by omega
          have hz4 : ((z : Int) == 0) = false := by simp; omega
          clear hz1
          generalize htt : tk t = tt at *
          have HT2 : Hid ((L ++ [t]).map tk = L.map tk ++ [tt]) := HT.out tt rfl
          clear HT htt
          generalize ba (c :: r) = S at *
          go_wp2_with (first
            | (go_at_call 122; refine (BL _).mono ?_; rintro e w' ⟨rfl, hw⟩; obtain rfl := hw.symm; clear hw)
            | (go_at_call 123; refine (NX' _).mono ?_; rintro e w3 ⟨rfl, hs⟩; obtain ⟨v', w4, RR, HO4, HB4⟩ := app_allR (bel_step HB.out hs) (HW.out.below hs) tt (by have := HL.out; simp at this ⊢; omega); clear hs)
            | (at_builtin; refine wpList_append_run rfl _ _ 115 rfl _ _ _ _ rfl rfl RR.out ?_))
          go_roundw
          case rel => exact ⟨L ++ [t], q, HL.out, by rw [HR.out], HN, HB4, by show OwnT _ _ _ _ _; rw [HT2.out]; exact HO4.out⟩
          case measure => exact HM.out
theorem rlex_any (l : List UInt8) (w : World) : Calls Tryz.prog 91 #[.string (ba l)] w (LexB w l) := by
  unfold LexB
  by_cases h : 255 < l.length
  · simp only [if_pos h]
    exact rlex_long l w h
  · simp only [if_neg h]
    exact rlex_short l w (by omega)
end Go.Proofs.YtlndkjcincflpaaGreatDoor
