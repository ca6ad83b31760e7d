/- RWord, RRun, RNamed, ROne, RNum. -/
import Derived.Test.YtnibldnfbikipaaGreatDoorRNmNBy
set_option linter.unusedVariables false
set_option linter.unusedSimpArgs false
set_option maxHeartbeats 16000000
set_option maxRecDepth 100000
namespace Go.Proofs.YtnibldnfbikipaaGreatDoor
open Go.RowKit
theorem rword_any (l : List UInt8) (hl : l.length ≤ 255) (b : Bool) (w : World) : Calls Tryz.prog 243 #[.string (ba l), .bool b] w fun e w' => e = .returned (.bool (gnF l || (!b && trB l))) ∧ Below w.heap.size w w' := by
 have G : Calls Tryz.prog 48 #[.string (ba l)] w fun e w' => e = .returned (.bool (gnF l)) ∧ Below w.heap.size w w' := rgoodname_any (ba l) (by rw [size_mk]; omega) w
 have R := fun u => rtruth_any (ba l) (by rw [size_mk]; omega) u
 have hw := tru_ways (ba l)
 have ht : trB l = (truF (ba l)).2 := rfl
 rw [ht]
 generalize (truF (ba l)).2 = t at *
 generalize truN (szF 97 65 (ba l).data.toList) = n at *
 generalize ba l = A at *
 clear ht
 generalize gnF l = g at *
 cases g <;> cases b
 ·rcases hw with ⟨rfl, h⟩ | ⟨rfl, h⟩
  ·go_enter Tryz.func243, Tryz.ntmps243
   go_wp2_with (first | (go_at_call 48; refine G.mono ?_; rintro e w1 ⟨rfl, hb⟩; have HB : Hid (Below w.heap.size w w1) := hb; clear hb) | (go_at_call 92; refine (R _).mono ?_; rintro e w2 ⟨rfl, hb⟩; have HB2 : Hid (Below w.heap.size w w2) := bel_step HB.out hb; clear hb))
   go_ret
   exact ⟨rfl, HB2.out⟩
  ·have h' : ¬ 0 ≤ n := by omega
   go_enter Tryz.func243, Tryz.ntmps243
   go_wp2_with (first | (go_at_call 48; refine G.mono ?_; rintro e w1 ⟨rfl, hb⟩; have HB : Hid (Below w.heap.size w w1) := hb; clear hb) | (go_at_call 92; refine (R _).mono ?_; rintro e w2 ⟨rfl, hb⟩; have HB2 : Hid (Below w.heap.size w w2) := bel_step HB.out hb; clear hb))
   go_ret
   refine ⟨ret_bool ?_, HB2.out⟩
   simpa using h
 all_goals
  clear hw R
  go_enter Tryz.func243, Tryz.ntmps243
  go_wp2_with (go_at_call 48; refine G.mono ?_; rintro e w1 ⟨rfl, hb⟩; have HB : Hid (Below w.heap.size w w1) := hb; clear hb)
  go_ret
  exact ⟨rfl, HB.out⟩
theorem rblank_any (c : UInt8) (w : World) : Calls Tryz.prog 153 #[.int .u8 (c.toNat : Nat)] w fun e w' => e = .returned (.bool (Tk.blank c)) ∧ w' = w := by
 rw [show Tk.blank c = (decide (c.toNat = 32) || decide (c.toNat = 9)) by unfold Tk.blank; rw [u8_eq, u8_eq]; rfl]
 generalize c.toNat = n
 go_enter Tryz.func153, Tryz.ntmps153
 go_wp2
 all_goals (go_ret; refine ⟨ret_bool ?_, rfl⟩; rw [Bool.eq_iff_iff]; simp; omega)
theorem run_ways (c : UInt8) : (Ad.isL c = true ∧ Tk.runC c = true) ∨ (Ad.isL c = false ∧ Ad.isD c = true ∧ Tk.runC c = true) ∨
  (Ad.isL c = false ∧ Ad.isD c = false ∧ ((c.toNat : Int) == 95) = true ∧ Tk.runC c = true) ∨ (Ad.isL c = false ∧ Ad.isD c = false ∧ ((c.toNat : Int) == 95) = false ∧ ((c.toNat : Int) == 36) = true ∧ Tk.runC c = true) ∨
  (Ad.isL c = false ∧ Ad.isD c = false ∧ ((c.toNat : Int) == 95) = false ∧ ((c.toNat : Int) == 36) = false ∧ Tk.runC c = false) := by
 have e95 : ((c.toNat : Int) == 95) = (c == 95) := by
  rcases ch_facts c 95 with ⟨h1, h2⟩ | ⟨h1, h2⟩
  ·subst h1; rfl
  ·rw [show ((c.toNat : Int) == 95) = false from h2]; exact (beq_eq_false_iff_ne.2 h1).symm
 have e36 : ((c.toNat : Int) == 36) = (c == 36) := by
  rcases ch_facts c 36 with ⟨h1, h2⟩ | ⟨h1, h2⟩
  ·subst h1; rfl
  ·rw [show ((c.toNat : Int) == 36) = false from h2]; exact (beq_eq_false_iff_ne.2 h1).symm
 unfold Tk.runC
 rw [e95, e36]
 cases Ad.isL c <;> cases Ad.isD c <;> cases (c == 95) <;> cases (c == 36) <;> simp
theorem rrun_core (l : List UInt8) (S : ByteArray) (hs : S.size = l.length) (HG : Hid (∀ k (h : k < l.length) (h2 : k < S.size), S[k] = l[k])) (hl : l.length ≤ 255) (w : World) : Calls Tryz.prog 240 #[.string S] w fun e w' => e = .returned (.int .i64 ((l.takeWhile Tk.runC).length : Nat)) ∧ w' = w := by
 generalize hr : (l.takeWhile Tk.runC).length = r
 have HR : Hid ((l.takeWhile Tk.runC).length = r) := hr
 clear hr
 go_enter Tryz.func240, Tryz.ntmps240
 go_wp2
 go_loop [3] (fun i => ∃ k : Nat, k ≤ l.length ∧ i = .int .i64 k ∧ Hid ((l.take k).all Tk.runC = true)) (fun i => l.length - (intOf i).toNat)
 case atStart => exact ⟨0, Nat.zero_le _, rfl, by simp [Hid]⟩
 case round =>
  obtain ⟨k, hk, rfl, ha⟩ := hrel
  by_cases hlt : k < l.length
  ·have hki : (k : Int) < l.length := by omega
   have hks : k < S.size := by rw [hs]; exact hlt
   have hg := HG.out k hlt hks
   have L := fun u => rletter_any l[k] u
   have D := fun u => rdigit_any l[k] u
   have HE : Hid (Tk.runC l[k] = false → r = k) := fun h => by
    rw [← HR.out, (while_at hlt ha.out h).1, List.length_take]; omega
   have HN : Hid (Tk.runC l[k] = true → (l.take (k + 1)).all Tk.runC = true) := fun h => all_more l k 1 ha.out (fun j hj h2 => by
    obtain rfl : j = 0 := by omega
    exact h)
   have hw := run_ways l[k]
   rw [← hg] at L D HE HN hw
   clear hg HR HG
   rcases hw with ⟨h1, h2⟩ | ⟨h1, h2, h3⟩ | ⟨h1, h2, h3, h4⟩ | ⟨h1, h2, h3, h4, h5⟩ | ⟨h1, h2, h3, h4, h5⟩
   ·rw [h1] at L
    have HN2 := HN.out h2
    clear HE HN h1 h2
    go_wp2_with (first | (go_at_call 91; refine (L _).mono ?_; rintro e w' ⟨rfl, hw⟩; obtain rfl := hw.symm; clear hw) | (go_at_call 93; refine (D _).mono ?_; rintro e w' ⟨rfl, hw⟩; obtain rfl := hw.symm; clear hw))
    go_round
    case rel => exact ⟨k + 1, by omega, by go_num, HN2⟩
    case measure => simp [intOf]; omega
   ·rw [h1] at L
    rw [h2] at D
    have HN2 := HN.out h3
    clear HE HN h1 h2 h3
    go_wp2_with (first | (go_at_call 91; refine (L _).mono ?_; rintro e w' ⟨rfl, hw⟩; obtain rfl := hw.symm; clear hw) | (go_at_call 93; refine (D _).mono ?_; rintro e w' ⟨rfl, hw⟩; obtain rfl := hw.symm; clear hw))
    go_round
    case rel => exact ⟨k + 1, by omega, by go_num, HN2⟩
    case measure => simp [intOf]; omega
   ·rw [h1] at L
    rw [h2] at D
    have HN2 := HN.out h4
    clear HE HN h1 h2 h4
    go_wp2_with (first | (go_at_call 91; refine (L _).mono ?_; rintro e w' ⟨rfl, hw⟩; obtain rfl := hw.symm; clear hw) | (go_at_call 93; refine (D _).mono ?_; rintro e w' ⟨rfl, hw⟩; obtain rfl := hw.symm; clear hw))
    go_round
    case rel => exact ⟨k + 1, by omega, by go_num, HN2⟩
    case measure => simp [intOf]; omega
   ·rw [h1] at L
    rw [h2] at D
    have HN2 := HN.out h5
    clear HE HN h1 h2 h5
    go_wp2_with (first | (go_at_call 91; refine (L _).mono ?_; rintro e w' ⟨rfl, hw⟩; obtain rfl := hw.symm; clear hw) | (go_at_call 93; refine (D _).mono ?_; rintro e w' ⟨rfl, hw⟩; obtain rfl := hw.symm; clear hw))
    go_round
    case rel => exact ⟨k + 1, by omega, by go_num, HN2⟩
    case measure => simp [intOf]; omega
   ·rw [h1] at L
    rw [h2] at D
    have HE2 : Hid (r = k) := HE.out h5
    clear HE HN h1 h2 h5
    go_wp2_with (first | (go_at_call 91; refine (L _).mono ?_; rintro e w' ⟨rfl, hw⟩; obtain rfl := hw.symm; clear hw) | (go_at_call 93; refine (D _).mono ?_; rintro e w' ⟨rfl, hw⟩; obtain rfl := hw.symm; clear hw))
    go_ret
    exact ⟨by rw [HE2.out]; rfl, rfl⟩
  ·have hki : ¬ (k : Int) < l.length := by omega
   have HE : Hid (r = k) := by
    show _ = _
    have := ha.out
    rw [List.take_of_length_le (by omega)] at this
    rw [← HR.out, (while_all this).1]; omega
   clear HR HG
   go_wp2
   go_ret
   exact ⟨by rw [HE.out]; rfl, rfl⟩
theorem rrun_any (l : List UInt8) (hl : l.length ≤ 255) (w : World) : Calls Tryz.prog 240 #[.string (ba l)] w fun e w' => e = .returned (.int .i64 ((l.takeWhile Tk.runC).length : Nat)) ∧ w' = w :=
 rrun_core l (ba l) (size_mk l) (fun k h h2 => ba_get l k h h2) hl w
theorem ba_sub {l X Y Z : List UInt8} (h : l = X ++ (Y ++ Z)) {i j : Nat} (hi : i = X.length) (hj : j = X.length + Y.length) : (ba l).extract i j = ba Y := by
 subst h hi hj
 apply ByteArray.ext
 simp [ba]
theorem ba_el {l X Z : List UInt8} {x : UInt8} (h : l = X ++ x :: Z) {i : Nat} (hi : i = X.length) (h2 : i < (ba l).size) : (ba l)[i] = x := by
 subst h hi
 rw [ba_get _ _ (by simp) h2]
 simp
theorem int_ne {c d : UInt8} (h : c ≠ d) : ((c.toNat : Int) == (d.toNat : Int)) = false := by
 rcases ch_facts c d with ⟨h1, _⟩ | ⟨_, h2⟩
 ·exact absurd h1 h
 ·exact h2
theorem AnsR.none {w : World} {l : List UInt8} {e : Ending} {w' : World} (h : e = .returned (.tuple #[.agg tk0, .int .i64 0]) ∧ Below w.heap.size w w') : AnsR w l none e w' := ⟨h.2, h.1⟩
theorem AnsR.some {w : World} {l m : List UInt8} {t : Tk.Tok} {e : Ending} {w' : World} {k : Nat} (hk : k = l.length - m.length) (h : e = .returned (.tuple #[.agg (tk t).cs, .int .i64 (k : Int)]) ∧ Below w.heap.size w w') : AnsR w l (some (t, m)) e w' := ⟨h.2, by show e = _; rw [← hk]; exact h.1⟩
theorem rtail_plain {w : World} {c : UInt8} {r : List UInt8} (hc : c ≠ 91) (hl : (c :: r).length ≤ 255) :
  Calls Tryz.prog 200 #[.string (ba (c :: r))] w (AnsR w (c :: r) (Tk.tailN gnF trB [] [] (c :: r))) := by
 generalize hL : c :: r = l at *
 have hz : 0 < (ba l).size := by rw [size_mk, ← hL]; simp
 have h91 : (((ba l)[0].toNat : Int) == 91) = false := by
  have h0e : (ba l)[0] = c := ba_el (X := []) (Z := r) (x := c) hL.symm rfl hz
  rw [h0e]
  exact int_ne hc
 have hA1 : (ba l).extract 0 l.length = ba l := by rw [ba_take, List.take_length]
 have hsp := tw_dw Tk.runC l
 have RN1 := fun u => rrun_any l hl u
 have CE := fun u => rparsecell_any (l.takeWhile Tk.runC) (by have := (List.takeWhile_sublist (p := Tk.runC) (l := l)).length_le; omega) u
 have hlw : (l.takeWhile Tk.runC).length ≤ 255 := by have := (List.takeWhile_sublist (p := Tk.runC) (l := l)).length_le; omega
 have WD := fun u => rword_any (l.takeWhile Tk.runC) hlw false u
 have hlen := congrArg List.length hsp
 rw [List.length_append] at hlen
 have hW : (ba l).extract 0 (l.takeWhile Tk.runC).length = ba (l.takeWhile Tk.runC) := ba_sub (X := []) (Z := l.dropWhile Tk.runC) (by rw [hsp]; rfl) rfl (by simp)
 have rest : ∀ (hno : (¬ (l.takeWhile Tk.runC).length < l.length) ∨ ∃ hlt : (l.takeWhile Tk.runC).length < (ba l).size, (((ba l)[(l.takeWhile Tk.runC).length].toNat : Int) == 33) = false),
   Calls Tryz.prog 200 #[.string (ba l)] w (AnsR w l (match Ad.cellP (l.takeWhile Tk.runC) with
   | some c => some (.ref ⟨[], [], c⟩, l.dropWhile Tk.runC)
   | none => if gnF (l.takeWhile Tk.runC) = true ∨ trB (l.takeWhile Tk.runC) = true then some (.word [] (l.takeWhile Tk.runC), l.dropWhile Tk.runC) else none)) := by
  intro hno
  cases hcell : Ad.cellP (l.takeWhile Tk.runC) with
  | some x =>
   rw [hcell] at CE
   rcases hno with h | ⟨h1, h2⟩
   ·exact (nmP_cell_end (size_mk l) hl hz h91 hA1 RN1 (by omega) h hW CE).mono fun e w' h => AnsR.some (by omega) h
   ·exact (nmP_cell_sign (size_mk l) hl hz h91 hA1 RN1 (by omega) h1 h2 hW CE).mono fun e w' h => AnsR.some (by omega) h
  | none =>
   rw [hcell] at CE
   simp only
   by_cases hg : gnF (l.takeWhile Tk.runC) = true ∨ trB (l.takeWhile Tk.runC) = true
   ·rw [if_pos hg]
    have hwd : (gnF (l.takeWhile Tk.runC) || (!false && trB (l.takeWhile Tk.runC))) = true := by
     rcases hg with h | h <;> simp [h]
    rw [hwd] at WD
    rcases hno with h | ⟨h1, h2⟩
    ·exact (nmP_word_yes_end (size_mk l) hl hz h91 hA1 RN1 (by omega) h hW CE WD).mono fun e w' h => AnsR.some (by omega) h
    ·exact (nmP_word_yes_sign (size_mk l) hl hz h91 hA1 RN1 (by omega) h1 h2 hW CE WD).mono fun e w' h => AnsR.some (by omega) h
   ·rw [if_neg hg]
    have hwd : (gnF (l.takeWhile Tk.runC) || (!false && trB (l.takeWhile Tk.runC))) = false := by
     simp only [not_or, Bool.not_eq_true] at hg
     simp [hg.1, hg.2]
    rw [hwd] at WD
    rcases hno with h | ⟨h1, h2⟩
    ·exact (nmP_word_no_end (size_mk l) hl hz h91 hA1 RN1 (by omega) h hW CE WD).mono fun e w' h => AnsR.none h
    ·exact (nmP_word_no_sign (size_mk l) hl hz h91 hA1 RN1 (by omega) h1 h2 hW CE WD).mono fun e w' h => AnsR.none h
 unfold Tk.tailN
 cases hx : l.dropWhile Tk.runC with
 | nil =>
  have := rest (.inl (by rw [hx] at hlen; simp at hlen; omega))
  rw [hx] at this
  exact this
 | cons x q =>
  rw [hx] at hlen hsp
  simp only [List.length_cons] at hlen
  have hlt : (l.takeWhile Tk.runC).length < (ba l).size := by rw [size_mk]; omega
  have hel := ba_el (X := l.takeWhile Tk.runC) (Z := q) (x := x) hsp.symm rfl hlt
  by_cases h33 : x = 33
  ·subst h33
   clear rest
   have hq : q.length ≤ 255 := by omega
   have RN2 := fun u => rrun_any q hq u
   have hsq := tw_dw Tk.runC q
   have hlq := congrArg List.length hsq
   rw [List.length_append] at hlq
   have hA2 : (ba l).extract ((l.takeWhile Tk.runC).length + 1) l.length = ba q := ba_sub (X := l.takeWhile Tk.runC ++ [33]) (Y := q) (Z := []) (by rw [List.append_nil, List.append_assoc]; exact hsp.symm) (by simp) (by simp; omega)
   have hall : l = [] ++ ((l.takeWhile Tk.runC ++ 33 :: q.takeWhile Tk.runC) ++ q.dropWhile Tk.runC) := by
    rw [List.nil_append, List.append_assoc, List.cons_append, hsq]; exact hsp.symm
   have hD : (ba l).extract 0 ((l.takeWhile Tk.runC).length + (1 + (q.takeWhile Tk.runC).length)) = ba (l.takeWhile Tk.runC ++ 33 :: q.takeWhile Tk.runC) := ba_sub hall rfl (by simp; omega)
   have hlD : (l.takeWhile Tk.runC ++ 33 :: q.takeWhile Tk.runC).length ≤ 255 := by simp; omega
   have PR := fun u => rparseref_any (l.takeWhile Tk.runC ++ 33 :: q.takeWhile Tk.runC) (by omega) u
   simp only [List.nil_append]
   cases hp : Ad.refP gnF (l.takeWhile Tk.runC ++ 33 :: q.takeWhile Tk.runC) with
   | none =>
    rw [hp] at PR
    exact (nmP_sheet_no (n2 := (l.takeWhile Tk.runC).length + (1 + (q.takeWhile Tk.runC).length)) (size_mk l) hl hz h91 hA1 RN1 (by omega) hlt (by rw [hel]; rfl) hA2 RN2 (by simp) (by omega) hD PR).mono fun e w' h => AnsR.none h
   | some y =>
    rw [hp] at PR
    exact (nmP_sheet_yes (n2 := (l.takeWhile Tk.runC).length + (1 + (q.takeWhile Tk.runC).length)) (size_mk l) hl hz h91 hA1 RN1 (by omega) hlt (by rw [hel]; rfl) hA2 RN2 (by simp) (by omega) hD PR).mono fun e w' h => AnsR.some (by omega) h
  ·have := rest (.inr ⟨hlt, by rw [hel]; exact int_ne h33⟩)
   rw [hx] at this
   split
   ·rename_i e; cases e; exact absurd rfl h33
   ·exact this
theorem at_no {c : UInt8} : ∀ {l a r : List UInt8}, Ad.at_ c l = some (a, r) → ∀ x ∈ a, x ≠ c
 | [], a, r, h => by cases h
 | y :: l, a, r, h => by
  unfold Ad.at_ at h
  split at h
  ·cases h; intro x hx; cases hx
  ·rename_i hy
   cases hq : Ad.at_ c l with
   | none => rw [hq] at h; cases h
   | some p =>
    rw [hq] at h
    cases h
    intro x hx
    rcases List.mem_cons.1 hx with rfl | hx
    ·exact hy
    ·exact at_no (a := p.1) (r := p.2) hq x hx
theorem at_nonen {c : UInt8} : ∀ {l : List UInt8}, Ad.at_ c l = none → ∀ x ∈ l, x ≠ c
 | [], _ => fun x hx => by cases hx
 | y :: l, h => by
  unfold Ad.at_ at h
  split at h
  ·cases h
  ·rename_i hy
   cases hq : Ad.at_ c l with
   | some p => rw [hq] at h; cases h
   | none =>
    intro x hx
    rcases List.mem_cons.1 hx with rfl | hx
    ·exact hy
    ·exact at_nonen hq x hx
theorem int_nez {c d : UInt8} (h : c ≠ d) : ((c.toNat : Int) != (d.toNat : Int)) = true := by
 show (!((c.toNat : Int) == (d.toNat : Int))) = true
 rw [int_ne h]; rfl
theorem no93 {m a z : List UInt8} (hm : m = a ++ z) (ha : ∀ x ∈ a, x ≠ 93) : Hid (∀ k, 1 ≤ k → k < a.length + 1 → ∀ h : k < (ba (91 :: m)).size, (((ba (91 :: m))[k].toNat : Int) != 93) = true) := fun k h1 h2 h => by
 have hk : k < (91 :: m).length := by rw [size_mk] at h; exact h
 have e : (91 :: m)[k] = a[k - 1]'(by omega) := by
  subst hm
  rw [List.getElem_cons, dif_neg (by omega), List.getElem_append_left (by omega)]
 rw [ba_get _ k hk h, e]
 exact int_nez (ha _ (List.getElem_mem _))
theorem rtail_book {w : World} {m a rr : List UInt8} (hl : (91 :: m).length ≤ 255) (ha : Ad.at_ 93 m = some (a, rr)) (hg : gnF a = true) :
  Calls Tryz.prog 200 #[.string (ba (91 :: m))] w (AnsR w (91 :: m) (Tk.tailN gnF trB a (91 :: (a ++ [93])) rr)) := by
 have hm := at_eq ha
 have hnb := no93 hm (at_no ha)
 have hml := congrArg List.length hm
 have hl2 := hl
 simp only [List.length_append, List.length_cons] at hml hl2
 have hane : a ≠ [] := fun e => by rw [e] at hg; cases hg
 have hKe : ((ba a).toList == []) = false := by
  rw [nil_beq]
  cases a with
  | nil => exact absurd rfl hane
  | cons _ _ => rfl
 generalize hL : 91 :: m = l at *
 have hpre : l = (91 :: (a ++ [93])) ++ rr := by rw [← hL, hm]; simp
 have hlen0 : l.length = a.length + 2 + rr.length := by rw [hpre]; simp; omega
 have hz : 0 < (ba l).size := by rw [size_mk]; omega
 have h91 : (((ba l)[0].toNat : Int) == 91) = true := by
  have h0e : (ba l)[0] = 91 := ba_el (X := []) (Z := m) (x := 91) hL.symm rfl hz
  rw [h0e]; rfl
 have k2 : a.length + 1 < (ba l).size := by rw [size_mk]; omega
 have hk0 : (((ba l)[a.length + 1].toNat : Int) != 93) = false := by
  have e : (ba l)[a.length + 1] = 93 := ba_el (X := 91 :: a) (Z := rr) (x := 93) (by rw [hpre]; simp) (by simp) k2
  rw [e]; rfl
 have hK : (ba l).extract 1 (a.length + 1) = ba a := ba_sub (X := [91]) (Y := a) (Z := 93 :: rr) (by rw [hpre]; simp) rfl (by simp; omega)
 have RG : ∀ u, Calls Tryz.prog 48 #[.string (ba a)] u fun e w' => e = .returned (.bool true) ∧ Below u.heap.size u w' := fun u => by
  have := rgoodname_any (ba a) (by rw [size_mk]; omega) u
  rw [show (ba a).data.toList = a from rfl, hg] at this
  exact this
 have hA1 : (ba l).extract (a.length + 2) l.length = ba rr := ba_sub (X := 91 :: (a ++ [93])) (Y := rr) (Z := []) (by rw [hpre]; simp) (by simp) (by rw [hlen0]; simp only [List.length_append, List.length_cons, List.length_nil] <;> omega)
 have hrr : rr.length ≤ 255 := by omega
 have hsp := tw_dw Tk.runC rr
 have RN1 := fun u => rrun_any rr hrr u
 have hlw : (rr.takeWhile Tk.runC).length ≤ 255 := by have := (List.takeWhile_sublist (p := Tk.runC) (l := rr)).length_le; omega
 have CE := fun u => rparsecell_any (rr.takeWhile Tk.runC) (by omega) u
 have WD := fun u => rword_any (rr.takeWhile Tk.runC) hlw true u
 have hlen := congrArg List.length hsp
 rw [List.length_append] at hlen
 have hW : (ba l).extract (a.length + 2) (a.length + 2 + (rr.takeWhile Tk.runC).length) = ba (rr.takeWhile Tk.runC) := ba_sub (X := 91 :: (a ++ [93])) (Z := rr.dropWhile Tk.runC) (by rw [hsp]; exact hpre) (by simp) (by simp)
 have hs := size_mk l
 have rest : ∀ (hno : (¬ a.length + 2 + (rr.takeWhile Tk.runC).length < l.length) ∨ ∃ hlt : a.length + 2 + (rr.takeWhile Tk.runC).length < (ba l).size, (((ba l)[a.length + 2 + (rr.takeWhile Tk.runC).length].toNat : Int) == 33) = false),
   Calls Tryz.prog 200 #[.string (ba l)] w (AnsR w l (if gnF (rr.takeWhile Tk.runC) = true then some (.word a (rr.takeWhile Tk.runC), rr.dropWhile Tk.runC) else none)) := by
  intro hno
  have main : ∀ {B H : ByteArray} {r c : Int} {fr fc ok : Bool} (CE : ∀ u, Calls Tryz.prog 242 #[.string (ba (rr.takeWhile Tk.runC))] u fun e w' => e = .returned (.tuple #[refV B H r c fr fc, .bool ok]) ∧ Below u.heap.size u w'),
    Calls Tryz.prog 200 #[.string (ba l)] w (AnsR w l (if gnF (rr.takeWhile Tk.runC) = true then some (.word a (rr.takeWhile Tk.runC), rr.dropWhile Tk.runC) else none)) := by
   intro B H r c fr fc ok CE
   cases hgw : gnF (rr.takeWhile Tk.runC) with
   | true =>
    rw [hgw] at WD
    rw [if_pos rfl]
    rcases hno with h | ⟨h1, h2⟩
    ·exact (nmB_word_yes_end hs hl hz h91 (by omega) k2 hnb hk0 hK hKe RG (by simp; omega) (by omega) hA1 RN1 (by simp) (by omega) h (by omega) hW CE WD).mono fun e w' h => AnsR.some (by omega) h
    ·exact (nmB_word_yes_sign hs hl hz h91 (by omega) k2 hnb hk0 hK hKe RG (by simp; omega) (by omega) hA1 RN1 (by simp) (by omega) h1 h2 (by omega) hW CE WD).mono fun e w' h => AnsR.some (by omega) h
   | false =>
    rw [hgw] at WD
    rw [if_neg (by decide)]
    rcases hno with h | ⟨h1, h2⟩
    ·exact (nmB_word_no_end hs hl hz h91 (by omega) k2 hnb hk0 hK hKe RG (by simp; omega) (by omega) hA1 RN1 (by simp) (by omega) h (by omega) hW CE WD).mono fun e w' h => AnsR.none h
    ·exact (nmB_word_no_sign hs hl hz h91 (by omega) k2 hnb hk0 hK hKe RG (by simp; omega) (by omega) hA1 RN1 (by simp) (by omega) h1 h2 (by omega) hW CE WD).mono fun e w' h => AnsR.none h
  cases hcell : Ad.cellP (rr.takeWhile Tk.runC) with
  | some x => rw [hcell] at CE; exact main CE
  | none => rw [hcell] at CE; exact main CE
 unfold Tk.tailN
 cases hx : rr.dropWhile Tk.runC with
 | nil =>
  have := rest (.inl (by rw [hx] at hlen; simp at hlen; omega))
  rw [hx] at this
  simp only [if_neg hane]
  exact this
 | cons x q =>
  rw [hx] at hlen hsp
  simp only [List.length_cons] at hlen
  have hlt : a.length + 2 + (rr.takeWhile Tk.runC).length < (ba l).size := by rw [size_mk]; omega
  have hel : (ba l)[a.length + 2 + (rr.takeWhile Tk.runC).length] = x := ba_el (X := 91 :: (a ++ [93]) ++ rr.takeWhile Tk.runC) (Z := q) (x := x) (by rw [List.append_assoc, hsp]; exact hpre) (by simp; omega) hlt
  by_cases h33 : x = 33
  ·subst h33
   clear rest
   have hq : q.length ≤ 255 := by omega
   have RN2 := fun u => rrun_any q hq u
   have hsq := tw_dw Tk.runC q
   have hlq := congrArg List.length hsq
   rw [List.length_append] at hlq
   have hA2 : (ba l).extract (a.length + 2 + (rr.takeWhile Tk.runC).length + 1) l.length = ba q := ba_sub (X := 91 :: (a ++ [93]) ++ rr.takeWhile Tk.runC ++ [33]) (Y := q) (Z := []) (by rw [List.append_nil, List.append_assoc, List.append_assoc]; simp only [List.singleton_append]; rw [hsp]; exact hpre) (by simp; omega) (by rw [hlen0]; simp only [List.length_append, List.length_cons, List.length_nil] <;> omega)
   have hall : l = [] ++ ((91 :: (a ++ [93]) ++ rr.takeWhile Tk.runC ++ 33 :: q.takeWhile Tk.runC) ++ q.dropWhile Tk.runC) := by
    have e1 : l = 91 :: (a ++ [93]) ++ (rr.takeWhile Tk.runC ++ 33 :: q) := by rw [hsp]; exact hpre
    rw [e1]
    simp
   have hD : (ba l).extract 0 (a.length + 2 + (rr.takeWhile Tk.runC).length + (1 + (q.takeWhile Tk.runC).length)) = ba (91 :: (a ++ [93]) ++ rr.takeWhile Tk.runC ++ 33 :: q.takeWhile Tk.runC) := ba_sub hall rfl (by simp; omega)
   have hlD : (91 :: (a ++ [93]) ++ rr.takeWhile Tk.runC ++ 33 :: q.takeWhile Tk.runC).length ≤ 255 := by simp; omega
   have PR := fun u => rparseref_any (91 :: (a ++ [93]) ++ rr.takeWhile Tk.runC ++ 33 :: q.takeWhile Tk.runC) (by omega) u
   simp only
   cases hp : Ad.refP gnF (91 :: (a ++ [93]) ++ rr.takeWhile Tk.runC ++ 33 :: q.takeWhile Tk.runC) with
   | none =>
    rw [hp] at PR
    exact (nmB_sheet_no (n2 := a.length + 2 + (rr.takeWhile Tk.runC).length + (1 + (q.takeWhile Tk.runC).length)) hs hl hz h91 (by omega) k2 hnb hk0 hK hKe RG (by simp; omega) (by omega) hA1 RN1 (by simp) (by omega) hlt (by rw [hel]; rfl) hA2 RN2 (by simp) (by omega) hD PR).mono fun e w' h => AnsR.none h
   | some y =>
    rw [hp] at PR
    exact (nmB_sheet_yes (n2 := a.length + 2 + (rr.takeWhile Tk.runC).length + (1 + (q.takeWhile Tk.runC).length)) hs hl hz h91 (by omega) k2 hnb hk0 hK hKe RG (by simp; omega) (by omega) hA1 RN1 (by simp) (by omega) hlt (by rw [hel]; rfl) hA2 RN2 (by simp) (by omega) hD PR).mono fun e w' h => AnsR.some (by omega) h
  ·have := rest (.inr ⟨hlt, by rw [hel]; exact int_ne h33⟩)
   rw [hx] at this
   split
   ·rename_i e; cases e; exact absurd rfl h33
   ·rw [if_neg hane]; exact this
theorem rnamed_any {w : World} {c : UInt8} {r : List UInt8} (hl : (c :: r).length ≤ 255) : Calls Tryz.prog 200 #[.string (ba (c :: r))] w (AnsR w (c :: r) (Tk.named gnF trB (c :: r))) := by
 by_cases hc : c = 91
 ·subst hc
  have hz : 0 < (ba (91 :: r)).size := by rw [size_mk]; simp
  have h91 : (((ba (91 :: r))[0].toNat : Int) == 91) = true := by
   have h0e : (ba (91 :: r))[0] = 91 := ba_el (X := []) (Z := r) (x := 91) rfl rfl hz
   rw [h0e]; rfl
  unfold Tk.named
  simp only
  cases ha : Ad.at_ 93 r with
  | none =>
   have := no93 (m := r) (a := r) (z := []) (by simp) (at_nonen ha)
   exact (nmN_open (k0 := r.length + 1) (size_mk _) hl hz h91 (by omega) (by simp) this).mono fun e w' h => AnsR.none h
  | some p =>
   obtain ⟨a, rr⟩ := p
   simp only
   cases hg : gnF a with
   | true => rw [if_pos rfl]; exact rtail_book hl ha hg
   | false =>
    rw [if_neg (by decide)]
    have hm := at_eq ha
    have hml := congrArg List.length hm
    simp only [List.length_append, List.length_cons] at hml hl
    have k2 : a.length + 1 < (ba (91 :: r)).size := by rw [size_mk]; simp; omega
    have hk0 : (((ba (91 :: r))[a.length + 1].toNat : Int) != 93) = false := by
     have e : (ba (91 :: r))[a.length + 1] = 93 := ba_el (X := 91 :: a) (Z := rr) (x := 93) (by rw [hm]; simp) (by simp) k2
     rw [e]; rfl
    have hK : (ba (91 :: r)).extract 1 (a.length + 1) = ba a := ba_sub (X := [91]) (Y := a) (Z := 93 :: rr) (by rw [hm]; simp) rfl (by simp; omega)
    have RG : ∀ u, Calls Tryz.prog 48 #[.string (ba a)] u fun e w' => e = .returned (.bool false) ∧ Below u.heap.size u w' := fun u => by
     have := rgoodname_any (ba a) (by rw [size_mk]; omega) u
     rw [show (ba a).data.toList = a from rfl, hg] at this
     exact this
    exact (nmN_name (k0 := a.length + 1) (size_mk _) (by simp; omega) hz h91 (by omega) k2 hk0 hK RG (no93 hm (at_no ha))).mono fun e w' h => AnsR.none h
 ·have h : Tk.named gnF trB (c :: r) = Tk.tailN gnF trB [] [] (c :: r) := by
   unfold Tk.named
   split
   ·rename_i e; cases e; exact absurd rfl hc
   ·rfl
  rw [h]
  exact rtail_plain hc hl
def AnsQ (w : World) (l : List UInt8) (o : Option (Tk.Tok × List UInt8)) (e : Ending) (w' : World) : Prop :=
 ∃ (t : TT) (n : Int), e = .returned (.tuple #[.agg (tcs t.k t.n t.s t.b t.h t.r t.c t.fr t.fc), .int .i64 n]) ∧ Below w.heap.size w w' ∧ ∀ v v', Below v.heap.size v v' → AnsR v l o (.returned (.tuple #[.agg (tcs t.k t.n t.s t.b t.h t.r t.c t.fr t.fc), .int .i64 n])) v'
theorem AnsR.q {w : World} {l : List UInt8} {o : Option (Tk.Tok × List UInt8)} {e : Ending} {w' : World} (h : AnsR w l o e w') : AnsQ w l o e w' := by
 rcases o with _ | ⟨t, m⟩
 ·obtain ⟨h1, rfl⟩ := h
  exact ⟨⟨0, 0, noB, noB, noB, 0, 0, false, false⟩, 0, rfl, h1, fun v v' hv => ⟨hv, rfl⟩⟩
 ·obtain ⟨h1, rfl⟩ := h
  exact ⟨tk t, _, rfl, h1, fun v v' hv => ⟨hv, rfl⟩⟩
section
variable {w : World} {S : ByteArray} {l : List UInt8} {o : Option (Tk.Tok × List UInt8)}
theorem one_quote (h0 : 0 < S.size) (DG : ∀ u, Calls Tryz.prog 93 #[.int .u8 (S[0].toNat : Nat)] u fun e w' => e = .returned (.bool false) ∧ w' = u) (h34 : ((S[0].toNat : Int) == 34) = true)
  (Q : Hid (Calls Tryz.prog 199 #[.string S] (w.alloc tkR) (AnsQ (w.alloc tkR) l o))) : Calls Tryz.prog 154 #[.string S] w (AnsR w l o) := by
 have HZ0 : Hid (RZ w (w.alloc tkR)) := RZ.begin w
 go_enter Tryz.func154, Tryz.ntmps154
 go_wp2_with (first
  | (go_at_call 93; refine (DG _).mono ?_; rintro e w' ⟨rfl, hw⟩; obtain rfl := hw.symm; clear hw)
  | (go_at_call 199; refine Calls.mono Q.out ?_; rintro e w2 ⟨t, n, rfl, hs, ha⟩; have HZ2 : Hid (RZ w w2) := HZ0.out.below hs; have HF : Hid (∀ v v', Below v.heap.size v v' → AnsR v l o (.returned (.tuple #[.agg (tcs t.k t.n t.s t.b t.h t.r t.c t.fr t.fc), .int .i64 n])) v') := ha; have RR := HZ2.out.put t.k t.n t.s t.b t.h t.r t.c t.fr t.fc; clear hs ha)
  | (refine wpList_store_run rfl 188 _ _ rfl _ _ _ rfl rfl RR.out ?_))
 exact bodyPost_ret (v := .tuple #[.agg (tcs t.k t.n t.s t.b t.h t.r t.c t.fr t.fc), .int .i64 n]) (HZ2.out.ans (tcs t.k t.n t.s t.b t.h t.r t.c t.fr t.fc) rfl rfl rfl rfl) rfl (HF.out _ _ (HZ2.out.fin _))
theorem one_named (h0 : 0 < S.size) (DG : ∀ u, Calls Tryz.prog 93 #[.int .u8 (S[0].toNat : Nat)] u fun e w' => e = .returned (.bool false) ∧ w' = u) (h34 : ((S[0].toNat : Int) == 34) = false) (h35 : ((S[0].toNat : Int) == 35) = false)
  (hn : ((S[0].toNat : Int) == 91) = true ∨ (((S[0].toNat : Int) == 91) = false ∧ ((S[0].toNat : Int) == 36) = true) ∨ (((S[0].toNat : Int) == 91) = false ∧ ((S[0].toNat : Int) == 36) = false ∧ ∀ u, Calls Tryz.prog 91 #[.int .u8 (S[0].toNat : Nat)] u fun e w' => e = .returned (.bool true) ∧ w' = u))
  (Q : Hid (Calls Tryz.prog 200 #[.string S] (w.alloc tkR) (AnsQ (w.alloc tkR) l o))) : Calls Tryz.prog 154 #[.string S] w (AnsR w l o) := by
 have HZ0 : Hid (RZ w (w.alloc tkR)) := RZ.begin w
 rcases hn with h91 | ⟨h91, h36⟩ | ⟨h91, h36, L⟩
 all_goals
  go_enter Tryz.func154, Tryz.ntmps154
  go_wp2_with (first
   | (go_at_call 93; refine (DG _).mono ?_; rintro e w' ⟨rfl, hw⟩; obtain rfl := hw.symm; clear hw)
   | (go_at_call 91; refine (L _).mono ?_; rintro e w' ⟨rfl, hw⟩; obtain rfl := hw.symm; clear hw)
   | (go_at_call 200; refine Calls.mono Q.out ?_; rintro e w2 ⟨t, n, rfl, hs, ha⟩; have HZ2 : Hid (RZ w w2) := HZ0.out.below hs; have HF : Hid (∀ v v', Below v.heap.size v v' → AnsR v l o (.returned (.tuple #[.agg (tcs t.k t.n t.s t.b t.h t.r t.c t.fr t.fc), .int .i64 n])) v') := ha; have RR := HZ2.out.put t.k t.n t.s t.b t.h t.r t.c t.fr t.fc; clear hs ha)
   | (refine wpList_store_run rfl 188 _ _ rfl _ _ _ rfl rfl RR.out ?_))
  exact bodyPost_ret (v := .tuple #[.agg (tcs t.k t.n t.s t.b t.h t.r t.c t.fr t.fc), .int .i64 n]) (HZ2.out.ans (tcs t.k t.n t.s t.b t.h t.r t.c t.fr t.fc) rfl rfl rfl rfl) rfl (HF.out _ _ (HZ2.out.fin _))
end
theorem num_ways (c : UInt8) : (Ad.isD c = true ∧ Tk.numC c = true) ∨ (Ad.isD c = false ∧ ((c.toNat : Int) == 46) = true ∧ Tk.numC c = true) ∨ (Ad.isD c = false ∧ ((c.toNat : Int) == 46) = false ∧ Tk.numC c = false) := by
 have e46 : ((c.toNat : Int) == 46) = (c == 46) := by
  rcases ch_facts c 46 with ⟨h1, h2⟩ | ⟨h1, h2⟩
  ·subst h1; rfl
  ·rw [show ((c.toNat : Int) == 46) = false from h2]; exact (beq_eq_false_iff_ne.2 h1).symm
 unfold Tk.numC
 rw [e46]
 cases Ad.isD c <;> cases (c == 46) <;> simp
theorem lone_num (l : List UInt8) (S : ByteArray) (hs : S.size = l.length) (HG : Hid (∀ k (h : k < l.length) (h2 : k < S.size), S[k] = l[k])) (hl : l.length ≤ 255) (h0 : 0 < S.size) (w : World)
  (DG : ∀ u, Calls Tryz.prog 93 #[.int .u8 (S[0].toNat : Nat)] u fun e w' => e = .returned (.bool true) ∧ w' = u)
  (hW : S.extract 0 (l.takeWhile Tk.numC).length = ba (l.takeWhile Tk.numC)) (hdl : (l.dropWhile Tk.numC).length = l.length - (l.takeWhile Tk.numC).length)
  (PA : ∀ u, Calls Tryz.prog 198 #[.string (ba (l.takeWhile Tk.numC))] u fun e w' => e = .returned (.tuple #[.int .i64 (parseF (l.takeWhile Tk.numC)).1, .bool (parseF (l.takeWhile Tk.numC)).2]) ∧ Below u.heap.size u w') :
  Calls Tryz.prog 154 #[.string S] w (AnsR w l ((pnF (l.takeWhile Tk.numC)).map fun n => (.num n, l.dropWhile Tk.numC))) := by
 have HZ0 : Hid (RZ w (w.alloc tkR)) := RZ.begin w
 have hle := (List.takeWhile_sublist (p := Tk.numC) (l := l)).length_le
 generalize ho : (pnF (l.takeWhile Tk.numC)).map (fun n => ((.num n, l.dropWhile Tk.numC) : Tk.Tok × List UInt8)) = o
 have HO : Hid (o = if (parseF (l.takeWhile Tk.numC)).2 = true then some (.num (parseF (l.takeWhile Tk.numC)).1, l.dropWhile Tk.numC) else none) := by
  show _ = _
  rw [← ho]; unfold pnF; split <;> rfl
 have HDL : Hid ((l.dropWhile Tk.numC).length = l.length - (l.takeWhile Tk.numC).length) := hdl
 clear ho hdl
 generalize hN : (l.takeWhile Tk.numC).length = N at *
 have HN : Hid ((l.takeWhile Tk.numC).length = N) := hN
 clear hN
 generalize ba (l.takeWhile Tk.numC) = A at *
 generalize (parseF (l.takeWhile Tk.numC)).1 = v at *
 generalize (parseF (l.takeWhile Tk.numC)).2 = ok at *
 go_enter Tryz.func154, Tryz.ntmps154
 go_wp2_with (go_at_call 93; refine (DG _).mono ?_; rintro e w' ⟨rfl, hw⟩; obtain rfl := hw.symm; clear hw)
 clear DG
 go_loop [5] (fun i => ∃ k : Nat, k ≤ l.length ∧ i = .int .i64 k ∧ Hid ((l.take k).all Tk.numC = true)) (fun i => l.length - (intOf i).toNat)
 case atStart => exact ⟨0, Nat.zero_le _, rfl, by simp [Hid]⟩
 case round =>
  obtain ⟨k, hk, rfl, ha⟩ := hrel
  by_cases hlt : k < l.length
  ·have hki : (k : Int) < l.length := by omega
   have hks : k < S.size := by rw [hs]; exact hlt
   have hg := HG.out k hlt hks
   have D := fun u => rdigit_any l[k] u
   have HE : Hid (Tk.numC l[k] = false → k = N) := fun h => by
    rw [← HN.out, (while_at hlt ha.out h).1, List.length_take]; omega
   have HM : Hid (Tk.numC l[k] = true → (l.take (k + 1)).all Tk.numC = true) := fun h => all_more l k 1 ha.out (fun j hj h2 => by
    obtain rfl : j = 0 := by omega
    exact h)
   have hw := num_ways l[k]
   rw [← hg] at D HE HM hw
   clear hg HG
   rcases hw with ⟨h1, h2⟩ | ⟨h1, h2, h3⟩ | ⟨h1, h2, h3⟩
   ·rw [h1] at D
    have HM2 := HM.out h2
    clear HE HM h1 h2 hW PA HO
    go_wp2_with (go_at_call 93; refine (D _).mono ?_; rintro e w' ⟨rfl, hw⟩; obtain rfl := hw.symm; clear hw)
    go_round
    case rel => exact ⟨k + 1, by omega, by go_num, HM2⟩
    case measure => simp [intOf]; omega
   ·rw [h1] at D
    have HM2 := HM.out h3
    clear HE HM h1 h3 hW PA HO
    go_wp2_with (go_at_call 93; refine (D _).mono ?_; rintro e w' ⟨rfl, hw⟩; obtain rfl := hw.symm; clear hw)
    go_round
    case rel => exact ⟨k + 1, by omega, by go_num, HM2⟩
    case measure => simp [intOf]; omega
   ·rw [h1] at D
    obtain rfl := HE.out h3
    clear HE HM h1 h3
    cases ok
    ·go_wp2_with (first
      | (go_at_call 93; refine (D _).mono ?_; rintro e w' ⟨rfl, hw⟩; obtain rfl := hw.symm; clear hw)
      | (go_at_call 198; refine (PA _).mono ?_; rintro e w2 ⟨rfl, hb⟩; have HZ2 : Hid (RZ w w2) := HZ0.out.below hb; have RR := HZ2.out.put 0 0 noB noB noB 0 0 false false; clear hb)
      | (refine wpList_store_run rfl 188 _ _ rfl _ _ _ rfl rfl RR.out ?_))
     refine bodyPost_ret (v := .tuple #[.agg tk0, .int .i64 0]) (HZ2.out.ans tk0 rfl rfl rfl rfl) rfl ?_
     rw [HO.out]
     exact ⟨HZ2.out.fin _, rfl⟩
    ·go_wp2_with (first
      | (go_at_call 93; refine (D _).mono ?_; rintro e w' ⟨rfl, hw⟩; obtain rfl := hw.symm; clear hw)
      | (go_at_call 198; refine (PA _).mono ?_; rintro e w2 ⟨rfl, hb⟩; have HZ2 : Hid (RZ w w2) := HZ0.out.below hb; have RR := HZ2.out.put 1 v noB noB noB 0 0 false false; clear hb)
      | (refine wpList_store_run rfl 188 _ _ rfl _ _ _ rfl rfl RR.out ?_))
     refine bodyPost_ret (v := .tuple #[.agg (tcs 1 v noB noB noB 0 0 false false), .int .i64 (k : Int)]) (HZ2.out.ans (tcs 1 v noB noB noB 0 0 false false) rfl rfl rfl rfl) rfl ?_
     rw [HO.out]
     refine ⟨HZ2.out.fin _, ?_⟩
     show _ = Ending.returned _
     rw [HDL.out, show l.length - (l.length - k) = k by omega]
     rfl
  ·have hki : ¬ (k : Int) < l.length := by omega
   obtain rfl : k = N := by
    have := ha.out
    rw [List.take_of_length_le (by omega)] at this
    rw [← HN.out, (while_all this).1]; omega
   clear HG
   cases ok
   ·go_wp2_with (first
     | (go_at_call 198; refine (PA _).mono ?_; rintro e w2 ⟨rfl, hb⟩; have HZ2 : Hid (RZ w w2) := HZ0.out.below hb; have RR := HZ2.out.put 0 0 noB noB noB 0 0 false false; clear hb)
     | (refine wpList_store_run rfl 188 _ _ rfl _ _ _ rfl rfl RR.out ?_))
    refine bodyPost_ret (v := .tuple #[.agg tk0, .int .i64 0]) (HZ2.out.ans tk0 rfl rfl rfl rfl) rfl ?_
    rw [HO.out]
    exact ⟨HZ2.out.fin _, rfl⟩
   ·go_wp2_with (first
     | (go_at_call 198; refine (PA _).mono ?_; rintro e w2 ⟨rfl, hb⟩; have HZ2 : Hid (RZ w w2) := HZ0.out.below hb; have RR := HZ2.out.put 1 v noB noB noB 0 0 false false; clear hb)
     | (refine wpList_store_run rfl 188 _ _ rfl _ _ _ rfl rfl RR.out ?_))
    refine bodyPost_ret (v := .tuple #[.agg (tcs 1 v noB noB noB 0 0 false false), .int .i64 (k : Int)]) (HZ2.out.ans (tcs 1 v noB noB noB 0 0 false false) rfl rfl rfl rfl) rfl ?_
    rw [HO.out]
    refine ⟨HZ2.out.fin _, ?_⟩
    show _ = Ending.returned _
    rw [HDL.out, show l.length - (l.length - k) = k by omega]
    rfl
end Go.Proofs.YtnibldnfbikipaaGreatDoor
