/- RRight, FLeft, PlW0, RwMath, RwMath2, RwLaw. -/
import Derived.Test.YtljmklbbngpllaaGreatDoorRRight3Ot
import Derived.Test.YtljmklbbngpllaaGreatDoorRRight4Ot
import Derived.Test.YtljmklbbngpllaaGreatDoorRRight6Ot
import Derived.Test.YtljmklbbngpllaaGreatDoorRRight7Ot
set_option linter.unusedVariables false
set_option linter.unusedSimpArgs false
set_option maxHeartbeats 16000000
set_option maxRecDepth 100000
namespace Go.Proofs.YtljmklbbngpllaaGreatDoor
open Go.RowKit Go.Fm
theorem right_all : RightC := by
 intro t hz Z w es h T
 obtain ⟨p, n, c, rfl, hs⟩ := h
 obtain ⟨a, f⟩ := t
 have hn : n = (kids f).length := hs.1
 have ZL := Z.top
 show Calls Tryz.prog 65 #[.agg (lcs a (.slice p n c))] w fun e w' => e = .returned (.bool (okL a (kids f).length)) ∧ Below w.heap.size w w'
 rw [← hn]
 by_cases h1 : a.k = 1
 ·exact right_1 h1 ZL hz hs
 by_cases h2 : a.k = 2
 ·exact right_2 h2 ZL hz hs
 by_cases h3 : a.k = 3
 ·exact right_3 h3 ZL hz hs T
 by_cases h4 : a.k = 4
 ·exact right_4 h4 ZL hz hs
 by_cases h5 : a.k = 5
 ·exact right_5 h5 hz hs
 by_cases h6 : a.k = 6
 ·exact right_6 h6 hz hs
 by_cases h7 : a.k = 7
 ·exact right_7 h7 ZL hz hs
 have e : okL a n = false := by
  unfold okL partsB
  rw [if_neg h1, if_neg h2, if_neg h3, if_neg h4, if_neg h5, if_neg h6, if_neg h7, Bool.and_false]
 rw [e]
 exact right_else (by simpa using h1) (by simpa using h2) (by simpa using h3) (by simpa using h4) (by simpa using h5) (by simpa using h6) (by simpa using h7)
def szK (l : List T) (k : Nat) : Nat := ((l.take k).map zT).sum
theorem szK_succ (l : List T) (k : Nat) (s : T) (h : l[k]? = some s) : szK l (k + 1) = szK l k + zT s := by
 unfold szK
 rw [List.take_add_one, h]
 simp
theorem szK_all (l : List T) : szK l l.length = (l.map zT).sum := by unfold szK; rw [List.take_of_length_le (Nat.le_refl _)]
theorem szK_lt (l : List T) (k : Nat) (h : k < l.length) : szK l k + 1 ≤ (l.map zT).sum := by
 have h3 : (l.map zT).sum = ((l.take k).map zT).sum + ((l.drop k).map zT).sum := by rw [← List.sum_append, ← List.map_append, List.take_append_drop]
 have h4 : 1 ≤ ((l.drop k).map zT).sum := by
  rw [List.drop_eq_getElem_cons h, List.map_cons, List.sum_cons]
  have : 1 ≤ zT l[k] := by unfold zT; omega
  omega
 unfold szK
 omega
theorem szK_le (l : List T) : ∀ k, k ≤ l.length → k ≤ szK l k
 | 0, _ => Nat.zero_le _
 | k + 1, h => by
  have := szK_le l k (by omega)
  rw [szK_succ l k l[k] (List.getElem?_eq_getElem (by omega))]
  have : 1 ≤ zT l[k] := by unfold zT; omega
  omega
theorem left_any : ∀ t : T, ∀ (w : World) (es : Array Value), NT w es t → ∀ b : Nat, 1 ≤ b → b ≤ 1000000 → Calls Tryz.prog 22 #[.agg es, .int .i64 (b : Nat)] w fun e w' => e = .returned (.int .i64 ((b - zT t : Nat) : Int)) ∧ Below w.heap.size w w' := by
 refine ind ?_
 intro t ih w es h b hb1 hb2
 have hzT : zT t = ((kids t.2).map zT).sum + 1 := by unfold zT; rw [size_kids]; rfl
 obtain ⟨p, n, c, rfl, hs⟩ := h
 have HK : Hid (∀ s ∈ kids t.2, ∀ (w : World) (es : Array Value), NT w es s → ∀ b : Nat, 1 ≤ b → b ≤ 1000000 → Calls Tryz.prog 22 #[.agg es, .int .i64 (b : Nat)] w fun e w' => e = .returned (.int .i64 ((b - zT s : Nat) : Int)) ∧ Below w.heap.size w w') := ih
 have c17 := cell17 (heap_alloc_new w (.cells (lcs t.1 (.slice p n c)) 28))
 have HB0 : Hid (Below w.heap.size w (w.alloc (.cells (lcs t.1 (.slice p n c)) 28))) := bel_alloc (Below.refl _ _) _
 have hd1 : (b : Int) - 1 = ((b - 1 : Nat) : Int) := by omega
 have hwr : IntKind.i64.wrap ((b - 1 : Nat) : Int) = ((b - 1 : Nat) : Int) := by simp [IntKind.wrap, IntKind.bits, IntKind.signed]; omega
 have HS : Hid (SF w p n t.2) := hs
 have HL : Hid ((kids t.2).length = n) := hs.1.symm
 have HF : Hid (((kids t.2).map zT).sum + 1 = zT t) := hzT.symm
 have HBB : Hid (1 ≤ b ∧ b ≤ 1000000) := ⟨hb1, hb2⟩
 obtain ⟨b1, hbe⟩ : ∃ b1, b - 1 = b1 := ⟨_, rfl⟩
 have HBE : Hid (b = b1 + 1) := by show _ = _; omega
 rw [hbe] at hd1 hwr
 clear ih hs hzT hbe hb1 hb2
 generalize hq : ((b - zT t : Nat) : Int) = q
 have HQ : Hid (((b - zT t : Nat) : Int) = q) := hq
 clear hq
 generalize (b : Int) = bi at *
 generalize lcs t.1 (.slice p n c) = bx at *
 go_enter Tryz.func22, Tryz.ntmps22
 go_wp2
 go_loopw [1, 12] (fun bud i wr => ∃ k : Nat, k ≤ n ∧ i = .int .i64 (k : Nat) ∧ bud = .int .i64 ((b1 - szK (kids t.2) k : Nat) : Int) ∧ Hid (Below w.heap.size w wr)) (fun _ i _ => n - (intOf i).toNat)
 case atStart => exact ⟨0, Nat.zero_le _, rfl, by simp [szK], HB0⟩
 case round =>
  obtain ⟨k, hk, rfl, rfl, HB⟩ := hrel
  clear HB0
  by_cases hlt : k < n
  ·have hki : (k : Int) < n := by omega
   obtain ⟨a', es, s, rfl, RL, HI, RS, RL2, HNT, HM⟩ := HS.out.step HB.out hlt
   have hkl : k < (kids t.2).length := by have := HL.out; omega
   by_cases hz : b1 - szK (kids t.2) k ≤ 0
   ·have hzi : ((b1 - szK (kids t.2) k : Nat) : Int) ≤ 0 := by omega
    have HQ2 : Hid (q = 0) := by
     show _ = _
     rw [← HQ.out]
     have h1 := szK_lt _ _ hkl
     have h2 := HF.out
     have h3 := HBE.out
     omega
    have HBf : Hid (Below w.heap.size w (wr.alloc (.cells es 28))) := bel_alloc HB.out _
    clear hz HNT HM HI HQ
    generalize ((b1 - szK (kids t.2) k : Nat) : Int) = bd at *
    go_wp2_with (first
     | (refine wpList_load_run rfl 28 _ rfl _ _ rfl RL.out ?_; clear RL)
     | (refine wpList_store_run rfl 28 _ _ rfl _ _ _ rfl rfl RS.out ?_; clear RS))
    go_ret
    exact ⟨by rw [HQ2.out]; first | done | rfl, HBf.out⟩
   ·have hzi : ¬ ((b1 - szK (kids t.2) k : Nat) : Int) ≤ 0 := by omega
    have C := HK.out s HM.out _ _ HNT.out (b1 - szK (kids t.2) k) (by omega) (by have := HBB.out; have := HBE.out; omega)
    have HN : Hid (b1 - szK (kids t.2) k - zT s = b1 - szK (kids t.2) (k + 1)) := by
     show _ = _
     rw [szK_succ _ _ _ HI.out]; omega
    have hkb : k ≤ 1000000 := by
     have := szK_le (kids t.2) k (by omega)
     have := HBB.out
     have := HBE.out
     omega
    clear hz HNT HM HI HQ
    generalize hbd : b1 - szK (kids t.2) k = bd at *
    clear hbd
    go_wp2_with (first
     | (refine wpList_load_run rfl 28 _ rfl _ _ rfl RL.out ?_; clear RL)
     | (refine wpList_store_run rfl 28 _ _ rfl _ _ _ rfl rfl RS.out ?_; clear RS)
     | (refine wpList_load_run rfl 28 _ rfl _ _ rfl RL2.out ?_; clear RL2)
     | (go_at_call 22; refine C.mono ?_; rintro e w3 ⟨rfl, hs⟩; have HU2 : Hid (Below w.heap.size w w3) := bel_step (bel_alloc HB.out _) hs; clear hs))
    go_roundw
    case rel => exact ⟨k + 1, by omega, by go_num, by rw [HN.out], HU2⟩
    case measure => simp [intOf]; omega
  ·have hki : ¬ (k : Int) < n := by omega
   have HQ2 : Hid (q = ((b1 - szK (kids t.2) k : Nat) : Int)) := by
    show _ = _
    have h1 : k = (kids t.2).length := by have := HL.out; omega
    rw [← HQ.out, h1, szK_all]
    have h2 := HF.out
    have h3 := HBE.out
    omega
   generalize ((b1 - szK (kids t.2) k : Nat) : Int) = bd at *
   go_wp2
   go_ret
   exact ⟨by rw [HQ2.out]; first | done | rfl, HB.out⟩
theorem big_any {t : T} {w : World} {es : Array Value} (h : NT w es t) {b : Nat} (h1 : 1 ≤ b) (h2 : b ≤ 1000000) : Calls Tryz.prog 8 #[.agg es, .int .i64 (b : Nat)] w fun e w' => e = .returned (.bool (decide (b ≤ zT t))) ∧ Below w.heap.size w w' := by
 have C := left_any t (w.alloc (.cells es 28)) es (h.below (bel_alloc (Below.refl _ _) _)) b h1 h2
 have RL : Hid _ := (nbox_at h).2 (heap_alloc_new w (.cells es 28))
 have HQ : Hid (decide (((b - zT t : Nat) : Int) ≤ 0) = decide (b ≤ zT t)) := by show _ = _; simp; omega
 clear h
 generalize ((b - zT t : Nat) : Int) = q at *
 go_enter Tryz.func8, Tryz.ntmps8
 go_wp2_with (first
  | (refine wpList_load_run rfl 28 _ rfl _ _ rfl RL.out ?_; clear RL)
  | (go_at_call 22; refine C.mono ?_; rintro e w2 ⟨rfl, hs⟩; have HU2 : Hid (Below w.heap.size w w2) := bel1 hs; clear hs))
 go_ret
 exact ⟨by rw [← HQ.out]; first | done | rfl, HU2.out⟩
end Go.Proofs.YtljmklbbngpllaaGreatDoor
namespace Go.Proofs.YtljmklbbngpllaaGreatDoor.Rw
open Go.RowKit Go.Fm
attribute [local go_sem] run_eql_val run_eql_refB
abbrev rfN (x : Rf) : Array Value := lcs (labRf x) (.slice none 0 0)
structure PB (w : World) (x : Rf) (H : Hm) (C : Chg) (u : World) : Prop where
 b0 : u.heap[w.heap.size]? = some (rfO x)
 b1 : u.heap[w.heap.size + 1]? = some (plcO H.hb H.hs H.hr H.hc)
 b2 : u.heap[w.heap.size + 2]? = some (.cells (chgC C) 34)
 b3 : u.heap[w.heap.size + 3]? = some (.cells (rfN x) 28)
 bel : Below w.heap.size w u
theorem chg34 {u : World} {g : Nat} {C : Chg} (h : u.heap[g]? = some (.cells (chgC C) 34)) : u.cell? ⟨g, 2, none⟩ = some (.bool C.dr) ∧ u.cell? ⟨g, 3, none⟩ = some (.bool C.co) ∧ u.cell? ⟨g, 4, none⟩ = some (.int .i64 C.a) ∧ u.cell? ⟨g, 5, none⟩ = some (.int .i64 C.n) ∧ u.cell? ⟨g, 6, none⟩ = some (.int .i64 C.m) := by
 simp [World.cell?, h]
end Go.Proofs.YtljmklbbngpllaaGreatDoor.Rw
namespace Go.Proofs.YtljmklbbngpllaaGreatDoor.Rw
open Go.RowKit Go.Fm
theorem eqR_eq {x y : Rf} (h : eqR x y = true) : x = y := by
 unfold eqR at h
 simp only [Bool.and_eq_true, beq_iff_eq] at h
 obtain ⟨h1, h2, h3, h4, h5, h6⟩ := h
 obtain ⟨b, s, r, c, fr, fc⟩ := x
 obtain ⟨b', s', r', c', fr', fc'⟩ := y
 simp only at *
 rw [bytes_eq (by simp [h1] : (b.toList == b'.toList) = true), bytes_eq (by simp [h2] : (s.toList == s'.toList) = true), h3, h4, h5, h6]
theorem labB_rf (x y : Rf) : labB (labRf x) (labRf y) = eqR x y := by
 unfold labB labRf veB reB eqR
 simp
theorem labB_ar (x y x' y' : Rf) : labB (labAr x y) (labAr x' y') = (eqR x x' && eqR y y') := by
 unfold labB labAr veB reB eqR
 simp
theorem labB_k {a b : Lab} (h : (a.k == b.k) = false) : labB a b = false := by unfold labB; rw [h]; rfl
theorem okL_k2 {l : Lab} {n : Nat} (hk : l.k = 2) (h : okL l n = true) : l = labRf (top l) ∧ n = 0 ∧ goodB l.b1 l.h1 l.r1 l.c1 = true := by
 unfold okL bareB partsB namL namN isLeaf at h
 simp only [hk] at h
 simp only [Bool.and_eq_true] at h
 obtain ⟨⟨h1, h2⟩, h3⟩ := h
 refine ⟨labB_eq (by have h4 := h1; simp at h4; exact h4), by simpa using h2, by simpa using h3⟩
theorem okL_k3 {l : Lab} {n : Nat} (hk : l.k = 3) (h : okL l n = true) : l = labAr (top l) (tof l) ∧ n = 0 ∧ (paB l.b1 l.h1 l.r1 l.c1 l.fr1 l.fc1 l.b2 l.h2 l.r2 l.c2 l.fr2 l.fc2).toList.isEmpty = false := by
 unfold okL bareB partsB namL namN isLeaf at h
 simp only [hk] at h
 simp only [Bool.and_eq_true] at h
 obtain ⟨⟨h1, h2⟩, h3⟩ := h
 refine ⟨labB_eq (by have h4 := h1; simp at h4; exact h4), by simpa using h2, by simpa using h3⟩
theorem nm_k {C : Chg} {H : Hm} {l : Lab} (h : nm C H l = true) : l.k = 2 ∨ l.k = 3 := by
 unfold nm kd at h
 simp only [Bool.and_eq_true, Bool.or_eq_true, beq_iff_eq] at h
 exact h.1
theorem okL_nil {l : Lab} {C : Chg} {H : Hm} {f : F} (h : okL l (kids f).length = true) (hn : nm C H l = true) : f = .nil := by
 have : (kids f).length = 0 := by
  rcases nm_k hn with hk | hk
  ·exact (okL_k2 hk h).2.1
  ·exact (okL_k3 hk h).2.1
 cases f with
 | nil => rfl
 | node _ _ _ _ _ => simp [kids] at this
theorem rwC_lab {C : Chg} {H : Hm} {l : Lab} {n : Nat} (h : okL l n = true) (hn : nm C H l = true) : rwC C l = !labB (rwL C l) l := by
 rcases nm_k hn with hk | hk
 ·obtain ⟨e, _, _⟩ := okL_k2 hk h
  unfold rwC rwL
  rw [if_pos hk, if_pos hk]
  unfold chR rfL
  split
  ·conv => rhs; rw [e, labB_rf]
   rfl
  ·rw [labB_k (by rw [hk]; rfl)]; rfl
 ·obtain ⟨e, _, _⟩ := okL_k3 hk h
  unfold rwC rwL
  rw [if_neg (by omega), if_neg (by omega)]
  unfold chA arL
  split
  ·conv => rhs; rw [e, labB_ar]
   rw [Bool.not_and]
   rfl
  ·rw [labB_k (by rw [hk]; rfl)]; rfl
section
variable {C : Chg} {H : Hm}
theorem rw_stay : ∀ f : F, nmF C H f = false → same (rwF C H f) f ∧ rwA C H f = false := by
 intro f
 induction f with
 | nil => intro _; exact ⟨trivial, rfl⟩
 | node b o l f r ihf ihr =>
  intro h
  unfold nmF at h
  simp only [Bool.or_eq_false_iff] at h
  obtain ⟨⟨h1, h2⟩, h3⟩ := h
  unfold rwF rwA
  rw [h1]
  exact ⟨⟨rfl, (ihf h2).1, (ihr h3).1⟩, by simp [(ihf h2).2, (ihr h3).2]⟩
theorem rwT_stay {t : T} (h : nmT C H t = false) : sT (rwT C H t) t = true ∧ rwB C H t = false := by
 unfold nmT at h
 simp only [Bool.or_eq_false_iff] at h
 unfold rwT rwB
 rw [h.1]
 exact ⟨(sT_iff _ _).2 ⟨rfl, (rw_stay _ h.2).1⟩, (rw_stay _ h.2).2⟩
theorem rw_gone (hd : C.dr = true) : ∀ f : F, nmF C H (rwF C H f) = false := by
 have hg : ∀ l, nm C H (rwL C l) = false := fun l => by
  have : rwL C l = gone := by
   unfold rwL rfL arL mvB arB
   rw [hd]
   split <;> rfl
  rw [this]; rfl
 intro f
 induction f with
 | nil => rfl
 | node b o l f r ihf ihr =>
  unfold rwF
  cases hn : nm C H l
  ·simp only [Bool.false_eq_true, if_false]
   unfold nmF
   rw [hn, ihf, ihr]; rfl
  ·simp only [if_true]
   unfold nmF
   rw [hg, ihr]; rfl
theorem rwT_gone (hd : C.dr = true) (t : T) : nmT C H (rwT C H t) = false := by
 have h1 := rw_gone (C := C) (H := H) hd (.node 0 0 t.1 t.2 .nil)
 unfold rwF at h1
 unfold rwT
 cases hn : nm C H t.1
 ·rw [hn] at h1
  simp only [Bool.false_eq_true, if_false] at h1 ⊢
  unfold nmF at h1
  simp only [Bool.or_eq_false_iff] at h1
  unfold nmT
  rw [h1.1.1, h1.1.2]; rfl
 ·rw [hn] at h1
  simp only [if_true] at h1 ⊢
  unfold nmF at h1
  simp only [Bool.or_eq_false_iff] at h1
  unfold nmT
  rw [h1.1.1]; rfl
theorem rw_tell : ∀ (f : F) (d : Nat), gw okL d f = true → rwA C H f = !sF (rwF C H f) f := by
 intro f
 induction f with
 | nil => intro d _; rfl
 | node b o l f r ihf ihr =>
  intro d h
  simp only [gw, Bool.and_eq_true] at h
  obtain ⟨⟨⟨h0, h1⟩, h2⟩, h3⟩ := h
  unfold rwF rwA
  cases hn : nm C H l
  ·simp only [Bool.false_eq_true, if_false]
   unfold sF
   rw [ihf _ h2, ihr _ h3, labB_refl]
   simp
  ·simp only [if_true]
   have hf := okL_nil h1 hn
   subst hf
   unfold sF
   rw [rwC_lab h1 hn, ihr _ h3]
   simp [sF]
theorem rwT_tell {t : T} {d : Nat} (h : gT okL d t = true) : rwB C H t = !sT (rwT C H t) t := by
 unfold gT at h
 simp only [Bool.and_eq_true] at h
 obtain ⟨⟨h0, h1⟩, h2⟩ := h
 unfold rwB rwT sT
 cases hn : nm C H t.1
 ·simp only [Bool.false_eq_true, if_false]
  rw [labB_refl, rw_tell _ _ h2]; rfl
 ·simp only [if_true]
  have hf := okL_nil h1 hn
  rw [hf, rwC_lab h1 hn]
  simp [sF]
end
theorem pos_in {a n m p : Int} (h : Hs.posB a n m p = true) : 1 ≤ Hs.posF a n m p ∧ Hs.posF a n m p ≤ m := by
 unfold Hs.posF
 rw [if_pos h]
 unfold Hs.posB at h
 simp only [Bool.and_eq_true, decide_eq_true_eq] at h
 obtain ⟨⟨⟨hg, h1, h2⟩, h3⟩, h4⟩ := h
 have hb := Hs.good_bd hg
 refine ⟨?_, h4⟩
 unfold Hs.mvF Hs.nxF
 unfold Hs.mvB Hs.nxF at h3
 simp only [Bool.or_eq_true, decide_eq_true_eq, Bool.not_eq_true', decide_eq_false_iff_not] at h3
 repeat' split
 all_goals (try omega)
 all_goals (split at h3 <;> omega)
theorem sp_in2 {a n m l h : Int} (hs : Hs.spB a n m l h = true) : 1 ≤ Hs.spL a n m l h ∧ Hs.spL a n m l h ≤ Hs.spH a n m l h ∧ Hs.spH a n m l h ≤ m := by
 obtain ⟨e1, e2⟩ := Hs.sp_true hs
 rw [e1, e2]
 unfold Hs.spB at hs
 simp only [Bool.and_eq_true, decide_eq_true_eq] at hs
 obtain ⟨⟨⟨⟨hg, h1, h2⟩, h3, h4⟩, h5⟩, h6⟩ := hs
 have hb := Hs.good_bd hg
 refine ⟨?_, h6, ?_⟩
 ·unfold Hs.loF Hs.mvF Hs.nxF
  repeat' split
  all_goals omega
 ·unfold Hs.hiF
  exact Int.min_le_right _ _
theorem inB_iff {r c : Int} : inB r c = true ↔ 1 ≤ r ∧ r ≤ 64 ∧ 1 ≤ c ∧ c ≤ 26 := by
 unfold inB
 simp [and_assoc]
theorem goodB_in {b s : ByteArray} {r c r' c' : Int} (h : goodB b s r c = true) (h' : inB r' c' = true) : goodB b s r' c' = true := by
 unfold goodB at h ⊢
 simp only [Bool.and_eq_true] at h ⊢
 exact ⟨h', h.2⟩
theorem goodB_inB {b s : ByteArray} {r c : Int} (h : goodB b s r c = true) : 1 ≤ r ∧ r ≤ 64 ∧ 1 ≤ c ∧ c ≤ 26 := by
 unfold goodB at h
 simp only [Bool.and_eq_true] at h
 exact inB_iff.1 h.1
theorem paB_iff {b1 s1 b2 s2 : ByteArray} {r1 c1 r2 c2 : Int} {fr1 fc1 fr2 fc2 : Bool} : (paB b1 s1 r1 c1 fr1 fc1 b2 s2 r2 c2 fr2 fc2).toList.isEmpty = false ↔ (goodB b1 s1 r1 c1 = true ∧ goodB b2 s2 r2 c2 = true ∧ s2.toList = []) := by
 unfold paB
 split
 ·rename_i h
  refine ⟨fun _ => h, fun _ => ?_⟩
  rw [ByteArray.toList_eq]
  simp
 ·rename_i h
  refine ⟨fun e => ?_, fun e => absurd e h⟩
  rw [ByteArray.toList_eq] at e
  simp at e
def most (C : Chg) : Int := if C.co = true then 26 else 64
theorem setLn_in {C : Chg} {x : Rf} {v : Int} (h : 1 ≤ x.r ∧ x.r ≤ 64 ∧ 1 ≤ x.c ∧ x.c ≤ 26) (h1 : 1 ≤ v) (h2 : v ≤ most C) : inB (setLn C x v).r (setLn C x v).c = true ∧ (setLn C x v).b = x.b ∧ (setLn C x v).h = x.h := by
 unfold setLn
 unfold most at h2
 cases hc : C.co
 ·rw [hc] at h2
  simp only [Bool.false_eq_true, if_false] at h2 ⊢
  exact ⟨inB_iff.2 ⟨h1, h2, h.2.2⟩, trivial, trivial⟩
 ·rw [hc] at h2
  simp only [if_true] at h2 ⊢
  exact ⟨inB_iff.2 ⟨h.1, h.2.1, h1, h2⟩, trivial, trivial⟩
theorem okL_rf {x : Rf} (h : goodB x.b x.h x.r x.c = true) : okL (labRf x) 0 = true := by
 unfold okL bareB partsB namL namN isLeaf
 simp [labRf, h, labB_refl]
theorem okL_ar {x y : Rf} (h1 : goodB x.b x.h x.r x.c = true) (h2 : goodB y.b y.h y.r y.c = true) (h3 : y.h.toList = []) : okL (labAr x y) 0 = true := by
 have hp := (paB_iff (fr1 := x.fr) (fc1 := x.fc) (fr2 := y.fr) (fc2 := y.fc)).2 ⟨h1, h2, h3⟩
 unfold okL bareB partsB namL namN isLeaf
 simp [labAr, hp, labB_refl]
theorem okL_gone : okL gone 0 = true := by kernel_rfl
theorem okL_rw {C : Chg} {H : Hm} {l : Lab} {n : Nat} (h : okL l n = true) (hn : nm C H l = true) (hm : C.m ≤ most C) : okL (rwL C l) 0 = true := by
 rcases nm_k hn with hk | hk
 ·obtain ⟨_, _, hg⟩ := okL_k2 hk h
  unfold rwL
  rw [if_pos hk]
  unfold rfL
  split
  ·rename_i hb
   unfold mvB at hb
   simp only [Bool.and_eq_true, Bool.not_eq_true'] at hb
   unfold mvX
   rw [hb.1]
   simp only [Bool.false_eq_true, if_false]
   obtain ⟨p1, p2⟩ := pos_in hb.2
   obtain ⟨e1, e2, e3⟩ := setLn_in (C := C) (x := top l) (goodB_inB hg) p1 (Int.le_trans p2 hm)
   refine okL_rf ?_
   rw [e2, e3]
   exact goodB_in hg e1
  ·exact okL_gone
 ·obtain ⟨_, _, hp⟩ := okL_k3 hk h
  obtain ⟨g1, g2, g3⟩ := paB_iff.1 hp
  have i1 := goodB_inB g1
  have i2 := goodB_inB g2
  unfold rwL
  rw [if_neg (by omega)]
  unfold arL
  split
  ·rename_i hb
   unfold arB at hb
   simp only [Bool.and_eq_true, Bool.not_eq_true'] at hb
   obtain ⟨p1, p2, p3⟩ := sp_in2 hb.2
   unfold arX arY
   rw [hb.1]
   simp only [Bool.false_eq_true, if_false]
   have L1 : (1 ≤ (lo (top l) (tof l)).r ∧ (lo (top l) (tof l)).r ≤ 64 ∧ 1 ≤ (lo (top l) (tof l)).c ∧ (lo (top l) (tof l)).c ≤ 26) ∧ (lo (top l) (tof l)).b = l.b1 ∧ (lo (top l) (tof l)).h = l.h1 := by
    unfold lo c1 o1 o2 top tof
    simp only
    repeat' split
    all_goals (refine ⟨⟨?_, ?_, ?_, ?_⟩, rfl, rfl⟩ <;> simp only <;> omega)
   have L2 : (1 ≤ (hi (top l) (tof l)).r ∧ (hi (top l) (tof l)).r ≤ 64 ∧ 1 ≤ (hi (top l) (tof l)).c ∧ (hi (top l) (tof l)).c ≤ 26) ∧ (hi (top l) (tof l)).b = l.b2 ∧ (hi (top l) (tof l)).h = l.h2 := by
    unfold hi c2 o1 o2 top tof
    simp only
    repeat' split
    all_goals (refine ⟨⟨?_, ?_, ?_, ?_⟩, rfl, rfl⟩ <;> simp only <;> omega)
   obtain ⟨e1, e2, e3⟩ := setLn_in (C := C) L1.1 p1 (Int.le_trans (Int.le_trans p2 p3) hm)
   obtain ⟨f1, f2, f3⟩ := setLn_in (C := C) L2.1 (Int.le_trans p1 p2) (Int.le_trans p3 hm)
   refine okL_ar ?_ ?_ ?_
   ·rw [e2, e3, L1.2.1, L1.2.2]
    exact goodB_in g1 e1
   ·rw [f2, f3, L2.2.1, L2.2.2]
    exact goodB_in g2 f1
   ·rw [f3, L2.2.2]
    exact g3
  ·exact okL_gone
section
variable {C : Chg} {H : Hm}
theorem rw_len (f : F) : (kids (rwF C H f)).length = (kids f).length := by rw [kids_rw, List.length_map]
theorem gw_rw (hm : C.m ≤ most C) : ∀ (f : F) (d : Nat), gw okL d f = true → gw okL d (rwF C H f) = true := by
 intro f
 induction f with
 | nil => intro d _; rfl
 | node b o l f r ihf ihr =>
  intro d h
  simp only [gw, Bool.and_eq_true] at h
  obtain ⟨⟨⟨h0, h1⟩, h2⟩, h3⟩ := h
  unfold rwF
  cases hn : nm C H l
  ·simp only [Bool.false_eq_true, if_false, gw, Bool.and_eq_true]
   exact ⟨⟨⟨h0, by rw [rw_len]; exact h1⟩, ihf _ h2⟩, ihr _ h3⟩
  ·simp only [if_true, gw, Bool.and_eq_true]
   exact ⟨⟨⟨h0, okL_rw h1 hn hm⟩, trivial⟩, ihr _ h3⟩
theorem gT_rw (hm : C.m ≤ most C) {t : T} {d : Nat} (h : gT okL d t = true) : gT okL d (rwT C H t) = true := by
 unfold gT at h
 simp only [Bool.and_eq_true] at h
 obtain ⟨⟨h0, h1⟩, h2⟩ := h
 unfold rwT
 cases hn : nm C H t.1
 ·simp only [Bool.false_eq_true, if_false]
  unfold gT
  simp only [Bool.and_eq_true]
  exact ⟨⟨h0, by rw [rw_len]; exact h1⟩, gw_rw hm _ _ h2⟩
 ·simp only [if_true]
  unfold gT
  simp only [Bool.and_eq_true]
  exact ⟨⟨h0, okL_rw h1 hn hm⟩, rfl⟩
theorem mv_b (C : Chg) (x : Rf) : ((mvX C x).b = x.b ∨ (mvX C x).b = nb) ∧ ((mvX C x).h = x.h ∨ (mvX C x).h = nb) := by
 unfold mvX setLn
 split
 ·exact ⟨.inr rfl, .inr rfl⟩
 ·split <;> exact ⟨.inl rfl, .inl rfl⟩
theorem ax_b (C : Chg) (x y : Rf) : (((arX C x y).b = x.b ∨ (arX C x y).b = nb) ∧ ((arX C x y).h = x.h ∨ (arX C x y).h = nb)) ∧ (((arY C x y).b = y.b ∨ (arY C x y).b = nb) ∧ ((arY C x y).h = y.h ∨ (arY C x y).h = nb)) := by
 unfold arX arY setLn
 split
 ·exact ⟨⟨.inr rfl, .inr rfl⟩, .inr rfl, .inr rfl⟩
 ·split <;> exact ⟨⟨.inl rfl, .inl rfl⟩, .inl rfl, .inl rfl⟩
theorem lo_b (x y : Rf) : (lo x y).b = x.b ∧ (lo x y).h = x.h ∧ (hi x y).b = y.b ∧ (hi x y).h = y.h := by
 unfold lo hi c1 c2 o1 o2
 repeat' split
 all_goals exact ⟨rfl, rfl, rfl, rfl⟩
theorem LabZ_rw {l : Lab} (h : LabZ l) : LabZ (rwL C l) := by
 have z : ∀ {a : Lab}, (a.b1 = l.b1 ∨ a.b1 = nb) → (a.h1 = l.h1 ∨ a.h1 = nb) → (a.b2 = l.b2 ∨ a.b2 = nb) → (a.h2 = l.h2 ∨ a.h2 = nb) → a.s = nb → LabZ a := by
  intro a e1 e2 e3 e4 e5
  have hz : nb.size ≤ 9223372036854775807 := by show 0 ≤ _; omega
  refine ⟨by rw [e5]; exact hz, ?_, ?_, ?_, ?_⟩
  ·rcases e1 with e | e
   ·rw [e]; exact h.b1
   ·rw [e]; exact hz
  ·rcases e2 with e | e
   ·rw [e]; exact h.h1
   ·rw [e]; exact hz
  ·rcases e3 with e | e
   ·rw [e]; exact h.b2
   ·rw [e]; exact hz
  ·rcases e4 with e | e
   ·rw [e]; exact h.h2
   ·rw [e]; exact hz
 have hm := mv_b C (top l)
 have hx := ax_b C (lo (top l) (tof l)) (hi (top l) (tof l))
 have hl := lo_b (top l) (tof l)
 rw [hl.1, hl.2.1, hl.2.2.1, hl.2.2.2] at hx
 unfold rwL rfL arL
 repeat' split
 ·exact z hm.1 hm.2 (.inr rfl) (.inr rfl) rfl
 ·exact z (.inr rfl) (.inr rfl) (.inr rfl) (.inr rfl) rfl
 ·exact z hx.1.1 hx.1.2 hx.2.1 hx.2.2 rfl
 ·exact z (.inr rfl) (.inr rfl) (.inr rfl) (.inr rfl) rfl
theorem ZT_rwF : ∀ f : F, (∀ x ∈ pre f, LabZ x.1) → ∀ x ∈ pre (rwF C H f), LabZ x.1 := by
 intro f
 induction f with
 | nil => intro _ x hx; cases hx
 | node b o l f r ihf ihr =>
  intro h x hx
  have h0 := h (l, f) (by simp [pre])
  have hf := ihf fun y hy => h y (by simp [pre, hy])
  have hr := ihr fun y hy => h y (by simp [pre, hy])
  unfold rwF at hx
  split at hx
  ·simp only [pre, List.mem_cons, List.nil_append] at hx
   rcases hx with rfl | hx
   ·exact LabZ_rw h0
   ·exact hr x hx
  ·simp only [pre, List.mem_cons, List.mem_append] at hx
   rcases hx with rfl | hx | hx
   ·exact h0
   ·exact hf x hx
   ·exact hr x hx
theorem ZT_rw {t : T} (h : ZT t) : ZT (rwT C H t) := by
 intro x hx
 unfold rwT at hx
 split at hx
 ·simp only [preT, pre, List.mem_cons, List.not_mem_nil, or_false] at hx
  rw [hx]
  exact LabZ_rw h.top
 ·simp only [preT, List.mem_cons] at hx
  rcases hx with rfl | hx
  ·exact h.top
  ·exact ZT_rwF t.2 (fun y hy => h y (by simp [preT, hy])) x hx
end
structure LB (w : World) (es : Array Value) (H : Hm) (C : Chg) (u : World) : Prop where
 b0 : u.heap[w.heap.size]? = some (.cells es 28)
 b1 : u.heap[w.heap.size + 1]? = some (plcO H.hb H.hs H.hr H.hc)
 b2 : u.heap[w.heap.size + 2]? = some (.cells (chgC C) 34)
 bel : Below w.heap.size w u
theorem LB.step {w : World} {es : Array Value} {H : Hm} {C : Chg} {u v : World} (h : LB w es H C u) (hb : Below u.heap.size u v) : LB w es H C v :=
 ⟨(hb.block _ (lt_of h.b0)).trans h.b0, (hb.block _ (lt_of h.b1)).trans h.b1, (hb.block _ (lt_of h.b2)).trans h.b2, bel_step h.bel hb⟩
theorem LB.new (w : World) (es : Array Value) (H : Hm) (C : Chg) : LB w es H C (((w.alloc (.cells es 28)).alloc (plcO H.hb H.hs H.hr H.hc)).alloc (.cells (chgC C) 34)) := by
 obtain ⟨q0, q1, q2⟩ := new3 (Below.refl ((((w.alloc (.cells es 28)).alloc (plcO H.hb H.hs H.hr H.hc)).alloc (.cells (chgC C) 34))).heap.size (((w.alloc (.cells es 28)).alloc (plcO H.hb H.hs H.hr H.hc)).alloc (.cells (chgC C) 34)))
 exact ⟨q0, q1, q2, bel_alloc (bel_alloc (bel_alloc (Below.refl _ _) _) _) _⟩
structure TB (t : T) (g : Nat) (es : Array Value) (u : World) : Prop where
 h : u.heap[g]? = some (.cells es 28)
 n : NT u es t
theorem TB.step {t : T} {g : Nat} {es : Array Value} {u v : World} (h : TB t g es u) (hb : Below u.heap.size u v) : TB t g es v := ⟨(hb.block _ (lt_of h.h)).trans h.h, h.n.below hb⟩
theorem TB.lod {t : T} {g : Nat} {es : Array Value} {u : World} (h : TB t g es u) : (Instr.loadAt 28 (.pointer (some ⟨g, 0, none⟩))).run Tryz.prog u = .ok (.agg es) u := (nbox_at h.n).2 h.h
theorem TB.new {t : T} {es : Array Value} {u : World} (h : NT u es t) : TB t u.heap.size es (u.alloc (.cells es 28)) ∧ (Instr.storeAt 28 (.pointer (some ⟨u.heap.size, 0, none⟩)) (.agg es)).run Tryz.prog (u.alloc (.cells nd0 28)) = .ok () (u.alloc (.cells es 28)) :=
 ⟨⟨heap_alloc_new u _, h.below (bel_alloc (Below.refl _ _) _)⟩, (nbox u h).1⟩
end Go.Proofs.YtljmklbbngpllaaGreatDoor.Rw
