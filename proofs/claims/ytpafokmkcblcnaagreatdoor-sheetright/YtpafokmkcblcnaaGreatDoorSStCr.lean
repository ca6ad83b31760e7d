/- SLv, SSmall, SSt. -/
import Derived.Test.YtpafokmkcblcnaaGreatDoorSLv0Cr
import Derived.Test.YtpafokmkcblcnaaGreatDoorSPutBCr
import Derived.Test.YtpafokmkcblcnaaGreatDoorSEqCr
set_option linter.unusedVariables false
set_option linter.unusedSimpArgs false
namespace Go.Proofs.YtpafokmkcblcnaaGreatDoor.Sh
open Go.RowKit Go.Fm
set_option maxRecDepth 100000
theorem put_err {w u v : World} {e : Ending} {err : Int} {y : BookT} (h : PutP u err y e v) (hne : err ≠ 0) : e = .returned (.tuple #[nil3, .int .i64 err]) ∧ Below u.heap.size u v := by
  unfold PutP at h
  rw [if_neg hne] at h
  exact h
set_option maxHeartbeats 8000000 in
theorem lives_any (w : World) (T : Tab9 w) : Calls Tryz.prog 9 #[] w fun e w' => e = .returned (.bool true) ∧ Below w.heap.size w w' := by
  obtain ⟨W, hW⟩ : ∃ W, W = (w.alloc (.cells #[.string sS, .slice none 0 0] 78)).alloc (.cells #[newS w.heap.size 1, .slice none 0 0, .slice none 0 0] 26) := ⟨_, rfl⟩
  have HB0 : Below w.heap.size w W := by rw [hW]; exact Sh.bel_alloc (Sh.bel_alloc (Below.refl _ _) (Nat.le_refl _) _) (Nat.le_refl _) _
  have hX0 : W.heap[w.heap.size]? = some (.cells #[.string sS, .slice none 0 0] 78) := by rw [hW, Below.heap_alloc _ _ _ (by simp)]; exact heap_alloc_new w _
  have hX1 : W.heap[w.heap.size + 1]? = some (.cells #[newS w.heap.size 1, .slice none 0 0, .slice none 0 0] 26) := by rw [hW]; simpa using heap_alloc_new (w.alloc (.cells #[.string sS, .slice none 0 0] 78)) (.cells #[newS w.heap.size 1, .slice none 0 0, .slice none 0 0] 26)
  have hsz : W.heap.size = w.heap.size + 2 := by rw [hW]; simp
  have KX : ∀ u, Below W.heap.size W u → (u.cell? ⟨w.heap.size + 1, 0, none⟩ = some (newS w.heap.size 1) ∧ u.cell? ⟨w.heap.size + 1, 1, none⟩ = some (.slice none 0 0) ∧ u.cell? ⟨w.heap.size + 1, 2, none⟩ = some (.slice none 0 0)) ∧ BkM w.heap.size (w.heap.size + 1) u (newS w.heap.size 1) (.slice none 0 0) (.slice none 0 0) bk0 ∧ w.heap.size + 1 ≤ u.heap.size ∧ Tab9 u ∧ Below w.heap.size w u := fun u hu => by
    have hu2 := hu.size
    have hw := Sh.bel_step HB0 HB0.size hu
    exact ⟨b_cells ((hu.block _ (blk_lt hX1)).trans hX1), bk0_mem ((hu.block _ (blk_lt hX0)).trans hX0), by omega, T.below hw, hw⟩
  have KA : ∀ u o, Below W.heap.size W u → Below W.heap.size W (u.alloc o) := fun u o hu => Sh.bel_alloc hu (Nat.le_refl _) o
  obtain ⟨d0, d1, d2⟩ := b_cells hX1
  -- the put
  have C1 : Calls Tryz.prog 13 #[.agg #[newS w.heap.size 1, .slice none 0 0, .slice none 0 0], .string sS, .int .i64 1, .int .i64 1, .string tA] W fun e v => ∃ a1 c1 n1 a2 c2 n2 a3 c3 n3, e = .returned (.tuple #[.agg #[.slice a1 n1 c1, .slice a2 n2 c2, .slice a3 n3 c3], .int .i64 0]) ∧
      ((v.alloc (.cells #[.slice a1 n1 c1, .slice a2 n2 c2, .slice a3 n3 c3] 26)).cell? ⟨w.heap.size + 1, 0, none⟩ = some (newS w.heap.size 1) ∧ (v.alloc (.cells #[.slice a1 n1 c1, .slice a2 n2 c2, .slice a3 n3 c3] 26)).cell? ⟨w.heap.size + 1, 1, none⟩ = some (.slice none 0 0) ∧ (v.alloc (.cells #[.slice a1 n1 c1, .slice a2 n2 c2, .slice a3 n3 c3] 26)).cell? ⟨w.heap.size + 1, 2, none⟩ = some (.slice none 0 0)) ∧
      Hid (Below W.heap.size W (v.alloc (.cells #[.slice a1 n1 c1, .slice a2 n2 c2, .slice a3 n3 c3] 26))) ∧
      Hid (∀ u, Below (v.alloc (.cells #[.slice a1 n1 c1, .slice a2 n2 c2, .slice a3 n3 c3] 26)).heap.size (v.alloc (.cells #[.slice a1 n1 c1, .slice a2 n2 c2, .slice a3 n3 c3] 26)) u → (u.cell? ⟨v.heap.size, 0, none⟩ = some (.slice a1 n1 c1) ∧ u.cell? ⟨v.heap.size, 1, none⟩ = some (.slice a2 n2 c2) ∧ u.cell? ⟨v.heap.size, 2, none⟩ = some (.slice a3 n3 c3)) ∧ BkM W.heap.size v.heap.size u (.slice a1 n1 c1) (.slice a2 n2 c2) (.slice a3 n3 c3) (putAt bk0 0 ⟨1, 1, tA⟩) ∧ v.heap.size ≤ u.heap.size) := by
    obtain ⟨_, kb, ks, kt, _⟩ := KX W (Below.refl _ _)
    have h := put_any kb (by omega) small0 rises0 kt sS 1 1 tA
    rw [ex1, idx0] at h
    refine h.mono ?_
    rintro e v ⟨hp, hv⟩
    rw [if_pos rfl] at hp
    obtain ⟨sv, nv, lv, rfl, ho⟩ := hp
    have hbk := ho.bkm
    obtain ⟨a1, c1, rfl, _, _⟩ := hbk.sh.slice
    obtain ⟨a2, c2, rfl, _, _⟩ := hbk.nm.slice
    obtain ⟨a3, c3, rfl, _, _⟩ := hbk.lk.slice
    refine ⟨a1, c1, _, a2, c2, _, a3, c3, _, rfl, (KX _ (KA v _ hv)).1, KA v _ hv, fun u hu => ?_⟩
    refine ⟨b_cells ((hu.block _ (by simp)).trans (heap_alloc_new v _)), hbk.below (Nat.le_refl _) ((Sh.bel_alloc (Below.refl _ _) (Nat.le_refl _) _).trans (hu.mono (by simp))), ?_⟩
    have := hu.size
    simp at this
    omega
  have E2 : Hid (∀ u, Below W.heap.size W u → Calls Tryz.prog 13 #[.agg #[newS w.heap.size 1, .slice none 0 0, .slice none 0 0], .string sS, .int .i64 1, .int .i64 1, .string tB] u fun e v => e = .returned (.tuple #[nil3, .int .i64 10]) ∧ ((v.alloc (.cells #[.slice none 0 0, .slice none 0 0, .slice none 0 0] 26)).cell? ⟨w.heap.size + 1, 0, none⟩ = some (newS w.heap.size 1) ∧ (v.alloc (.cells #[.slice none 0 0, .slice none 0 0, .slice none 0 0] 26)).cell? ⟨w.heap.size + 1, 1, none⟩ = some (.slice none 0 0) ∧ (v.alloc (.cells #[.slice none 0 0, .slice none 0 0, .slice none 0 0] 26)).cell? ⟨w.heap.size + 1, 2, none⟩ = some (.slice none 0 0)) ∧ Hid (Below W.heap.size W (v.alloc (.cells #[.slice none 0 0, .slice none 0 0, .slice none 0 0] 26))) ∧ Hid (Below u.heap.size u (v.alloc (.cells #[.slice none 0 0, .slice none 0 0, .slice none 0 0] 26)))) := fun u hu => by
    obtain ⟨_, kb, ks, kt, _⟩ := KX u hu
    have h := put_any kb ks small0 rises0 kt sS 1 1 tB
    rw [ex2] at h
    refine h.mono ?_
    rintro e v hp
    obtain ⟨rfl, hv⟩ := put_err (w := w) hp (by decide)
    have hv2 := KA v (.cells #[.slice none 0 0, .slice none 0 0, .slice none 0 0] 26) (Sh.bel_step hu hu.size hv)
    exact ⟨rfl, (KX _ hv2).1, hv2, Sh.bel_alloc hv (Nat.le_refl _) _⟩
  have E3 : Hid (∀ u, Below W.heap.size W u → Calls Tryz.prog 30 #[.agg #[newS w.heap.size 1, .slice none 0 0, .slice none 0 0], .string sS] u fun e v => e = .returned (.tuple #[nil3, .int .i64 15]) ∧ ((v.alloc (.cells #[.slice none 0 0, .slice none 0 0, .slice none 0 0] 26)).cell? ⟨w.heap.size + 1, 0, none⟩ = some (newS w.heap.size 1) ∧ (v.alloc (.cells #[.slice none 0 0, .slice none 0 0, .slice none 0 0] 26)).cell? ⟨w.heap.size + 1, 1, none⟩ = some (.slice none 0 0) ∧ (v.alloc (.cells #[.slice none 0 0, .slice none 0 0, .slice none 0 0] 26)).cell? ⟨w.heap.size + 1, 2, none⟩ = some (.slice none 0 0)) ∧ Hid (Below W.heap.size W (v.alloc (.cells #[.slice none 0 0, .slice none 0 0, .slice none 0 0] 26))) ∧ Hid (Below u.heap.size u (v.alloc (.cells #[.slice none 0 0, .slice none 0 0, .slice none 0 0] 26)))) := fun u hu => by
    obtain ⟨_, kb, ks, kt, _⟩ := KX u hu
    have h := drop_any kb ks small0 sS
    rw [ex3] at h
    refine h.mono ?_
    rintro e v hp
    obtain ⟨rfl, hv⟩ := put_err (w := w) hp (by decide)
    have hv2 := KA v (.cells #[.slice none 0 0, .slice none 0 0, .slice none 0 0] 26) (Sh.bel_step hu hu.size hv)
    exact ⟨rfl, (KX _ hv2).1, hv2, Sh.bel_alloc hv (Nat.le_refl _) _⟩
  have E4 : Hid (∀ u, Below W.heap.size W u → Calls Tryz.prog 13 #[.agg #[newS w.heap.size 1, .slice none 0 0, .slice none 0 0], .string sS, .int .i64 65, .int .i64 1, .string tC] u fun e v => e = .returned (.tuple #[nil3, .int .i64 9]) ∧ Hid (Below W.heap.size W (v.alloc (.cells #[.slice none 0 0, .slice none 0 0, .slice none 0 0] 26))) ∧ Hid (Below u.heap.size u (v.alloc (.cells #[.slice none 0 0, .slice none 0 0, .slice none 0 0] 26)))) := fun u hu => by
    obtain ⟨_, kb, ks, kt, _⟩ := KX u hu
    have h := put_any kb ks small0 rises0 kt sS 65 1 tC
    rw [ex4] at h
    refine h.mono ?_
    rintro e v hp
    obtain ⟨rfl, hv⟩ := put_err (w := w) hp (by decide)
    exact ⟨rfl, KA v (.cells #[.slice none 0 0, .slice none 0 0, .slice none 0 0] 26) (Sh.bel_step hu hu.size hv), Sh.bel_alloc hv (Nat.le_refl _) _⟩
  have HKW : Hid (∀ u, Below W.heap.size W u → Below w.heap.size w u) := fun u hu => (KX u hu).2.2.2.2
  rw [hW] at d0 d1 d2
  have HW : Hid ((w.alloc (.cells #[.string sS, .slice none 0 0] 78)).alloc (.cells #[newS w.heap.size 1, .slice none 0 0, .slice none 0 0] 26) = W) := hW.symm
  clear hW HB0 hX0 hX1 KX KA hsz T
  go_enter Tryz.func9, Tryz.ntmps9
  go_wp2_with (first
    | (go_at_call 13; rw [HW.out]; refine C1.mono ?_; clear C1; rintro e v ⟨a1, c1, n1, a2, c2, n2, a3, c3, n3, rfl, ⟨f0, f1, f2⟩, HV, HK⟩)
    | (go_at_call 13; refine (E2.out _ HV.out).mono ?_; clear E2; rintro e v2 ⟨rfl, ⟨g0, g1, g2⟩, HV2, HU2⟩)
    | (go_at_call 30; refine (E3.out _ HV2.out).mono ?_; clear E3; rintro e v3 ⟨rfl, ⟨h0, h1, h2⟩, HV3, HU3⟩)
    | (go_at_call 13; refine (E4.out _ HV3.out).mono ?_; clear E4; rintro e v4 ⟨rfl, HV4, HU4⟩; have HBB := Sh.bel_step (Sh.bel_step HU2.out HU2.out.size HU3.out) (Nat.le_trans HU2.out.size HU3.out.size) HU4.out; obtain ⟨⟨i0, i1, i2⟩, kb, ks⟩ := HK.out _ HBB; have HKB : Hid _ := kb; have HKS : Hid _ := ks; have CG := get_any HKB.out HKS.out sS 1 1; rw [ex5] at CG; have HBBh : Hid _ := HBB; clear kb ks HBB)
    | (go_at_call 22; refine CG.mono ?_; clear CG; rintro e v5 ⟨rfl, hb5⟩; obtain ⟨⟨j0, j1, j2⟩, kb, ks⟩ := HK.out _ (Sh.bel_step HBBh.out HBBh.out.size hb5); have CS := same_any kb ks kb ks; rw [ex6] at CS; have HB5 : Hid _ := Sh.bel_step HV4.out HV4.out.size hb5; clear kb ks hb5)
    | (go_at_call 19; refine CS.mono ?_; clear CS; rintro e v6 ⟨rfl, hb6⟩; have HB6 : Hid _ := Sh.bel_step HB5.out HB5.out.size hb6; clear hb6))
  go_ret
  exact ⟨rfl, HKW.out _ HB6.out⟩
end Go.Proofs.YtpafokmkcblcnaaGreatDoor.Sh

namespace Go.Proofs.YtpafokmkcblcnaaGreatDoor.Sh
open Go.RowKit Go.Fm
set_option maxRecDepth 100000
def SmallP (w : World) (x : BookT) (e : Ending) (w' : World) : Prop := (∃ b : Bool, e = .returned (.bool b) ∧ (b = true → x.names.length + x.links.length < 300) ∧ (x.sheets.length + cntL x.sheets ≤ 1125899906842624 → (b = true ↔ x.sheets.length + cntL x.sheets < 1000 ∧ x.names.length + x.links.length < 300))) ∧ Below w.heap.size w w'
theorem wrap_in {z : Int} (h1 : -9223372036854775808 ≤ z) (h2 : z ≤ 9223372036854775807) : IntKind.i64.wrap z = z := by rw [IntKind.wrap_i64]; omega
set_option maxHeartbeats 4000000 in
theorem small_any {lo hi : Nat} {w : World} {sv nv lv : Value} {x : BookT} (h : BkM lo hi w sv nv lv x) (hhi : hi ≤ w.heap.size) (hn : x.names.length ≤ 1125899906842624) (hk : x.links.length ≤ 1125899906842624) :
    Calls Tryz.prog 8 #[.agg #[sv, nv, lv]] w (SmallP w x) := by
  obtain ⟨sa, sc, rfl, hs1, hs2⟩ := h.sh.slice
  obtain ⟨na, nc, rfl, _, _⟩ := h.nm.slice
  obtain ⟨la, lc, rfl, _, _⟩ := h.lk.slice
  have HB : Hid (Below w.heap.size w (w.alloc (bkO (.slice sa x.sheets.length sc) (.slice na x.names.length nc) (.slice la x.links.length lc)))) := Sh.bel_alloc (Below.refl _ _) (Nat.le_refl _) _
  have HX : Hid ((w.alloc (bkO (.slice sa x.sheets.length sc) (.slice na x.names.length nc) (.slice la x.links.length lc))).heap[w.heap.size]? = some (bkO (.slice sa x.sheets.length sc) (.slice na x.names.length nc) (.slice la x.links.length lc))) := heap_alloc_new w _
  have c0 := (b_cells HX.out).1
  have HS : Hid (Shs lo hi w (.slice sa x.sheets.length sc) x.sheets) := h.sh
  have hlen : x.sheets.length ≤ 9223372036854775807 := by unfold maxLen at hs2; omega
  clear h hs1 hs2
  go_enter Tryz.func8, Tryz.ntmps8
  go_wp2
  go_loopw [3, 9] (fun m i wr => ∃ (k : Nat) (z : Int), k ≤ x.sheets.length ∧ i = .int .i64 (k : Nat) ∧ m = .int .i64 z ∧ Hid (x.sheets.length + cntL x.sheets ≤ 1125899906842624 → z = ((k + cntL (x.sheets.take k) : Nat) : Int)) ∧ Hid (Below w.heap.size w wr) ∧ Hid (wr.heap[w.heap.size]? = some (bkO (.slice sa x.sheets.length sc) (.slice na x.names.length nc) (.slice la x.links.length lc)))) (fun _ i _ => x.sheets.length - (intOf i).toNat)
  case atStart => exact ⟨0, 0, Nat.zero_le _, rfl, rfl, fun _ => by simp [cntL], HB, HX⟩
  case round =>
    obtain ⟨k, z, hkl, rfl, rfl, HZ, HD, HX⟩ := hrel
    clear HB
    by_cases hkL : k < x.sheets.length
    · have hki : (k : Int) < x.sheets.length := by omega
      obtain ⟨a', cv, ov, W, rfl, rfl, hcl, hW, R1, R2, -⟩ := (HS.out.below hhi HD.out).runs hkL
      obtain ⟨ca, cc, rfl, hl1, hl2⟩ := hcl.slice
      have c1 := cell_heap (show W.heap[wr.heap.size]? = some (.cells #[.string x.sheets[k].name, .slice ca x.sheets[k].cells.length cc] 78) by rw [hW]; exact heap_alloc_new wr _) (j := 1) rfl
      have HD2 : Hid (Below w.heap.size w W) := by rw [hW]; exact Sh.bel_alloc HD.out (Nat.le_refl _) _
      have HX2 : Hid (W.heap[w.heap.size]? = some (bkO (.slice (some a') x.sheets.length sc) (.slice na x.names.length nc) (.slice la x.links.length lc))) := by rw [hW]; exact (Below.heap_alloc wr _ _ (blk_lt HX.out)).trans HX.out
      have hk63 : k < 9223372036854775807 := by omega
      have hs := cnt_take hkL
      have hle := cnt_le (L := x.sheets) (k + 1)
      clear hcl hW HX
      have HQ : Hid (x.sheets.length + cntL x.sheets ≤ 1125899906842624 → IntKind.i64.wrap (z + IntKind.i64.wrap (1 + (x.sheets[k].cells.length : Int))) = ((k + 1 + cntL (x.sheets.take (k + 1)) : Nat) : Int)) := fun hb => by
        have h1 : IntKind.i64.wrap (1 + (x.sheets[k].cells.length : Int)) = 1 + (x.sheets[k].cells.length : Int) := wrap_in (by omega) (by omega)
        rw [h1, HZ.out hb]
        rw [show ((k + cntL (x.sheets.take k) : Nat) : Int) + (1 + (x.sheets[k].cells.length : Int)) = ((k + 1 + cntL (x.sheets.take (k + 1)) : Nat) : Int) by omega]
        exact wrap_in (by omega) (by omega)
      clear hs hle HZ
      generalize x.sheets[k] = y at *
      obtain ⟨yn, yc⟩ := y
      dsimp only at *
      generalize hq : IntKind.i64.wrap (1 + (yc.length : Int)) = q1 at *
      generalize hq2 : IntKind.i64.wrap (z + q1) = q2 at *
      go_wp2_with (first
        | ((with_reducible show wpList _ _ _ ({ dst := _, op := Op.load 78 _, type := _, pos := _, after := _, guard := none } :: _) _ _); refine wpList_load_run rfl 78 _ rfl _ _ rfl R1.out ?_; clear R1)
        | ((with_reducible show wpList _ _ _ ({ dst := _, op := Op.store 78 _ _, type := _, pos := _, after := _, guard := none } :: _) _ _); refine wpList_store_run rfl 78 _ _ rfl _ _ _ rfl rfl R2.out ?_; clear R2))
      go_roundw
      case rel => exact ⟨k + 1, q2, by omega, by go_num, by go_num, HQ, HD2, HX2⟩
      case measure => simp [intOf]; omega
    · have hki : ¬ (k : Int) < x.sheets.length := by omega
      obtain ⟨_, c3, c4⟩ := b_cells HX.out
      have HZ2 : Hid (x.sheets.length + cntL x.sheets ≤ 1125899906842624 → z = ((x.sheets.length + cntL x.sheets : Nat) : Int)) := fun hb => by
        rw [HZ.out hb, List.take_of_length_le (by omega)]
        omega
      obtain ⟨q, hq⟩ : ∃ q, q = x.names.length + x.links.length := ⟨_, rfl⟩
      have e1 : (x.names.length : Int) + (x.links.length : Int) = (q : Int) := by omega
      have e2 : IntKind.i64.wrap (q : Int) = (q : Int) := by rw [IntKind.wrap_i64]; omega
      have HQ : Hid (q = x.names.length + x.links.length) := hq
      clear hq HZ hkl hkL hn hk
      by_cases hz : z < 1000
      · by_cases h3 : q < 300
        · have h3i : (q : Int) < 300 := by omega
          go_wp2
          go_ret
          exact ⟨⟨true, rfl, fun _ => by rw [← HQ.out]; exact h3, fun hb => ⟨fun _ => by have := HZ2.out hb; have := HQ.out; omega, fun _ => rfl⟩⟩, HD.out⟩
        · have h3i : ¬ (q : Int) < 300 := by omega
          go_wp2
          go_ret
          exact ⟨⟨false, rfl, fun e => (by cases e), fun hb => ⟨fun e => (by cases e), fun e => by have := HQ.out; omega⟩⟩, HD.out⟩
      · go_wp2
        go_ret
        exact ⟨⟨false, rfl, fun e => (by cases e), fun hb => ⟨fun e => (by cases e), fun e => by have := HZ2.out hb; omega⟩⟩, HD.out⟩
end Go.Proofs.YtpafokmkcblcnaaGreatDoor.Sh

namespace Go.Proofs.YtpafokmkcblcnaaGreatDoor.Sh
open Go.RowKit Go.Fm
set_option maxRecDepth 100000
structure PutT where
  sh : ByteArray
  r : Int
  c : Int
  t : ByteArray
  at1 : Int
  a : Option Addr
  n : Nat
  m : Nat
def put6 (p : PutT) : List Value := [.string p.sh, .int .i64 p.r, .int .i64 p.c, .string p.t, .int .i64 p.at1, .slice p.a p.n p.m]
abbrev putV (p : PutT) : Value := .agg #[.string p.sh, .int .i64 p.r, .int .i64 p.c, .string p.t, .int .i64 p.at1, .slice p.a p.n p.m]
theorem inf29 : (Tryz.prog.info? 29).map (fun i => (i.zero, i.size, i.bytes)) = some (some (.agg #[strE, int0, int0, strE, int0, .slice none 0 0]), 6, 80) := by kernel_rfl
def Pts (lo hi : Nat) (w : World) (v : Value) (L : List PutT) : Prop := Rws lo hi 6 w v L.length fun j => (L[j]?.map put6).getD []
theorem Pts.below {lo hi base : Nat} {w w' : World} {v : Value} {L : List PutT} (h : Pts lo hi w v L) (hh : hi ≤ base) (hb : Below base w w') : Pts lo hi w' v L := Rws.kept h fun i _ hi => hb.block i (by omega)
theorem Pts.slice {lo hi : Nat} {w : World} {v : Value} {L : List PutT} (h : Pts lo hi w v L) : ∃ a c, v = .slice a L.length c ∧ L.length ≤ c ∧ c ≤ maxLen := Rws.slice h
theorem Pts.runs {lo hi : Nat} {w : World} {a : Option Addr} {c : Nat} {L : List PutT} (h : Pts lo hi w (.slice a L.length c) L) {k : Nat} (hk : k < L.length) :
    ∃ a' ov W, a = some a' ∧ ov = putV L[k] ∧ W = w.alloc (.cells (put6 L[k]).toArray 29) ∧
      Hid ((Instr.loadAt 29 (.pointer (some (a'.add (k * 6))))).run Tryz.prog w = .ok ov w) ∧
      Hid ((Instr.storeAt 29 (.pointer (some ⟨w.heap.size, 0, none⟩)) ov).run Tryz.prog (w.alloc (.cells #[strE, int0, int0, strE, int0, .slice none 0 0] 29)) = .ok () W) ∧
      Hid ((Instr.loadAt 29 (.pointer (some ⟨w.heap.size, 0, none⟩))).run Tryz.prog W = .ok ov W) :=
  Rws.runs h hk Tryz.underlying29 rfl inf29 (getD_some hk) rfl (by simp [put6, Value.oneCell']) _ rfl
def BkIn (g : Nat) (w : World) (sv nv lv : Value) (x : BookT) : Prop := ∃ lo hi, BkM lo hi w sv nv lv x ∧ hi ≤ w.heap.size ∧ (hi ≤ g ∨ g < lo)
theorem BkIn.below {g : Nat} {w w' : World} {sv nv lv : Value} {x : BookT} (h : BkIn g w sv nv lv x) (hb : Below w.heap.size w w') : BkIn g w' sv nv lv x := by
  obtain ⟨lo, hi, h1, h2, h3⟩ := h
  exact ⟨lo, hi, h1.below h2 hb, Nat.le_trans h2 hb.size, h3⟩
theorem BkM.kept {lo hi : Nat} {w w' : World} {sv nv lv : Value} {x : BookT} (h : BkM lo hi w sv nv lv x) (hk : ∀ i, lo ≤ i → i < hi → w'.heap[i]? = w.heap[i]?) : BkM lo hi w' sv nv lv x := ⟨h.sh.kept hk, h.nm.kept hk, h.lk.kept hk⟩
theorem BkIn.row {g : Nat} {w : World} {sv nv lv : Value} {x : BookT} (h : BkIn g w sv nv lv x) (es : Array Value) : BkIn g (w.setRow g es) sv nv lv x := by
  obtain ⟨lo, hi, h1, h2, h3⟩ := h
  exact ⟨lo, hi, h1.kept fun i a b => setRow_other _ _ _ _ (by omega), by rw [setRow_size]; exact h2, h3⟩
theorem OwnB.bkIn {base g : Nat} {w : World} {sv nv lv : Value} {x : BookT} (h : OwnB base w sv nv lv x) (hg : g < base) : BkIn g w sv nv lv x := ⟨base, w.heap.size, h.bkm, Nat.le_refl _, .inr hg⟩
structure Fine (x : BookT) : Prop where
  rt : Right x.sheets
  nm : x.names.length ≤ 1000
  lk : x.links.length ≤ 1000
  ok : NamesOk x.sheets
theorem cells_le {L : List SheetT} {s : SheetT} (hs : s ∈ L) : s.cells.length ≤ cntL L := by
  induction L with
  | nil => cases hs
  | cons a r ih =>
    rw [cnt_cons]
    rcases List.mem_cons.1 hs with rfl | hs
    · omega
    · have := ih hs; omega
theorem Fine.small {x : BookT} (h : Fine x) : Small x := by
  have a := h.rt.hi
  have c := h.rt.ct
  exact ⟨by omega, fun s hs => by have := cells_le hs; omega, h.nm, h.lk⟩
theorem Fine.cells {x : BookT} (h : Fine x) : CellsOk x.sheets := fun s hs => by
  have := cells_le hs
  have c := h.rt.ct
  omega
theorem Fine.rises {x : BookT} (h : Fine x) : Rises x := rises_right h.rt
theorem Fine.check {x : BookT} (h : Fine x) : checkF x.sheets = 0 := check_right.2 h.rt
theorem full_no {x : BookT} {i : Nat} (hi : i < x.sheets.length) {r c : Int} {t : ByteArray} (h : full x i r c t = false) : t.toList ≠ [] → 200 ≤ cntL x.sheets → x.sheets[i].cells.any (atB r c) = true := by
  intro h1 h2
  unfold full at h
  have hb : (t.toList == []) = false := by simpa using h1
  rw [hb, List.getElem?_eq_getElem hi] at h
  simpa [h2] using h
theorem Fine.put {x : BookT} (h : Fine x) {s : ByteArray} {r c : Int} {t : ByteArray} (he : putE x s r c t = 0) : ∃ i, idxN x.sheets s = some i ∧ Fine (putAt x i ⟨r, c, t⟩) := by
  unfold putE at he
  by_cases h3 : mayF t = 3
  · rw [if_pos h3] at he; simp at he
  rw [if_neg h3] at he
  cases hx : idxN x.sheets s with
  | none => rw [hx] at he; simp at he
  | some i =>
    rw [hx] at he
    dsimp only at he
    have hi := idx_lt hx
    by_cases h9 : insB r c = false
    · rw [if_pos h9] at he; simp at he
    rw [if_neg h9] at he
    by_cases h10 : mayF t ≠ 0
    · rw [if_pos h10] at he; exact absurd he h10
    rw [if_neg h10] at he
    by_cases h5 : full x i r c t = true
    · rw [if_pos h5] at he; simp at he
    refine ⟨i, rfl, put_right (t := ⟨r, c, t⟩) h.rt hi (by simpa using h9) (Classical.byContradiction h10) (full_no hi (by simpa using h5)), h.nm, h.lk, fun u hu => ?_⟩
    rcases putS_mem hi hu with hu | rfl
    · exact h.ok u hu
    · exact h.ok x.sheets[i] (List.getElem_mem hi)
theorem Fine.drop {x : BookT} (h : Fine x) {s : ByteArray} (he : dropE x s = 0) : ∃ i, idxN x.sheets s = some i ∧ Fine (dropAt x i) := by
  unfold dropE at he
  cases hx : idxN x.sheets s with
  | none => rw [hx] at he; simp at he
  | some i =>
    rw [hx] at he
    dsimp only at he
    by_cases h1 : x.sheets.length = 1
    · rw [if_pos h1] at he; simp at he
    exact ⟨i, rfl, drop_right h.rt (idx_lt hx) h1, h.nm, h.lk, fun u hu => h.ok u (List.mem_of_mem_eraseIdx hu)⟩
theorem Fine.add {x : BookT} (h : Fine x) {s : ByteArray} (hs : s.size ≤ 9223372036854775807) {at1 : Int} (he : addE x s at1 [] = 0) : Fine (addAt x at1.toNat ⟨s, []⟩) := by
  unfold addE at he
  by_cases h8 : gnF s.data.toList = false
  · rw [if_pos h8] at he; simp at he
  rw [if_neg h8] at he
  by_cases h7 : 0 ≤ idxI (idxN x.sheets s)
  · rw [if_pos h7] at he; simp at he
  rw [if_neg h7] at he
  by_cases h9 : at1 < 0 ∨ (x.sheets.length : Int) < at1 ∨ laidB [] = false ∨ textsF [] ≠ 0
  · rw [if_pos h9] at he; simp at he
  rw [if_neg h9] at he
  by_cases h15 : 4 ≤ x.sheets.length
  · rw [if_pos h15] at he; simp at he
  have hj : at1.toNat ≤ x.sheets.length := by omega
  refine ⟨add_right h.rt hj (by simpa using h8) (idxI_neg.1 h7) (by omega), h.nm, h.lk, fun u hu => ?_⟩
  simp only [addAt, List.mem_append, List.mem_cons] at hu
  rcases hu with hu | rfl | hu
  · exact h.ok u (List.mem_of_mem_take hu)
  · exact hs
  · exact h.ok u (List.mem_of_mem_drop hu)
end Go.Proofs.YtpafokmkcblcnaaGreatDoor.Sh
