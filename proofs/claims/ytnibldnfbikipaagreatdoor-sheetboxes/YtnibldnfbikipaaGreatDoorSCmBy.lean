/- SLv, SSmall, SSt, SOpen, SCm. -/
import Derived.ChangeSame
import Derived.Laws.OwnMore
import Derived.Lib.AppendZeros
import Derived.Lib.BufferWrite
import Derived.SizedLaws
import Derived.Test.YtnibldnfbikipaaGreatDoorSPutBBy
set_option linter.unusedVariables false
set_option linter.unusedSimpArgs false
set_option maxHeartbeats 16000000
set_option maxRecDepth 100000
namespace Go.Proofs.YtnibldnfbikipaaGreatDoor.Sh
open Go.RowKit Go.Fm
theorem put_err {w u v : World} {e : Ending} {err : Int} {y : BookT} (h : PutP u err y e v) (hne : err ≠ 0) : e = .returned (.tuple #[nil3, .int .i64 err]) ∧ Below u.heap.size u v := by
 unfold PutP at h
 rw [if_neg hne] at h
 exact h
theorem lives_any (w : World) (T : Tab9 w) : Calls Tryz.prog 9 #[] w fun e w' => e = .returned (.bool true) ∧ Below w.heap.size w w' := by
 obtain ⟨W, hW⟩ : ∃ W, W = (w.alloc (.cells #[.string sS, .slice none 0 0] 78)).alloc (.cells #[newS w.heap.size 1, .slice none 0 0, .slice none 0 0] 26) := ⟨_, rfl⟩
 have HB0 : Below w.heap.size w W := by rw [hW]; exact Sh.bel_alloc (Sh.bel_alloc (Below.refl _ _) (Nat.le_refl _) _) (Nat.le_refl _) _
 have hX0 : W.heap[w.heap.size]? = some (.cells #[.string sS, .slice none 0 0] 78) := by rw [hW, Below.heap_alloc _ _ _ (by simp)]; exact heap_alloc_new w _
 have hX1 : W.heap[w.heap.size + 1]? = some (.cells #[newS w.heap.size 1, .slice none 0 0, .slice none 0 0] 26) := by rw [hW]; simpa using heap_alloc_new (w.alloc (.cells #[.string sS, .slice none 0 0] 78)) (.cells #[newS w.heap.size 1, .slice none 0 0, .slice none 0 0] 26)
 have hsz : W.heap.size = w.heap.size + 2 := by rw [hW]; simp
 have KX : ∀ u, Below W.heap.size W u → (u.cell? ⟨w.heap.size + 1, 0, none⟩ = some (newS w.heap.size 1) ∧ u.cell? ⟨w.heap.size + 1, 1, none⟩ = some (.slice none 0 0) ∧ u.cell? ⟨w.heap.size + 1, 2, none⟩ = some (.slice none 0 0)) ∧ BkM w.heap.size (w.heap.size + 1) u (newS w.heap.size 1) (.slice none 0 0) (.slice none 0 0) bk0 ∧ w.heap.size + 1 ≤ u.heap.size ∧ Tab9 u ∧ Below w.heap.size w u := fun u hu => by
  have hu2 := hu.size
  have hw := Sh.bel_step HB0 HB0.size hu
  exact ⟨b_cells ((hu.block _ (blk_lt hX1)).trans hX1), bk0_mem ((hu.block _ (blk_lt hX0)).trans hX0), by omega, T.below hw, hw⟩
 have KA : ∀ u o, Below W.heap.size W u → Below W.heap.size W (u.alloc o) := fun u o hu => Sh.bel_alloc hu (Nat.le_refl _) o
 obtain ⟨d0, d1, d2⟩ := b_cells hX1
 have C1 : Calls Tryz.prog 13 #[.agg #[newS w.heap.size 1, .slice none 0 0, .slice none 0 0], .string sS, .int .i64 1, .int .i64 1, .string tA] W fun e v => ∃ a1 c1 n1 a2 c2 n2 a3 c3 n3, e = .returned (.tuple #[.agg #[.slice a1 n1 c1, .slice a2 n2 c2, .slice a3 n3 c3], .int .i64 0]) ∧
   ((v.alloc (.cells #[.slice a1 n1 c1, .slice a2 n2 c2, .slice a3 n3 c3] 26)).cell? ⟨w.heap.size + 1, 0, none⟩ = some (newS w.heap.size 1) ∧ (v.alloc (.cells #[.slice a1 n1 c1, .slice a2 n2 c2, .slice a3 n3 c3] 26)).cell? ⟨w.heap.size + 1, 1, none⟩ = some (.slice none 0 0) ∧ (v.alloc (.cells #[.slice a1 n1 c1, .slice a2 n2 c2, .slice a3 n3 c3] 26)).cell? ⟨w.heap.size + 1, 2, none⟩ = some (.slice none 0 0)) ∧
   Hid (Below W.heap.size W (v.alloc (.cells #[.slice a1 n1 c1, .slice a2 n2 c2, .slice a3 n3 c3] 26))) ∧
   Hid (∀ u, Below (v.alloc (.cells #[.slice a1 n1 c1, .slice a2 n2 c2, .slice a3 n3 c3] 26)).heap.size (v.alloc (.cells #[.slice a1 n1 c1, .slice a2 n2 c2, .slice a3 n3 c3] 26)) u → (u.cell? ⟨v.heap.size, 0, none⟩ = some (.slice a1 n1 c1) ∧ u.cell? ⟨v.heap.size, 1, none⟩ = some (.slice a2 n2 c2) ∧ u.cell? ⟨v.heap.size, 2, none⟩ = some (.slice a3 n3 c3)) ∧ BkM W.heap.size v.heap.size u (.slice a1 n1 c1) (.slice a2 n2 c2) (.slice a3 n3 c3) (putAt bk0 0 ⟨1, 1, tA⟩) ∧ v.heap.size ≤ u.heap.size) := by
  obtain ⟨_, kb, ks, kt, _⟩ := KX W (Below.refl _ _)
  have h := put_any kb (by omega) small0 rises0 kt sS 1 1 tA
  rw [ex1, idx0] at h
  refine h.mono ?_
  rintro e v ⟨hp, hv⟩
  rw [if_pos rfl] at hp
  obtain ⟨sv, nv, lv, rfl, ho⟩ := hp
  have hbk := ho.bkm
  obtain ⟨a1, c1, rfl, _, _⟩ := hbk.sh.slice
  obtain ⟨a2, c2, rfl, _, _⟩ := hbk.nm.slice
  obtain ⟨a3, c3, rfl, _, _⟩ := hbk.lk.slice
  refine ⟨a1, c1, _, a2, c2, _, a3, c3, _, rfl, (KX _ (KA v _ hv)).1, KA v _ hv, fun u hu => ?_⟩
  refine ⟨b_cells ((hu.block _ (by simp)).trans (heap_alloc_new v _)), hbk.below (Nat.le_refl _) ((Sh.bel_alloc (Below.refl _ _) (Nat.le_refl _) _).trans (hu.mono (by simp))), ?_⟩
  have := hu.size
  simp at this
  omega
 have E2 : Hid (∀ u, Below W.heap.size W u → Calls Tryz.prog 13 #[.agg #[newS w.heap.size 1, .slice none 0 0, .slice none 0 0], .string sS, .int .i64 1, .int .i64 1, .string tB] u fun e v => e = .returned (.tuple #[nil3, .int .i64 10]) ∧ ((v.alloc (.cells #[.slice none 0 0, .slice none 0 0, .slice none 0 0] 26)).cell? ⟨w.heap.size + 1, 0, none⟩ = some (newS w.heap.size 1) ∧ (v.alloc (.cells #[.slice none 0 0, .slice none 0 0, .slice none 0 0] 26)).cell? ⟨w.heap.size + 1, 1, none⟩ = some (.slice none 0 0) ∧ (v.alloc (.cells #[.slice none 0 0, .slice none 0 0, .slice none 0 0] 26)).cell? ⟨w.heap.size + 1, 2, none⟩ = some (.slice none 0 0)) ∧ Hid (Below W.heap.size W (v.alloc (.cells #[.slice none 0 0, .slice none 0 0, .slice none 0 0] 26))) ∧ Hid (Below u.heap.size u (v.alloc (.cells #[.slice none 0 0, .slice none 0 0, .slice none 0 0] 26)))) := fun u hu => by
  obtain ⟨_, kb, ks, kt, _⟩ := KX u hu
  have h := put_any kb ks small0 rises0 kt sS 1 1 tB
  rw [ex2] at h
  refine h.mono ?_
  rintro e v hp
  obtain ⟨rfl, hv⟩ := put_err (w := w) hp (by decide)
  have hv2 := KA v (.cells #[.slice none 0 0, .slice none 0 0, .slice none 0 0] 26) (Sh.bel_step hu hu.size hv)
  exact ⟨rfl, (KX _ hv2).1, hv2, Sh.bel_alloc hv (Nat.le_refl _) _⟩
 have E3 : Hid (∀ u, Below W.heap.size W u → Calls Tryz.prog 30 #[.agg #[newS w.heap.size 1, .slice none 0 0, .slice none 0 0], .string sS] u fun e v => e = .returned (.tuple #[nil3, .int .i64 15]) ∧ ((v.alloc (.cells #[.slice none 0 0, .slice none 0 0, .slice none 0 0] 26)).cell? ⟨w.heap.size + 1, 0, none⟩ = some (newS w.heap.size 1) ∧ (v.alloc (.cells #[.slice none 0 0, .slice none 0 0, .slice none 0 0] 26)).cell? ⟨w.heap.size + 1, 1, none⟩ = some (.slice none 0 0) ∧ (v.alloc (.cells #[.slice none 0 0, .slice none 0 0, .slice none 0 0] 26)).cell? ⟨w.heap.size + 1, 2, none⟩ = some (.slice none 0 0)) ∧ Hid (Below W.heap.size W (v.alloc (.cells #[.slice none 0 0, .slice none 0 0, .slice none 0 0] 26))) ∧ Hid (Below u.heap.size u (v.alloc (.cells #[.slice none 0 0, .slice none 0 0, .slice none 0 0] 26)))) := fun u hu => by
  obtain ⟨_, kb, ks, kt, _⟩ := KX u hu
  have h := drop_any kb ks small0 sS
  rw [ex3] at h
  refine h.mono ?_
  rintro e v hp
  obtain ⟨rfl, hv⟩ := put_err (w := w) hp (by decide)
  have hv2 := KA v (.cells #[.slice none 0 0, .slice none 0 0, .slice none 0 0] 26) (Sh.bel_step hu hu.size hv)
  exact ⟨rfl, (KX _ hv2).1, hv2, Sh.bel_alloc hv (Nat.le_refl _) _⟩
 have E4 : Hid (∀ u, Below W.heap.size W u → Calls Tryz.prog 13 #[.agg #[newS w.heap.size 1, .slice none 0 0, .slice none 0 0], .string sS, .int .i64 65, .int .i64 1, .string tC] u fun e v => e = .returned (.tuple #[nil3, .int .i64 9]) ∧ Hid (Below W.heap.size W (v.alloc (.cells #[.slice none 0 0, .slice none 0 0, .slice none 0 0] 26))) ∧ Hid (Below u.heap.size u (v.alloc (.cells #[.slice none 0 0, .slice none 0 0, .slice none 0 0] 26)))) := fun u hu => by
  obtain ⟨_, kb, ks, kt, _⟩ := KX u hu
  have h := put_any kb ks small0 rises0 kt sS 65 1 tC
  rw [ex4] at h
  refine h.mono ?_
  rintro e v hp
  obtain ⟨rfl, hv⟩ := put_err (w := w) hp (by decide)
  exact ⟨rfl, KA v (.cells #[.slice none 0 0, .slice none 0 0, .slice none 0 0] 26) (Sh.bel_step hu hu.size hv), Sh.bel_alloc hv (Nat.le_refl _) _⟩
 have HKW : Hid (∀ u, Below W.heap.size W u → Below w.heap.size w u) := fun u hu => (KX u hu).2.2.2.2
 rw [hW] at d0 d1 d2
 have HW : Hid ((w.alloc (.cells #[.string sS, .slice none 0 0] 78)).alloc (.cells #[newS w.heap.size 1, .slice none 0 0, .slice none 0 0] 26) = W) := hW.symm
 clear hW HB0 hX0 hX1 KX KA hsz T
 go_enter Tryz.func9, Tryz.ntmps9
 go_wp2_with (first
  | (go_at_call 13; rw [HW.out]; refine C1.mono ?_; clear C1; rintro e v ⟨a1, c1, n1, a2, c2, n2, a3, c3, n3, rfl, ⟨f0, f1, f2⟩, HV, HK⟩)
  | (go_at_call 13; refine (E2.out _ HV.out).mono ?_; clear E2; rintro e v2 ⟨rfl, ⟨g0, g1, g2⟩, HV2, HU2⟩)
  | (go_at_call 30; refine (E3.out _ HV2.out).mono ?_; clear E3; rintro e v3 ⟨rfl, ⟨h0, h1, h2⟩, HV3, HU3⟩)
  | (go_at_call 13; refine (E4.out _ HV3.out).mono ?_; clear E4; rintro e v4 ⟨rfl, HV4, HU4⟩; have HBB := Sh.bel_step (Sh.bel_step HU2.out HU2.out.size HU3.out) (Nat.le_trans HU2.out.size HU3.out.size) HU4.out; obtain ⟨⟨i0, i1, i2⟩, kb, ks⟩ := HK.out _ HBB; have HKB : Hid _ := kb; have HKS : Hid _ := ks; have CG := get_any HKB.out HKS.out sS 1 1; rw [ex5] at CG; have HBBh : Hid _ := HBB; clear kb ks HBB)
  | (go_at_call 22; refine CG.mono ?_; clear CG; rintro e v5 ⟨rfl, hb5⟩; obtain ⟨⟨j0, j1, j2⟩, kb, ks⟩ := HK.out _ (Sh.bel_step HBBh.out HBBh.out.size hb5); have CS := same_any kb ks kb ks; rw [ex6] at CS; have HB5 : Hid _ := Sh.bel_step HV4.out HV4.out.size hb5; clear kb ks hb5)
  | (go_at_call 19; refine CS.mono ?_; clear CS; rintro e v6 ⟨rfl, hb6⟩; have HB6 : Hid _ := Sh.bel_step HB5.out HB5.out.size hb6; clear hb6))
 go_ret
 exact ⟨rfl, HKW.out _ HB6.out⟩
def SmallP (w : World) (x : BookT) (e : Ending) (w' : World) : Prop := (∃ b : Bool, e = .returned (.bool b) ∧ (b = true → x.names.length + x.links.length < 300) ∧ (x.sheets.length + cntL x.sheets ≤ 1125899906842624 → (b = true ↔ x.sheets.length + cntL x.sheets < 1000 ∧ x.names.length + x.links.length < 300))) ∧ Below w.heap.size w w'
theorem wrap_in {z : Int} (h1 : -9223372036854775808 ≤ z) (h2 : z ≤ 9223372036854775807) : IntKind.i64.wrap z = z := by rw [IntKind.wrap_i64]; omega
theorem small_any {lo hi : Nat} {w : World} {sv nv lv : Value} {x : BookT} (h : BkM lo hi w sv nv lv x) (hhi : hi ≤ w.heap.size) (hn : x.names.length ≤ 1125899906842624) (hk : x.links.length ≤ 1125899906842624) :
  Calls Tryz.prog 8 #[.agg #[sv, nv, lv]] w (SmallP w x) := by
 obtain ⟨sa, sc, rfl, hs1, hs2⟩ := h.sh.slice
 obtain ⟨na, nc, rfl, _, _⟩ := h.nm.slice
 obtain ⟨la, lc, rfl, _, _⟩ := h.lk.slice
 have HB : Hid (Below w.heap.size w (w.alloc (bkO (.slice sa x.sheets.length sc) (.slice na x.names.length nc) (.slice la x.links.length lc)))) := Sh.bel_alloc (Below.refl _ _) (Nat.le_refl _) _
 have HX : Hid ((w.alloc (bkO (.slice sa x.sheets.length sc) (.slice na x.names.length nc) (.slice la x.links.length lc))).heap[w.heap.size]? = some (bkO (.slice sa x.sheets.length sc) (.slice na x.names.length nc) (.slice la x.links.length lc))) := heap_alloc_new w _
 have c0 := (b_cells HX.out).1
 have HS : Hid (Shs lo hi w (.slice sa x.sheets.length sc) x.sheets) := h.sh
 have hlen : x.sheets.length ≤ 9223372036854775807 := by unfold maxLen at hs2; omega
 clear h hs1 hs2
 go_enter Tryz.func8, Tryz.ntmps8
 go_wp2
 go_loopw [3, 9] (fun m i wr => ∃ (k : Nat) (z : Int), k ≤ x.sheets.length ∧ i = .int .i64 (k : Nat) ∧ m = .int .i64 z ∧ Hid (x.sheets.length + cntL x.sheets ≤ 1125899906842624 → z = ((k + cntL (x.sheets.take k) : Nat) : Int)) ∧ Hid (Below w.heap.size w wr) ∧ Hid (wr.heap[w.heap.size]? = some (bkO (.slice sa x.sheets.length sc) (.slice na x.names.length nc) (.slice la x.links.length lc)))) (fun _ i _ => x.sheets.length - (intOf i).toNat)
 case atStart => exact ⟨0, 0, Nat.zero_le _, rfl, rfl, fun _ => by simp [cntL], HB, HX⟩
 case round =>
  obtain ⟨k, z, hkl, rfl, rfl, HZ, HD, HX⟩ := hrel
  clear HB
  by_cases hkL : k < x.sheets.length
  ·have hki : (k : Int) < x.sheets.length := by omega
   obtain ⟨a', cv, ov, W, rfl, rfl, hcl, hW, R1, R2, -⟩ := (HS.out.below hhi HD.out).runs hkL
   obtain ⟨ca, cc, rfl, hl1, hl2⟩ := hcl.slice
   have c1 := cell_heap (show W.heap[wr.heap.size]? = some (.cells #[.string x.sheets[k].name, .slice ca x.sheets[k].cells.length cc] 78) by rw [hW]; exact heap_alloc_new wr _) (j := 1) rfl
   have HD2 : Hid (Below w.heap.size w W) := by rw [hW]; exact Sh.bel_alloc HD.out (Nat.le_refl _) _
   have HX2 : Hid (W.heap[w.heap.size]? = some (bkO (.slice (some a') x.sheets.length sc) (.slice na x.names.length nc) (.slice la x.links.length lc))) := by rw [hW]; exact (Below.heap_alloc wr _ _ (blk_lt HX.out)).trans HX.out
   have hk63 : k < 9223372036854775807 := by omega
   have hs := cnt_take hkL
   have hle := cnt_le (L := x.sheets) (k + 1)
   clear hcl hW HX
   have HQ : Hid (x.sheets.length + cntL x.sheets ≤ 1125899906842624 → IntKind.i64.wrap (z + IntKind.i64.wrap (1 + (x.sheets[k].cells.length : Int))) = ((k + 1 + cntL (x.sheets.take (k + 1)) : Nat) : Int)) := fun hb => by
    have h1 : IntKind.i64.wrap (1 + (x.sheets[k].cells.length : Int)) = 1 + (x.sheets[k].cells.length : Int) := wrap_in (by omega) (by omega)
    rw [h1, HZ.out hb]
    rw [show ((k + cntL (x.sheets.take k) : Nat) : Int) + (1 + (x.sheets[k].cells.length : Int)) = ((k + 1 + cntL (x.sheets.take (k + 1)) : Nat) : Int) by omega]
    exact wrap_in (by omega) (by omega)
   clear hs hle HZ
   generalize x.sheets[k] = y at *
   obtain ⟨yn, yc⟩ := y
   dsimp only at *
   generalize hq : IntKind.i64.wrap (1 + (yc.length : Int)) = q1 at *
   generalize hq2 : IntKind.i64.wrap (z + q1) = q2 at *
   go_wp2_with (first
    | ((with_reducible show wpList _ _ _ ({ dst := _, op := Op.load 78 _, type := _, pos := _, after := _, guard := none } :: _) _ _); refine wpList_load_run rfl 78 _ rfl _ _ rfl R1.out ?_; clear R1)
    | ((with_reducible show wpList _ _ _ ({ dst := _, op := Op.store 78 _ _, type := _, pos := _, after := _, guard := none } :: _) _ _); refine wpList_store_run rfl 78 _ _ rfl _ _ _ rfl rfl R2.out ?_; clear R2))
   go_roundw
   case rel => exact ⟨k + 1, q2, by omega, by go_num, by go_num, HQ, HD2, HX2⟩
   case measure => simp [intOf]; omega
  ·have hki : ¬ (k : Int) < x.sheets.length := by omega
   obtain ⟨_, c3, c4⟩ := b_cells HX.out
   have HZ2 : Hid (x.sheets.length + cntL x.sheets ≤ 1125899906842624 → z = ((x.sheets.length + cntL x.sheets : Nat) : Int)) := fun hb => by
    rw [HZ.out hb, List.take_of_length_le (by omega)]
    omega
   obtain ⟨q, hq⟩ : ∃ q, q = x.names.length + x.links.length := ⟨_, rfl⟩
   have e1 : (x.names.length : Int) + (x.links.length : Int) = (q : Int) := by omega
   have e2 : IntKind.i64.wrap (q : Int) = (q : Int) := by rw [IntKind.wrap_i64]; omega
   have HQ : Hid (q = x.names.length + x.links.length) := hq
   clear hq HZ hkl hkL hn hk
   by_cases hz : z < 1000
   ·by_cases h3 : q < 300
    ·have h3i : (q : Int) < 300 := by omega
     go_wp2
     go_ret
     exact ⟨⟨true, rfl, fun _ => by rw [← HQ.out]; exact h3, fun hb => ⟨fun _ => by have := HZ2.out hb; have := HQ.out; omega, fun _ => rfl⟩⟩, HD.out⟩
    ·have h3i : ¬ (q : Int) < 300 := by omega
     go_wp2
     go_ret
     exact ⟨⟨false, rfl, fun e => (by cases e), fun hb => ⟨fun e => (by cases e), fun e => by have := HQ.out; omega⟩⟩, HD.out⟩
   ·go_wp2
    go_ret
    exact ⟨⟨false, rfl, fun e => (by cases e), fun hb => ⟨fun e => (by cases e), fun e => by have := HZ2.out hb; omega⟩⟩, HD.out⟩
structure PutT where
 sh : ByteArray
 r : Int
 c : Int
 t : ByteArray
 at1 : Int
 a : Option Addr
 n : Nat
 m : Nat
structure Fine (x : BookT) : Prop where
 rt : Right x.sheets
 nm : x.names.length ≤ 1000
 lk : x.links.length ≤ 1000
 ok : NamesOk x.sheets
end Go.Proofs.YtnibldnfbikipaaGreatDoor.Sh
namespace Go.Proofs.YtnibldnfbikipaaGreatDoor.Sh
open Go.ChangeShapes Go.WideShapes Go.ChangeAt Go.WideElems Go.RowKit Go.Deep
theorem list_of {α : Type} {P : Nat → α → Prop} : ∀ (n : Nat), (∀ i, i < n → ∃ c, P i c) → ∃ L : List α, L.length = n ∧ ∀ i c, L[i]? = some c → P i c
 | 0, _ => ⟨[], rfl, fun i c h => by simp at h⟩
 | n + 1, h => by
  obtain ⟨L, h1, h2⟩ := list_of n fun i hi => h i (by omega)
  obtain ⟨c, hc⟩ := h n (by omega)
  refine ⟨L ++ [c], by simp [h1], fun i x hi => ?_⟩
  by_cases hlt : i < L.length
  ·rw [List.getElem?_append_left hlt] at hi; exact h2 i x hi
  ·rw [List.getElem?_append_right (by omega)] at hi
   have hi0 : i = n := by
    rcases Nat.lt_or_ge (i - L.length) 1 with h | h
    ·omega
    ·rw [List.getElem?_eq_none (by simpa using h)] at hi; cases hi
   subst hi0
   rw [h1] at hi
   simp at hi
   subst hi
   exact hc
theorem all_mem {H : Type} {e : TypeId} {d : DataW H} {n : Nat} (hn : n ∈ d.weights Tryz.prog e) : ∀ {l : List (DataW H)}, d ∈ l → n ∈ DataW.weightsAll Tryz.prog e l
 | [], h => by cases h
 | a :: r, h => by
  simp only [DataW.weightsAll, List.mem_append]
  rcases List.mem_cons.1 h with rfl | h
  ·exact .inl hn
  ·exact .inr (all_mem hn h)
abbrev Lgt {H : Type} (t : TypeId) (d : DataW H) : Prop := ∀ n ∈ d.weights Tryz.prog t, n ≤ reachBytes
section
variable {H : Type} {enc : TypeId × Value → H} {W : World} {sp : Nat → Bool} {held : Bool}
theorem rws_open {t e : TypeId} {sz : Nat} {α : Type} {C : α → List Value} {Q : α → Prop} {fuel : Nat} {v : Value} {x : DataW H × List MemPlace} (ht : Tryz.prog.underlying t = some (.slice e)) (hce : Tryz.prog.cellsOf e = sz) (hsz : 0 < sz) (hby : 1 ≤ Tryz.prog.bytesOf e) (hw : Lgt t x.1)
  (hC : ∀ {fuel : Nat} {cs : List Value} {y : DataW H × List MemPlace}, Lgt e y.1 → DataW.trod enc Tryz.prog W 0 sp held fuel e cs = some y → ∃ c : α, cs = C c ∧ Q c)
  (h : DataW.trod enc Tryz.prog W 0 sp held fuel t [v] = some x) :
  ∃ L : List α, Rws 0 W.heap.size sz W v L.length (fun j => (L[j]?.map C).getD []) ∧ (∀ (j : Nat) (c : α), L[j]? = some c → Q c) ∧ L.length ≤ reachBytes := by
 rcases open_slice ht h with ⟨hcs, hx⟩ | ⟨a, len, cap, m, n, D, Pl, hcs, hb, hl, hm, hmm, hx, hel⟩
 ·simp at hcs
  subst hcs hx
  exact ⟨[], .inl ⟨rfl, rfl⟩, fun j c hj => by simp at hj, Nat.zero_le _⟩
 ·simp at hcs
  subst hcs hx
  have hwt : ∀ n ∈ ((((List.range len).map D).length + ((List.range (m - len)).map fun j => D (len + j)).length) * Tryz.prog.bytesOf e :: (DataW.weightsAll Tryz.prog e ((List.range len).map D) ++ DataW.weightsAll Tryz.prog e ((List.range (m - len)).map fun j => D (len + j)))), n ≤ reachBytes := fun n hn => hw n (by simp only [DataW.weights, ht]; exact hn)
  have hlr : len ≤ reachBytes := by
   have h1 := hwt _ List.mem_cons_self
   simp only [List.length_map, List.length_range] at h1
   have h2 := Nat.le_mul_of_pos_right (len + (m - len)) hby
   omega
  have hwe : ∀ i, i < len → Lgt e (D i) := fun i hi n hn => hwt n (List.mem_cons_of_mem _ (List.mem_append_left _ (all_mem hn (List.mem_map.2 ⟨i, List.mem_range.2 hi, rfl⟩))))
  have hlm : len ≤ m := by rw [hmm]; split <;> omega
  obtain ⟨L, hL, hP⟩ := list_of (α := α) (P := fun i c => W.cells? 0 (a.add (i * sz)) sz = some (C c) ∧ Q c) len fun i hi => by
   obtain ⟨cs', k1, k2⟩ := hel i (by omega)
   rw [hce] at k1
   obtain ⟨c, rfl, q1⟩ := hC (hwe i hi) k2
   exact ⟨c, k1, q1⟩
  have hlen : ∀ (j : Nat) (c : α), L[j]? = some c → (C c).length = sz := fun j c hj => (World.cells?_some (hP j c hj).1).2.1
  have hcell : ∀ (j : Nat) (c : α) (i : Nat) (u : Value), L[j]? = some c → (C c)[i]? = some u → W.cell? (a.add (j * sz + i)) = some u := fun j c i u hj hu => by
   have h1 := World.cells?_some (hP j c hj).1
   have hi : i < sz := by
    rcases Nat.lt_or_ge i sz with h | h
    ·exact h
    ·rw [List.getElem?_eq_none (by rw [hlen j c hj]; exact h)] at hu; cases hu
   have := h1.2.2 i hi
   rw [Go.Deep.add_add] at this
   rw [this, hu]
  refine ⟨L, .inr ⟨a, cap, by rw [hL], by omega, hm, fun h0 => ?_, fun j i u hj hu => ?_⟩, fun j c hj => (hP j c hj).2, by rw [hL]; omega⟩
  ·obtain ⟨c, hc⟩ : ∃ c, L[0]? = some c := ⟨L[0], List.getElem?_eq_getElem h0⟩
   have hl0 := hlen 0 c hc
   obtain ⟨y, r, e⟩ := List.exists_cons_of_ne_nil (l := C c) (by intro e; rw [e] at hl0; simp at hl0; omega)
   have := World.block_lt_of_cell? W _ (hcell 0 c 0 y hc (by rw [e]; rfl))
   rw [addr_block] at this
   exact ⟨Nat.zero_le _, this⟩
  ·have hj' : L[j]? = some L[j] := List.getElem?_eq_getElem hj
   dsimp only at hu
   rw [hj'] at hu
   exact hcell j _ i u hj' (by simpa using hu)
theorem cell_open {fuel : Nat} {cs : List Value} {y : DataW H × List MemPlace} (hw : Lgt 57 y.1) (h : DataW.trod enc Tryz.prog W 0 sp held fuel 57 cs = some y) : ∃ c : CellT, cs = cellC c ∧ True := by
 obtain ⟨xs, n, _, rfl, hl, hxl, hf⟩ := DataW.trod_struct Tryz.underlying57 h
 have hl3 : cs.length = 3 := hl.trans (by kernel_rfl)
 match xs, hxl, cs, hl3 with
 | [y0, y1, y2], _, [v0, v1, v2], _ =>
  obtain ⟨n0, e0, q0, w0⟩ := DataW.trod_int Tryz.underlying3 (hf 0 _ rfl)
  obtain ⟨n1, e1, q1, w1⟩ := DataW.trod_int Tryz.underlying3 (hf 1 _ rfl)
  obtain ⟨s2, e2, q2, w2⟩ := DataW.trod_string Tryz.underlying9 (hf 2 _ rfl)
  cases e0; cases e1; cases e2
  exact ⟨⟨n0, n1, s2⟩, rfl, trivial⟩
theorem name_open {fuel : Nat} {cs : List Value} {y : DataW H × List MemPlace} (hw : Lgt 89 y.1) (h : DataW.trod enc Tryz.prog W 0 sp held fuel 89 cs = some y) : ∃ c : NameT, cs = nameC c ∧ True := by
 obtain ⟨xs, n, _, rfl, hl, hxl, hf⟩ := DataW.trod_struct Tryz.underlying89 h
 have hl3 : cs.length = 3 := hl.trans (by kernel_rfl)
 match xs, hxl, cs, hl3 with
 | [y0, y1, y2], _, [v0, v1, v2], _ =>
  obtain ⟨n0, e0, q0, w0⟩ := DataW.trod_string Tryz.underlying9 (hf 0 _ rfl)
  obtain ⟨n1, e1, q1, w1⟩ := DataW.trod_string Tryz.underlying9 (hf 1 _ rfl)
  obtain ⟨s2, e2, q2, w2⟩ := DataW.trod_string Tryz.underlying9 (hf 2 _ rfl)
  cases e0; cases e1; cases e2
  exact ⟨⟨n0, n1, s2⟩, rfl, trivial⟩
theorem val_open {fuel : Nat} {cs : List Value} {y : DataW H × List MemPlace} (h : DataW.trod enc Tryz.prog W 0 sp held fuel 62 cs = some y) : ∃ c : ValT, cs = [.int .i64 c.kind, .int .i64 c.n, .string c.s] := by
 obtain ⟨xs, n, _, rfl, hl, hxl, hf⟩ := DataW.trod_struct Tryz.underlying62 h
 have hl3 : cs.length = 3 := hl.trans (by kernel_rfl)
 match xs, hxl, cs, hl3 with
 | [y0, y1, y2], _, [v0, v1, v2], _ =>
  obtain ⟨n0, e0, q0, w0⟩ := DataW.trod_int Tryz.underlying3 (hf 0 _ rfl)
  obtain ⟨n1, e1, q1, w1⟩ := DataW.trod_int Tryz.underlying3 (hf 1 _ rfl)
  obtain ⟨s2, e2, q2, w2⟩ := DataW.trod_string Tryz.underlying9 (hf 2 _ rfl)
  cases e0; cases e1; cases e2
  exact ⟨⟨n0, n1, s2⟩, rfl⟩
theorem link_open {fuel : Nat} {cs : List Value} {y : DataW H × List MemPlace} (hw : Lgt 91 y.1) (h : DataW.trod enc Tryz.prog W 0 sp held fuel 91 cs = some y) : ∃ c : LinkT, cs = linkC c ∧ True := by
 obtain ⟨xs, n, _, rfl, hl, hxl, hf⟩ := DataW.trod_struct Tryz.underlying91 h
 have hl3 : cs.length = 7 := hl.trans (by kernel_rfl)
 match xs, hxl, cs, hl3 with
 | [y0, y1, y2, y3, y4], _, [v0, v1, v2, v3, v4, v5, v6], _ =>
  obtain ⟨s0, e0, q0, w0⟩ := DataW.trod_string Tryz.underlying9 (hf 0 _ rfl)
  obtain ⟨s1, e1, q1, w1⟩ := DataW.trod_string Tryz.underlying9 (hf 1 _ rfl)
  obtain ⟨n2, e2, q2, w2⟩ := DataW.trod_int Tryz.underlying3 (hf 2 _ rfl)
  obtain ⟨n3, e3, q3, w3⟩ := DataW.trod_int Tryz.underlying3 (hf 3 _ rfl)
  obtain ⟨c4, e4⟩ := val_open (hf 4 _ rfl)
  cases e0; cases e1; cases e2; cases e3
  obtain ⟨rfl, rfl, rfl⟩ : v4 = .int .i64 c4.kind ∧ v5 = .int .i64 c4.n ∧ v6 = .string c4.s := by
   have e4' : [v4, v5, v6] = [.int .i64 c4.kind, .int .i64 c4.n, .string c4.s] := e4
   simpa using e4'
  exact ⟨⟨s0, s1, n2, n3, c4⟩, rfl, trivial⟩
theorem cls_open {fuel : Nat} {v : Value} {x : DataW H × List MemPlace} (hw : Lgt 27 x.1) (h : DataW.trod enc Tryz.prog W 0 sp held fuel 27 [v] = some x) : ∃ L, Cls 0 W.heap.size W v L ∧ L.length ≤ reachBytes := by
 obtain ⟨L, h1, _, h3⟩ := rws_open (C := cellC) (Q := fun _ => True) Tryz.underlying27 (sz := 3) (by kernel_rfl) (by decide) (of_decide_eq_true (by kernel_rfl)) hw cell_open h
 exact ⟨L, h1, h3⟩
theorem nms_open {fuel : Nat} {v : Value} {x : DataW H × List MemPlace} (hw : Lgt 23 x.1) (h : DataW.trod enc Tryz.prog W 0 sp held fuel 23 [v] = some x) : ∃ L, Nms 0 W.heap.size W v L ∧ L.length ≤ reachBytes := by
 obtain ⟨L, h1, _, h3⟩ := rws_open (C := nameC) (Q := fun _ => True) Tryz.underlying23 (sz := 3) (by kernel_rfl) (by decide) (of_decide_eq_true (by kernel_rfl)) hw name_open h
 exact ⟨L, h1, h3⟩
theorem lks_open {fuel : Nat} {v : Value} {x : DataW H × List MemPlace} (hw : Lgt 24 x.1) (h : DataW.trod enc Tryz.prog W 0 sp held fuel 24 [v] = some x) : ∃ L, Lks 0 W.heap.size W v L ∧ L.length ≤ reachBytes := by
 obtain ⟨L, h1, _, h3⟩ := rws_open (C := linkC) (Q := fun _ => True) Tryz.underlying24 (sz := 7) (by kernel_rfl) (by decide) (of_decide_eq_true (by kernel_rfl)) hw link_open h
 exact ⟨L, h1, h3⟩
theorem sheet_open {fuel : Nat} {cs : List Value} {y : DataW H × List MemPlace} (hw : Lgt 78 y.1) (h : DataW.trod enc Tryz.prog W 0 sp held fuel 78 cs = some y) : ∃ c : SheetT × Value, cs = sheetC c.1 c.2 ∧ Cls 0 W.heap.size W c.2 c.1.cells ∧ c.1.name.size ≤ maxLen ∧ c.1.cells.length ≤ reachBytes := by
 obtain ⟨xs, n, _, rfl, hl, hxl, hf⟩ := DataW.trod_struct Tryz.underlying78 h
 have hw2 := hw
 simp only [DataW.weights, Tryz.underlying78] at hw2
 have hl3 : cs.length = 2 := hl.trans (by kernel_rfl)
 match xs, hxl, cs, hl3 with
 | [y0, y1], _, [v0, v1], _ =>
  obtain ⟨s0, e0, q0, w0⟩ := DataW.trod_string Tryz.underlying9 (hf 0 _ rfl)
  obtain ⟨L, hc, k1⟩ := cls_open (v := v1) (x := y1) (fun n hn => hw2 n (DataW.weights_mem_each (j := 1) rfl rfl n hn)) (hf 1 _ rfl)
  cases e0
  exact ⟨(⟨s0, L⟩, v1), rfl, hc, w0, k1⟩
theorem shs_open {fuel : Nat} {v : Value} {x : DataW H × List MemPlace} (hw : Lgt 22 x.1) (h : DataW.trod enc Tryz.prog W 0 sp held fuel 22 [v] = some x) : ∃ L, Shs 0 W.heap.size W v L ∧ (∀ c ∈ L, c.name.size ≤ maxLen ∧ c.cells.length ≤ reachBytes) ∧ L.length ≤ reachBytes := by
 obtain ⟨L, h1, h2, h3⟩ := rws_open (C := fun c : SheetT × Value => sheetC c.1 c.2) (Q := fun c => Cls 0 W.heap.size W c.2 c.1.cells ∧ c.1.name.size ≤ maxLen ∧ c.1.cells.length ≤ reachBytes) Tryz.underlying22 (sz := 2) (by kernel_rfl) (by decide) (of_decide_eq_true (by kernel_rfl)) hw sheet_open h
 refine ⟨L.map (·.1), ⟨fun j => ((L[j]?).map (·.2)).getD (.slice none 0 0), ?_, fun j o hj => ?_⟩, fun c hc => ?_, by simpa using h3⟩
 ·rw [List.length_map]
  refine Rws.congr h1 fun j hj => ?_
  simp [sheetsC, List.getElem?_eq_getElem hj]
 ·rw [List.getElem?_map] at hj
  rcases hq : L[j]? with _ | c
  ·rw [hq] at hj; cases hj
  ·rw [hq] at hj
   cases hj
   dsimp only
   rw [hq]
   exact (h2 j c hq).1
 ·obtain ⟨y, hy, rfl⟩ := List.mem_map.1 hc
  obtain ⟨j, hj⟩ := List.getElem?_of_mem hy
  exact (h2 j y hj).2
theorem book_open {fuel : Nat} {cs : List Value} {y : DataW H × List MemPlace} (hw : Lgt 26 y.1) (h : DataW.trod enc Tryz.prog W 0 sp held fuel 26 cs = some y) : ∃ sv nv lv x, cs = [sv, nv, lv] ∧ BkM 0 W.heap.size W sv nv lv x ∧ (∀ c ∈ x.sheets, c.name.size ≤ maxLen ∧ c.cells.length ≤ reachBytes) ∧ x.sheets.length ≤ reachBytes ∧ x.names.length ≤ reachBytes ∧ x.links.length ≤ reachBytes := by
 obtain ⟨xs, n, _, rfl, hl, hxl, hf⟩ := DataW.trod_struct Tryz.underlying26 h
 have hw2 := hw
 simp only [DataW.weights, Tryz.underlying26] at hw2
 have hl3 : cs.length = 3 := hl.trans (by kernel_rfl)
 match xs, hxl, cs, hl3 with
 | [y0, y1, y2], _, [v0, v1, v2], _ =>
  obtain ⟨L0, h0, k0, b0⟩ := shs_open (v := v0) (x := y0) (fun n hn => hw2 n (DataW.weights_mem_each (j := 0) rfl rfl n hn)) (hf 0 _ rfl)
  obtain ⟨L1, h1, b1⟩ := nms_open (v := v1) (x := y1) (fun n hn => hw2 n (DataW.weights_mem_each (j := 1) rfl rfl n hn)) (hf 1 _ rfl)
  obtain ⟨L2, h2, b2⟩ := lks_open (v := v2) (x := y2) (fun n hn => hw2 n (DataW.weights_mem_each (j := 2) rfl rfl n hn)) (hf 2 _ rfl)
  exact ⟨v0, v1, v2, ⟨L0, L1, L2⟩, rfl, ⟨h0, h1, h2⟩, k0, b0, b1, b2⟩
end
end Go.Proofs.YtnibldnfbikipaaGreatDoor.Sh
namespace Go.Proofs.YtnibldnfbikipaaGreatDoor.Sh.Cm
open Go.RowKit
abbrev ncs (x : CellT) : Array Value := #[.int .i64 x.row, .int .i64 x.col, .string x.text]
abbrev ncl (x : CellT) : List Value := [.int .i64 x.row, .int .i64 x.col, .string x.text]
abbrev nmV (x : CellT) : Value := .agg (ncs x)
abbrev nmO (x : CellT) : Obj := .cells (ncs x) 57
abbrev nm0 : CellT := ⟨0, 0, ⟨#[]⟩⟩
theorem ninf : (Tryz.prog.info? 57).map (·.size) = some 3 := by kernel_rfl
theorem ninfz : (Tryz.prog.info? 57).map (fun i => (i.zero, i.size, i.bytes)) = some (some (nmV nm0), 3, 32) := by kernel_rfl
theorem ncl_one (L : List CellT) : ∀ u ∈ L.flatMap ncl, u.oneCell' = true := by
 intro u hu
 obtain ⟨x, _, hx⟩ := List.mem_flatMap.1 hu
 simp only [ncl, List.mem_cons, List.not_mem_nil, or_false] at hx
 rcases hx with rfl | rfl | rfl <;> rfl
theorem nfl_at : ∀ (L : List CellT) (i j : Nat) (v : Value) (hi : i < L.length), (ncl L[i])[j]? = some v → (L.flatMap ncl)[i * 3 + j]? = some v
 | t :: L, 0, j, v, _, h => by
  have hj : j < (ncl t).length := (List.getElem?_eq_some_iff.1 h).1
  rw [List.flatMap_cons, Nat.zero_mul, Nat.zero_add, List.getElem?_append_left hj]
  exact h
 | t :: L, i + 1, j, v, hi, h => by
  rw [List.flatMap_cons, List.getElem?_append_right (by simp; omega), show (i + 1) * 3 + j - (ncl t).length = i * 3 + j by simp; omega]
  exact nfl_at L i j v (by simpa using hi) h
theorem ngrown_below {w w' : World} {row : Option Nat} (h : Below w.heap.size w w') : w.grownBy w' row := ⟨h.os, h.tape, h.output, h.size, fun i hi _ => h.block i hi⟩
def Rds (w : World) (p : Option Addr) (n : Nat) (L : List CellT) : Prop :=
 n = L.length ∧ (L = [] ∨ ∃ a, p = some a ∧ ∀ j u, (L.flatMap ncl)[j]? = some u → w.cell? (a.add j) = some u)
def OwnM (base : Nat) (w : World) (v : Value) (L : List CellT) : Prop := w.ownsRow base 57 3 v L.length (L.flatMap ncl)
theorem OwnM.nil (base : Nat) (w : World) : OwnM base w (.slice none 0 0) [] := World.ownsRow_nil w base 57 3
theorem OwnM.slice {base : Nat} {w : World} {v : Value} {L : List CellT} (h : OwnM base w v L) : ∃ p c, v = .slice p L.length c ∧ Rds w p L.length L := by
 have hc := fun g (hg : v.ownBlock = some g) => World.ownsRow.cells h hg
 rcases h.2 with ⟨rfl, h0⟩ | ⟨g, cap, cur, rfl, _⟩
 ·exact ⟨none, 0, by rw [h0], rfl, .inl (List.eq_nil_of_length_eq_zero h0)⟩
 ·exact ⟨_, _, rfl, rfl, .inr ⟨_, rfl, fun j u hj => hc g rfl j u hj⟩⟩
theorem OwnM.kept {base : Nat} {w w' : World} {v : Value} {L : List CellT} {row : Option Nat} (h : OwnM base w v L) (hg : w.grownBy w' row) (hne : v.ownBlock = none ∨ v.ownBlock ≠ row) : OwnM base w' v L := World.ownsRow.kept h hg hne
theorem OwnM.below {base : Nat} {w w' : World} {v : Value} {L : List CellT} (h : OwnM base w v L) (hb : Below w.heap.size w w') : OwnM base w' v L :=
 h.kept (ngrown_below (row := none) hb) (by cases v.ownBlock <;> simp)
theorem OwnM.base {base base' : Nat} {w : World} {v : Value} {L : List CellT} (h : OwnM base w v L) (hb : base' ≤ base) : OwnM base' w v L := by
 obtain ⟨h1, h2⟩ := h
 refine ⟨h1, h2.imp id ?_⟩
 rintro ⟨g, cap, cur, e1, e2, r⟩
 exact ⟨g, cap, cur, e1, by omega, r⟩
theorem ninfo : ∃ i z, Tryz.prog.info? 57 = some i ∧ i.zero = some z ∧ i.size = 3 ∧ i.bytes = 32 ∧ z.cells.size = 3 ∧ z = nmV nm0 := by
 cases h : Tryz.prog.info? 57 with
 | none => have := ninfz; rw [h] at this; cases this
 | some i =>
  have := ninfz
  rw [h] at this
  simp only [Option.map_some, Option.some.injEq, Prod.mk.injEq] at this
  exact ⟨i, _, rfl, this.1, this.2.1, this.2.2, rfl, rfl⟩
theorem nslice_one (w : World) (x : CellT) : (Instr.buildSlice 27 1 #[(0, nmV x)]).run Tryz.prog w = .ok (.slice (some ⟨w.heap.size, 0, none⟩) 1 1) (w.alloc (nmO x)) := by kernel_rfl
theorem nbuild0 (w : World) : (Instr.build 57 #[]).run Tryz.prog w = .ok (nmV nm0) w := by kernel_rfl
theorem ownM_cat2 {base : Nat} {w : World} {v : Value} {L : List CellT} {y : CellT} {b : Nat} (h : OwnM base w v L) (hg : w.heap[b]? = some (nmO y)) (hn : L.length + 1 ≤ 4398046511104) (hbase : base ≤ w.heap.size) :
  ∃ v' w', Hid ((Builtin.append_ #[27, 27] 27 #[v, .slice (some ⟨b, 0, none⟩) 1 1]).run Tryz.prog w = .ok v' w') ∧ OwnM base w' v' (L ++ [y]) ∧ w.grownBy w' v.ownBlock ∧ Below base w w' ∧ (v'.ownBlock = v.ownBlock ∨ v'.ownBlock = some w.heap.size) := by
 obtain ⟨i, z, hi, hz, hz1, hz2, hz3, _⟩ := ninfo
 have hrow := fun k hk => (World.ownsRow.lt h k hk).1
 obtain ⟨v', w', r1, o1, g1, _, l1⟩ := run_append_own_at w base 27 27 57 i z 3 32 Tryz.underlying27 hi hz hz1 hz2 hz3 (by decide) v _ _ h ⟨b, 0, none⟩ 1 1 (ncl y) rfl (fun j u hj => by
  rw [Addr.add_mid, cell_of_row w b (0 + j) _ _ _ hg, Nat.zero_add, ← hj]; simp) (fun u hu => by
  simp only [ncl, List.mem_cons, List.not_mem_nil, or_false] at hu
  rcases hu with rfl | rfl | rfl <;> rfl) (by simp only [maxLen]; omega) (by omega) hbase
 refine ⟨v', w', r1, ?_, g1, (Below.refl base w).grown g1 hbase hrow, l1⟩
 unfold OwnM
 rw [List.length_append, List.flatMap_append]
 simpa using o1
theorem ngrown_setCells (b : Nat) : ∀ (vs : List Value) (o : Nat) (w : World), w.grownBy (w.setCells b o vs) (some b)
 | [], _, w => World.grownBy.refl _ _
 | v :: r, o, w => (Go.Lib.grownBy_setCell w b o v).trans (ngrown_setCells b r (o + 1) _)
end Go.Proofs.YtnibldnfbikipaaGreatDoor.Sh.Cm
