/- RwNs, RwRn. -/
import Derived.Test.YtljmklbbngpllaaGreatDoorRwFallsNd
set_option linter.unusedVariables false
set_option linter.unusedSimpArgs false
set_option maxHeartbeats 16000000
set_option maxRecDepth 100000
namespace Go.Proofs.YtljmklbbngpllaaGreatDoor.Rw
open Go.RowKit Go.Fm
def aBH (C : Chg) (H : Hm) (l : List T) (k : Nat) : Prop := (l.take k).any (fun x => nm C H x.1) = false
theorem aDU {C : Chg} {H : Hm} {l : List T} {k : Nat} {s : T} (h : aBH C H l k) (hs : l[k]? = some s) (hf : nm C H s.1 = false) : aBH C H l (k + 1) := by
 unfold aBH at h ⊢
 rw [List.take_add_one, hs, List.any_append, h]
 simp [hf]
theorem aJE {C : Chg} {H : Hm} {l : List T} {k : Nat} {s : T} (hs : l[k]? = some s) (hf : nm C H s.1 = true) : l.any (fun x => nm C H x.1) = true := List.any_eq_true.2 ⟨s, List.mem_of_getElem? hs, hf⟩
theorem aKi {u : World} {g : Nat} {C : Chg} (h : u.heap[g]? = some (.cells (aW C) 42)) : (Instr.loadAt 42 (.pointer (some ⟨g, 0, none⟩))).run Tryz.prog u = .ok (.agg (aW C)) u :=
 lod h rfl Tryz.underlying42 (by kernel_rfl)
theorem aKj {u : World} {g : Nat} {H : Hm} (h : u.heap[g]? = some (bF H.hb H.hs H.hr H.hc)) : (Instr.loadAt 30 (.pointer (some ⟨g, 0, none⟩))).run Tryz.prog u = .ok (hmV H) u :=
 lod h rfl Tryz.underlying30 (by kernel_rfl)
theorem aAt (C : Chg) (H : Hm) {t : T} (hz : zT t ≤ 900) {w : World} {es : Array Value} (h : NT w es t) :
  Calls Tryz.prog 15 #[.agg es, hmV H, .agg (aW C)] w fun e w' => e = .returned (.bool (nmT C H t)) ∧ Below w.heap.size w w' := by
 rw [aHQ]
 obtain ⟨W, hW⟩ : ∃ W, W = ((w.alloc (.cells es 28)).alloc (bF H.hb H.hs H.hr H.hc)).alloc (.cells (aW C) 42) := ⟨_, rfl⟩
 have HB0 : Below w.heap.size w W := by rw [hW]; exact aA (aA (aA (Below.refl _ _) _) _) _
 have hq : W.heap[w.heap.size]? = some (.cells es 28) ∧ W.heap[w.heap.size + 1]? = some (bF H.hb H.hs H.hr H.hc) ∧ W.heap[w.heap.size + 2]? = some (.cells (aW C) 42) := by rw [hW]; exact xE (Below.refl _ _)
 have RN : Hid ((Instr.loadAt 28 (.pointer (some ⟨w.heap.size, 0, none⟩))).run Tryz.prog W = .ok (.agg es) W) := (jG h).2 hq.1
 have CL := aDu t hz (fun i => i < w.heap.size) W es (h.nk.below HB0) (fun i hi => by have := HB0.size; omega)
 have HLn : Hid ((dQ t).length ≤ 900) := by show _ ≤ _; rw [zC]; exact hz
 have HSh : Hid (∀ u, Below W.heap.size W u → (Instr.loadAt 30 (.pointer (some ⟨w.heap.size + 1, 0, none⟩))).run Tryz.prog u = .ok (hmV H) u ∧ (Instr.loadAt 42 (.pointer (some ⟨w.heap.size + 2, 0, none⟩))).run Tryz.prog u = .ok (.agg (aW C)) u) := fun u hu =>
  ⟨aKj ((hu.block _ (aS hq.2.1)).trans hq.2.1), aKi ((hu.block _ (aS hq.2.2)).trans hq.2.2)⟩
 have aIh : Hid (Below w.heap.size w W) := HB0
 have HWe : Hid (W = ((w.alloc (.cells es 28)).alloc (bF H.hb H.hs H.hr H.hc)).alloc (.cells (aW C) 42)) := hW
 clear h hq HB0 hW
 generalize dQ t = P at *
 go_enter Tryz.func15, Tryz.ntmps15
 go_upto_region 1 with fail
 rw [← HWe.out]
 go_wp2_with (first
  | ((with_reducible show wpList _ _ _ ({ dst := _, op := Op.load 28 _, type := _, pos := _, after := _, guard := none } :: _) _ _); refine aB rfl 28 _ rfl _ _ rfl RN.out ?_; clear RN)
  | (go_at_call 32; refine CL.mono ?_; clear CL; rintro e w2 ⟨v, L, rfl, hO, hL, hNK, hb2⟩; obtain ⟨va, vc, rfl⟩ := fU hO; have HO1 : Hid _ := hO; have HLp : Hid (L.map (·.2) = P) := hL; have HNK : Hid _ := hNK; have HW2 : Hid (Below W.heap.size W w2) := hb2; clear hO hL hNK hb2))
 have hlen : L.length ≤ 900 := by have := HLn.out; rw [← HLp.out, List.length_map] at this; exact this
 generalize hLn : L.length = nn
 have HLL : Hid (L.length = nn) := hLn
 rw [hLn] at hlen
 clear hLn
 go_loopw [12] (fun i wr => ∃ k : Nat, k ≤ nn ∧ i = .int .i64 (k : Nat) ∧ Hid (aBH C H P k) ∧ Hid (Below W.heap.size W wr ∧ Below w2.heap.size w2 wr)) (fun i _ => nn - (intOf i).toNat)
 case atStart => exact ⟨0, Nat.zero_le _, rfl, rfl, HW2.out, Below.refl _ _⟩
 case round =>
  obtain ⟨k, hk, rfl, HH, HBr⟩ := hrel
  by_cases hlt : k < nn
  ·have hki : (k : Int) < nn := by omega
   obtain ⟨x, hx⟩ : ∃ x, L[k]? = some x := ⟨_, List.getElem?_eq_getElem (by have := HLL.out; omega)⟩
   have hxm := List.mem_of_getElem? hx
   have hn := (HNK.out x hxm).below HBr.out.2
   have hO2 : eO W.heap.size wr (.slice va L.length vc) L := fV HO1.out (aZ (row := none) HBr.out.2) (by cases (Value.slice va L.length vc).ownBlock <;> simp)
   obtain ⟨b, rfl, rl⟩ := aGu hO2 (fun y hy => (HNK.out y hy).size) hx
   have RL : Hid _ := rl
   have HS : Hid (P[k]? = some x.2) := by show _ = _; rw [← HLp.out, List.getElem?_map, hx]; rfl
   obtain ⟨p', n', c', he, _⟩ := hn.nt
   have RS : Hid _ := (kC wr hn.nt).1
   have HB2 : Hid (Below w.heap.size w (wr.alloc (.cells x.1 28))) := aA (aG aIh.out HBr.out.1) _
   have HB3 : Hid (Below W.heap.size W (wr.alloc (.cells x.1 28)) ∧ Below w2.heap.size w2 (wr.alloc (.cells x.1 28))) := ⟨aA HBr.out.1 _, aA HBr.out.2 _⟩
   have RH : Hid _ := (HSh.out _ HB3.out.1).1
   have RC : Hid _ := (HSh.out _ HB3.out.1).2
   have hbx : (wr.alloc (.cells x.1 28)).heap[wr.heap.size]? = some (.cells (lcs x.2.1 (.slice p' n' c')) 28) := by rw [← he]; exact heap_alloc_new wr _
   have RR : Hid ((Instr.loadAt 25 (.pointer (some ⟨wr.heap.size, 5, none⟩))).run Tryz.prog (wr.alloc (.cells x.1 28)) = .ok (rfV (top x.2.1)) (wr.alloc (.cells x.1 28))) := (aN hbx).2.2.2.1
   have q0 := (aN hbx).1
   have HO := fun u => lC (top x.2.1) H C u
   have HT : Hid (nm C H x.2.1 = true → P.any (fun x => nm C H x.1) = true) := fun e => aJE HS.out e
   have HFx : Hid (nm C H x.2.1 = false → aBH C H P (k + 1)) := fun e => aDU HH.out HS.out e
   have hnm : nm C H x.2.1 = (kd x.2.1.k && ofR C H (top x.2.1)) := rfl
   rw [hnm] at HT HFx
   clear hxm hn hO2 rl hbx he hx HS hnm
   generalize x.1 = bx at *
   generalize top x.2.1 = tp at *
   generalize x.2.1.k = kk at *
   generalize ofR C H tp = ob at *
   have aGv : ∀ (hkd : kd kk = true) (b : Bool), ob = b → (b = true → Hid (P.any (fun x => nm C H x.1) = true)) ∧ (b = false → Hid (aBH C H P (k + 1))) := fun hkd b e =>
    ⟨fun eb => HT.out (by rw [hkd, e, eb]; rfl), fun eb => HFx.out (by rw [hkd, e, eb]; rfl)⟩
   by_cases k2 : kk = 2
   ·have hkd : kd kk = true := by rw [k2]; rfl
    obtain ⟨f1, f2⟩ := aGv hkd ob rfl
    subst k2
    clear hkd aGv HT HFx
    cases ob
    ·have HH2 := f2 rfl
     clear f1 f2
     go_wp2_with (first
      | ((with_reducible show wpList _ _ _ ({ dst := _, op := Op.load 28 _, type := _, pos := _, after := _, guard := none } :: _) _ _); refine aB rfl 28 _ rfl _ _ rfl RL.out ?_; clear RL)
      | ((with_reducible show wpList _ _ _ ({ dst := _, op := Op.store 28 _ _, type := _, pos := _, after := _, guard := none } :: _) _ _); refine aD rfl 28 _ _ rfl _ _ _ rfl rfl RS.out ?_; clear RS)
      | ((with_reducible show wpList _ _ _ ({ dst := _, op := Op.load 25 _, type := _, pos := _, after := _, guard := some _ } :: _) _ _); refine aF 25 _ rfl _ _ rfl RR.out (by go_simp) ?_)
      | ((with_reducible show wpList _ _ _ ({ dst := _, op := Op.load 30 _, type := _, pos := _, after := _, guard := some _ } :: _) _ _); refine aF 30 _ rfl _ _ rfl RH.out (by go_simp) ?_)
      | ((with_reducible show wpList _ _ _ ({ dst := _, op := Op.load 42 _, type := _, pos := _, after := _, guard := some _ } :: _) _ _); refine aF 42 _ rfl _ _ rfl RC.out (by go_simp) ?_)
      | (go_at_call 26; refine (HO _).mono ?_; rintro e w4 ⟨rfl, hb⟩; have HB4 : Hid (Below W.heap.size W w4 ∧ Below w2.heap.size w2 w4) := ⟨aG HB3.out.1 hb, aG HB3.out.2 hb⟩; clear hb))
     go_roundw
     case rel => exact ⟨k + 1, by omega, by go_num, HH2, HB4.out.1, HB4.out.2⟩
     case measure => simp [intOf]; omega
    ·have HH2 := f1 rfl
     clear f1 f2
     go_wp2_with (first
      | ((with_reducible show wpList _ _ _ ({ dst := _, op := Op.load 28 _, type := _, pos := _, after := _, guard := none } :: _) _ _); refine aB rfl 28 _ rfl _ _ rfl RL.out ?_; clear RL)
      | ((with_reducible show wpList _ _ _ ({ dst := _, op := Op.store 28 _ _, type := _, pos := _, after := _, guard := none } :: _) _ _); refine aD rfl 28 _ _ rfl _ _ _ rfl rfl RS.out ?_; clear RS)
      | ((with_reducible show wpList _ _ _ ({ dst := _, op := Op.load 25 _, type := _, pos := _, after := _, guard := some _ } :: _) _ _); refine aF 25 _ rfl _ _ rfl RR.out (by go_simp) ?_)
      | ((with_reducible show wpList _ _ _ ({ dst := _, op := Op.load 30 _, type := _, pos := _, after := _, guard := some _ } :: _) _ _); refine aF 30 _ rfl _ _ rfl RH.out (by go_simp) ?_)
      | ((with_reducible show wpList _ _ _ ({ dst := _, op := Op.load 42 _, type := _, pos := _, after := _, guard := some _ } :: _) _ _); refine aF 42 _ rfl _ _ rfl RC.out (by go_simp) ?_)
      | (go_at_call 26; refine (HO _).mono ?_; rintro e w4 ⟨rfl, hb⟩; have HB4 : Hid (Below W.heap.size W w4 ∧ Below w2.heap.size w2 w4) := ⟨aG HB3.out.1 hb, aG HB3.out.2 hb⟩; clear hb))
     go_ret
     exact ⟨by rw [HH2.out]; first | done | rfl, aG aIh.out HB4.out.1⟩
   by_cases k3 : kk = 3
   ·have hkd : kd kk = true := by rw [k3]; rfl
    obtain ⟨f1, f2⟩ := aGv hkd ob rfl
    subst k3
    clear hkd aGv HT HFx k2
    cases ob
    ·have HH2 := f2 rfl
     clear f1 f2
     go_wp2_with (first
      | ((with_reducible show wpList _ _ _ ({ dst := _, op := Op.load 28 _, type := _, pos := _, after := _, guard := none } :: _) _ _); refine aB rfl 28 _ rfl _ _ rfl RL.out ?_; clear RL)
      | ((with_reducible show wpList _ _ _ ({ dst := _, op := Op.store 28 _ _, type := _, pos := _, after := _, guard := none } :: _) _ _); refine aD rfl 28 _ _ rfl _ _ _ rfl rfl RS.out ?_; clear RS)
      | ((with_reducible show wpList _ _ _ ({ dst := _, op := Op.load 25 _, type := _, pos := _, after := _, guard := some _ } :: _) _ _); refine aF 25 _ rfl _ _ rfl RR.out (by go_simp) ?_)
      | ((with_reducible show wpList _ _ _ ({ dst := _, op := Op.load 30 _, type := _, pos := _, after := _, guard := some _ } :: _) _ _); refine aF 30 _ rfl _ _ rfl RH.out (by go_simp) ?_)
      | ((with_reducible show wpList _ _ _ ({ dst := _, op := Op.load 42 _, type := _, pos := _, after := _, guard := some _ } :: _) _ _); refine aF 42 _ rfl _ _ rfl RC.out (by go_simp) ?_)
      | (go_at_call 26; refine (HO _).mono ?_; rintro e w4 ⟨rfl, hb⟩; have HB4 : Hid (Below W.heap.size W w4 ∧ Below w2.heap.size w2 w4) := ⟨aG HB3.out.1 hb, aG HB3.out.2 hb⟩; clear hb))
     go_roundw
     case rel => exact ⟨k + 1, by omega, by go_num, HH2, HB4.out.1, HB4.out.2⟩
     case measure => simp [intOf]; omega
    ·have HH2 := f1 rfl
     clear f1 f2
     go_wp2_with (first
      | ((with_reducible show wpList _ _ _ ({ dst := _, op := Op.load 28 _, type := _, pos := _, after := _, guard := none } :: _) _ _); refine aB rfl 28 _ rfl _ _ rfl RL.out ?_; clear RL)
      | ((with_reducible show wpList _ _ _ ({ dst := _, op := Op.store 28 _ _, type := _, pos := _, after := _, guard := none } :: _) _ _); refine aD rfl 28 _ _ rfl _ _ _ rfl rfl RS.out ?_; clear RS)
      | ((with_reducible show wpList _ _ _ ({ dst := _, op := Op.load 25 _, type := _, pos := _, after := _, guard := some _ } :: _) _ _); refine aF 25 _ rfl _ _ rfl RR.out (by go_simp) ?_)
      | ((with_reducible show wpList _ _ _ ({ dst := _, op := Op.load 30 _, type := _, pos := _, after := _, guard := some _ } :: _) _ _); refine aF 30 _ rfl _ _ rfl RH.out (by go_simp) ?_)
      | ((with_reducible show wpList _ _ _ ({ dst := _, op := Op.load 42 _, type := _, pos := _, after := _, guard := some _ } :: _) _ _); refine aF 42 _ rfl _ _ rfl RC.out (by go_simp) ?_)
      | (go_at_call 26; refine (HO _).mono ?_; rintro e w4 ⟨rfl, hb⟩; have HB4 : Hid (Below W.heap.size W w4 ∧ Below w2.heap.size w2 w4) := ⟨aG HB3.out.1 hb, aG HB3.out.2 hb⟩; clear hb))
     go_ret
     exact ⟨by rw [HH2.out]; first | done | rfl, aG aIh.out HB4.out.1⟩
   ·have HH2 : Hid _ := HFx.out (by unfold kd; simp [k2, k3])
    have e2 : (kk == 2) = false := by simp [k2]
    have e3 : (kk == 3) = false := by simp [k3]
    clear aGv HT HFx k2 k3 HO RR RH RC
    go_wp2_with (first
      | ((with_reducible show wpList _ _ _ ({ dst := _, op := Op.load 28 _, type := _, pos := _, after := _, guard := none } :: _) _ _); refine aB rfl 28 _ rfl _ _ rfl RL.out ?_; clear RL)
      | ((with_reducible show wpList _ _ _ ({ dst := _, op := Op.store 28 _ _, type := _, pos := _, after := _, guard := none } :: _) _ _); refine aD rfl 28 _ _ rfl _ _ _ rfl rfl RS.out ?_; clear RS))
    go_roundw
    case rel => exact ⟨k + 1, by omega, by go_num, HH2, HB3.out.1, HB3.out.2⟩
    case measure => simp [intOf]; omega
  ·have hki : ¬ (k : Int) < nn := by omega
   have HE : Hid (P.any (fun x => nm C H x.1) = false) := by
    have hh := HH.out
    unfold aBH at hh
    have hl2 : P.length = nn := by rw [← HLp.out, List.length_map]; exact HLL.out
    rwa [List.take_of_length_le (by omega)] at hh
   have HBz : Hid (Below w.heap.size w wr) := aG aIh.out HBr.out.1
   go_wp2
   go_ret
   exact ⟨by rw [HE.out]; first | done | rfl, HBz.out⟩
abbrev C00 : Chg := ⟨⟨#[]⟩, ⟨#[]⟩, false, false, 0, 0, 0⟩
theorem aIi (u : World) (a n m : Int) : (Instr.build 40 #[(0, .int .i64 a), (1, .int .i64 n), (2, .int .i64 m)]).run Tryz.prog u = .ok (.agg #[.int .i64 a, .int .i64 n, .int .i64 m]) u := by kernel_rfl
theorem aCl (u : World) (C : Chg) : (Instr.build 42 #[(0, .string C.bk), (1, .string C.sh), (2, .bool C.dr), (3, .bool C.co), (4, .agg #[.int .i64 C.a, .int .i64 C.n, .int .i64 C.m])]).run Tryz.prog u = .ok (.agg (aW C)) u := by kernel_rfl
theorem aDV (C : Chg) (w : World) : Calls Tryz.prog 12 #[.agg (aW C)] w fun e w' => e = .returned (.agg (aW C)) ∧ Below w.heap.size w w' := by
 have h1 : ((w.alloc (.cells (aW C) 34)).alloc (.cells (aW C00) 42)).heap[w.heap.size]? = some (.cells (aW C) 34) := (Below.heap_alloc _ _ _ (by simp)).trans (heap_alloc_new w _)
 have h2 : ((w.alloc (.cells (aW C) 34)).alloc (.cells (aW C00) 42)).heap[w.heap.size + 1]? = some (.cells (aW C00) 42) := by
  have := heap_alloc_new (w.alloc (.cells (aW C) 34)) (.cells (aW C00) 42)
  rwa [World.size_alloc] at this
 have hc : ∀ j v, (aW C)[j]? = some v → ((w.alloc (.cells (aW C) 34)).alloc (.cells (aW C00) 42)).cell? ⟨w.heap.size, j, none⟩ = some v := fun j v hj => by rw [cell_of_row _ _ j _ 34 _ h1]; exact hj
 have d0 := hc 0 _ rfl
 have d1 := hc 1 _ rfl
 have d2 := hc 2 _ rfl
 have d3 := hc 3 _ rfl
 have d4 := hc 4 _ rfl
 have d5 := hc 5 _ rfl
 have d6 := hc 6 _ rfl
 have RB1 : Hid _ := aIi ((w.alloc (.cells (aW C) 34)).alloc (.cells (aW C00) 42)) C.a C.n C.m
 have RB2 : Hid _ := aCl ((w.alloc (.cells (aW C) 34)).alloc (.cells (aW C00) 42)) C
 have RS : Hid ((Instr.storeAt 42 (.pointer (some ⟨w.heap.size + 1, 0, none⟩)) (.agg (aW C))).run Tryz.prog ((w.alloc (.cells (aW C) 34)).alloc (.cells (aW C00) 42)) = .ok () (((w.alloc (.cells (aW C) 34)).alloc (.cells (aW C00) 42)).setRow (w.heap.size + 1) (aW C))) := sto h2 (by kernel_rfl) rfl (by simp [Value.oneCell'])
 have HR : Hid _ := setRow_heap _ _ _ (aW C) _ _ h2
 have HB0 : Below w.heap.size w ((w.alloc (.cells (aW C) 34)).alloc (.cells (aW C00) 42)) := aA (aA (Below.refl _ _) _) _
 have HB : Hid (Below w.heap.size w (((w.alloc (.cells (aW C) 34)).alloc (.cells (aW C00) 42)).setRow (w.heap.size + 1) (aW C))) := HB0.grown (aC _ _ _) HB0.size (fun g e => by cases e; omega)
 clear h1 h2 hc HB0
 go_enter Tryz.func12, Tryz.ntmps12
 go_wp2_with (first
  | ((with_reducible show wpList _ _ _ ({ dst := _, op := Op.build 40 _, type := _, pos := _, after := _, guard := none } :: _) _ _); refine aX rfl 40 _ rfl _ _ rfl RB1.out ?_; clear RB1)
  | ((with_reducible show wpList _ _ _ ({ dst := _, op := Op.build 42 _, type := _, pos := _, after := _, guard := none } :: _) _ _); refine aX rfl 42 _ rfl _ _ rfl RB2.out ?_; clear RB2)
  | ((with_reducible show wpList _ _ _ ({ dst := _, op := Op.store 42 _ _, type := _, pos := _, after := _, guard := none } :: _) _ _); refine aD rfl 42 _ _ rfl _ _ _ rfl rfl RS.out ?_; clear RS))
 exact bodyPost_ret (results_cell_row rfl _ _ (w.heap.size + 1) 42 _ (0, 0) _ rfl HR.out Tryz.underlying42 rfl (by kernel_rfl)) rfl ⟨rfl, HB.out⟩
theorem kI {u : World} {g : Nat} {C : Chg} (h : u.heap[g]? = some (.cells (aW C) 42)) : (Instr.loadAt 42 (.pointer (some ⟨g, 0, none⟩))).run Tryz.prog u = .ok (.agg (aW C)) u :=
 lod h rfl Tryz.underlying42 (by kernel_rfl)
structure RB (w : World) (t : T) (sl : Value) (H : Hm) (C : Chg) (u : World) : Prop where
 b0 : u.heap[w.heap.size]? = some (.cells (lcs t.1 sl) 28)
 b1 : u.heap[w.heap.size + 1]? = some (bF H.hb H.hs H.hr H.hc)
 b2 : u.heap[w.heap.size + 2]? = some (.cells (aW C) 42)
 b3 : u.heap[w.heap.size + 3]? = some (.cells nd0 28)
 bel : Below w.heap.size w u
abbrev rbW (w : World) (t : T) (sl : Value) (H : Hm) (C : Chg) : World := (((w.alloc (.cells (lcs t.1 sl) 28)).alloc (bF H.hb H.hs H.hr H.hc)).alloc (.cells (aW C) 42)).alloc (.cells nd0 28)
theorem RB.new (w : World) (t : T) (sl : Value) (H : Hm) (C : Chg) : RB w t sl H C (rbW w t sl H C) := by
 have hu := Below.refl (rbW w t sl H C).heap.size (rbW w t sl H C)
 have q3 := new1 hu
 have q2 := new1 (aR hu)
 have q1 := new1 (aR (aR hu))
 have q0 := new1 (aR (aR (aR hu)))
 simp only [World.size_alloc] at q0 q1 q2 q3
 exact ⟨q0, q1, q2, q3, aA (aA (aA (aA (Below.refl _ _) _) _) _) _⟩
theorem RB.step {w : World} {t : T} {sl : Value} {H : Hm} {C : Chg} {u v : World} (h : RB w t sl H C u) (hb : Below u.heap.size u v) : RB w t sl H C v :=
 ⟨(hb.block _ (aS h.b0)).trans h.b0, (hb.block _ (aS h.b1)).trans h.b1, (hb.block _ (aS h.b2)).trans h.b2, (hb.block _ (aS h.b3)).trans h.b3, aG h.bel hb⟩
theorem RB.k {w : World} {t : T} {sl : Value} {H : Hm} {C : Chg} {u : World} (h : RB w t sl H C u) : u.cell? ⟨w.heap.size, 0, none⟩ = some (.int .i64 t.1.k) := (aN h.b0).1
theorem RB.ref {w : World} {t : T} {sl : Value} {H : Hm} {C : Chg} {u : World} (h : RB w t sl H C u) : (Instr.loadAt 25 (.pointer (some ⟨w.heap.size, 5, none⟩))).run Tryz.prog u = .ok (rfV (top t.1)) u := (aN h.b0).2.2.2.1
theorem RB.to {w : World} {t : T} {sl : Value} {H : Hm} {C : Chg} {u : World} (h : RB w t sl H C u) : (Instr.loadAt 25 (.pointer (some ⟨w.heap.size, 11, none⟩))).run Tryz.prog u = .ok (rfV (tof t.1)) u := (aN h.b0).2.2.2.2
abbrev LR5 (u : World) (g : Nat) (x : Rf) : Prop := (Instr.loadAt 25 (.pointer (some ⟨g, 5, none⟩))).run Tryz.prog u = .ok (rfV x) u
abbrev aAu (u : World) (g : Nat) (x : Rf) : Prop := (Instr.loadAt 25 (.pointer (some ⟨g, 11, none⟩))).run Tryz.prog u = .ok (rfV x) u
abbrev RB' (w : World) (t : T) (sl : Value) (u : World) : Prop := u.heap[w.heap.size]? = some (.cells (lcs t.1 sl) 28)
theorem aIj {w : World} (a : Lab) : NT w (lcs a (.slice none 0 0)) (tree a []) := (NK.leaf (K := fun _ => True) (w := w) (a := a)).nt
theorem RB.fin {w : World} {t : T} {sl : Value} {H : Hm} {C : Chg} {u : World} (h : RB w t sl H C u) (a : Lab) : Hid ((Instr.storeAt 28 (.pointer (some ⟨w.heap.size + 3, 0, none⟩)) (.agg (lcs a (.slice none 0 0)))).run Tryz.prog u = .ok () (u.setRow (w.heap.size + 3) (lcs a (.slice none 0 0)))) ∧ Hid ((u.setRow (w.heap.size + 3) (lcs a (.slice none 0 0))).heap[w.heap.size + 3]? = some (.cells (lcs a (.slice none 0 0)) 28)) ∧ Hid (Below w.heap.size w (u.setRow (w.heap.size + 3) (lcs a (.slice none 0 0)))) :=
 ⟨nN a h.b3, nO a h.b3, h.bel.grown (aC _ _ _) h.bel.size (fun g e => by cases e; omega)⟩
theorem aDW {C : Chg} {H : Hm} {t : T} (hk : t.1.k = 2) (hof : ofR C H (top t.1) = true) (w : World) (sl : Value) :
  Calls Tryz.prog 11 #[.agg (lcs t.1 sl), hmV H, .agg (aW C)] w fun e w' => e = .returned (.tuple #[.agg (lcs (rfL C (top t.1)) (.slice none 0 0)), .bool (chR C (top t.1))]) ∧ Below w.heap.size w w' := by
 have HX : Hid (RB w t sl H C (rbW w t sl H C)) := RB.new w t sl H C
 have hkc := HX.out.k
 rw [hk] at hkc
 have RR : Hid _ := HX.out.ref
 have RH : Hid _ := kF HX.out.b1
 have RC : Hid _ := kI HX.out.b2
 have HO := fun u => lC (top t.1) H C u
 rw [hof] at HO
 have HM := fun u => aHW (top t.1) C u
 have HG := fun u => kZ u
 unfold rfL chR
 have HBB := fun (u : World) (x : Rf) => aAi u x
 generalize mvX C (top t.1) = y at *
 generalize mvB C (top t.1) = b at *
 clear hof hk
 cases b
 ·simp only [Bool.false_eq_true, if_false]
  go_enter Tryz.func11, Tryz.ntmps11
  go_wp2_with (first
   | ((with_reducible show wpList _ _ _ ({ dst := _, op := Op.load 25 _, type := _, pos := _, after := _, guard := some _ } :: _) _ _); refine aF 25 _ rfl _ _ rfl RR.out (by go_simp) ?_)
   | ((with_reducible show wpList _ _ _ ({ dst := _, op := Op.load 30 _, type := _, pos := _, after := _, guard := some _ } :: _) _ _); refine aF 30 _ rfl _ _ rfl RH.out (by go_simp) ?_)
   | ((with_reducible show wpList _ _ _ ({ dst := _, op := Op.load 42 _, type := _, pos := _, after := _, guard := some _ } :: _) _ _); refine aF 42 _ rfl _ _ rfl RC.out (by go_simp) ?_)
   | (go_at_call 26; refine (HO _).mono ?_; clear HO; rintro e w2 ⟨rfl, hb⟩; have HX : Hid _ := RB.step HX.out hb; have RR : Hid _ := HX.out.ref; have RC : Hid _ := kI HX.out.b2; clear hb)
   | ((with_reducible show wpList _ _ _ ({ dst := _, op := Op.load 25 _, type := _, pos := _, after := _, guard := none } :: _) _ _); refine aB rfl 25 _ rfl _ _ rfl RR.out ?_)
   | ((with_reducible show wpList _ _ _ ({ dst := _, op := Op.load 42 _, type := _, pos := _, after := _, guard := none } :: _) _ _); refine aB rfl 42 _ rfl _ _ rfl RC.out ?_)
   | (go_at_call 27; refine (HM _).mono ?_; clear HM; rintro e w3 ⟨rfl, hb⟩; have HX : Hid _ := RB.step (RB.step HX.out hb) (aA (Below.refl _ _) (rfO y)); clear hb)
   | (go_at_call 28; refine (HG _).mono ?_; clear HG; rintro e w4 ⟨rfl, hb⟩; have HX : Hid _ := RB.step HX.out hb; obtain ⟨RS, HR, HZ⟩ := HX.out.fin gone; clear hb)
   | ((with_reducible show wpList _ _ _ ({ dst := _, op := Op.store 28 _ _, type := _, pos := _, after := _, guard := none } :: _) _ _); refine aD rfl 28 _ _ rfl _ _ _ rfl rfl RS.out ?_))
  exact bodyPost_ret (fA rfl rfl HR.out rfl) rfl ⟨rfl, HZ.out⟩
 ·simp only [if_true]
  go_enter Tryz.func11, Tryz.ntmps11
  go_upto_region 5 with (first
   | ((with_reducible show wpList _ _ _ ({ dst := _, op := Op.load 25 _, type := _, pos := _, after := _, guard := some _ } :: _) _ _); refine aF 25 _ rfl _ _ rfl RR.out (by go_simp) ?_)
   | ((with_reducible show wpList _ _ _ ({ dst := _, op := Op.load 30 _, type := _, pos := _, after := _, guard := some _ } :: _) _ _); refine aF 30 _ rfl _ _ rfl RH.out (by go_simp) ?_)
   | ((with_reducible show wpList _ _ _ ({ dst := _, op := Op.load 42 _, type := _, pos := _, after := _, guard := some _ } :: _) _ _); refine aF 42 _ rfl _ _ rfl RC.out (by go_simp) ?_)
   | (go_at_call 26; refine (HO _).mono ?_; clear HO; rintro e w2 ⟨rfl, hb⟩; have HX : Hid _ := RB.step HX.out hb; have RR : Hid _ := HX.out.ref; have RC : Hid _ := kI HX.out.b2; clear hb)
   | ((with_reducible show wpList _ _ _ ({ dst := _, op := Op.load 25 _, type := _, pos := _, after := _, guard := none } :: _) _ _); refine aB rfl 25 _ rfl _ _ rfl RR.out ?_)
   | ((with_reducible show wpList _ _ _ ({ dst := _, op := Op.load 42 _, type := _, pos := _, after := _, guard := none } :: _) _ _); refine aB rfl 42 _ rfl _ _ rfl RC.out ?_)
   | (go_at_call 27; refine (HM _).mono ?_; clear HM; rintro e w3 ⟨rfl, hb⟩; have HX : Hid _ := RB.step (RB.step HX.out hb) (aA (Below.refl _ _) (rfO y)); have HY : Hid _ := heap_alloc_new w3 (rfO y); clear hb))
  clear RR RH RC HG
  have RY : Hid _ := bX (x := y) HY.out
  have RBd : Hid _ := HBB (w3.alloc (rfO y)) y
  obtain ⟨n1, n2⟩ := kC (w3.alloc (rfO y)) (aIj (w := w3.alloc (rfO y)) (cK y))
  have RS1 : Hid _ := n1
  go_upto_region 6 with (first
   | ((with_reducible show wpList _ _ _ ({ dst := _, op := Op.load 25 _, type := _, pos := _, after := _, guard := none } :: _) _ _); refine aB rfl 25 _ rfl _ _ rfl RY.out ?_)
   | ((with_reducible show wpList _ _ _ ({ dst := _, op := Op.build 28 _, type := _, pos := _, after := _, guard := none } :: _) _ _); refine aX rfl 28 _ rfl _ _ rfl RBd.out ?_)
   | ((with_reducible show wpList _ _ _ ({ dst := _, op := Op.store 28 _ _, type := _, pos := _, after := _, guard := none } :: _) _ _); refine aD rfl 28 _ _ rfl _ _ _ rfl rfl RS1.out ?_))
  have HX2 := (HX.out.step (aA (Below.refl _ _) (.cells (lcs (cK y) (.slice none 0 0)) 28)))
  have HX3 : RB w t sl H C ((w3.alloc (rfO y)).alloc (.cells (lcs (cK y) (.slice none 0 0)) 28)).drew := ⟨HX2.b0, HX2.b1, HX2.b2, HX2.b3, HX2.bel.drew⟩
  obtain ⟨RS, HR, HZ⟩ := HX3.fin (cK y)
  have hy : ((w3.alloc (rfO y)).alloc (.cells (lcs (cK y) (.slice none 0 0)) 28)).drew.heap[w3.heap.size]? = some (rfO y) := (Below.heap_alloc _ _ _ (by simp)).trans HY.out
  have hl : ((w3.alloc (rfO y)).alloc (.cells (lcs (cK y) (.slice none 0 0)) 28)).drew.heap[w3.heap.size + 1]? = some (.cells (lcs (cK y) (.slice none 0 0)) 28) := by
   show ((w3.alloc (rfO y)).alloc (.cells (lcs (cK y) (.slice none 0 0)) 28)).heap[w3.heap.size + 1]? = _
   have := heap_alloc_new (w3.alloc (rfO y)) (.cells (lcs (cK y) (.slice none 0 0)) 28)
   rwa [World.size_alloc] at this
  have hlt : w.heap.size + 3 < w3.heap.size := by
   have := aS HX.out.b3
   have h3 : (w3.alloc (rfO y)).heap[w.heap.size + 3]? = some (.cells nd0 28) := HX.out.b3
   rcases Nat.lt_or_ge (w.heap.size + 3) w3.heap.size with h | h
   ·exact h
   ·have e : w.heap.size + 3 = w3.heap.size := by simp only [World.size_alloc] at this; omega
    rw [e, HY.out] at h3
    cases h3
  show Code.wp Tryz.prog _ _ _ ((w3.alloc (rfO y)).alloc (.cells (lcs (cK y) (.slice none 0 0)) 28))
  generalize (w3.alloc (rfO y)).alloc (.cells (lcs (cK y) (.slice none 0 0)) 28) = v0 at *
  have HS : Hid ((Instr.loadAt 28 (.pointer (some ⟨w3.heap.size + 1, 0, none⟩))).run Tryz.prog v0.drew = .ok (.agg (lcs (cK y) (.slice none 0 0))) v0.drew ∧ LD (v0.drew) w3.heap.size y ∧ LR5 (v0.drew) w.heap.size (top t.1)) := ⟨lod hl rfl Tryz.underlying28 (by rw [aV]; exact bS), bX hy, HX3.ref⟩
  have HX4 : RB' w t sl (v0.drew.setRow (w.heap.size + 3) (lcs (cK y) (.slice none 0 0))) := (setRow_other (v0.drew) _ _ _ (by omega)).trans HX3.b0
  have HS2 : Hid ((Instr.loadAt 28 (.pointer (some ⟨w3.heap.size + 1, 0, none⟩))).run Tryz.prog (v0.drew.setRow (w.heap.size + 3) (lcs (cK y) (.slice none 0 0))) = .ok (.agg (lcs (cK y) (.slice none 0 0))) (v0.drew.setRow (w.heap.size + 3) (lcs (cK y) (.slice none 0 0))) ∧ LD (v0.drew.setRow (w.heap.size + 3) (lcs (cK y) (.slice none 0 0))) w3.heap.size y ∧ LR5 (v0.drew.setRow (w.heap.size + 3) (lcs (cK y) (.slice none 0 0))) w.heap.size (top t.1)) :=
   ⟨lod ((setRow_other (v0.drew) _ _ _ (by omega)).trans hl) rfl Tryz.underlying28 (by rw [aV]; exact bS), bX ((setRow_other (v0.drew) _ _ _ (by omega)).trans hy), (aN HX4).2.2.2.1⟩
  clear HX HX2 HX3 HX4 hy hl hlt HY RY RBd n1 n2 RS1 HBB
  refine aQ (fun u => (Instr.loadAt 28 (.pointer (some ⟨w3.heap.size + 1, 0, none⟩))).run Tryz.prog u = .ok (.agg (lcs (cK y) (.slice none 0 0))) u ∧ LD u w3.heap.size y ∧ LR5 u w.heap.size (top t.1)) (fun j => false) (by kernel_rfl) ?_
  refine dwl 0 (.agg (lcs (cK y) (.slice none 0 0))) ?_ (hS := HS.out) (hy := (fun u hSu => aI rfl rfl hSu.1))
  refine dwl 1 (rfV y) ?_ (hS := HS.out) (hy := (fun u hSu => aI rfl rfl hSu.2.1))
  refine dwp 2 (.pointer (some ⟨w.heap.size, 5, none⟩)) ?_
  refine dwl 3 (rfV (top t.1)) ?_ (hS := HS.out) (hy := (fun u hSu => aI rfl rfl hSu.2.2))
  refine dwp 4 (.bool (!eqR y (top t.1))) ?_ (hy := (fun u => dV rfl rfl rfl))
  refine aH (i := 5) (by kernel_rfl) rfl ?_
  intro K' hK'
  rw [if_pos (by go_simp)]
  refine aJ none rfl 28 _ _ rfl _ _ rfl rfl RS.out (hK' _ _ (.inr fun _ => HS2.out) ?_)
  clear hK'
  try simp only [Act.put, List.setIfInBounds_toArray, List.set_cons_zero, List.set_cons_succ]
  refine dwp 6 (.bool (!eqR y (top t.1))) ?_
  refine aK (by kernel_rfl) ?_ _
  go_wp2
  exact bodyPost_ret (fA rfl rfl HR.out rfl) rfl ⟨rfl, HZ.out⟩
end Go.Proofs.YtljmklbbngpllaaGreatDoor.Rw
