/- RwFalls. -/
import Derived.Test.YtljmklbbngpllaaGreatDoorRwLawBk
set_option linter.unusedVariables false
set_option linter.unusedSimpArgs false
set_option maxHeartbeats 16000000
set_option maxRecDepth 100000
namespace Go.Proofs.YtljmklbbngpllaaGreatDoor.Rw
open Go.RowKit Go.Fm
def flL (co : Bool) (n m : Int) (l : Lab) : Bool := ((l.k == 2) && decide (m < (if co = true then l.c1 else l.r1) + n)) || ((l.k == 3) && ((decide (l.r2 < l.r1) || decide (l.c2 < l.c1)) || decide (m < (if co = true then l.c2 else l.r2) + n)))
def Bd (l : Lab) : Prop := l.k = 2 ∨ l.k = 3 → (-1000 ≤ l.r1 ∧ l.r1 ≤ 1000) ∧ (-1000 ≤ l.c1 ∧ l.c1 ≤ 1000) ∧ (-1000 ≤ l.r2 ∧ l.r2 ≤ 1000) ∧ (-1000 ≤ l.c2 ∧ l.c2 ≤ 1000)
theorem aAN {x : Int} (h1 : -100000 ≤ x) (h2 : x ≤ 100000) : IntKind.i64.wrap x = x := by simp [IntKind.wrap, IntKind.bits, IntKind.signed]; omega
theorem aJn {u : World} {g : Nat} {a : Lab} {sl : Value} {z : Nat × Nat} (h : u.heap[g]? = some (.cells (lcs a sl) 28 z)) : u.cell? ⟨g, 0, none⟩ = some (.int .i64 a.k) ∧ u.cell? ⟨g, 7, none⟩ = some (.int .i64 a.r1) ∧ u.cell? ⟨g, 8, none⟩ = some (.int .i64 a.c1) ∧ u.cell? ⟨g, 13, none⟩ = some (.int .i64 a.r2) ∧ u.cell? ⟨g, 14, none⟩ = some (.int .i64 a.c2) := by
 have hc : ∀ j v, (lcs a sl)[j]? = some v → u.cell? ⟨g, j, none⟩ = some v := fun j v hj => by rw [cell_of_row u g j _ 28 z h]; exact hj
 exact ⟨hc 0 _ rfl, hc 7 _ rfl, hc 8 _ rfl, hc 13 _ rfl, hc 14 _ rfl⟩
theorem aAO {base : Nat} {w : World} {a : Option Addr} {n c : Nat} {L : List (Array Value × T)} (h : fH base w (.slice a n c) L) (hL : ∀ x ∈ L, x.1.size = 18) {k : Nat} {x : Array Value × T} (hk : L[k]? = some x) : ∃ b, a = some b ∧ (Instr.loadAt 28 (.pointer (some (b.add (k * 18))))).run Tryz.prog w = .ok (.agg x.1) w := by
 rcases h.2 with ⟨e, h0⟩ | ⟨g, cap, cur, e, hg, hh, hle, hm, hc, ht⟩
 ·have := (List.getElem?_eq_some_iff.1 hk).1
  omega
 ·have hq : a = some ⟨g, 0, none⟩ := by cases e; rfl
  subst hq
  refine ⟨_, rfl, ?_⟩
  have hr := jY.of h hL
  have := hr.load hk (hL x (List.mem_of_getElem? hk))
  rw [Addr.add_mid, Nat.zero_add]
  exact this
theorem dS {B : Nat} {a w : World} (h : Below B a w) (n : Nat) : Below B a (w.drewN n) := h.trans ⟨rfl, rfl, rfl, Nat.le_refl _, fun _ _ => rfl⟩
def aCe (co : Bool) (n m : Int) (l : List T) (k : Nat) : Prop := (l.take k).any (fun x => flL co n m x.1) = false
theorem iF {co : Bool} {n m : Int} {l : List T} {k : Nat} {s : T} (h : aCe co n m l k) (hs : l[k]? = some s) (hf : flL co n m s.1 = false) : aCe co n m l (k + 1) := by
 unfold aCe at h ⊢
 rw [List.take_add_one, hs, List.any_append, h]
 simp [hf]
theorem kZ {co : Bool} {n m : Int} {l : List T} {k : Nat} {s : T} (hs : l[k]? = some s) (hf : flL co n m s.1 = true) : l.any (fun x => flL co n m x.1) = true := List.any_eq_true.2 ⟨s, List.mem_of_getElem? hs, hf⟩
theorem aAP {t : T} (hz : zT t ≤ 900) {w : World} {es : Array Value} (h : NT w es t) (a n m : Int) (hb : ∀ x ∈ dA t, Bd x.1) (hn1 : 1 ≤ n) (hn2 : n ≤ 1000) :
  Calls Tryz.prog 20 #[.agg es, Hs.shV a n m, .bool false] w fun e w' => e = .returned (.bool ((dA t).any (fun x => flL false n m x.1))) ∧ Below w.heap.size w w' := by
 obtain ⟨W, hW⟩ : ∃ W, W = (w.alloc (.cells es 28)).alloc (Hs.shO a n m 32) := ⟨_, rfl⟩
 have HB0 : Below w.heap.size w W := by rw [hW]; exact aC (aC (Below.refl _ _) _) _
 have hq1 : W.heap[w.heap.size + 1]? = some (Hs.shO a n m 32) := by rw [hW]; exact (new2 (Below.refl _ _)).2
 have RN : Hid ((Instr.loadAt 28 (.pointer (some ⟨w.heap.size, 0, none⟩))).run Tryz.prog W = .ok (.agg es) W) := (iA h).2 (by rw [hW]; exact (new2 (Below.refl _ _)).1)
 have CL := vQ t hz (fun i => i < w.heap.size) W es (h.nk.below HB0) (fun i hi => by have := HB0.size; omega)
 have HLn : Hid ((dA t).length ≤ 900) := by show _ ≤ _; rw [rW]; exact hz
 have HBd : Hid (∀ x ∈ dA t, Bd x.1) := hb
 have HSh : Hid (∀ u, Below W.heap.size W u → u.cell? ⟨w.heap.size + 1, 1, none⟩ = some (.int .i64 n) ∧ u.cell? ⟨w.heap.size + 1, 2, none⟩ = some (.int .i64 m)) := fun u hu => by
  have := Hs.jX ((hu.block _ (aW hq1)).trans hq1)
  exact ⟨this.2.1, this.2.2⟩
 have aG0 : Hid (Below w.heap.size w W) := HB0
 have HWe : Hid (W = (w.alloc (.cells es 28)).alloc (Hs.shO a n m 32)) := hW
 clear h hb hq1 HB0 hW
 generalize dA t = P at *
 go_enter Tryz.func20, Tryz.ntmps20
 go_upto_region 1 with fail
 rw [← HWe.out]
 go_wp2_with (first
  | ((with_reducible show wpList _ _ _ ({ dst := _, op := Op.load 28 _, type := _, pos := _, after := _, guard := none } :: _) _ _); refine aA rfl 28 _ rfl _ _ rfl RN.out ?_; clear RN)
  | (go_at_call 32; refine CL.mono ?_; clear CL; rintro e w2 ⟨v, L, rfl, hO, hL, hNK, hb2⟩; obtain ⟨va, vc, rfl⟩ := iM hO; have HO : Hid _ := hO; have HLp : Hid (L.map (·.2) = P) := hL; have HNK : Hid _ := hNK; have HW2 : Hid (Below W.heap.size W w2) := hb2; clear hO hL hNK hb2))
 have hlen : L.length ≤ 900 := by have := HLn.out; rw [← HLp.out, List.length_map] at this; exact this
 generalize hLn : L.length = nn
 have HLL : Hid (L.length = nn) := hLn
 rw [hLn] at hlen
 clear hLn
 go_loopw [14] (fun i wr => ∃ k : Nat, k ≤ nn ∧ i = .int .i64 (k : Nat) ∧ Hid (aCe false n m P k) ∧ Hid (Below W.heap.size W wr ∧ Below w2.heap.size w2 wr)) (fun i _ => nn - (intOf i).toNat)
 case atStart => exact ⟨0, Nat.zero_le _, rfl, rfl, HW2.out, Below.refl _ _⟩
 case round =>
  obtain ⟨k, hk, rfl, HH, HBr⟩ := hrel
  by_cases hlt : k < nn
  ·have hki : (k : Int) < nn := by omega
   obtain ⟨x, hx⟩ : ∃ x, L[k]? = some x := ⟨_, List.getElem?_eq_getElem (by have := HLL.out; omega)⟩
   have hxm := List.mem_of_getElem? hx
   have hn := (HNK.out x hxm).below HBr.out.2
   have hO2 : fH W.heap.size wr (.slice va L.length vc) L := iD HO.out (bD (row := none) HBr.out.2) (by cases (Value.slice va L.length vc).ownBlock <;> simp)
   obtain ⟨b, rfl, rl⟩ := aAO hO2 (fun y hy => (HNK.out y hy).size) hx
   have RL : Hid _ := rl
   have HS : Hid (P[k]? = some x.2) := by show _ = _; rw [← HLp.out, List.getElem?_map, hx]; rfl
   have hbd := HBd.out x.2 (List.mem_of_getElem? HS.out)
   obtain ⟨p', n', c', he, _⟩ := hn.nt
   have RS : Hid _ := (mY wr hn.nt).1
   have HB2 : Hid (Below w.heap.size w (wr.alloc (.cells x.1 28))) := aC (aJ aG0.out HBr.out.1) _
   have HB3 : Hid (Below W.heap.size W (wr.alloc (.cells x.1 28)) ∧ Below w2.heap.size w2 (wr.alloc (.cells x.1 28))) := ⟨aC HBr.out.1 _, aC HBr.out.2 _⟩
   obtain ⟨s1, s2⟩ := HSh.out _ HB3.out.1
   have hbx : (wr.alloc (.cells x.1 28)).heap[wr.heap.size]? = some (.cells (lcs x.2.1 (.slice p' n' c')) 28) := by rw [← he]; exact heap_alloc_new wr _
   obtain ⟨q0, q7, q8, q13, q14⟩ := aJn hbx
   obtain ⟨l, hl⟩ : ∃ l, x.2.1 = l := ⟨_, rfl⟩
   have HSl : Hid (x.2.1 = l) := hl
   rw [hl] at q0 q7 q8 q13 q14 hbd
   clear hxm hn hO2 rl hbx he hl
   generalize x.1 = bx at *
   by_cases k2 : l.k = 2
   ·have hB := hbd (.inl k2)
    have e2 : (l.k == 2) = true := by simp [k2]
    have e3 : (l.k == 3) = false := by simp [k2]
    have hw : IntKind.i64.wrap (l.r1 + n) = l.r1 + n := aAN (by omega) (by omega)
    clear hbd
    by_cases hf : m < l.r1 + n
    ·have hfd : decide (m < l.r1 + n) = true := by simp [hf]
     clear e3
     have hF : flL false n m l = true := by unfold flL; simp; omega
     have HH2 : Hid _ := kZ HS.out (by rw [HSl.out]; exact hF)
     clear hF
     go_upto_region 4 with (first
      | ((with_reducible show wpList _ _ _ ({ dst := _, op := Op.load 28 _, type := _, pos := _, after := _, guard := none } :: _) _ _); refine aA rfl 28 _ rfl _ _ rfl RL.out ?_; clear RL)
      | ((with_reducible show wpList _ _ _ ({ dst := _, op := Op.store 28 _ _, type := _, pos := _, after := _, guard := none } :: _) _ _); refine aB rfl 28 _ _ rfl _ _ _ rfl rfl RS.out ?_; clear RS))
     go_quiet ((fail))
     go_wp2
     go_ret
     exact ⟨by rw [HH2.out]; first | done | rfl, dS HB2.out _⟩
    ·have hfd : decide (m < l.r1 + n) = false := by simp; omega
     have hF : flL false n m l = false := by unfold flL; simp; omega
     have HH2 : Hid _ := iF HH.out HS.out (by rw [HSl.out]; exact hF)
     clear hF
     go_upto_region 4 with (first
      | ((with_reducible show wpList _ _ _ ({ dst := _, op := Op.load 28 _, type := _, pos := _, after := _, guard := none } :: _) _ _); refine aA rfl 28 _ rfl _ _ rfl RL.out ?_; clear RL)
      | ((with_reducible show wpList _ _ _ ({ dst := _, op := Op.store 28 _ _, type := _, pos := _, after := _, guard := none } :: _) _ _); refine aB rfl 28 _ _ rfl _ _ _ rfl rfl RS.out ?_; clear RS))
     go_quiet ((fail))
     go_wp2
     go_roundw
     case rel => exact ⟨k + 1, by omega, by go_num, HH2, dS HB3.out.1 _, dS HB3.out.2 _⟩
     case measure => simp [intOf]; omega
   ·by_cases k3 : l.k = 3
    ·have hB := hbd (.inr k3)
     have e2 : (l.k == 2) = false := by simp [k3]
     have e3 : (l.k == 3) = true := by simp [k3]
     have hw : IntKind.i64.wrap (l.r2 + n) = l.r2 + n := aAN (by omega) (by omega)
     clear hbd
     by_cases g1 : l.r2 < l.r1
     ·skip
      have hF : flL false n m l = true := by unfold flL; simp; omega
      have HH2 : Hid _ := kZ HS.out (by rw [HSl.out]; exact hF)
      clear hF
      go_upto_region 4 with (first
       | ((with_reducible show wpList _ _ _ ({ dst := _, op := Op.load 28 _, type := _, pos := _, after := _, guard := none } :: _) _ _); refine aA rfl 28 _ rfl _ _ rfl RL.out ?_; clear RL)
       | ((with_reducible show wpList _ _ _ ({ dst := _, op := Op.store 28 _ _, type := _, pos := _, after := _, guard := none } :: _) _ _); refine aB rfl 28 _ _ rfl _ _ _ rfl rfl RS.out ?_; clear RS))
      go_quiet ((fail))
      go_wp2
      go_ret
      exact ⟨by rw [HH2.out]; first | done | rfl, dS HB2.out _⟩
     by_cases g2 : l.c2 < l.c1
     ·skip
      have hF : flL false n m l = true := by unfold flL; simp; omega
      have HH2 : Hid _ := kZ HS.out (by rw [HSl.out]; exact hF)
      clear hF
      go_upto_region 4 with (first
       | ((with_reducible show wpList _ _ _ ({ dst := _, op := Op.load 28 _, type := _, pos := _, after := _, guard := none } :: _) _ _); refine aA rfl 28 _ rfl _ _ rfl RL.out ?_; clear RL)
       | ((with_reducible show wpList _ _ _ ({ dst := _, op := Op.store 28 _ _, type := _, pos := _, after := _, guard := none } :: _) _ _); refine aB rfl 28 _ _ rfl _ _ _ rfl rfl RS.out ?_; clear RS))
      go_quiet ((fail))
      go_wp2
      go_ret
      exact ⟨by rw [HH2.out]; first | done | rfl, dS HB2.out _⟩
     by_cases g3 : m < l.r2 + n
     ·skip
      have hF : flL false n m l = true := by unfold flL; simp; omega
      have HH2 : Hid _ := kZ HS.out (by rw [HSl.out]; exact hF)
      clear hF
      go_upto_region 4 with (first
       | ((with_reducible show wpList _ _ _ ({ dst := _, op := Op.load 28 _, type := _, pos := _, after := _, guard := none } :: _) _ _); refine aA rfl 28 _ rfl _ _ rfl RL.out ?_; clear RL)
       | ((with_reducible show wpList _ _ _ ({ dst := _, op := Op.store 28 _ _, type := _, pos := _, after := _, guard := none } :: _) _ _); refine aB rfl 28 _ _ rfl _ _ _ rfl rfl RS.out ?_; clear RS))
      go_quiet ((fail))
      go_wp2
      go_ret
      exact ⟨by rw [HH2.out]; first | done | rfl, dS HB2.out _⟩
     ·skip
      have hF : flL false n m l = false := by unfold flL; simp; omega
      have HH2 : Hid _ := iF HH.out HS.out (by rw [HSl.out]; exact hF)
      clear hF
      go_upto_region 4 with (first
       | ((with_reducible show wpList _ _ _ ({ dst := _, op := Op.load 28 _, type := _, pos := _, after := _, guard := none } :: _) _ _); refine aA rfl 28 _ rfl _ _ rfl RL.out ?_; clear RL)
       | ((with_reducible show wpList _ _ _ ({ dst := _, op := Op.store 28 _ _, type := _, pos := _, after := _, guard := none } :: _) _ _); refine aB rfl 28 _ _ rfl _ _ _ rfl rfl RS.out ?_; clear RS))
      go_quiet ((fail))
      go_wp2
      go_roundw
      case rel => exact ⟨k + 1, by omega, by go_num, HH2, dS HB3.out.1 _, dS HB3.out.2 _⟩
      case measure => simp [intOf]; omega
    ·have e2 : (l.k == 2) = false := by simp [k2]
     have e3 : (l.k == 3) = false := by simp [k3]
     clear hbd
     have hF : flL false n m l = false := by unfold flL; simp; omega
     have HH2 : Hid _ := iF HH.out HS.out (by rw [HSl.out]; exact hF)
     clear hF
     go_upto_region 4 with (first
      | ((with_reducible show wpList _ _ _ ({ dst := _, op := Op.load 28 _, type := _, pos := _, after := _, guard := none } :: _) _ _); refine aA rfl 28 _ rfl _ _ rfl RL.out ?_; clear RL)
      | ((with_reducible show wpList _ _ _ ({ dst := _, op := Op.store 28 _ _, type := _, pos := _, after := _, guard := none } :: _) _ _); refine aB rfl 28 _ _ rfl _ _ _ rfl rfl RS.out ?_; clear RS))
     go_quiet ((fail))
     go_wp2
     go_roundw
     case rel => exact ⟨k + 1, by omega, by go_num, HH2, dS HB3.out.1 _, dS HB3.out.2 _⟩
     case measure => simp [intOf]; omega
  ·have hki : ¬ (k : Int) < nn := by omega
   have HE : Hid (P.any (fun x => flL false n m x.1) = false) := by
    have hh := HH.out
    unfold aCe at hh
    have hl2 : P.length = nn := by rw [← HLp.out, List.length_map]; exact HLL.out
    rwa [List.take_of_length_le (by omega)] at hh
   have HBz : Hid (Below w.heap.size w wr) := aJ aG0.out HBr.out.1
   go_wp2
   go_ret
   exact ⟨by rw [HE.out]; first | done | rfl, HBz.out⟩
theorem aCf {t : T} (hz : zT t ≤ 900) {w : World} {es : Array Value} (h : NT w es t) (a n m : Int) (hb : ∀ x ∈ dA t, Bd x.1) (hn1 : 1 ≤ n) (hn2 : n ≤ 1000) :
  Calls Tryz.prog 20 #[.agg es, Hs.shV a n m, .bool true] w fun e w' => e = .returned (.bool ((dA t).any (fun x => flL true n m x.1))) ∧ Below w.heap.size w w' := by
 obtain ⟨W, hW⟩ : ∃ W, W = (w.alloc (.cells es 28)).alloc (Hs.shO a n m 32) := ⟨_, rfl⟩
 have HB0 : Below w.heap.size w W := by rw [hW]; exact aC (aC (Below.refl _ _) _) _
 have hq1 : W.heap[w.heap.size + 1]? = some (Hs.shO a n m 32) := by rw [hW]; exact (new2 (Below.refl _ _)).2
 have RN : Hid ((Instr.loadAt 28 (.pointer (some ⟨w.heap.size, 0, none⟩))).run Tryz.prog W = .ok (.agg es) W) := (iA h).2 (by rw [hW]; exact (new2 (Below.refl _ _)).1)
 have CL := vQ t hz (fun i => i < w.heap.size) W es (h.nk.below HB0) (fun i hi => by have := HB0.size; omega)
 have HLn : Hid ((dA t).length ≤ 900) := by show _ ≤ _; rw [rW]; exact hz
 have HBd : Hid (∀ x ∈ dA t, Bd x.1) := hb
 have HSh : Hid (∀ u, Below W.heap.size W u → u.cell? ⟨w.heap.size + 1, 1, none⟩ = some (.int .i64 n) ∧ u.cell? ⟨w.heap.size + 1, 2, none⟩ = some (.int .i64 m)) := fun u hu => by
  have := Hs.jX ((hu.block _ (aW hq1)).trans hq1)
  exact ⟨this.2.1, this.2.2⟩
 have aG0 : Hid (Below w.heap.size w W) := HB0
 have HWe : Hid (W = (w.alloc (.cells es 28)).alloc (Hs.shO a n m 32)) := hW
 clear h hb hq1 HB0 hW
 generalize dA t = P at *
 go_enter Tryz.func20, Tryz.ntmps20
 go_upto_region 1 with fail
 rw [← HWe.out]
 go_wp2_with (first
  | ((with_reducible show wpList _ _ _ ({ dst := _, op := Op.load 28 _, type := _, pos := _, after := _, guard := none } :: _) _ _); refine aA rfl 28 _ rfl _ _ rfl RN.out ?_; clear RN)
  | (go_at_call 32; refine CL.mono ?_; clear CL; rintro e w2 ⟨v, L, rfl, hO, hL, hNK, hb2⟩; obtain ⟨va, vc, rfl⟩ := iM hO; have HO : Hid _ := hO; have HLp : Hid (L.map (·.2) = P) := hL; have HNK : Hid _ := hNK; have HW2 : Hid (Below W.heap.size W w2) := hb2; clear hO hL hNK hb2))
 have hlen : L.length ≤ 900 := by have := HLn.out; rw [← HLp.out, List.length_map] at this; exact this
 generalize hLn : L.length = nn
 have HLL : Hid (L.length = nn) := hLn
 rw [hLn] at hlen
 clear hLn
 go_loopw [14] (fun i wr => ∃ k : Nat, k ≤ nn ∧ i = .int .i64 (k : Nat) ∧ Hid (aCe true n m P k) ∧ Hid (Below W.heap.size W wr ∧ Below w2.heap.size w2 wr)) (fun i _ => nn - (intOf i).toNat)
 case atStart => exact ⟨0, Nat.zero_le _, rfl, rfl, HW2.out, Below.refl _ _⟩
 case round =>
  obtain ⟨k, hk, rfl, HH, HBr⟩ := hrel
  by_cases hlt : k < nn
  ·have hki : (k : Int) < nn := by omega
   obtain ⟨x, hx⟩ : ∃ x, L[k]? = some x := ⟨_, List.getElem?_eq_getElem (by have := HLL.out; omega)⟩
   have hxm := List.mem_of_getElem? hx
   have hn := (HNK.out x hxm).below HBr.out.2
   have hO2 : fH W.heap.size wr (.slice va L.length vc) L := iD HO.out (bD (row := none) HBr.out.2) (by cases (Value.slice va L.length vc).ownBlock <;> simp)
   obtain ⟨b, rfl, rl⟩ := aAO hO2 (fun y hy => (HNK.out y hy).size) hx
   have RL : Hid _ := rl
   have HS : Hid (P[k]? = some x.2) := by show _ = _; rw [← HLp.out, List.getElem?_map, hx]; rfl
   have hbd := HBd.out x.2 (List.mem_of_getElem? HS.out)
   obtain ⟨p', n', c', he, _⟩ := hn.nt
   have RS : Hid _ := (mY wr hn.nt).1
   have HB2 : Hid (Below w.heap.size w (wr.alloc (.cells x.1 28))) := aC (aJ aG0.out HBr.out.1) _
   have HB3 : Hid (Below W.heap.size W (wr.alloc (.cells x.1 28)) ∧ Below w2.heap.size w2 (wr.alloc (.cells x.1 28))) := ⟨aC HBr.out.1 _, aC HBr.out.2 _⟩
   obtain ⟨s1, s2⟩ := HSh.out _ HB3.out.1
   have hbx : (wr.alloc (.cells x.1 28)).heap[wr.heap.size]? = some (.cells (lcs x.2.1 (.slice p' n' c')) 28) := by rw [← he]; exact heap_alloc_new wr _
   obtain ⟨q0, q7, q8, q13, q14⟩ := aJn hbx
   obtain ⟨l, hl⟩ : ∃ l, x.2.1 = l := ⟨_, rfl⟩
   have HSl : Hid (x.2.1 = l) := hl
   rw [hl] at q0 q7 q8 q13 q14 hbd
   clear hxm hn hO2 rl hbx he hl
   generalize x.1 = bx at *
   by_cases k2 : l.k = 2
   ·have hB := hbd (.inl k2)
    have e2 : (l.k == 2) = true := by simp [k2]
    have e3 : (l.k == 3) = false := by simp [k2]
    have hw : IntKind.i64.wrap (l.c1 + n) = l.c1 + n := aAN (by omega) (by omega)
    clear hbd
    by_cases hf : m < l.c1 + n
    ·have hfd : decide (m < l.c1 + n) = true := by simp [hf]
     clear e3
     have hF : flL true n m l = true := by unfold flL; simp; omega
     have HH2 : Hid _ := kZ HS.out (by rw [HSl.out]; exact hF)
     clear hF
     go_upto_region 4 with (first
      | ((with_reducible show wpList _ _ _ ({ dst := _, op := Op.load 28 _, type := _, pos := _, after := _, guard := none } :: _) _ _); refine aA rfl 28 _ rfl _ _ rfl RL.out ?_; clear RL)
      | ((with_reducible show wpList _ _ _ ({ dst := _, op := Op.store 28 _ _, type := _, pos := _, after := _, guard := none } :: _) _ _); refine aB rfl 28 _ _ rfl _ _ _ rfl rfl RS.out ?_; clear RS))
     go_quiet ((fail))
     go_upto_region 6 with fail
     go_quiet ((fail))
     go_wp2
     go_ret
     exact ⟨by rw [HH2.out]; first | done | rfl, dS HB2.out _⟩
    ·have hfd : decide (m < l.c1 + n) = false := by simp; omega
     have hF : flL true n m l = false := by unfold flL; simp; omega
     have HH2 : Hid _ := iF HH.out HS.out (by rw [HSl.out]; exact hF)
     clear hF
     go_upto_region 4 with (first
      | ((with_reducible show wpList _ _ _ ({ dst := _, op := Op.load 28 _, type := _, pos := _, after := _, guard := none } :: _) _ _); refine aA rfl 28 _ rfl _ _ rfl RL.out ?_; clear RL)
      | ((with_reducible show wpList _ _ _ ({ dst := _, op := Op.store 28 _ _, type := _, pos := _, after := _, guard := none } :: _) _ _); refine aB rfl 28 _ _ rfl _ _ _ rfl rfl RS.out ?_; clear RS))
     go_quiet ((fail))
     go_upto_region 6 with fail
     go_quiet ((fail))
     go_wp2
     go_roundw
     case rel => exact ⟨k + 1, by omega, by go_num, HH2, dS HB3.out.1 _, dS HB3.out.2 _⟩
     case measure => simp [intOf]; omega
   ·by_cases k3 : l.k = 3
    ·have hB := hbd (.inr k3)
     have e2 : (l.k == 2) = false := by simp [k3]
     have e3 : (l.k == 3) = true := by simp [k3]
     have hw : IntKind.i64.wrap (l.c2 + n) = l.c2 + n := aAN (by omega) (by omega)
     clear hbd
     by_cases g1 : l.r2 < l.r1
     ·skip
      have hF : flL true n m l = true := by unfold flL; simp; omega
      have HH2 : Hid _ := kZ HS.out (by rw [HSl.out]; exact hF)
      clear hF
      go_upto_region 4 with (first
       | ((with_reducible show wpList _ _ _ ({ dst := _, op := Op.load 28 _, type := _, pos := _, after := _, guard := none } :: _) _ _); refine aA rfl 28 _ rfl _ _ rfl RL.out ?_; clear RL)
       | ((with_reducible show wpList _ _ _ ({ dst := _, op := Op.store 28 _ _, type := _, pos := _, after := _, guard := none } :: _) _ _); refine aB rfl 28 _ _ rfl _ _ _ rfl rfl RS.out ?_; clear RS))
      go_quiet ((fail))
      go_upto_region 6 with fail
      go_quiet ((fail))
      go_wp2
      go_ret
      exact ⟨by rw [HH2.out]; first | done | rfl, dS HB2.out _⟩
     by_cases g2 : l.c2 < l.c1
     ·skip
      have hF : flL true n m l = true := by unfold flL; simp; omega
      have HH2 : Hid _ := kZ HS.out (by rw [HSl.out]; exact hF)
      clear hF
      go_upto_region 4 with (first
       | ((with_reducible show wpList _ _ _ ({ dst := _, op := Op.load 28 _, type := _, pos := _, after := _, guard := none } :: _) _ _); refine aA rfl 28 _ rfl _ _ rfl RL.out ?_; clear RL)
       | ((with_reducible show wpList _ _ _ ({ dst := _, op := Op.store 28 _ _, type := _, pos := _, after := _, guard := none } :: _) _ _); refine aB rfl 28 _ _ rfl _ _ _ rfl rfl RS.out ?_; clear RS))
      go_quiet ((fail))
      go_upto_region 6 with fail
      go_quiet ((fail))
      go_wp2
      go_ret
      exact ⟨by rw [HH2.out]; first | done | rfl, dS HB2.out _⟩
     by_cases g3 : m < l.c2 + n
     ·skip
      have hF : flL true n m l = true := by unfold flL; simp; omega
      have HH2 : Hid _ := kZ HS.out (by rw [HSl.out]; exact hF)
      clear hF
      go_upto_region 4 with (first
       | ((with_reducible show wpList _ _ _ ({ dst := _, op := Op.load 28 _, type := _, pos := _, after := _, guard := none } :: _) _ _); refine aA rfl 28 _ rfl _ _ rfl RL.out ?_; clear RL)
       | ((with_reducible show wpList _ _ _ ({ dst := _, op := Op.store 28 _ _, type := _, pos := _, after := _, guard := none } :: _) _ _); refine aB rfl 28 _ _ rfl _ _ _ rfl rfl RS.out ?_; clear RS))
      go_quiet ((fail))
      go_upto_region 6 with fail
      go_quiet ((fail))
      go_wp2
      go_ret
      exact ⟨by rw [HH2.out]; first | done | rfl, dS HB2.out _⟩
     ·skip
      have hF : flL true n m l = false := by unfold flL; simp; omega
      have HH2 : Hid _ := iF HH.out HS.out (by rw [HSl.out]; exact hF)
      clear hF
      go_upto_region 4 with (first
       | ((with_reducible show wpList _ _ _ ({ dst := _, op := Op.load 28 _, type := _, pos := _, after := _, guard := none } :: _) _ _); refine aA rfl 28 _ rfl _ _ rfl RL.out ?_; clear RL)
       | ((with_reducible show wpList _ _ _ ({ dst := _, op := Op.store 28 _ _, type := _, pos := _, after := _, guard := none } :: _) _ _); refine aB rfl 28 _ _ rfl _ _ _ rfl rfl RS.out ?_; clear RS))
      go_quiet ((fail))
      go_upto_region 6 with fail
      go_quiet ((fail))
      go_wp2
      go_roundw
      case rel => exact ⟨k + 1, by omega, by go_num, HH2, dS HB3.out.1 _, dS HB3.out.2 _⟩
      case measure => simp [intOf]; omega
    ·have e2 : (l.k == 2) = false := by simp [k2]
     have e3 : (l.k == 3) = false := by simp [k3]
     clear hbd
     have hF : flL true n m l = false := by unfold flL; simp; omega
     have HH2 : Hid _ := iF HH.out HS.out (by rw [HSl.out]; exact hF)
     clear hF
     go_upto_region 4 with (first
      | ((with_reducible show wpList _ _ _ ({ dst := _, op := Op.load 28 _, type := _, pos := _, after := _, guard := none } :: _) _ _); refine aA rfl 28 _ rfl _ _ rfl RL.out ?_; clear RL)
      | ((with_reducible show wpList _ _ _ ({ dst := _, op := Op.store 28 _ _, type := _, pos := _, after := _, guard := none } :: _) _ _); refine aB rfl 28 _ _ rfl _ _ _ rfl rfl RS.out ?_; clear RS))
     go_quiet ((fail))
     go_upto_region 6 with fail
     go_quiet ((fail))
     go_wp2
     go_roundw
     case rel => exact ⟨k + 1, by omega, by go_num, HH2, dS HB3.out.1 _, dS HB3.out.2 _⟩
     case measure => simp [intOf]; omega
  ·have hki : ¬ (k : Int) < nn := by omega
   have HE : Hid (P.any (fun x => flL true n m x.1) = false) := by
    have hh := HH.out
    unfold aCe at hh
    have hl2 : P.length = nn := by rw [← HLp.out, List.length_map]; exact HLL.out
    rwa [List.take_of_length_le (by omega)] at hh
   have HBz : Hid (Below w.heap.size w wr) := aJ aG0.out HBr.out.1
   go_wp2
   go_ret
   exact ⟨by rw [HE.out]; first | done | rfl, HBz.out⟩
end Go.Proofs.YtljmklbbngpllaaGreatDoor.Rw
