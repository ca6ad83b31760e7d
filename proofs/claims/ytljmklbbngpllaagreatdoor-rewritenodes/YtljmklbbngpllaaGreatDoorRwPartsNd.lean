/- RwFol, RwParts. -/
import Derived.Test.YtljmklbbngpllaaGreatDoorRwRef1Nd
set_option linter.unusedVariables false
set_option linter.unusedSimpArgs false
set_option maxHeartbeats 16000000
set_option maxRecDepth 100000
namespace Go.Proofs.YtljmklbbngpllaaGreatDoor.Rw
open Go.RowKit Go.Fm
theorem pJ (a n m : Int) (k : Nat) (w : World) : Calls Tryz.prog 43 #[Hs.shV a n m, .func (.func k) #[] #[]] w fun e w' => e = .returned (.tuple #[.func (.func 67) #[] #[.pointer (some ⟨w.heap.size, 0, none⟩), .pointer (some ⟨w.heap.size + 1, 0, none⟩)], .func (.func 68) #[] #[.pointer (some ⟨w.heap.size, 0, none⟩), .pointer (some ⟨w.heap.size + 1, 0, none⟩)]]) ∧ w' = (w.alloc (Hs.shO a n m 32)).alloc (.cells #[.func (.func k) #[] #[]] 88) := by
 go_enter Tryz.func43, Tryz.ntmps43
 go_wp2
 refine bodyPost_ret (v := .tuple #[.func (.func 67) #[] #[.pointer (some ⟨w.heap.size, 0, none⟩), .pointer (some ⟨w.heap.size + 1, 0, none⟩)], .func (.func 68) #[] #[.pointer (some ⟨w.heap.size, 0, none⟩), .pointer (some ⟨w.heap.size + 1, 0, none⟩)]]) (by simp [results, Tryz.results43, go_sem]) rfl ⟨rfl, rfl⟩
theorem aDC (u : World) (a b c d : ByteArray) (r l : Int) : (Instr.build 64 #[(0, .string a), (1, .string b), (2, xD c d r l)]).run Tryz.prog u = .ok (.agg (gN a b c d r l .nilFunc .nilFunc)) u := by kernel_rfl
theorem sJ (C : Chg) (H : Hm) (w : World) : Calls Tryz.prog 24 #[.agg (aW C), hmV H] w fun e w' => ∃ g, e = .returned (.agg (eP C H g)) ∧ mD w' g C ∧ Below w.heap.size w w' := by
 obtain ⟨bk, sh, dr, co, a, n, m⟩ := C
 obtain ⟨hb, hs, hr, hc⟩ := H
 have RB := fun u => aDC u bk sh hb hs hr hc
 cases dr
 ·cases co
  ·have HL := fun u => pJ a n m 45 u
   go_enter Tryz.func24, Tryz.ntmps24
   go_wp2_with (first
    | ((with_reducible show wpList _ _ _ ({ dst := _, op := Op.build 64 _, type := _, pos := _, after := _, guard := none } :: _) _ _); refine aX rfl 64 _ rfl _ _ rfl (RB _) ?_)
    | (go_at_call 43; refine (HL _).mono ?_; clear HL; rintro e w2 ⟨rfl, hw⟩; obtain rfl := hw.symm; clear hw))
   have hB := Below.refl ((((((w.alloc (.cells (aW ⟨bk, sh, false, false, a, n, m⟩) 34)).alloc (bF hb hs hr hc)).alloc (.cells (eP ⟨bk, sh, false, false, a, n, m⟩ ⟨hb, hs, hr, hc⟩ (w.heap.size + 4)) 64)).alloc (.cells (eP ⟨bk, sh, false, false, a, n, m⟩ ⟨hb, hs, hr, hc⟩ (w.heap.size + 4)) 64)).alloc (Hs.shO a n m 32)).alloc (.cells #[.func (.func 45) #[] #[]] 88)).heap.size ((((((w.alloc (.cells (aW ⟨bk, sh, false, false, a, n, m⟩) 34)).alloc (bF hb hs hr hc)).alloc (.cells (eP ⟨bk, sh, false, false, a, n, m⟩ ⟨hb, hs, hr, hc⟩ (w.heap.size + 4)) 64)).alloc (.cells (eP ⟨bk, sh, false, false, a, n, m⟩ ⟨hb, hs, hr, hc⟩ (w.heap.size + 4)) 64)).alloc (Hs.shO a n m 32)).alloc (.cells #[.func (.func 45) #[] #[]] 88))
   have h5 := new1 hB
   have h4 := new1 (aR hB)
   have h2 := new1 (aR (aR (aR hB)))
   simp only [World.size_alloc] at h5 h4 h2
   exact bodyPost_ret (results_cell_row rfl _ _ (w.heap.size + 2) 64 _ (0, 0) _ rfl h2 Tryz.underlying64 rfl (by kernel_rfl)) rfl ⟨w.heap.size + 4, rfl, .inr ⟨h4, h5⟩, aA (aA (aA (aA (aA (aA (Below.refl _ _) _) _) _) _) _) _⟩
  ·have HL := fun u => pJ a n m 44 u
   go_enter Tryz.func24, Tryz.ntmps24
   go_wp2_with (first
    | ((with_reducible show wpList _ _ _ ({ dst := _, op := Op.build 64 _, type := _, pos := _, after := _, guard := none } :: _) _ _); refine aX rfl 64 _ rfl _ _ rfl (RB _) ?_)
    | (go_at_call 43; refine (HL _).mono ?_; clear HL; rintro e w2 ⟨rfl, hw⟩; obtain rfl := hw.symm; clear hw))
   have hB := Below.refl ((((((w.alloc (.cells (aW ⟨bk, sh, false, true, a, n, m⟩) 34)).alloc (bF hb hs hr hc)).alloc (.cells (eP ⟨bk, sh, false, true, a, n, m⟩ ⟨hb, hs, hr, hc⟩ (w.heap.size + 4)) 64)).alloc (.cells (eP ⟨bk, sh, false, true, a, n, m⟩ ⟨hb, hs, hr, hc⟩ (w.heap.size + 4)) 64)).alloc (Hs.shO a n m 32)).alloc (.cells #[.func (.func 44) #[] #[]] 88)).heap.size ((((((w.alloc (.cells (aW ⟨bk, sh, false, true, a, n, m⟩) 34)).alloc (bF hb hs hr hc)).alloc (.cells (eP ⟨bk, sh, false, true, a, n, m⟩ ⟨hb, hs, hr, hc⟩ (w.heap.size + 4)) 64)).alloc (.cells (eP ⟨bk, sh, false, true, a, n, m⟩ ⟨hb, hs, hr, hc⟩ (w.heap.size + 4)) 64)).alloc (Hs.shO a n m 32)).alloc (.cells #[.func (.func 44) #[] #[]] 88))
   have h5 := new1 hB
   have h4 := new1 (aR hB)
   have h2 := new1 (aR (aR (aR hB)))
   simp only [World.size_alloc] at h5 h4 h2
   exact bodyPost_ret (results_cell_row rfl _ _ (w.heap.size + 2) 64 _ (0, 0) _ rfl h2 Tryz.underlying64 rfl (by kernel_rfl)) rfl ⟨w.heap.size + 4, rfl, .inr ⟨h4, h5⟩, aA (aA (aA (aA (aA (aA (Below.refl _ _) _) _) _) _) _) _⟩
 ·go_enter Tryz.func24, Tryz.ntmps24
  go_wp2_with (first
   | ((with_reducible show wpList _ _ _ ({ dst := _, op := Op.build 64 _, type := _, pos := _, after := _, guard := none } :: _) _ _); refine aX rfl 64 _ rfl _ _ rfl (RB _) ?_))
  have hB := Below.refl ((((w.alloc (.cells (aW ⟨bk, sh, true, co, a, n, m⟩) 34)).alloc (bF hb hs hr hc)).alloc (.cells (eP ⟨bk, sh, true, co, a, n, m⟩ ⟨hb, hs, hr, hc⟩ 0) 64)).alloc (.cells (eP ⟨bk, sh, true, co, a, n, m⟩ ⟨hb, hs, hr, hc⟩ 0) 64)).heap.size ((((w.alloc (.cells (aW ⟨bk, sh, true, co, a, n, m⟩) 34)).alloc (bF hb hs hr hc)).alloc (.cells (eP ⟨bk, sh, true, co, a, n, m⟩ ⟨hb, hs, hr, hc⟩ 0) 64)).alloc (.cells (eP ⟨bk, sh, true, co, a, n, m⟩ ⟨hb, hs, hr, hc⟩ 0) 64))
  have h2 := new1 (aR hB)
  simp only [World.size_alloc] at h2
  exact bodyPost_ret (results_cell_row rfl _ _ (w.heap.size + 2) 64 _ (0, 0) _ rfl h2 Tryz.underlying64 rfl (by kernel_rfl)) rfl ⟨0, rfl, .inl rfl, aA (aA (aA (aA (Below.refl _ _) _) _) _) _⟩
theorem aJg {u : World} {g : Nat} {fv : Array Value} (h : u.heap[g]? = some (.cells fv 64)) (hs : fv.size = 8) : (Instr.loadAt 64 (.pointer (some ⟨g, 0, none⟩))).run Tryz.prog u = .ok (.agg fv) u :=
 lod h rfl Tryz.underlying64 (by rw [hs]; kernel_rfl)
def aIx (C : Chg) (H : Hm) (g : Nat) (t : T) : Prop := ∀ (K : Nat → Prop) (w : World) (es : Array Value), NK K w es t → (∀ i, K i → i < w.heap.size) → mD w g C → Calls Tryz.prog 25 #[.agg (eP C H g), .agg es] w fun e w' => ∃ es', e = .returned (.tuple #[.agg es', .bool (rwB C H t)]) ∧ NK (fun i => w.heap.size ≤ i) w' es' (rwT C H t) ∧ Below w.heap.size w w'
def iK (C : Chg) (H : Hm) (t : T) (k : Nat) : Bool := ((kids t.2).take k).any (rwB C H)
theorem uY {C : Chg} {H : Hm} {t s : T} {k : Nat} (h : (kids t.2)[k]? = some s) : iK C H t (k + 1) = (iK C H t k || rwB C H s) := by
 unfold iK
 rw [List.take_add_one, h]
 simp
theorem aAj (C : Chg) (H : Hm) (t : T) (k : Nat) (h : k = (kids t.2).length) : iK C H t k = rwA C H t.2 := by
 unfold iK
 rw [h, List.take_length, aJc]
theorem kU {C : Chg} {H : Hm} {g : Nat} {t : T} (hz : zT t ≤ 900) (ih : ∀ s ∈ kids t.2, aIx C H g s) (K : Nat → Prop) (w : World) (es : Array Value) (h : NK K w es t) (hK : ∀ i, K i → i < w.heap.size) (hF : mD w g C) :
  Calls Tryz.prog 47 #[.agg (eP C H g), .agg es] w fun e w' => ∃ es', e = .returned (.tuple #[.agg es', .bool (rwA C H t.2)]) ∧ NK (fun i => w.heap.size ≤ i) w' es' (t.1, rwF C H t.2) ∧ Below w.heap.size w w' := by
 have hkl := jF t
 obtain ⟨p, n, c, rfl, hs⟩ := h
 have aAe : n ≤ 900 := by have := hs.1; omega
 have HKk : Hid (∀ s ∈ kids t.2, ∀ (K : Nat → Prop) (w : World) (es : Array Value), NK K w es s → (∀ i, K i → i < w.heap.size) → mD w g C → Calls Tryz.prog 25 #[.agg (eP C H g), .agg es] w fun e w' => ∃ es', e = .returned (.tuple #[.agg es', .bool (rwB C H s)]) ∧ NK (fun i => w.heap.size ≤ i) w' es' (rwT C H s) ∧ Below w.heap.size w w') := ih
 have HFS : (eP C H g).size = 8 := rfl
 have HFM : Hid (mD w g C) := hF
 generalize eP C H g = fv at *
 obtain ⟨w1, hw1⟩ : ∃ w1, w1 = w.alloc (.cells fv 64) := ⟨_, rfl⟩
 have hs1 : w1.heap.size = w.heap.size + 1 := by rw [hw1]; simp
 have aJh : Below w.heap.size w w1 := by rw [hw1]; exact aA (Below.refl _ _) _
 have hF1 : w1.heap[w.heap.size]? = some (.cells fv 64) := by rw [hw1]; exact heap_alloc_new w _
 have hK1 : ∀ i, K i → i < w1.heap.size := fun i hi => by have := hK i hi; omega
 have hs' : SK K w1 p n t.2 := (show SK K w p n t.2 from hs).grown (aZ (row := none) aJh) (fun g e => by cases e)
 have C0 := CP.clone (c := c) aAe hK1 hs'
 have H0 := heap_alloc_new w1 (.cells (lcs t.1 (.slice p n c)) 28)
 have c17 := aY H0
 have R17 : Hid ((Instr.loadAt 26 (.pointer (some ⟨w1.heap.size, 17, none⟩))).run Tryz.prog ((w1.alloc (.cells (lcs t.1 (.slice p n c)) 28)).alloc (.cells nd0 28)) = .ok (.slice p n c) ((w1.alloc (.cells (lcs t.1 (.slice p n c)) 28)).alloc (.cells nd0 28))) := aFV (bM (aA (Below.refl _ _) _) c17)
 have HW1 : Hid (w1 = w.alloc (.cells fv 64)) := hw1
 have HNn : Hid (n = (kids t.2).length) := hs.1
 have HKK : Hid (∀ i, K i → i < w1.heap.size) := hK1
 have aJ6 : Hid (Below w.heap.size w w1) := aJh
 have HF1 : Hid (w1.heap[w.heap.size]? = some (.cells fv 64)) := hF1
 have HS1 : Hid (w1.heap.size = w.heap.size + 1) := hs1
 rw [hs1] at C0 R17
 rw [hw1] at R17
 clear ih hs hs' hK hz hkl c17 H0 hF hw1 aJh hF1 hK1 hs1
 generalize lcs t.1 (.slice p n c) = bx at C0 R17 ⊢
 go_enter Tryz.func47, Tryz.ntmps47
 go_wp2_with (first
  | ((with_reducible show wpList _ _ _ ({ dst := _, op := Op.load 26 _, type := _, pos := _, after := _, guard := none } :: _) _ _); refine aB rfl 26 _ rfl _ _ rfl R17.out ?_; clear R17)
  | (go_at_call 71; rw [← HW1.out]; refine C0.mono ?_; rintro e w2 ⟨q, cq, L0, rfl, c1, f1, HP0⟩; clear C0))
 clear c1 f1
 have HP0 : Hid (RP (rwT C H) K w1 t q n cq 0 _ L0) := RP.of HP0.out
 generalize w2.setCell ⟨w.heap.size + 1, 17, none⟩ (.slice q n cq) = u0 at *
 go_loopw [6, 18] (fun o i wr => ∃ (k : Nat) (L : List (Array Value × T)), k ≤ n ∧ i = .int .i64 (k : Nat) ∧ o = .bool (iK C H t k) ∧ Hid (RP (rwT C H) K w1 t q n cq k wr L)) (fun _ i _ => n - (intOf i).toNat)
 case atStart => exact ⟨0, L0, Nat.zero_le _, rfl, rfl, HP0⟩
 case round =>
  obtain ⟨k, L, hk, rfl, rfl, HP⟩ := hrel
  clear HP0
  by_cases hlt : k < n
  ·have hki : (k : Int) < n := by omega
   obtain ⟨a, x, HX, HQ, RL, hN⟩ : ∃ a x, Hid (L[k]? = some x) ∧ q = some a ∧ Hid ((Instr.loadAt 28 (.pointer (some (a.add (k * 18))))).run Tryz.prog wr = .ok (.agg x.1) wr) ∧ NK K wr x.1 x.2 := by
    rcases HP.out.row with h0 | ⟨g, rfl, hg, aLf, hr, hf, hxx⟩
    ·omega
    ·have hl : k < L.length := by rw [HP.out.len, ← HNn.out]; omega
     have hx := (hxx k _ (List.getElem?_eq_getElem hl)).2 (Nat.le_refl _)
     refine ⟨_, _, List.getElem?_eq_getElem hl, rfl, ?_, hx⟩
     have := hr.load (List.getElem?_eq_getElem hl) hx.size
     rw [Addr.add_mid, Nat.zero_add]
     exact this
   have HSi : Hid ((kids t.2)[k]? = some x.2) := HP.out.old k x HX.out (Nat.le_refl _)
   have HA : Hid (iK C H t (k + 1) = (iK C H t k || rwB C H x.2)) := uY HSi.out
   have HSm : Hid (x.2 ∈ kids t.2) := List.mem_of_getElem? HSi.out
   obtain ⟨b1, b2⟩ := kC wr hN.nt
   have RS : Hid _ := b1
   have HB2 : Below wr.heap.size wr (wr.alloc (.cells x.1 28)) := aA (Below.refl _ _) _
   have hww : Below w.heap.size w wr := aG aJ6.out (by have := HP.out.bel; exact this)
   have RF : Hid _ := aJg (u := wr.alloc (.cells x.1 28)) (((aA HP.out.bel (.cells x.1 28)).block _ (by rw [HS1.out]; omega)).trans HF1.out) HFS
   have RLx : Hid _ := b2 _ (heap_alloc_new wr _)
   have C31 := HKk.out x.2 HSm.out K (wr.alloc (.cells x.1 28)) x.1 (hN.below HB2) (fun i hi => by have := HKK.out i hi; have := HP.out.bel.size; simp; omega) (HFM.out.below (aG hww HB2))
   have CC : Calls Tryz.prog 25 #[.agg fv, .agg x.1] (wr.alloc (.cells x.1 28)) fun e w3 => ∃ es2 w5 L', e = .returned (.tuple #[.agg es2, .bool (rwB C H x.2)]) ∧ Hid ((Instr.storeAt 28 (.pointer (some ⟨w3.heap.size, 0, none⟩)) (.agg es2)).run Tryz.prog (w3.alloc (.cells nd0 28)) = .ok () (w3.alloc (.cells es2 28))) ∧ Hid ((Instr.loadAt 26 (.pointer (some ⟨w.heap.size + 1, 17, none⟩))).run Tryz.prog (w3.alloc (.cells es2 28)) = .ok (.slice q n cq) (w3.alloc (.cells es2 28))) ∧ Hid ((Instr.loadAt 28 (.pointer (some ⟨w3.heap.size, 0, none⟩))).run Tryz.prog (w3.alloc (.cells es2 28)) = .ok (.agg es2) (w3.alloc (.cells es2 28))) ∧ Hid ((Instr.storeAt 28 (.pointer (some (a.add (k * 18)))) (.agg es2)).run Tryz.prog (w3.alloc (.cells es2 28)) = .ok () w5) ∧ Hid (RP (rwT C H) K w1 t q n cq (k + 1) w5 L') := C31.mono (by
    rintro e w3 ⟨es2, rfl, hn2, hb3⟩
    have hB3 : Below wr.heap.size wr w3 := aG HB2 hb3
    have hB4 : Below wr.heap.size wr (w3.alloc (.cells es2 28)) := aA hB3 _
    have hg : ∃ g, q = some ⟨g, 0, none⟩ := by
     rcases HP.out.row with h0 | ⟨g, e, _⟩
     ·omega
     ·exact ⟨g, e⟩
    obtain ⟨g', hg⟩ := hg
    have ha : a = ⟨g', 0, none⟩ := by rw [HQ] at hg; exact Option.some.inj hg
    obtain ⟨n1, n2⟩ := kC w3 hn2.nt
    obtain ⟨r1, r2⟩ := RP.step HKK.out HP.out hg hlt HNn.out hB4 HX.out ((hn2.below (aA (Below.refl _ _) (.cells es2 28))).mono (fun i hi _ => Nat.le_trans HB2.size hi))
    refine ⟨es2, _, _, rfl, n1, ?_, n2 _ (heap_alloc_new w3 _), ?_, r2⟩
    ·show _ = _
     rw [← HS1.out]
     exact aFV (aY ((hB4.block _ (aS HP.out.box)).trans HP.out.box))
    ·show _ = _
     rw [ha, Addr.add_mid, Nat.zero_add]
     exact r1)
   clear C31 hN b1 b2 HP HX HSi HSm HB2 hww
   subst HQ
   have hAx := HA.out
   clear HA
   generalize hA1 : iK C H t (k + 1) = A1 at hAx
   have HA1 : Hid (iK C H t (k + 1) = A1) := hA1
   clear hA1
   generalize rwB C H x.2 = rb at *
   cases ho : iK C H t k
   all_goals
    rw [ho] at hAx
    go_wp2_with (first
     | ((with_reducible show wpList _ _ _ ({ dst := _, op := Op.load 28 _, type := _, pos := _, after := _, guard := none } :: _) _ _); refine aB rfl 28 _ rfl _ _ rfl RL.out ?_; clear RL)
     | ((with_reducible show wpList _ _ _ ({ dst := _, op := Op.store 28 _ _, type := _, pos := _, after := _, guard := none } :: _) _ _); refine aD rfl 28 _ _ rfl _ _ _ rfl rfl RS.out ?_; clear RS)
     | ((with_reducible show wpList _ _ _ ({ dst := _, op := Op.load 64 _, type := _, pos := _, after := _, guard := none } :: _) _ _); refine aB rfl 64 _ rfl _ _ rfl RF.out ?_; clear RF)
     | ((with_reducible show wpList _ _ _ ({ dst := _, op := Op.load 28 _, type := _, pos := _, after := _, guard := none } :: _) _ _); refine aB rfl 28 _ rfl _ _ rfl RLx.out ?_; clear RLx)
     | (go_at_call 25; refine CC.mono ?_; clear CC; rintro e w3 ⟨es2, w5, L', rfl, RS2, RL2, RL3, RS3, HP4⟩)
     | ((with_reducible show wpList _ _ _ ({ dst := _, op := Op.store 28 _ _, type := _, pos := _, after := _, guard := none } :: _) _ _); refine aD rfl 28 _ _ rfl _ _ _ rfl rfl RS2.out ?_; clear RS2)
     | ((with_reducible show wpList _ _ _ ({ dst := _, op := Op.load 26 _, type := _, pos := _, after := _, guard := none } :: _) _ _); refine aB rfl 26 _ rfl _ _ rfl RL2.out ?_; clear RL2)
     | ((with_reducible show wpList _ _ _ ({ dst := _, op := Op.load 28 _, type := _, pos := _, after := _, guard := none } :: _) _ _); refine aB rfl 28 _ rfl _ _ rfl RL3.out ?_; clear RL3)
     | ((with_reducible show wpList _ _ _ ({ dst := _, op := Op.store 28 _ _, type := _, pos := _, after := _, guard := none } :: _) _ _); refine aD rfl 28 _ _ rfl _ _ _ rfl rfl RS3.out ?_; clear RS3))
    go_roundw
    case rel => exact ⟨k + 1, L', by omega, by go_num, by rw [HA1.out, hAx]; first | rfl | simp, HP4⟩
    case measure => simp [intOf]; omega
  ·have hki : ¬ (k : Int) < n := by omega
   obtain rfl : k = n := by omega
   have hD := HP.out.done HNn.out (F2 := rwF C H t.2) (aCi C H t.2)
   have RLb : Hid _ := hD.lod HP.out.box
   have RSb : Hid _ := hD.sto (g := w1.heap.size + 1) HP.out.res rfl
   have HG : wr.grownBy (wr.setRow (w1.heap.size + 1) (lcs t.1 (.slice q k cq))) (some (w1.heap.size + 1)) := aC _ _ _
   have HD : Hid (NK (fun i => w.heap.size ≤ i) (wr.setRow (w1.heap.size + 1) (lcs t.1 (.slice q k cq))) (lcs t.1 (.slice q k cq)) (t.1, rwF C H t.2)) := (hD.grown HG (fun g e h => by cases e; omega)).mono (fun i h _ => by have := HS1.out; omega)
   have HB : Hid (Below w.heap.size w (wr.setRow (w1.heap.size + 1) (lcs t.1 (.slice q k cq)))) := aG aJ6.out (HP.out.bel.grown HG HP.out.bel.size (fun g e => by cases e; omega))
   have HR : Hid _ := setRow_heap wr (w1.heap.size + 1) nd0 (lcs t.1 (.slice q k cq)) 28 (0, 0) HP.out.res
   have HAl : Hid (iK C H t k = rwA C H t.2) := aAj C H t k HNn.out
   rw [HS1.out] at RLb RSb HR HD HB
   clear HG hD HP
   generalize iK C H t k = ob at *
   go_wp2_with (first
    | ((with_reducible show wpList _ _ _ ({ dst := _, op := Op.load 28 _, type := _, pos := _, after := _, guard := none } :: _) _ _); refine aB rfl 28 _ rfl _ _ rfl RLb.out ?_; clear RLb)
    | ((with_reducible show wpList _ _ _ ({ dst := _, op := Op.store 28 _ _, type := _, pos := _, after := _, guard := none } :: _) _ _); refine aD rfl 28 _ _ rfl _ _ _ rfl rfl RSb.out ?_; clear RSb))
   exact bodyPost_ret (fA rfl rfl HR.out rfl) rfl ⟨lcs t.1 (.slice q k cq), (by rw [← HAl.out]; first | done | rfl), HD.out, HB.out⟩
end Go.Proofs.YtljmklbbngpllaaGreatDoor.Rw
