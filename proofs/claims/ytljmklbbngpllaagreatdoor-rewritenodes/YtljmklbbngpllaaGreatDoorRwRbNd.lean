/- RwRb. -/
import Derived.Test.YtljmklbbngpllaaGreatDoorRwRaNd
set_option linter.unusedVariables false
set_option linter.unusedSimpArgs false
set_option maxHeartbeats 16000000
set_option maxRecDepth 100000
namespace Go.Proofs.YtljmklbbngpllaaGreatDoor.Rw
open Go.RowKit Go.Fm
theorem RB.grown {w : World} {t : T} {sl : Value} {H : Hm} {C : Chg} {u v : World} {row : Option Nat} (h : RB w t sl H C u) (hg : u.grownBy v row) (hr : ∀ g, row = some g → w.heap.size + 3 < g) : RB w t sl H C v :=
 ⟨(hg.block _ (aS h.b0) (fun e => by have := hr _ e.symm; omega)).trans h.b0, (hg.block _ (aS h.b1) (fun e => by have := hr _ e.symm; omega)).trans h.b1, (hg.block _ (aS h.b2) (fun e => by have := hr _ e.symm; omega)).trans h.b2, (hg.block _ (aS h.b3) (fun e => by have := hr _ e.symm; omega)).trans h.b3, h.bel.grown hg h.bel.size (fun g e => by have := hr _ e; omega)⟩
structure RS (w : World) (t : T) (sl : Value) (H : Hm) (C : Chg) (g : Nat) (v : Value) (L : List (Array Value × T)) (u : World) : Prop where
 b : RB w t sl H C u
 bx : u.heap[g]? = some (.cells (lcs t.1 v) 28)
 lt : w.heap.size + 3 < g
 own : eO (g + 1) u v L
 nk : ∀ x ∈ L, NK (fun i => g + 1 ≤ i ∧ v.ownBlock ≠ some i) u x.1 x.2
theorem RB.sto {w : World} {t : T} {p : Option Addr} {n c : Nat} {H : Hm} {C : Chg} {u : World} (h : RB w t (.slice p n c) H C u) : (Instr.storeAt 28 (.pointer (some ⟨u.heap.size, 0, none⟩)) (.agg (lcs t.1 (.slice p n c)))).run Tryz.prog (u.alloc (.cells nd0 28)) = .ok () (u.alloc (.cells (lcs t.1 (.slice p n c)) 28)) :=
 run_storeAt_new u 28 nd0 _ (by rw [aV]; exact bS) rfl (iC _ _ _ _)
theorem RS.new {w : World} {t : T} {p : Option Addr} {n c : Nat} {H : Hm} {C : Chg} {u : World} (h : RB w t (.slice p n c) H C u) :
  RS w t (.slice p n c) H C u.heap.size (.slice none 0 0) [] (u.alloc (.cells ((lcs t.1 (.slice p n c)).setIfInBounds 17 (.slice none 0 0)) 28)) := by
 have hl := aS h.b3
 have hx := heap_alloc_new u (.cells ((lcs t.1 (.slice p n c)).setIfInBounds 17 (.slice none 0 0)) 28)
 exact ⟨h.step (aA (Below.refl _ _) _), hx, hl, ⟨by simp, .inl ⟨rfl, rfl⟩⟩, fun x hx => by cases hx⟩
theorem RS.step {w : World} {t s : T} {sl : Value} {H : Hm} {C : Chg} {g : Nat} {v : Value} {L : List (Array Value × T)} {u w3 : World} (h : RS w t sl H C g v L u) (hb : Below u.heap.size u w3) {es2 : Array Value} (h1 : NK (fun i => u.heap.size ≤ i) w3 es2 s) (hL : L.length ≤ 900) :
  ∃ v' w6, Hid ((Instr.loadAt 26 (.pointer (some ⟨g, 17, none⟩))).run Tryz.prog (w3.alloc (.cells es2 28)) = .ok v (w3.alloc (.cells es2 28))) ∧
   Hid ((Instr.buildSlice 26 1 #[(0, .agg es2)]).run Tryz.prog (w3.alloc (.cells es2 28)) = .ok (.slice (some ⟨w3.heap.size + 1, 0, none⟩) 1 1) ((w3.alloc (.cells es2 28)).alloc (.cells es2 28))) ∧
   Hid ((Builtin.append_ #[26, 26] 26 #[v, .slice (some ⟨w3.heap.size + 1, 0, none⟩) 1 1]).run Tryz.prog ((w3.alloc (.cells es2 28)).alloc (.cells es2 28)) = .ok v' w6) ∧
   Hid ((Instr.storeAt 26 (.pointer (some ⟨g, 17, none⟩)) v').run Tryz.prog w6 = .ok () (w6.setCell ⟨g, 17, none⟩ v')) ∧
   Hid (RS w t sl H C g v' (L ++ [(es2, s)]) (w6.setCell ⟨g, 17, none⟩ v')) := by
 have hgu := aS h.bx
 have hz := hb.size
 have B4 : Below u.heap.size u (w3.alloc (.cells es2 28)) := aA hb _
 have B5 : Below u.heap.size u ((w3.alloc (.cells es2 28)).alloc (.cells es2 28)) := aA B4 _
 have hx4 : (w3.alloc (.cells es2 28)).heap[g]? = some (.cells (lcs t.1 v) 28) := (B4.block _ hgu).trans h.bx
 have hx5 : ((w3.alloc (.cells es2 28)).alloc (.cells es2 28)).heap[g]? = some (.cells (lcs t.1 v) 28) := (B5.block _ hgu).trans h.bx
 have hob : ∀ j, v.ownBlock = some j → g + 1 ≤ j ∧ j < u.heap.size := fun j hj => World.ownsRow.lt h.own j hj
 have o5 : eO (g + 1) ((w3.alloc (.cells es2 28)).alloc (.cells es2 28)) v L := fV h.own (aZ (row := none) B5) (by cases v.ownBlock <;> simp)
 have hn5 : ((w3.alloc (.cells es2 28)).alloc (.cells es2 28)).heap[w3.heap.size + 1]? = some (.cells es2 28) := by
  have := heap_alloc_new (w3.alloc (.cells es2 28)) (.cells es2 28)
  rwa [World.size_alloc] at this
 obtain ⟨v', w6, R, o6, g6, k6⟩ := zS (K' := fun _ => True) o5 h1 hn5 (by omega) (by simp; omega)
 obtain ⟨a', c', rfl⟩ := fU o6
 have hx6 : w6.heap[g]? = some (.cells (lcs t.1 v) 28) := (g6.block _ (by simp; omega) (fun e => by have := (hob _ e.symm).1; omega)).trans hx5
 have G7 := Lib.grownBy_setCell w6 g 17 (.slice a' (L ++ [(es2, s)]).length c')
 refine ⟨_, w6, aFV (aY hx4), ?_, R, aAh (aY hx6) (by unfold World.frozen?; rw [hx6]; rfl), ?_, aJ5 hx6, h.lt, fV o6 G7 ?_, fun x hx => ?_⟩
 ·obtain ⟨p, n, c, e, _⟩ := h1
  show _ = _
  rw [e]
  have := iO (w3.alloc (.cells (lcs s.1 (.slice p n c)) 28)) s.1 p n c
  rwa [World.size_alloc] at this
 ·exact ((h.b.step B5).grown g6 (fun j e => by have := (hob _ e).1; have := h.lt; omega)).grown G7 (fun j e => by cases e; exact h.lt)
 ·refine .inr fun e => ?_
  have := (World.ownsRow.lt o6 g e).1
  omega
 ·have base : NK (fun i => g + 1 ≤ i ∧ v.ownBlock ≠ some i ∧ i < ((w3.alloc (.cells es2 28)).alloc (.cells es2 28)).heap.size) ((w3.alloc (.cells es2 28)).alloc (.cells es2 28)) x.1 x.2 := by
   rcases List.mem_append.1 hx with hx | hx
   ·exact ((h.nk x hx).below B5).mono (fun i hi hl => ⟨hi.1, hi.2, hl⟩)
   ·simp only [List.mem_cons, List.not_mem_nil, or_false] at hx
    subst hx
    exact (h1.below (aA (aA (Below.refl _ _) _) _)).mono (fun i hi hl => ⟨by omega, fun e => by have := (hob i e).2; omega, hl⟩)
  refine ((base.grown g6 (fun j e hk => hk.2.1 e)).mono (fun i hi _ => ⟨hi.1, fun e => ?_⟩)).grown G7 (fun j e hk => by cases e; have := hk.1; omega)
  rcases k6 with k6 | k6
  ·exact hi.2.1 (by rw [← k6]; exact e)
  ·rw [k6] at e
   have := Option.some.inj e
   have := hi.2.2
   omega
theorem RS.done {w : World} {t : T} {sl : Value} {H : Hm} {C : Chg} {g : Nat} {v : Value} {L : List (Array Value × T)} {u : World} (h : RS w t sl H C g v L u) {F2 : F} (hF : L.map (·.2) = kids F2) : NK (fun i => g + 1 ≤ i) u (lcs t.1 v) (t.1, F2) := by
 obtain ⟨a, c, rfl⟩ := fU h.own
 have hk : ∀ x ∈ L, NK (fun i => g + 1 ≤ i) u x.1 x.2 := fun x hx => (h.nk x hx).mono (fun i hi _ => hi.1)
 refine ⟨a, L.length, c, rfl, by show _ = (kids F2).length; rw [← hF, List.length_map], ?_⟩
 have hc := fun j (hg : (Value.slice a L.length c).ownBlock = some j) => World.ownsRow.cells h.own hg
 have hl := fun j (hg : (Value.slice a L.length c).ownBlock = some j) => (World.ownsRow.lt h.own j hg).1
 rcases h.own.2 with ⟨e, h0⟩ | ⟨j, cap, cur, e, _⟩
 ·left
  have h2 : (kids F2).length = 0 := by rw [← hF, List.length_map]; exact h0
  show F2 = .nil
  cases F2 with
  | nil => rfl
  | node _ _ _ _ _ => simp [kids] at h2
 ·cases e
  refine .inr ⟨_, rfl, InK.gH (hl j rfl) F2 L 0 hF hk (fun i x hi => ?_)⟩
  have hadd : (⟨j, 0, none⟩ : Addr).add i = ⟨j, i, none⟩ := by unfold Addr.add; split <;> simp_all
  have := hc j rfl i x hi
  rw [hadd] at this
  rw [Nat.zero_add]; exact this
def aBK (C : Chg) (H : Hm) (t : T) : Prop := ∀ (K : Nat → Prop) (w : World) (es : Array Value), NK K w es t → (∀ i, K i → i < w.heap.size) → Calls Tryz.prog 11 #[.agg es, hmV H, .agg (aW C)] w fun e w' => ∃ es', e = .returned (.tuple #[.agg es', .bool (rwB C H t)]) ∧ NK (fun i => w.heap.size ≤ i) w' es' (rwT C H t) ∧ Below w.heap.size w w'
theorem aDZ {C : Chg} {H : Hm} {t s : T} {k : Nat} (h : (kids t.2)[k]? = some s) {L : List (Array Value × T)} {es : Array Value} (hL : L.map (·.2) = ((kids t.2).take k).map (rwT C H)) : (L ++ [(es, rwT C H s)]).map (·.2) = ((kids t.2).take (k + 1)).map (rwT C H) := by
 rw [List.take_add_one, h, List.map_append, hL]
 simp
def Way (C : Chg) (H : Hm) (t : T) : Prop := (t.1.k = 2 ∧ ofR C H (top t.1) = false) ∨ (t.1.k = 3 ∧ ofR C H (top t.1) = false) ∨ ((t.1.k == 2) = false ∧ (t.1.k == 3) = false)
theorem way {C : Chg} {H : Hm} {t : T} (h : nm C H t.1 = false) : Way C H t := by
 unfold nm kd at h
 by_cases h2 : t.1.k = 2
 ·exact .inl ⟨h2, by simpa [h2] using h⟩
 by_cases h3 : t.1.k = 3
 ·exact .inr (.inl ⟨h3, by simpa [h3] using h⟩)
 ·exact .inr (.inr ⟨by simp [h2], by simp [h3]⟩)
theorem aBL {C : Chg} {H : Hm} {t : T} (hz : zT t ≤ 900) (ih : ∀ s ∈ kids t.2, aBK C H s) (hn : nm C H t.1 = false) : aBK C H t := by
 intro K w es h hK
 have hkl := jF t
 have e1 : rwT C H t = (t.1, rwF C H t.2) := by unfold rwT; rw [hn]; rfl
 have e2 : rwB C H t = rwA C H t.2 := by unfold rwB; rw [hn]; rfl
 rw [e1, e2]
 have aLa := way hn
 have h0 := h
 obtain ⟨p, n, c, rfl, hs⟩ := h
 have aAe : n ≤ 900 := by have := hs.1; omega
 have HSK : Hid (SK K w p n t.2) := hs
 have HNn : Hid (n = (kids t.2).length) := hs.1
 have HKK : Hid (∀ i, K i → i < w.heap.size) := hK
 have HI : Hid (∀ s ∈ kids t.2, ∀ (K : Nat → Prop) (w : World) (es : Array Value), NK K w es s → (∀ i, K i → i < w.heap.size) → Calls Tryz.prog 11 #[.agg es, hmV H, .agg (aW C)] w fun e w' => ∃ es', e = .returned (.tuple #[.agg es', .bool (rwB C H s)]) ∧ NK (fun i => w.heap.size ≤ i) w' es' (rwT C H s) ∧ Below w.heap.size w w') := ih
 have HX : Hid (RB w t (.slice p n c) H C (rbW w t (.slice p n c) H C)) := RB.new w t _ H C
 have hkc := HX.out.k
 have RR : Hid _ := HX.out.ref
 have RH : Hid _ := kF HX.out.b1
 have RC : Hid _ := kI HX.out.b2
 have HO := fun u => lC (top t.1) H C u
 clear ih hz hkl hs hK hn e1 e2
 rcases aLa with ⟨hk, hof⟩ | ⟨hk, hof⟩ | ⟨hk2, hk3⟩
 all_goals
  first
   | (rw [hk] at hkc; rw [hof] at HO; have HKE : Hid _ := hk; clear hk hof)
   | skip
  go_enter Tryz.func11, Tryz.ntmps11
  go_upto_region 18 with (first
  | ((with_reducible show wpList _ _ _ ({ dst := _, op := Op.load 25 _, type := _, pos := _, after := _, guard := some _ } :: _) _ _); refine aF 25 _ rfl _ _ rfl RR.out (by go_simp) ?_)
  | ((with_reducible show wpList _ _ _ ({ dst := _, op := Op.load 30 _, type := _, pos := _, after := _, guard := some _ } :: _) _ _); refine aF 30 _ rfl _ _ rfl RH.out (by go_simp) ?_)
  | ((with_reducible show wpList _ _ _ ({ dst := _, op := Op.load 42 _, type := _, pos := _, after := _, guard := some _ } :: _) _ _); refine aF 42 _ rfl _ _ rfl RC.out (by go_simp) ?_)
  | (go_at_call 26; refine (HO _).mono ?_; clear HO; rintro e w1 ⟨rfl, hb⟩; have HX : Hid _ := RB.step HX.out hb; clear hkc; have hkc := HX.out.k; rw [HKE.out] at hkc; clear hb))
  clear hkc RR RH RC
  try clear HO HKE
  try clear hk2 hk3
  have RN : Hid _ := h0.lod HX.out.b0
  have RS0 : Hid _ := RB.sto HX.out
  have HS0 : Hid _ := RS.new HX.out
  try simp only [World.size_alloc] at RS0 HS0
  go_upto_region 21 with (first
   | ((with_reducible show wpList _ _ _ ({ dst := _, op := Op.load 28 _, type := _, pos := _, after := _, guard := none } :: _) _ _); refine aB rfl 28 _ rfl _ _ rfl RN.out ?_; clear RN)
   | ((with_reducible show wpList _ _ _ ({ dst := _, op := Op.store 28 _ _, type := _, pos := _, after := _, guard := none } :: _) _ _); refine aD rfl 28 _ _ rfl _ _ _ rfl rfl RS0.out ?_; clear RS0))
  first
   | generalize w1.heap.size = g at *
   | generalize w.heap.size + 1 + 1 + 1 + 1 = g at *
  clear HX
  have R17 : Hid _ := aFV (aY HS0.out.b.b0)
  have HF0 : Hid (([] : List (Array Value × T)).map (·.2) = ((kids t.2).take 0).map (rwT C H)) := rfl
  go_wp2_with ((with_reducible show wpList _ _ _ ({ dst := _, op := Op.load 26 _, type := _, pos := _, after := _, guard := none } :: _) _ _); refine aB rfl 26 _ rfl _ _ rfl R17.out ?_; clear R17)
  go_loopw [15, 119] (fun o i wr => ∃ (k : Nat) (v : Value) (L : List (Array Value × T)), k ≤ n ∧ i = .int .i64 (k : Nat) ∧ o = .bool (iK C H t k) ∧ Hid (RS w t (.slice p n c) H C g v L wr) ∧ Hid (L.map (·.2) = ((kids t.2).take k).map (rwT C H))) (fun _ i _ => n - (intOf i).toNat)
  case atStart => exact ⟨0, _, [], Nat.zero_le _, rfl, rfl, HS0, HF0⟩
  case round =>
   obtain ⟨k, v, L, hk, rfl, rfl, HP, HL⟩ := hrel
   clear HS0 HF0
   by_cases hlt : k < n
   ·have hki : (k : Int) < n := by omega
    have hww := HP.out.b.bel
    obtain ⟨a', es, s, rfl, RL, hsi, hNK⟩ := (HSK.out.grown (aZ (row := none) hww) (fun g e => by cases e)).get k hlt
    have RLh : Hid _ := RL
    obtain ⟨b1, b2⟩ := kC wr hNK.nt
    have RS1 : Hid _ := b1
    have RL2 : Hid _ := b2 _ (heap_alloc_new wr _)
    have HSm := List.mem_of_getElem? hsi
    have HB2 : Below wr.heap.size wr (wr.alloc (.cells es 28)) := aA (Below.refl _ _) _
    have RH2 : Hid _ := kF (HP.out.b.step HB2).b1
    have RC2 : Hid _ := kI (HP.out.b.step HB2).b2
    have hlL : L.length ≤ 900 := by
     have := congrArg List.length HL.out
     rw [List.length_map, List.length_map, List.length_take] at this
     omega
    have hA : iK C H t (k + 1) = (iK C H t k || rwB C H s) := uY hsi
    have HM : Hid (∀ es2 : Array Value, (L ++ [(es2, rwT C H s)]).map (·.2) = ((kids t.2).take (k + 1)).map (rwT C H)) := fun es2 => aDZ hsi HL.out
    have C0 := HI.out s HSm K (wr.alloc (.cells es 28)) es (hNK.below HB2) (fun i hi => by have := HKK.out i hi; have := hww.size; simp; omega)
    have CC : Calls Tryz.prog 11 #[.agg es, hmV H, .agg (aW C)] (wr.alloc (.cells es 28)) fun e w3 => ∃ es2 v' w6, e = .returned (.tuple #[.agg es2, .bool (rwB C H s)]) ∧
      Hid ((Instr.storeAt 28 (.pointer (some ⟨w3.heap.size, 0, none⟩)) (.agg es2)).run Tryz.prog (w3.alloc (.cells nd0 28)) = .ok () (w3.alloc (.cells es2 28))) ∧
      Hid ((Instr.loadAt 28 (.pointer (some ⟨w3.heap.size, 0, none⟩))).run Tryz.prog (w3.alloc (.cells es2 28)) = .ok (.agg es2) (w3.alloc (.cells es2 28))) ∧
      Hid ((Instr.loadAt 26 (.pointer (some ⟨g, 17, none⟩))).run Tryz.prog (w3.alloc (.cells es2 28)) = .ok v (w3.alloc (.cells es2 28))) ∧
      Hid ((Instr.buildSlice 26 1 #[(0, .agg es2)]).run Tryz.prog (w3.alloc (.cells es2 28)) = .ok (.slice (some ⟨w3.heap.size + 1, 0, none⟩) 1 1) ((w3.alloc (.cells es2 28)).alloc (.cells es2 28))) ∧
      Hid ((Builtin.append_ #[26, 26] 26 #[v, .slice (some ⟨w3.heap.size + 1, 0, none⟩) 1 1]).run Tryz.prog ((w3.alloc (.cells es2 28)).alloc (.cells es2 28)) = .ok v' w6) ∧
      Hid ((Instr.storeAt 26 (.pointer (some ⟨g, 17, none⟩)) v').run Tryz.prog w6 = .ok () (w6.setCell ⟨g, 17, none⟩ v')) ∧
      Hid (RS w t (.slice (some a') n c) H C g v' (L ++ [(es2, rwT C H s)]) (w6.setCell ⟨g, 17, none⟩ v')) := C0.mono (by
     rintro e w3 ⟨es2, rfl, hn2, hb3⟩
     have hB3 : Below wr.heap.size wr w3 := aG HB2 hb3
     have hz2 := HB2.size
     obtain ⟨m1, m2⟩ := kC w3 hn2.nt
     obtain ⟨v', w6, r1, r2, r3, r4, r5⟩ := HP.out.step hB3 (hn2.mono (fun i hi _ => Nat.le_trans hz2 hi)) hlL
     exact ⟨es2, v', w6, rfl, m1, m2 _ (heap_alloc_new w3 _), r1, r2, r3, r4, r5⟩)
    clear C0 hNK b1 b2 HSm HB2 hlL hww HP HL RL hsi
    obtain ⟨A1, hA1⟩ : ∃ A1, A1 = iK C H t (k + 1) := ⟨_, rfl⟩
    have HA1 : Hid (A1 = iK C H t (k + 1)) := hA1
    rw [← hA1] at hA
    clear hA1
    generalize rwB C H s = rb at *
    cases ho : iK C H t k
    all_goals
     rw [ho] at hA
     go_wp2_with (first
    | ((with_reducible show wpList _ _ _ ({ dst := _, op := Op.load 28 _, type := _, pos := _, after := _, guard := none } :: _) _ _); refine aB rfl 28 _ rfl _ _ rfl RLh.out ?_; clear RLh)
    | ((with_reducible show wpList _ _ _ ({ dst := _, op := Op.store 28 _ _, type := _, pos := _, after := _, guard := none } :: _) _ _); refine aD rfl 28 _ _ rfl _ _ _ rfl rfl RS1.out ?_; clear RS1)
    | ((with_reducible show wpList _ _ _ ({ dst := _, op := Op.load 28 _, type := _, pos := _, after := _, guard := none } :: _) _ _); refine aB rfl 28 _ rfl _ _ rfl RL2.out ?_; clear RL2)
    | ((with_reducible show wpList _ _ _ ({ dst := _, op := Op.load 30 _, type := _, pos := _, after := _, guard := none } :: _) _ _); refine aB rfl 30 _ rfl _ _ rfl RH2.out ?_; clear RH2)
    | ((with_reducible show wpList _ _ _ ({ dst := _, op := Op.load 42 _, type := _, pos := _, after := _, guard := none } :: _) _ _); refine aB rfl 42 _ rfl _ _ rfl RC2.out ?_; clear RC2)
    | (go_at_call 11; refine CC.mono ?_; clear CC; rintro e w3 ⟨es2, v', w6, rfl, RS2, RL3, aKk, RB5, RA5, RS7, HS7⟩)
    | ((with_reducible show wpList _ _ _ ({ dst := _, op := Op.store 28 _ _, type := _, pos := _, after := _, guard := none } :: _) _ _); refine aD rfl 28 _ _ rfl _ _ _ rfl rfl RS2.out ?_; clear RS2)
    | ((with_reducible show wpList _ _ _ ({ dst := _, op := Op.load 26 _, type := _, pos := _, after := _, guard := none } :: _) _ _); refine aB rfl 26 _ rfl _ _ rfl aKk.out ?_; clear aKk)
    | ((with_reducible show wpList _ _ _ ({ dst := _, op := Op.load 28 _, type := _, pos := _, after := _, guard := none } :: _) _ _); refine aB rfl 28 _ rfl _ _ rfl RL3.out ?_; clear RL3)
    | (refine aT rfl 26 1 _ rfl _ _ _ (by go_simp) RB5.out ?_; clear RB5)
    | (at_builtin; refine wpList_append_run rfl _ _ 26 rfl _ _ _ _ rfl rfl RA5.out ?_; clear RA5)
    | ((with_reducible show wpList _ _ _ ({ dst := _, op := Op.store 26 _ _, type := _, pos := _, after := _, guard := none } :: _) _ _); refine aD rfl 26 _ _ rfl _ _ _ rfl rfl RS7.out ?_; clear RS7))
     go_roundw
     case rel => exact ⟨k + 1, _, L ++ [(es2, rwT C H s)], by omega, by go_num, by rw [← HA1.out, hA]; first | rfl | simp, HS7, HM.out es2⟩
     case measure => simp [intOf]; omega
   ·have hki : ¬ (k : Int) < n := by omega
    obtain rfl : k = n := by omega
    have hF : L.map (·.2) = kids (rwF C H t.2) := by rw [HL.out, HNn.out, List.take_length, aCi]
    have hD := HP.out.done hF
    have hlt := HP.out.lt
    have hbl := HP.out.b.bel
    have RLb : Hid _ := hD.lod HP.out.bx
    have RSb : Hid _ := hD.sto (g := w.heap.size + 3) HP.out.b.b3 rfl
    have HR : Hid _ := setRow_heap wr (w.heap.size + 3) nd0 (lcs t.1 v) 28 (0, 0) HP.out.b.b3
    have HG : wr.grownBy (wr.setRow (w.heap.size + 3) (lcs t.1 v)) (some (w.heap.size + 3)) := aC _ _ _
    have HD : Hid (NK (fun i => w.heap.size ≤ i) (wr.setRow (w.heap.size + 3) (lcs t.1 v)) (lcs t.1 v) (t.1, rwF C H t.2)) := (hD.grown HG (fun g e h => by cases e; omega)).mono (fun i h _ => by omega)
    have HB : Hid (Below w.heap.size w (wr.setRow (w.heap.size + 3) (lcs t.1 v))) := hbl.grown HG hbl.size (fun g e => by cases e; omega)
    have HAl : Hid (iK C H t k = rwA C H t.2) := aAj C H t k HNn.out
    clear HG hD HP hlt hbl hF HL
    generalize iK C H t k = ob at *
    go_wp2_with (first
     | ((with_reducible show wpList _ _ _ ({ dst := _, op := Op.load 28 _, type := _, pos := _, after := _, guard := none } :: _) _ _); refine aB rfl 28 _ rfl _ _ rfl RLb.out ?_; clear RLb)
     | ((with_reducible show wpList _ _ _ ({ dst := _, op := Op.store 28 _ _, type := _, pos := _, after := _, guard := none } :: _) _ _); refine aD rfl 28 _ _ rfl _ _ _ rfl rfl RSb.out ?_; clear RSb))
    exact bodyPost_ret (aF9 rfl rfl rfl HR.out rfl) rfl ⟨lcs t.1 v, (by rw [← HAl.out]; first | done | rfl), HD.out, HB.out⟩
theorem aD0 (C : Chg) (H : Hm) : ∀ t : T, zT t ≤ 900 → aBK C H t := by
 refine ind ?_
 intro t ih hz
 cases hn : nm C H t.1
 ·exact aBL hz (fun s hs => ih s hs (by have := iZ hs; omega)) hn
 ·intro K w es h hK
  obtain ⟨p, n, c, rfl, hs⟩ := h
  have e1 : rwT C H t = (rwL C t.1, .nil) := by unfold rwT; rw [hn]; rfl
  have e2 : rwB C H t = rwC C t.1 := by unfold rwB; rw [hn]; rfl
  rw [e1, e2]
  unfold nm kd at hn
  simp only [Bool.and_eq_true, Bool.or_eq_true, beq_iff_eq] at hn
  obtain ⟨hk | hk, hof⟩ := hn
  ·refine (aDW hk hof w _).mono ?_
   rintro e w' ⟨rfl, hb⟩
   have e3 : rwL C t.1 = rfL C (top t.1) := by unfold rwL; rw [if_pos hk]
   have e4 : rwC C t.1 = chR C (top t.1) := by unfold rwC; rw [if_pos hk]
   rw [e3, e4]
   exact ⟨_, rfl, ⟨_, _, _, rfl, rfl, .inl rfl⟩, hb⟩
  ·refine (aBJ hk hof w _).mono ?_
   rintro e w' ⟨rfl, hb⟩
   have e3 : rwL C t.1 = arL C (top t.1) (tof t.1) := by unfold rwL; rw [if_neg (by omega)]
   have e4 : rwC C t.1 = chA C (top t.1) (tof t.1) := by unfold rwC; rw [if_neg (by omega)]
   rw [e3, e4]
   exact ⟨_, rfl, ⟨_, _, _, rfl, rfl, .inl rfl⟩, hb⟩
end Go.Proofs.YtljmklbbngpllaaGreatDoor.Rw
