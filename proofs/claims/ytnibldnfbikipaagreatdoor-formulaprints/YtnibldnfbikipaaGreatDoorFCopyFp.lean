/- RList, FClone, FRowC, FCopy. -/
import Derived.Test.YtnibldnfbikipaaGreatDoorAAreaFp
set_option linter.unusedVariables false
set_option linter.unusedSimpArgs false
set_option maxHeartbeats 16000000
set_option maxRecDepth 100000
namespace Go.Proofs.YtnibldnfbikipaaGreatDoor
open Go.RowKit Go.Fm
theorem InF.nk : ∀ {f : F} {w : World} {a : Addr}, InF w a f → InK (fun i => i < w.heap.size) w a f := by
 intro f
 induction f with
 | nil => intro w a _; trivial
 | node b o l f r ihf ihr =>
  intro w a h
  obtain ⟨⟨p, n, c, h1, h2, h3⟩, h4⟩ := h
  have hlt : a.block < w.heap.size := by
   have := World.block_lt_of_cell? w (a.add 0) (h1 0 _ rfl)
   rwa [show (a.add 0).block = a.block by unfold Addr.add; split <;> rfl] at this
  exact ⟨⟨p, n, c, hlt, h1, h2, h3.imp id fun ⟨a', e, hi⟩ => ⟨a', e, ihf hi⟩⟩, ihr h4⟩
theorem NT.nk {w : World} {es : Array Value} {t : T} (h : NT w es t) : NK (fun i => i < w.heap.size) w es t := by
 obtain ⟨p, n, c, e, h1, h2⟩ := h
 exact ⟨p, n, c, e, h1, h2.imp id fun ⟨a, e, hi⟩ => ⟨a, e, hi.nk⟩⟩
theorem InK.get {K : Nat → Prop} : ∀ {f : F} {w : World} {a : Addr}, InK K w a f → ∀ (k : Nat) (hk : k < (kids f).length), ∃ es, (Instr.loadAt 67 (.pointer (some (a.add (k * 18))))).run Tryz.prog w = .ok (.agg es) w ∧ NK K w es (kids f)[k] := by
 intro f
 induction f with
 | nil => intro w a _ k hk; simp [kids] at hk
 | node b o l f r ihf ihr =>
  intro w a h k hk
  obtain ⟨⟨p, n, c, h0, h1, h2, h3⟩, h4⟩ := h
  cases k with
  | zero =>
   refine ⟨lcs l (.slice p n c), ?_, p, n, c, rfl, h2, h3⟩
   have : a.add (0 * 18) = a.add 0 := by simp
   rw [this]
   refine run_loadVar_any w (a.add 0) 67 (lcl l (.slice p n c)) _ (fun j v hj => ?_) Tryz.underlying67 rfl (by rw [lcl_len]; exact inf67)
   rw [Go.Deep.add_add, Nat.zero_add]
   exact h1 j v hj
  | succ k =>
   obtain ⟨es, e1, e2⟩ := ihr h4 k (by simpa [kids] using hk)
   refine ⟨es, ?_, e2⟩
   rw [Go.Deep.add_add] at e1
   rw [show (k + 1) * 18 = 18 + k * 18 by omega]
   exact e1
def SK (K : Nat → Prop) (w : World) (p : Option Addr) (n : Nat) (f : F) : Prop := n = (kids f).length ∧ (f = .nil ∨ ∃ a, p = some a ∧ InK K w a f)
theorem SK.grown {K : Nat → Prop} {w w' : World} {p : Option Addr} {n : Nat} {f : F} {row : Option Nat} (h : SK K w p n f) (hg : w.grownBy w' row) (hr : ∀ g, row = some g → ¬ K g) : SK K w' p n f := ⟨h.1, h.2.imp id fun ⟨a, e, hi⟩ => ⟨a, e, hi.grown hg hr⟩⟩
theorem SK.get {K : Nat → Prop} {w : World} {p : Option Addr} {n : Nat} {f : F} (h : SK K w p n f) (k : Nat) (hk : k < n) : ∃ a es t, p = some a ∧ (Instr.loadAt 67 (.pointer (some (a.add (k * 18))))).run Tryz.prog w = .ok (.agg es) w ∧ (kids f)[k]? = some t ∧ NK K w es t := by
 obtain ⟨h1, h2⟩ := h
 rcases h2 with rfl | ⟨a, rfl, hi⟩
 ·simp [kids] at h1; omega
 ·obtain ⟨es, e1, e2⟩ := hi.get k (by omega)
  exact ⟨a, es, _, rfl, e1, List.getElem?_eq_getElem (by omega), e2⟩
def NA' (es : Array Value) : Prop := es.size = 18 ∧ es.all (·.oneCell') = true
theorem ownN_join {base base2 : Nat} {w : World} {v v2 : Value} {L L2 : List (Array Value × T)} (h : OwnN base w v L) (h2 : OwnN base2 w v2 L2) (hne : L2 ≠ []) (hone : ∀ x ∈ L2, NA' x.1) (hn : L.length + L2.length ≤ 100000) (hbase : base ≤ w.heap.size) :
  ∃ v' w', Hid ((Builtin.append_ #[65, 65] 65 #[v, v2]).run Tryz.prog w = .ok v' w') ∧ OwnN base w' v' (L ++ L2) ∧ w.grownBy w' v.ownBlock ∧ (v'.ownBlock = v.ownBlock ∨ v'.ownBlock = some w.heap.size) := by
 obtain ⟨i0, hi, hz0, hz1, hz2⟩ := info_parts inf28z
 have hflat : ∀ M : List (Array Value × T), (∀ x ∈ M, NA' x.1) → (M.flatMap (·.1.toList)).length = M.length * 18 := by
  intro M
  induction M with
  | nil => intro _; rfl
  | cons x M ih =>
   intro hM
   rw [List.flatMap_cons, List.length_append, ih (fun y hy => hM y (by simp [hy])), List.length_cons]
   have := (hM x (by simp)).1
   simp at this ⊢
   omega
 have hc := fun g (hg : v2.ownBlock = some g) => World.ownsRow.cells h2 hg
 rcases h2.2 with ⟨e, h0⟩ | ⟨g, cap, cur, rfl, _, _, hle, _⟩
 ·exact absurd (List.eq_nil_of_length_eq_zero h0) hne
 ·obtain ⟨v', w', r1, o1, g1, _, g2⟩ := run_append_own_at w base 65 65 67 i0 _ 18 192 Tryz.underlying65 hi hz0 hz1 hz2 rfl (by decide) v _ _ h ⟨g, 0, none⟩ L2.length cap (L2.flatMap (·.1.toList)) (hflat L2 hone)
   (fun j x hj => hc g rfl j x hj) (by
    intro x hx
    obtain ⟨y, hy, hxy⟩ := List.mem_flatMap.1 hx
    have := (hone y hy).2
    rw [Array.all_eq_true_iff_forall_mem] at this
    exact this x (by simpa using hxy)) (by simp only [maxLen]; omega) (by have := List.length_pos_iff.2 hne; omega) hbase
  refine ⟨v', w', r1, ?_, g1, g2⟩
  unfold OwnN
  rw [List.length_append, List.flatMap_append]
  exact o1
theorem rlist_any : ∀ t : T, zT t ≤ 900 → ∀ (K : Nat → Prop) (w : World) (es : Array Value), NK K w es t → (∀ i, K i → i < w.heap.size) → Calls Tryz.prog 38 #[.agg es] w fun e w' => ∃ v L, e = .returned v ∧ OwnN w.heap.size w' v L ∧ L.map (·.2) = preT t ∧ (∀ x ∈ L, NK K w' x.1 x.2) ∧ Below w.heap.size w w' := by
 refine ind ?_
 intro t ih hz K w es h hK
 have HK : Hid (∀ s ∈ kids t.2, ∀ (K : Nat → Prop) (w : World) (es : Array Value), NK K w es s → (∀ i, K i → i < w.heap.size) → Calls Tryz.prog 38 #[.agg es] w fun e w' => ∃ v L, e = .returned v ∧ OwnN w.heap.size w' v L ∧ L.map (·.2) = preT s ∧ (∀ x ∈ L, NK K w' x.1 x.2) ∧ Below w.heap.size w w') := fun s hs => ih s hs (by have := zT_kid hs; omega)
 have hpre : (preT t).length ≤ 900 := by rw [preT_len]; exact hz
 have hkl := kids_le t
 have h0 := h
 obtain ⟨p, n, c, rfl, hs⟩ := h
 have HSK : Hid (SK K w p n t.2) := hs
 have H0 := heap_alloc_new w (.cells (lcs t.1 (.slice p n c)) 67)
 have c17 := cell17 H0
 have HB0 : Below w.heap.size w (w.alloc (.cells (lcs t.1 (.slice p n c)) 67)) := bel_alloc (Below.refl _ _) _
 have RL : Hid _ := h0.lod H0
 have RB : Hid ((Instr.buildSlice 65 1 #[(0, .agg (lcs t.1 (.slice p n c)))]).run Tryz.prog (w.alloc (.cells (lcs t.1 (.slice p n c)) 67)) = .ok (.slice (some ⟨w.heap.size + 1, 0, none⟩) 1 1) ((w.alloc (.cells (lcs t.1 (.slice p n c)) 67)).alloc (.cells (lcs t.1 (.slice p n c)) 67))) := by
  have := slice_one (w.alloc (.cells (lcs t.1 (.slice p n c)) 67)) t.1 p n c
  rw [show (w.alloc (.cells (lcs t.1 (.slice p n c)) 67)).heap.size = w.heap.size + 1 by simp] at this
  exact this
 obtain ⟨W, hW⟩ : ∃ W, (w.alloc (.cells (lcs t.1 (.slice p n c)) 67)).alloc (.cells (lcs t.1 (.slice p n c)) 67) = W := ⟨_, rfl⟩
 have HBW : Hid (Below w.heap.size w W) := by show Below _ _ _; rw [← hW]; exact bel_alloc HB0 _
 have HO : Hid (OwnN w.heap.size W (.slice (some ⟨w.heap.size + 1, 0, none⟩) 1 1) [(lcs t.1 (.slice p n c), t)]) := by
  have := ownN_new (base := w.heap.size) (w := w.alloc (.cells (lcs t.1 (.slice p n c)) 67)) h0 (by simp)
  rw [show (w.alloc (.cells (lcs t.1 (.slice p n c)) 67)).heap.size = w.heap.size + 1 by simp, hW] at this
  exact this
 have c17W : W.cell? ⟨w.heap.size, 17, none⟩ = some (.slice p n c) := by rw [← hW]; exact cell_bel (bel_alloc (Below.refl _ _) _) c17
 have HN0 : Hid (NK K W (lcs t.1 (.slice p n c)) t) := h0.below HBW.out
 rw [hW] at RB
 have HNn : Hid (n = (kids t.2).length) := hs.1
 have HKK : Hid (∀ i, K i → i < w.heap.size) := hK
 have HPR : Hid ((preT t).length ≤ 900) := hpre
 have hn900 : n ≤ 900 := by have := hs.1; omega
 clear ih h0 hs hK hz hkl hpre
 generalize lcs t.1 (.slice p n c) = bx at *
 go_enter Tryz.func38, Tryz.ntmps38
 go_wp2_with (first
  | (refine wpList_load_run rfl 67 _ rfl _ _ rfl RL.out ?_; clear RL)
  | (refine wpList_bslice_run rfl 65 1 _ rfl _ _ _ (by go_simp) RB.out ?_; clear RB))
 clear c17 H0 HB0
 go_loopw [3, 11] (fun v i wr => ∃ (k : Nat) (L : List (Array Value × T)), k ≤ n ∧ i = .int .i64 (k : Nat) ∧ Hid (OwnN w.heap.size wr v L) ∧ Hid (L.map (·.2) = t :: ((kids t.2).take k).flatMap preT) ∧ Hid (∀ x ∈ L, NK K wr x.1 x.2) ∧ Hid (Below w.heap.size w wr)) (fun _ i _ => n - (intOf i).toNat)
 case atStart => exact ⟨0, [(bx, t)], Nat.zero_le _, rfl, HO, rfl, fun x hx => by rw [List.mem_singleton.1 hx]; exact HN0.out, HBW⟩
 case round =>
  obtain ⟨k, L, hk, rfl, HW, HL, HN, HB⟩ := hrel
  clear HO HN0 HBW c17W
  obtain ⟨va, vc, rfl⟩ := ownN_slice HW.out
  by_cases hlt : k < n
  ·have hki : (k : Int) < n := by omega
   have HSKr : SK K wr p n t.2 := HSK.out.grown (grown_below (row := none) HB.out) (fun g e => by cases e)
   obtain ⟨a', es, s, rfl, RL, HI, hNK⟩ := HSKr.get k hlt
   have RLh : Hid _ := RL
   obtain ⟨b1, b2⟩ := nbox wr hNK.nt
   have RS : Hid _ := b1
   have RL2 : Hid _ := b2 _ (heap_alloc_new wr _)
   have HM : s ∈ kids t.2 := List.mem_of_getElem? HI
   have hKr : ∀ i, K i → i < (wr.alloc (.cells es 67)).heap.size := fun i hi => by have := HKK.out i hi; have := HB.out.size; simp; omega
   have C := HK.out s HM K (wr.alloc (.cells es 67)) es (hNK.below (bel_alloc (Below.refl _ _) _)) hKr
   have hlenL : L.length ≤ 900 := by
    have h1 := congrArg List.length HL.out
    rw [List.length_map] at h1
    have h2 := HPR.out
    unfold preT at h2
    rw [pre_kids] at h2
    have h3 : (((kids t.2).take k).flatMap preT).length ≤ ((kids t.2).flatMap preT).length := by
     conv => rhs; rw [← List.take_append_drop k (kids t.2), List.flatMap_append, List.length_append]
     omega
    simp only [List.length_cons] at h1 h2
    omega
   have hlen2 : (preT s).length ≤ 900 := by
    have h2 := HPR.out
    unfold preT at h2
    rw [pre_kids] at h2
    have h3 : (preT s).length ≤ ((kids t.2).flatMap preT).length := by
     have : ∀ l : List T, s ∈ l → (preT s).length ≤ (l.flatMap preT).length := by
      intro l
      induction l with
      | nil => intro h; cases h
      | cons x l ihl =>
       intro h
       rw [List.flatMap_cons, List.length_append]
       rcases List.mem_cons.1 h with rfl | h
       ·omega
       ·have := ihl h; omega
     exact this _ HM
    simp only [List.length_cons] at h2
    omega
   have HT : Hid ((t :: ((kids t.2).take k).flatMap preT) ++ preT s = t :: ((kids t.2).take (k + 1)).flatMap preT) := by
    show _ = _
    have hkl : k < (kids t.2).length := by have := HNn.out; omega
    have hsk : (kids t.2)[k] = s := by rw [List.getElem?_eq_getElem hkl] at HI; exact Option.some.inj HI
    rw [List.take_succ_eq_append_getElem hkl, List.flatMap_append, hsk]
    simp
   have C' : Calls Tryz.prog 38 #[.agg es] (wr.alloc (.cells es 67)) fun e w3 => ∃ v2 v' w5 L', e = .returned v2 ∧ Hid ((Builtin.append_ #[65, 65] 65 #[.slice va L.length vc, v2]).run Tryz.prog w3 = .ok v' w5) ∧ Hid (OwnN w.heap.size w5 v' L') ∧ Hid (L'.map (·.2) = t :: ((kids t.2).take (k + 1)).flatMap preT) ∧ Hid (∀ x ∈ L', NK K w5 x.1 x.2) ∧ Hid (Below w.heap.size w w5) := C.mono (by
    rintro e w3 ⟨v2, L2, rfl, o2, m2, n2, b3⟩
    have hB3 : Below w.heap.size w w3 := bel_step (bel_alloc HB.out _) b3
    have hW3 : OwnN w.heap.size w3 (.slice va L.length vc) L := ownN_kept HW.out (grown_below (row := none) (bel_step (bel_alloc (Below.refl _ _) (.cells es 67)) b3)) (by cases (Value.slice va L.length vc).ownBlock <;> simp)
    have hL2 : L2.length = (preT s).length := by rw [← m2, List.length_map]
    have hne2 : L2 ≠ [] := by
     intro e
     rw [e] at hL2
     unfold preT at hL2
     simp at hL2
    obtain ⟨v', w5, R, o5, g5, g6⟩ := ownN_join hW3 o2 hne2 (fun x hx => ⟨(n2 x hx).size, (n2 x hx).one⟩) (by omega) hB3.size
    have hown : ∀ g, (Value.slice va L.length vc).ownBlock = some g → w.heap.size ≤ g := fun g hg => (World.ownsRow.lt HW.out g hg).1
    have hnk : ∀ g, (Value.slice va L.length vc).ownBlock = some g → ¬ K g := fun g hg hk => by have := hown g hg; have := HKK.out g hk; omega
    refine ⟨v2, v', w5, L ++ L2, rfl, R, o5, ?_, fun x hx => ?_, hB3.grown g5 hB3.size hown⟩
    ·show _ = _
     rw [List.map_append, HL.out, m2, HT.out]
    ·rcases List.mem_append.1 hx with hx | hx
     ·exact ((HN.out x hx).below (bel_step (bel_alloc (Below.refl _ _) (.cells es 67)) b3)).grown g5 hnk
     ·exact (n2 x hx).grown g5 hnk)
   clear C HI hNK RL b1 b2 HM hKr HSKr HT hlenL hlen2 HL HN HW
   go_wp2_with (first
    | (refine wpList_load_run rfl 67 _ rfl _ _ rfl RLh.out ?_; clear RLh)
    | (refine wpList_store_run rfl 67 _ _ rfl _ _ _ rfl rfl RS.out ?_; clear RS)
    | (refine wpList_load_run rfl 67 _ rfl _ _ rfl RL2.out ?_; clear RL2)
    | (go_at_call 38; refine C'.mono ?_; rintro e w3 ⟨v2, v', w5, L', rfl, RA, HO5, HL5, HN5, HB5⟩)
    | (at_builtin; refine wpList_append_run rfl _ _ 65 rfl _ _ _ _ rfl rfl RA.out ?_))
   go_roundw
   case rel => exact ⟨k + 1, L', by omega, by go_num, HO5, HL5, HN5, HB5⟩
   case measure => simp [intOf]; omega
  ·have hki : ¬ (k : Int) < n := by omega
   have HE : Hid (L.map (·.2) = preT t) := by
    show _ = _
    rw [HL.out, List.take_of_length_le (by have := HNn.out; omega)]
    unfold preT
    rw [pre_kids]
    rfl
   go_wp2
   go_ret
   exact ⟨_, rfl, L, HW.out, HE.out, fun _ _ _ h => HN.out _ h, HB.out⟩
end Go.Proofs.YtnibldnfbikipaaGreatDoor
namespace Go.Proofs.YtnibldnfbikipaaGreatDoor
open Go.RowKit Go.Fm
theorem InK.flat {K : Nat → Prop} : ∀ {f : F} {w : World} {a : Addr}, InK K w a f → ∃ L : List (Array Value × T), L.map (·.2) = kids f ∧ (∀ x ∈ L, NK K w x.1 x.2) ∧ ∀ j v, (L.flatMap (·.1.toList))[j]? = some v → w.cell? (a.add j) = some v := by
 intro f
 induction f with
 | nil => intro w a _; exact ⟨[], rfl, fun x hx => absurd hx List.not_mem_nil, fun j v hj => by simp at hj⟩
 | node b o l f r ihf ihr =>
  intro w a h
  obtain ⟨⟨p, n, c, h0, h1, h2, h3⟩, h4⟩ := h
  obtain ⟨L, e1, e2, e3⟩ := ihr h4
  refine ⟨(lcs l (.slice p n c), (l, f)) :: L, ?_, fun x hx => ?_, fun j v hj => ?_⟩
  ·rw [List.map_cons, e1]; rfl
  ·rcases List.mem_cons.1 hx with rfl | hx
   ·exact ⟨p, n, c, rfl, h2, h3⟩
   ·exact e2 x hx
  ·rw [List.flatMap_cons] at hj
   have hl : (lcs l (.slice p n c)).toList = lcl l (.slice p n c) := by simp [lcs]
   rw [show ((lcs l (.slice p n c), ((l, f) : T)).1).toList = lcl l (.slice p n c) from hl] at hj
   by_cases hjl : j < 18
   ·rw [List.getElem?_append_left (by rw [lcl_len]; exact hjl)] at hj
    exact h1 j v hj
   ·rw [List.getElem?_append_right (by rw [lcl_len]; omega), lcl_len] at hj
    have := e3 _ _ hj
    rw [Go.Deep.add_add, show 18 + (j - 18) = j by omega] at this
    exact this
theorem flat_len18 : ∀ M : List (Array Value × T), (∀ x ∈ M, NA' x.1) → (M.flatMap (·.1.toList)).length = M.length * 18 := by
 intro M
 induction M with
 | nil => intro _; rfl
 | cons x M ih =>
  intro hM
  rw [List.flatMap_cons, List.length_append, ih (fun y hy => hM y (by simp [hy])), List.length_cons]
  have := (hM x (by simp)).1
  simp at this ⊢
  omega
theorem slice_zero (w : World) : (Instr.buildSlice 65 0 #[]).run Tryz.prog w = .ok (.slice (some ⟨w.heap.size, 0, none⟩) 0 0) (w.alloc (.cells #[] 67)) := by kernel_rfl
theorem nil26 (w : World) (n c : Nat) : (binOp .eql 65 (.slice none n c) (.slice none 0 0)).run Tryz.prog w = .ok (.bool true) w := by kernel_rfl
theorem some26 (w : World) (a : Addr) (n c : Nat) : (binOp .eql 65 (.slice (some a) n c) (.slice none 0 0)).run Tryz.prog w = .ok (.bool false) w := by kernel_rfl
attribute [local go_sem] nil26 some26
theorem clone_any (K : Nat → Prop) (w : World) (p : Option Addr) (n c : Nat) (f : F) (h : SK K w p n f) (hn : n ≤ 900) (hK : ∀ i, K i → i < w.heap.size) : Calls Tryz.prog 118 #[.slice p n c] w fun e w' => ∃ v L, e = .returned v ∧ OwnN w.heap.size w' v L ∧ L.map (·.2) = kids f ∧ (∀ x ∈ L, NK K w' x.1 x.2) ∧ Below w.heap.size w w' := by
 obtain ⟨i0, hi, hz0, hz1, hz2⟩ := info_parts inf28z
 cases p with
 | none =>
  have hf : f = .nil := h.2.elim id (fun ⟨a, e, _⟩ => by cases e)
  subst hf
  have hn0 : n = 0 := h.1
  subst hn0
  go_enter Tryz.func118, Tryz.ntmps118
  go_wp2
  go_ret
  exact ⟨_, [], rfl, ⟨rfl, .inl ⟨rfl, rfl⟩⟩, rfl, fun x hx => absurd hx List.not_mem_nil, Below.refl _ _⟩
 | some a =>
  have RZ : Hid _ := slice_zero w
  have HX : ∃ L : List (Array Value × T), L.map (·.2) = kids f ∧ (∀ x ∈ L, NK K w x.1 x.2) ∧ ∀ j v, (L.flatMap (·.1.toList))[j]? = some v → w.cell? (a.add j) = some v := by
   rcases h.2 with rfl | ⟨a', e, hi⟩
   ·exact ⟨[], rfl, fun x hx => absurd hx List.not_mem_nil, fun j v hj => by simp at hj⟩
   ·cases e; exact hi.flat
  obtain ⟨L, l1, l2, l3⟩ := HX
  have hnL : n = L.length := by rw [h.1, ← l1, List.length_map]
  have hB1 : Below w.heap.size w (w.alloc (.cells #[] 67)) := bel_alloc (Below.refl _ _) _
  have hone : ∀ x ∈ L, NA' x.1 := fun x hx => ⟨(l2 x hx).size, (l2 x hx).one⟩
  obtain ⟨v', w', r1, o1, g1, _, g2⟩ := run_append_own_at (w.alloc (.cells #[] 67)) w.heap.size 65 65 67 i0 _ 18 192 Tryz.underlying65 hi hz0 hz1 hz2 rfl (by decide) (.slice (some ⟨w.heap.size, 0, none⟩) 0 0) 0 [] ⟨rfl, .inr ⟨w.heap.size, 0, #[], rfl, Nat.le_refl _, heap_alloc_new w _, Nat.le_refl _, by simp [maxLen], rfl, rfl⟩⟩ a n c (L.flatMap (·.1.toList)) (by rw [hnL]; exact flat_len18 L hone)
   (fun j x hj => cell_bel hB1 (l3 j x hj)) (by
    intro x hx
    obtain ⟨y, hy, hxy⟩ := List.mem_flatMap.1 hx
    have := (hone y hy).2
    rw [Array.all_eq_true_iff_forall_mem] at this
    exact this x (by simpa using hxy)) (by simp only [maxLen]; omega) (by omega) (by simp)
  have RA : Hid _ := r1
  have hown : ∀ g, (Value.slice (some ⟨w.heap.size, 0, none⟩) 0 0).ownBlock = some g → w.heap.size ≤ g := fun g hg => by cases hg; exact Nat.le_refl _
  have HO : Hid (OwnN w.heap.size w' v' L) := by
   show OwnN _ _ _ _
   unfold OwnN
   rw [Nat.zero_add, List.nil_append, hnL] at o1
   exact o1
  have HN : Hid (∀ x ∈ L, NK K w' x.1 x.2) := fun x hx => ((l2 x hx).below hB1).grown g1 (fun g hg hk => by have := hown g hg; have := hK g hk; omega)
  have HB : Hid (Below w.heap.size w w') := hB1.grown g1 hB1.size hown
  have HL1 : Hid (L.map (·.2) = kids f) := l1
  clear r1 o1 g1 g2 l3 l2 hone hi hz0 hz1 hz2 h hnL hown l1
  go_enter Tryz.func118, Tryz.ntmps118
  go_wp2_with (first
   | (refine wpList_bslice_run rfl 65 0 _ rfl _ _ _ (by go_simp) RZ.out ?_; clear RZ)
   | (at_builtin; refine wpList_append_run rfl _ _ 65 rfl _ _ _ _ rfl rfl RA.out ?_; clear RA))
  go_ret
  exact ⟨_, L, rfl, HO.out, HL1.out, HN.out, HB.out⟩
end Go.Proofs.YtnibldnfbikipaaGreatDoor
namespace Go.Proofs.YtnibldnfbikipaaGreatDoor
open Go.RowKit Go.Fm
def RowC (w : World) (g : Nat) (L : List (Array Value × T)) : Prop := ∀ k x, L[k]? = some x → ∀ j v, x.1.toList[j]? = some v → w.cell? ⟨g, k * 18 + j, none⟩ = some v
theorem flatN_at : ∀ (L : List (Array Value × T)), (∀ x ∈ L, x.1.size = 18) → ∀ k x, L[k]? = some x → ∀ j, j < 18 → (L.flatMap (·.1.toList))[k * 18 + j]? = x.1.toList[j]?
 | [], _, k, x, hk, j, hj => by simp at hk
 | y :: L, hL, 0, x, hk, j, hj => by
  simp only [List.getElem?_cons_zero, Option.some.injEq] at hk
  subst hk
  rw [List.flatMap_cons, Nat.zero_mul, Nat.zero_add, List.getElem?_append_left (by rw [Array.length_toList, hL y (by simp)]; exact hj)]
 | y :: L, hL, k + 1, x, hk, j, hj => by
  have hy : y.1.toList.length = 18 := by rw [Array.length_toList, hL y (by simp)]
  rw [List.flatMap_cons, List.getElem?_append_right (by rw [hy]; omega), hy, show (k + 1) * 18 + j - 18 = k * 18 + j by omega]
  exact flatN_at L (fun x hx => hL x (by simp [hx])) k x (by simpa using hk) j hj
theorem RowC.of {base : Nat} {w : World} {g n c : Nat} {L : List (Array Value × T)} (h : OwnN base w (.slice (some ⟨g, 0, none⟩) n c) L) (hL : ∀ x ∈ L, x.1.size = 18) : RowC w g L := fun k x hk j v hj => by
 have hx := hL x (List.mem_of_getElem? hk)
 have hj18 : j < 18 := by have := (List.getElem?_eq_some_iff.1 hj).1; rw [Array.length_toList, hx] at this; exact this
 have := World.ownsRow.cells h (g := g) rfl (k * 18 + j) v (by rw [flatN_at L hL k x hk j hj18]; exact hj)
 rwa [Addr.add_mid, Nat.zero_add] at this
theorem RowC.flat {w : World} {g : Nat} {L : List (Array Value × T)} (h : RowC w g L) (hL : ∀ x ∈ L, NA' x.1) : ∀ j v, (L.flatMap (·.1.toList))[j]? = some v → w.cell? ⟨g, 0 + j, none⟩ = some v := fun j v hj => by
 have hlt := (List.getElem?_eq_some_iff.1 hj).1
 rw [flat_len18 L hL] at hlt
 have hk : j / 18 < L.length := by omega
 have hx := List.getElem?_eq_getElem hk
 have hm : j / 18 * 18 + j % 18 = j := by omega
 have := flatN_at L (fun x hx => (hL x hx).1) (j / 18) _ hx (j % 18) (by omega)
 rw [hm, hj] at this
 have := h _ _ hx (j % 18) v this.symm
 rwa [hm, ← Nat.zero_add j] at this
theorem RowC.load {w : World} {g : Nat} {L : List (Array Value × T)} (h : RowC w g L) {k : Nat} {x : Array Value × T} (hk : L[k]? = some x) (hx : x.1.size = 18) : (Instr.loadAt 67 (.pointer (some ⟨g, k * 18, none⟩))).run Tryz.prog w = .ok (.agg x.1) w := by
 have := run_loadVar_any (P := Tryz.prog) w ⟨g, k * 18, none⟩ 67 x.1.toList _ (fun j v hj => by rw [Addr.add_mid]; exact h k x hk j v hj) Tryz.underlying67 rfl (by rw [Array.length_toList, hx]; exact inf67)
 simpa using this
theorem grown_setCells (b : Nat) : ∀ (vs : List Value) (o : Nat) (w : World), w.grownBy (w.setCells b o vs) (some b)
 | [], _, w => World.grownBy.refl w _
 | v :: r, o, w => (Go.Lib.grownBy_setCell w b o v).trans (grown_setCells b r (o + 1) _)
theorem RowC.set {w : World} {g k : Nat} {L : List (Array Value × T)} (h : RowC w g L) (hL : ∀ x ∈ L, x.1.size = 18) (hk : k < L.length) (es : Array Value) (t : T) (he : es.size = 18) : RowC (w.setCells g (k * 18) es.toList) g (L.set k (es, t)) := fun i x hi j v hj => by
 have hthere : ∀ j, j < es.toList.length → (w.cell? ⟨g, k * 18 + j, none⟩).isSome = true := fun j hj => by
  have hx := hL _ (List.getElem_mem hk)
  have hjl : j < L[k].1.toList.length := by rw [Array.length_toList] at hj ⊢; omega
  rw [h k _ (List.getElem?_eq_getElem hk) j _ (List.getElem?_eq_getElem hjl)]
  rfl
 by_cases hik : i = k
 ·subst hik
  rw [List.getElem?_set_self hk] at hi
  cases hi
  obtain ⟨hjl, rfl⟩ := List.getElem?_eq_some_iff.1 hj
  exact World.cell?_setCells_in g es.toList (i * 18) w hthere j hjl
 ·rw [List.getElem?_set_ne (fun e => hik e.symm)] at hi
  have hx := hL x (List.mem_of_getElem? hi)
  have hj18 : j < 18 := by have := (List.getElem?_eq_some_iff.1 hj).1; rw [Array.length_toList, hx] at this; exact this
  rw [World.cell?_setCells_out g es.toList (k * 18) w _ (fun _ _ => by
   show i * 18 + j < k * 18 ∨ k * 18 + es.toList.length ≤ i * 18 + j
   rw [Array.length_toList, he]
   omega)]
  exact h i x hi j v hj
theorem RowC.store {w : World} {g k : Nat} {L : List (Array Value × T)} (h : RowC w g L) (hL : ∀ x ∈ L, x.1.size = 18) (hk : k < L.length) (hf : ∀ o, w.frozen? ⟨g, o, none⟩ = false) {es : Array Value} (he : NA' es) :
  (Instr.storeAt 67 (.pointer (some ⟨g, k * 18, none⟩)) (.agg es)).run Tryz.prog w = .ok () (w.setCells g (k * 18) es.toList) :=
 run_storeAt_mid w g (k * 18) 67 es (fun j hj => ⟨by
  have hx := hL _ (List.getElem_mem hk)
  have hjl : j < L[k].1.toList.length := by rw [Array.length_toList]; have := he.1; omega
  rw [h k _ (List.getElem?_eq_getElem hk) j _ (List.getElem?_eq_getElem hjl)]
  rfl, hf _⟩) (by rw [he.1]; exact inf67) he.2
theorem RowC.grown {w w' : World} {g : Nat} {L : List (Array Value × T)} {row : Option Nat} (h : RowC w g L) (hg : w.grownBy w' row) (hr : row ≠ some g) : RowC w' g L := fun k x hk j v hj => hg.cell (h k x hk j v hj) (fun e => hr e.symm)
theorem InK.rowF {K : Nat → Prop} {u : World} {g : Nat} (hK : K g) : ∀ (f : F) (L : List (Array Value × T)) (o : Nat), L.map (·.2) = kids f → (∀ x ∈ L, NK K u x.1 x.2) → (∀ j v, (L.flatMap (·.1.toList))[j]? = some v → u.cell? ⟨g, o + j, none⟩ = some v) → InK K u ⟨g, o, none⟩ f := by
 intro f
 induction f with
 | nil => intro L o _ _ _; trivial
 | node b o' l f r ihf ihr =>
  intro L o h1 h2 h3
  cases L with
  | nil => simp [kids] at h1
  | cons x L =>
   rw [List.map_cons, kids, List.cons.injEq] at h1
   obtain ⟨e, h1⟩ := h1
   obtain ⟨p, n, c, e1, e2, e3⟩ := h2 x (by simp)
   rw [e] at e1 e2 e3
   have hl : x.1.toList = lcl l (.slice p n c) := by rw [e1]; simp [lcs]
   refine ⟨⟨p, n, c, hK, fun j v hj => ?_, e2, e3⟩, ?_⟩
   ·rw [Addr.add_mid]
    refine h3 j v ?_
    rw [List.flatMap_cons, hl, List.getElem?_append_left (List.getElem?_eq_some_iff.1 hj).1]
    exact hj
   ·rw [Addr.add_mid]
    refine ihr L (o + 18) h1 (fun y hy => h2 y (by simp [hy])) (fun j v hj => ?_)
    rw [Nat.add_assoc]
    refine h3 _ _ ?_
    rw [List.flatMap_cons, hl, List.getElem?_append_right (by rw [lcl_len]; omega), lcl_len, Nat.add_sub_cancel_left]
    exact hj
theorem frozen_of_heap {w w' : World} {g : Nat} (h : w'.heap[g]? = w.heap[g]?) (o : Nat) (hf : w.frozen? ⟨g, o, none⟩ = false) : w'.frozen? ⟨g, o, none⟩ = false := by
 unfold World.frozen? at hf ⊢
 rw [h]
 exact hf
structure CP (K : Nat → Prop) (w : World) (t : T) (q : Option Addr) (n cq k : Nat) (u : World) (L : List (Array Value × T)) : Prop where
 box : u.heap[w.heap.size]? = some (.cells (lcs t.1 (.slice q n cq)) 67)
 res : u.heap[w.heap.size + 1]? = some (.cells nd0 67)
 len : L.map (·.2) = kids t.2
 row : n = 0 ∨ ∃ g, q = some ⟨g, 0, none⟩ ∧ w.heap.size + 2 ≤ g ∧ g < u.heap.size ∧ RowC u g L ∧ (∀ o, u.frozen? ⟨g, o, none⟩ = false) ∧ ∀ i x, L[i]? = some x → (i < k → NK (fun i => w.heap.size + 2 ≤ i ∧ i ≠ g) u x.1 x.2) ∧ (k ≤ i → NK K u x.1 x.2)
 bel : Below w.heap.size w u
theorem CP.begin {K : Nat → Prop} {w u : World} {t : T} {q : Option Addr} {n cq : Nat} {L : List (Array Value × T)} (hz : w.heap.size + 2 ≤ u.heap.size) (h0 : u.heap[w.heap.size]? = some (.cells (lcs t.1 (.slice q n cq)) 67)) (h1 : u.heap[w.heap.size + 1]? = some (.cells nd0 67)) (hO : OwnN (w.heap.size + 2) u (.slice q n cq) L) (hL : L.map (·.2) = kids t.2) (hN : ∀ x ∈ L, NK K u x.1 x.2) (hb : Below w.heap.size w u) : CP K w t q n cq 0 u L := by
 refine ⟨h0, h1, hL, ?_, hb⟩
 rcases hO.2 with ⟨e, h⟩ | ⟨g, cap, cur, e, hg, hh, hle, hm, hc, ht⟩
 ·left; cases e; rfl
 ·right
  have hq : q = some ⟨g, 0, none⟩ := by cases e; rfl
  subst hq
  refine ⟨g, rfl, hg, lt_of hh, RowC.of hO (fun x hx => (hN x hx).size), fun o => ?_, fun i x hi => ⟨fun h => absurd h (Nat.not_lt_zero _), fun _ => hN x (List.mem_of_getElem? hi)⟩⟩
  unfold World.frozen?
  rw [hh]
  simp
theorem CP.done {K : Nat → Prop} {w u : World} {t : T} {q : Option Addr} {n cq : Nat} {L : List (Array Value × T)} (h : CP K w t q n cq n u L) (hn : n = (kids t.2).length) : NK (fun i => w.heap.size + 2 ≤ i) u (lcs t.1 (.slice q n cq)) t := by
 refine ⟨q, n, cq, rfl, hn, ?_⟩
 have hlen : L.length = n := by rw [hn, ← h.len, List.length_map]
 rcases h.row with h0 | ⟨g, rfl, hg, hlt, hr, hf, hx⟩
 ·left
  rw [h0] at hn
  generalize hf : t.2 = f at hn
  cases f with
  | nil => rfl
  | node _ _ _ _ _ => simp [kids] at hn
 ·right
  have hxx : ∀ x ∈ L, NK (fun i => w.heap.size + 2 ≤ i) u x.1 x.2 := fun x hm => by
   obtain ⟨i, hi, e⟩ := List.getElem_of_mem hm
   exact ((hx i x (by rw [List.getElem?_eq_getElem hi, e])).1 (by omega)).mono (fun _ h _ => h.1)
  exact ⟨_, rfl, InK.rowF (by show w.heap.size + 2 ≤ g; omega) t.2 L 0 h.len hxx (hr.flat (fun x hm => ⟨(hxx x hm).size, (hxx x hm).one⟩))⟩
theorem CP.step {K : Nat → Prop} {w u u2 : World} {t : T} {q : Option Addr} {n cq k g : Nat} {L : List (Array Value × T)} (hK : ∀ i, K i → i < w.heap.size) (h : CP K w t q n cq k u L) (hq : q = some ⟨g, 0, none⟩) (hk : k < n) (hn : n = (kids t.2).length) (hb : Below u.heap.size u u2) {es : Array Value} {x : Array Value × T} (hx : L[k]? = some x) (hs : NK (fun i => u.heap.size ≤ i) u2 es x.2) :
  (Instr.storeAt 67 (.pointer (some ⟨g, k * 18, none⟩)) (.agg es)).run Tryz.prog u2 = .ok () (u2.setCells g (k * 18) es.toList) ∧ CP K w t q n cq (k + 1) (u2.setCells g (k * 18) es.toList) (L.set k (es, x.2)) := by
 have hlen : L.length = n := by rw [hn, ← h.len, List.length_map]
 have hz := h.bel.size
 have hz3 := lt_of h.res
 rcases h.row with h0 | ⟨g', e, hg, hlt, hr, hf, hxx⟩
 ·omega
 ·rw [hq] at e
  cases e
  have hr2 : RowC u2 g L := hr.grown (grown_below (row := none) hb) (by simp)
  have hL : ∀ x ∈ L, x.1.size = 18 := fun x hm => by
   obtain ⟨i, hi, e⟩ := List.getElem_of_mem hm
   have := hxx i x (by rw [List.getElem?_eq_getElem hi, e])
   by_cases hik : i < k
   ·exact (this.1 hik).size
   ·exact (this.2 (by omega)).size
  have hf2 : ∀ o, u2.frozen? ⟨g, o, none⟩ = false := fun o => frozen_of_heap (hb.block g hlt) o (hf o)
  have hG : u2.grownBy (u2.setCells g (k * 18) es.toList) (some g) := grown_setCells g _ _ _
  have hz2 := hb.size
  have hNA : NA' es := ⟨hs.size, hs.one⟩
  refine ⟨hr2.store hL (by omega) hf2 hNA, ?_, ?_, ?_, .inr ⟨g, hq, hg, ?_, hr2.set hL (by omega) es x.2 hs.size, fun o => by rw [World.frozen?_setCells]; exact hf2 o, fun i y hy => ?_⟩, ?_⟩
  ·rw [hG.block _ (by omega) (by simp; omega), hb.block _ (by omega)]; exact h.box
  ·rw [hG.block _ (by omega) (by simp; omega), hb.block _ (by omega)]; exact h.res
  ·rw [List.map_set, h.len]
   refine List.ext_getElem? fun i => ?_
   by_cases hi : k = i
   ·subst hi
    rw [List.getElem?_set_self (by omega), ← h.len, List.getElem?_map, hx]; rfl
   ·rw [List.getElem?_set_ne hi]
  ·have := hG.size; omega
  ·by_cases hi : k = i
   ·subst hi
    rw [List.getElem?_set_self (by omega)] at hy
    cases hy
    exact ⟨fun _ => (hs.mono (fun i hi _ => ⟨by omega, by omega⟩)).grown hG (fun g' e hh => by cases e; exact hh.2 rfl), fun hh => absurd hh (by omega)⟩
   ·rw [List.getElem?_set_ne hi] at hy
    have := hxx i y hy
    refine ⟨fun hh => ((this.1 (by omega)).below hb).grown hG (fun g' e hh => by cases e; exact hh.2 rfl), fun hh => ((this.2 (by omega)).below hb).grown hG (fun g' e hh => ?_)⟩
    cases e
    have := hK _ hh
    omega
  ·exact (h.bel.trans (hb.mono hz)).grown hG (by omega) (fun g' e => by cases e; omega)
end Go.Proofs.YtnibldnfbikipaaGreatDoor
