/- FEach1, RgB, PApart. -/
import Derived.OrdersIn
import Derived.Stop.RegionWithIn
import Derived.Test.YtnibldnfbikipaaGreatDoorFCopy3Fp
import Derived.Test.YtnibldnfbikipaaGreatDoorRgRFp
set_option linter.unusedVariables false
set_option linter.unusedSimpArgs false
set_option maxHeartbeats 16000000
set_option maxRecDepth 100000
namespace Go.Proofs.YtnibldnfbikipaaGreatDoor
open Go.RowKit Go.Shelf Go.Fm
attribute [local go_sem] Oper.semAt_some
theorem PF.ofK {n0 : Nat} : ∀ {f : F} {w : World} {a : Addr}, InK (fun i => i < n0) w a f → ∃ L : List (Array Value × T), PF n0 w a f (L.map (·.1)) ∧ L.map (·.2) = pre f ∧ ∀ x ∈ L, NK (fun i => i < n0) w x.1 x.2 := by
  intro f
  induction f with
  | nil => intro w a _; exact ⟨[], rfl, rfl, fun x hx => by cases hx⟩
  | node b o l f r ihf ihr =>
    intro w a h
    obtain ⟨⟨p, n, c, h0, h1, h2, h3⟩, h4⟩ := h
    obtain ⟨L2, k1, k2, k3⟩ := ihr h4
    rcases h3 with rfl | ⟨a', rfl, hi⟩
    · refine ⟨(lcs l (.slice p n c), (l, .nil)) :: L2, ⟨p, n, c, [], L2.map (·.1), h0, h1, h2, .inl ⟨rfl, rfl⟩, k1, rfl⟩, by simp [pre, k2], fun x hx => ?_⟩
      rcases List.mem_cons.1 hx with rfl | hx
      · exact ⟨p, n, c, rfl, h2, .inl rfl⟩
      · exact k3 x hx
    · obtain ⟨L1, j1, j2, j3⟩ := ihf hi
      refine ⟨(lcs l (.slice (some a') n c), (l, f)) :: (L1 ++ L2), ⟨some a', n, c, L1.map (·.1), L2.map (·.1), h0, h1, h2, .inr ⟨a', rfl, j1⟩, k1, by simp⟩, by simp [pre, k2, j2], fun x hx => ?_⟩
      rcases List.mem_cons.1 hx with rfl | hx
      · exact ⟨some a', n, c, rfl, h2, .inr ⟨a', rfl, hi⟩⟩
      · rcases List.mem_append.1 hx with hx | hx
        · exact j3 x hx
        · exact k3 x hx
theorem PN.ofK {n0 : Nat} {w : World} {es : Array Value} {t : T} (h : NK (fun i => i < n0) w es t) : ∃ L : List (Array Value × T), PN n0 w es t (L.map (·.1)) ∧ L.map (·.2) = preT t ∧ ∀ x ∈ L, NK (fun i => i < n0) w x.1 x.2 := by
  have h' := h
  obtain ⟨p, n, c, rfl, h1, h2⟩ := h
  rcases h2 with h2 | ⟨a, rfl, hi⟩
  · refine ⟨[(lcs t.1 (.slice p n c), t)], ⟨p, n, c, [], rfl, ⟨h1, .inl ⟨h2, rfl⟩⟩, rfl⟩, by simp [preT, h2, pre], fun x hx => ?_⟩
    rcases List.mem_singleton.1 hx with rfl
    exact h'
  · obtain ⟨L, j1, j2, j3⟩ := PF.ofK hi
    refine ⟨(lcs t.1 (.slice (some a) n c), t) :: L, ⟨_, n, c, L.map (·.1), rfl, ⟨h1, .inr ⟨a, rfl, j1⟩⟩, rfl⟩, by simp [preT, j2], fun x hx => ?_⟩
    rcases List.mem_cons.1 hx with rfl | hx
    · exact h'
    · exact j3 x hx
theorem InK.keep {n0 B : Nat} (hB : n0 ≤ B) : ∀ {f : F} {w w' : World} {a : Addr}, InK (fun i => i < n0) w a f → KC B w w' → InK (fun i => i < n0) w' a f := by
  intro f
  induction f with
  | nil => intro w w' a _ _; trivial
  | node b o l f r ihf ihr =>
    intro w w' a h k
    obtain ⟨⟨p, n, c, h0, h1, h2, h3⟩, h4⟩ := h
    exact ⟨⟨p, n, c, h0, fun j v hj => k.cell (h1 j v hj) (by rw [add_block]; intro e; omega), h2, h3.imp id fun ⟨a', e, hi⟩ => ⟨a', e, ihf hi k⟩⟩, ihr h4 k⟩
theorem NK.keep {n0 B : Nat} (hB : n0 ≤ B) {w w' : World} {es : Array Value} {t : T} (h : NK (fun i => i < n0) w es t) (k : KC B w w') : NK (fun i => i < n0) w' es t := by
  obtain ⟨p, n, c, e, h1, h2⟩ := h
  exact ⟨p, n, c, e, h1, h2.imp id fun ⟨a, e, hi⟩ => ⟨a, e, hi.keep hB k⟩⟩
def KU (B n1 : Nat) (W W' : World) : Prop := W.heap.size ≤ W'.heap.size ∧ ∀ (i : Nat) (o : Obj), W.heap[i]? = some o → o.isCells = true → i ≠ B → i < n1 → W'.heap[i]? = some o
theorem KU.trans {B n1 : Nat} {U V W : World} (h : KU B n1 U V) (k : KU B n1 V W) : KU B n1 U W := ⟨Nat.le_trans h.1 k.1, fun i o hi hc hB hl => k.2 i o (h.2 i o hi hc hB hl) hc hB hl⟩
theorem KU.put {B n1 : Nat} {w : World} (W : World) (l : Nat) (o o' : Obj) (h0 : w.heap.size ≤ l) (h : W.heap[l]? = some o) (hc : o.isCells = false) (hw : o.isWalk = false) : KU B n1 W (W.putObj l o') :=
  have k := KC.put (B := B) (w := w) W l o o' h0 h hc hw
  ⟨k.1, fun i x hi hx hB _ => k.2 i x hi hx hB⟩
theorem kc_own {β : Type} {B b : Nat} {w : World} : OwnFrom b (fun (_ : β) W => KC B w W) := fun _ X Y row hs hg hr => ⟨Nat.le_trans hs.1 hg.size, fun i o hi hc hB => by
  have hX := hs.2 i o hi hc hB
  refine (hg.block i (lt_of hX) (fun e => ?_)).trans hX
  obtain ⟨_, o', ho, hf⟩ := hr i e.symm
  rw [hX] at ho
  cases ho
  rw [hc] at hf
  cases hf⟩
abbrev Ex := Array Value × T × Nat
def ExR (m : Nat) (t : T) (x : Ex) (W : World) : Prop := m ≤ x.2.2 ∧ x.2.1 ∈ preT t ∧ NK (fun i => x.2.2 ≤ i) W x.1 x.2.1 ∧ TopR x.2.2 W x.1 x.2.1
theorem size_pre : ∀ {f : F} {x : T}, x ∈ pre f → zT x ≤ size f := by
  intro f
  induction f with
  | nil => intro x h; cases h
  | node b o a l r ihl ihr =>
    intro x h
    simp only [pre, List.mem_cons, List.mem_append] at h
    simp only [size]
    rcases h with rfl | h | h
    · simp only [zT]; omega
    · have := ihl h; omega
    · have := ihr h; omega
theorem preT_le {x t : T} (h : x ∈ preT t) : zT x ≤ zT t := by
  simp only [preT, List.mem_cons] at h
  rcases h with rfl | h
  · exact Nat.le_refl _
  · have := size_pre h; simp only [zT] at this ⊢; omega
theorem AllReadyIn.load {F : Fence} {n : Nat} {P : Program} {md : Region.Mode} {ops : Array Oper} {Q : Exit → Act → World → Prop} {fuel : Nat} {listed : Array Bool} {a : Act} {w : World} {i : Nat} {o : Oper} {rs : List Nat} (ho : ops[i]? = some o) (hgd : o.guard = none) (ty : TypeId) (x : Operand) (hop : o.op = .load ty x)
    (p v : Value) (hx : a.eval x = p) (hrun : (Instr.loadAt ty p).run P w = .ok v w) (h : wpAnyIn F n P md ops Q fuel (listed.setIfInBounds i true) (a.put o.dst v) w) (hs : AllReadyIn F n P md ops Q fuel listed a w rs) : AllReadyIn F n P md ops Q fuel listed a w (i :: rs) := by
  refine AllReadyIn.cons ho (fun K hK => ?_) hs
  rw [if_pos (by simp [Region.wanted, hgd])]
  refine ⟨by simp [Oper.about, hop], ?_⟩
  rw [Oper.semAt_plain F _ _ (by rw [hop]; intro c hc; cases hc)]
  simp only [execOp, hop, hx, Sem.run_bind, Sem.run_pure, hrun, Result.andThen_ok]
  exact hK _ _ h
theorem keeps_below {b : Nat} {U V : World} (h : Below U.heap.size U V) : KeepsFrom b U V := KeepsFrom.of_grownBy (grown_below (row := none) h) (fun j e => by cases e)
theorem own_below {β : Type} {b : Nat} {I : β → World → Prop} (hI : OwnFrom b I) {s : β} {U V : World} (hi : I s U) (h : Below U.heap.size U V) : I s V := hI s U V none hi (grown_below (row := none) h) (fun r e => by cases e)
theorem InK.cells {K : Nat → Prop} {w w' : World} (hc : ∀ (a : Addr) (v : Value), w.cell? a = some v → w'.cell? a = some v) : ∀ {f : F} {a : Addr}, InK K w a f → InK K w' a f := by
  intro f
  induction f with
  | nil => intro a _; trivial
  | node b o l f r ihf ihr =>
    intro a h
    obtain ⟨⟨p, n, c, h0, h1, h2, h3⟩, h4⟩ := h
    exact ⟨⟨p, n, c, h0, fun j v hj => hc _ _ (h1 j v hj), h2, h3.imp id fun ⟨a', e, hi⟩ => ⟨a', e, ihf hi⟩⟩, ihr h4⟩
theorem NK.cells {K : Nat → Prop} {w w' : World} (hc : ∀ (a : Addr) (v : Value), w.cell? a = some v → w'.cell? a = some v) {es : Array Value} {t : T} (h : NK K w es t) : NK K w' es t := by
  obtain ⟨p, n, c, e, h1, h2⟩ := h
  exact ⟨p, n, c, e, h1, h2.imp id fun ⟨a, e, hi⟩ => ⟨a, e, hi.cells hc⟩⟩
theorem cell_put {W : World} {l : Nat} {o o' : Obj} (h : W.heap[l]? = some o) (hc : o.isCells = false) (a : Addr) (v : Value) (hv : W.cell? a = some v) : (W.putObj l o').cell? a = some v := by
  obtain ⟨x, hx, hxc⟩ := cells_of hv
  refine (World.cell?_of_block (World.putObj_heap_other (fun e => ?_))).trans hv
  have e2 : a.block = l := e
  rw [e2, h] at hx
  cases hx
  rw [hc] at hxc
  cases hxc
theorem ExR.put {m : Nat} {t : T} (x : Ex) (W : World) (l : Nat) (o o' : Obj) (h : ExR m t x W) (hl : W.heap[l]? = some o) (hc : o.isCells = false) : ExR m t x (W.putObj l o') :=
  ⟨h.1, h.2.1, h.2.2.1.cells (cell_put hl hc), h.2.2.2.grown (grownBy_putObj' W l o') (fun r e => by cases e; exact .inr ⟨o, hl, hc⟩)⟩
theorem list_sub {α : Type} {p : α → Prop} : ∀ (L : List α), (∀ x ∈ L, p x) → ∃ L' : List {x // p x}, L'.map (·.1) = L
  | [], _ => ⟨[], rfl⟩
  | x :: L, h => by
    obtain ⟨L', e⟩ := list_sub L (fun y hy => h y (List.mem_cons_of_mem _ hy))
    exact ⟨⟨x, h x (List.mem_cons_self ..)⟩ :: L', by simp [e]⟩
theorem each1_seq (n : Nat) (hn : 1 ≤ n) (Bk n0 B : Nat) (hB : n0 ≤ B) (es : Array Value) (t : T) (hz : zT t ≤ 900) (w : World) (hBt : w.heap[Bk]? = some (.cells es 67)) (hBk : Bk < n0) (hN : NK (fun i => i < n0) w es t) (hBw : B < w.heap.size) :
    SeqR Fence.wide n Tryz.prog 84 #[.pointer (some ⟨Bk, 0, none⟩)] (fun x : Ex => #[Value.agg x.1]) (ExR w.heap.size t) (fun x => KU B x.2.2) (fun xs => xs.map (·.2.1) = preT t) (fun q => q.map (·.2.1) <+: preT t) (zT t) w := by
  intro l J Jx W hW hJ hJx hY h0
  have hWs := hW.size
  have hBt' : W.heap[Bk]? = some (.cells es 67) := (hW.block _ (lt_of hBt)).trans hBt
  have hN' : NK (fun i => i < n0) W es t := hN.keep hB (KC.below hW)
  have HB2 : Below W.heap.size W ((W.alloc (.cells #[.func (.yield l) #[] #[]] 73)).alloc (.cells es 67)) := bel_alloc (bel_alloc (Below.refl _ _) _) _
  have hN2 := hN'.below HB2
  obtain ⟨L, hP, hL, hLN⟩ := PN.ofK hN2
  obtain ⟨L', hL'⟩ := list_sub (p := fun x : Array Value × T => NK (fun i => i < n0) ((W.alloc (.cells #[.func (.yield l) #[] #[]] 73)).alloc (.cells es 67)) x.1 x.2 ∧ x.2 ∈ preT t) L (fun x hx => ⟨hLN x hx, by rw [← hL]; exact List.mem_map_of_mem hx⟩)
  have hlen : L'.length = zT t := by
    have h1 := congrArg List.length hL'
    have h2 := congrArg List.length hL
    rw [List.length_map] at h1 h2
    rw [h1, h2, preT_len]
  have hs := nodes_stops Fence.wide rfl (n - 1) trivial trivial rfl (fun x : {x : Array Value × T // NK (fun i => i < n0) ((W.alloc (.cells #[.func (.yield l) #[] #[]] 73)).alloc (.cells es 67)) x.1 x.2 ∧ x.2 ∈ preT t} => x.1.1) (W.heap.size + 1) n0 B hB es t (by omega) L' ((W.alloc (.cells #[.func (.yield l) #[] #[]] 73)).alloc (.cells es 67)) (by
      have := heap_alloc_new (W.alloc (.cells #[.func (.yield l) #[] #[]] 73)) (.cells es 67)
      simpa using this) (by
      have : L'.map (fun x => x.1.1) = L.map (·.1) := by rw [← hL', List.map_map]; rfl
      rw [this]; exact hP) (by simp; omega)
  have hmap : L'.map (fun x => x.1.2) = preT t := (by have h3 : L'.map (fun x => x.1.2) = (L'.map (·.1)).map (·.2) := by rw [List.map_map]; rfl
                                                      exact h3.trans ((congrArg (List.map (·.2)) hL').trans hL))
  have RL : Hid _ := hN'.lod ((Below.heap_alloc W (.cells #[.func (.yield l) #[] #[]] 73) Bk (lt_of hBt')).trans hBt')
  have HY : ∀ m, Hid _ := fun m => (fun pre x W1 a b c => yield_any rfl m (hY pre x W1 a b c))
  have hbx : ((W.alloc (.cells #[.func (.yield l) #[] #[]] 73)).alloc (.cells es 67)).heap[W.heap.size]? = some (.cells #[.func (.yield l) #[] #[]] 73) := (Below.heap_alloc _ _ _ (by simp)).trans (heap_alloc_new W _)
  clear hY hP hLN hN hN' hBt hBt' hL hL' hN2
  have hKeep : ∀ V, KC B ((W.alloc (.cells #[.func (.yield l) #[] #[]] 73)).alloc (.cells es 67)) V → V.cell? ⟨W.heap.size, 0, none⟩ = some (.func (.yield l) #[] #[]) := fun V hV =>
    hV.cell (by rw [cell_of_row _ W.heap.size 0 _ 73 (0, 0) hbx]; rfl) (by show W.heap.size ≠ B; omega)
  refine callsIn_of_wp_marks Tryz.func84 rfl trivial ?_ rfl
  simp only [Tryz.ntmps84, List.size_toArray, List.length_cons, List.length_nil, Nat.reduceAdd, Nat.reduceSub, Array.replicate_succ, Array.replicate_zero, List.push_toArray, List.append_toArray, List.nil_append, List.cons_append]
  gi_wp2_with (first
    | (refine wpListIn_load_run rfl 67 _ rfl _ _ rfl RL.out ?_)
    | ((try refine ⟨trivial, ?_⟩); gi_at_call 85; refine (nodes_in Fence.wide _ trivial rfl _ _).mono ?_; rintro e w' ⟨rfl, rfl⟩))
  refine wpIn_rangeFunc_ownH rfl (by omega) (gf := 119) (lb := #[.pointer (some ⟨W.heap.size + 1, 0, none⟩)]) rfl trivial (enters_of Tryz.func119 (by kernel_rfl) rfl) hs KC.trans KC.put (Below.refl _ _) (fun _ => rfl)
    (fun q V => ∃ po : List Ex, J po V ∧ po.map (·.2.1) = q.map (fun x => x.1.2) ∧ KC B ((W.alloc (.cells #[.func (.yield l) #[] #[]] 73)).alloc (.cells es 67)) V)
    (fun c q V => c = .ret ∧ ∃ po : List Ex, Jx po V ∧ po.map (·.2.1) = q.map (fun x => x.1.2))
    (fun q A C row ⟨po, h1, h2, h3⟩ hg hr => ⟨po, hJ po A C row h1 hg (fun r e => ⟨by have := (hr r e).1; simp at this; omega, (hr r e).2⟩), h2, kc_own (β := Unit) () A C row h3 hg hr⟩)
    (fun c q A C row ⟨h0, po, h1, h2⟩ hg hr => ⟨h0, po, hJx po A C row h1 hg (fun r e => ⟨by have := (hr r e).1; simp at this; omega, (hr r e).2⟩), h2⟩)
    ⟨[], hJ.alloc _ (hJ.alloc _ h0), rfl, KC.refl _ _⟩
    (fun x a' V => ∃ b, a' = { tmps := #[.func (.yield l) #[] #[], .pointer (some ⟨Bk, 0, none⟩), .pointer (some ⟨W.heap.size, 0, none⟩), .pointer (some ⟨b, 0, none⟩), .agg es, .func (.func 119) #[] #[.pointer (some ⟨W.heap.size + 1, 0, none⟩)], .agg x.1.1, undef, undef, undef, undef, undef], defers := [] } ∧ V.heap[b]? = some (.cells x.1.1 67))
    (fun x a' _ A C row ⟨b, h1, h2⟩ hg hr => ⟨b, h1, (hg.block b (lt_of h2) (fun e => by
      obtain ⟨_, o, ho, hf⟩ := hr b e.symm
      rw [h2] at ho; cases ho; cases hf)).trans h2⟩) ?assign ?body ?done ?stop
  case assign =>
    rintro l2 q ⟨x, hx, hxp⟩ V K ⟨po, j1, j2, j3⟩ hK
    have hnx := hx.keep hB j3
    obtain ⟨b1, -⟩ := nbox V hnx.nt
    have RS : Hid _ := b1
    have HK2 := hK { tmps := #[.func (.yield l) #[] #[], .pointer (some ⟨Bk, 0, none⟩), .pointer (some ⟨W.heap.size, 0, none⟩), .pointer (some ⟨V.heap.size, 0, none⟩), .agg es, .func (.func 119) #[] #[.pointer (some ⟨W.heap.size + 1, 0, none⟩)], .agg x.1, undef, undef, undef, undef, undef], defers := [] } (V.alloc (.cells x.1 67)) (keeps_below (bel_alloc (Below.refl _ _) _)) (KC.below (bel_alloc (Below.refl _ _) _)) ⟨po, hJ.alloc _ j1, j2, j3.trans (KC.below (bel_alloc (Below.refl _ _) _))⟩ ⟨_, rfl, heap_alloc_new V _⟩
    gi_wp2_with (refine wpListIn_store_run rfl 67 _ _ rfl _ _ _ rfl rfl RS.out ?_)
    exact HK2
  case body =>
    rintro l2 q ⟨x, hx, hxp⟩ a' V _ _ ⟨po, j1, j2, j3⟩ ⟨b, rfl, hb⟩ hql
    have hD : Below V.heap.size V V.drew := (Below.refl _ _).drew
    have j1' := own_below hJ j1 hD
    have j3' := j3.trans (KC.below hD)
    have hnx := hx.keep hB j3'
    have hVs := j3.1
    simp only [World.size_alloc] at hVs
    have hVd := hD.size
    have rl2 := hnx.lod ((hD.block _ (lt_of hb)).trans hb)
    have c2 : V.cell? ⟨W.heap.size, 0, none⟩ = some (.func (.yield l) #[] #[]) := hKeep V j3
    have hpl : po.length < zT t := by
      have := congrArg List.length j2
      rw [List.length_map, List.length_map] at this
      omega
    have C : ∀ m, CallsIn Fence.wide m Tryz.prog 83 #[.agg x.1] V.drew fun e V1 => ∃ es' fn tmps assign body, e = .returned (.agg es') ∧ V1.cell? ⟨W.heap.size, 0, none⟩ = some (.func (.yield l) #[] #[]) ∧
        (Instr.yield l #[.agg es']).run Tryz.prog V1 = .ok (.round l fn tmps assign body) V1 ∧ Hid (∀ m', RoundIn Fence.wide m' Tryz.prog l fn tmps assign body V1 fun e V2 => ∃ bb, e = .returned (.bool bb) ∧ Hid (KeepsFrom ((W.alloc (.cells #[.func (.yield l) #[] #[]] 73)).alloc (.cells es 67)).heap.size V V2 ∧ (bb = true → J (po ++ [(es', x.2, V.drew.heap.size)]) V2 ∧ KC B V V2) ∧ (bb = false → Jx (po ++ [(es', x.2, V.drew.heap.size)]) V2))) := fun m =>
      (callsIn_wide (n := m)).2 ((copied_row x.2 (by have := preT_le hxp; omega) _ V.drew x.1 hnx (fun i hi => by omega)).mono (by
        rintro e V1 ⟨es', rfl, hN1, hT1, hB1⟩
        obtain ⟨fn, tmps, assign, body, hy, hR⟩ := (HY 0).out po (es', x.2, V.drew.heap.size) V1 (own_below hJ j1' hB1) ⟨by show w.heap.size ≤ V.drew.heap.size; omega, hxp, hN1, hT1⟩ hpl
        refine ⟨es', fn, tmps, assign, body, rfl, hKeep V1 (j3'.trans (KC.below hB1)), hy, fun m' => (round_any rfl hR).mono ?_⟩
        rintro e V2 ⟨hk, ⟨rfl, h1, h2⟩ | ⟨rfl, h1⟩⟩
        · exact ⟨true, rfl, (keeps_below hD).trans ((keeps_below hB1).trans (hk.up (by simp; omega))), fun _ => ⟨h1, (KC.below hD).trans ⟨Nat.le_trans hB1.size h2.1, fun i o hi hc hne => h2.2 i o ((hB1.block i (lt_of hi)).trans hi) hc hne (lt_of hi)⟩⟩, fun e => by cases e⟩
        · exact ⟨false, rfl, (keeps_below hD).trans ((keeps_below hB1).trans (hk.up (by simp; omega))), fun e => (by cases e), fun _ => h1⟩))
    gi_wp2
    refine wpIn_region_any (by kernel_rfl) ?_
    change wpAnyIn _ _ _ _ _ _ _ _ _ (World.drew _)
    refine wpAnyIn_ready (rs := [0, 1]) (by kernel_rfl) (by simp) ?_
    refine AllReadyIn.cons rfl (fun K hK => ?_) (AllReadyIn.load rfl rfl 67 _ rfl _ _ rfl rl2 ?_ AllReadyIn.nil)
    · go_simp
      refine hK _ _ ?_
      clear hK
      refine wpAnyIn_ready (rs := [1]) (by kernel_rfl) (by simp) ?_
      refine AllReadyIn.load rfl rfl 67 _ rfl _ _ rfl rl2 ?_ AllReadyIn.nil
      try simp only [Act.put, List.setIfInBounds_toArray, List.set_cons_zero, List.set_cons_succ]
      refine wpAnyIn_ready (rs := [2]) (by kernel_rfl) (by simp) ?_
      refine AllReadyIn.cons rfl (fun K hK => ?_) AllReadyIn.nil
      go_simp
      refine ⟨trivial, fun h => (by cases h), ?_⟩
      change CallsIn Fence.wide _ _ _ _ _ _
      refine (C _).mono ?_
      rintro e V1 ⟨es', fn, tmps, assign, body, rfl, c2', hy, HR⟩
      refine hK _ _ ?_
      clear hK
      refine wpAnyIn_ready (rs := [3]) (by kernel_rfl) (by simp) ?_
      refine AllReadyIn.cons rfl (fun K hK => ?_) AllReadyIn.nil
      go_simp
      refine ⟨fun h => (by cases h), ?_⟩
      change RoundIn Fence.wide _ _ _ _ _ _ _ _ _
      refine (HR.out _).mono ?_
      rintro e V2 ⟨bb, rfl, HV⟩
      refine hK _ _ ?_
      clear hK
      refine wpAnyIn_ready (rs := [4]) (by kernel_rfl) (by simp) ?_
      refine AllReadyIn.cons rfl (fun K hK => ?_) AllReadyIn.nil
      go_simp
      refine hK _ _ ?_
      clear hK
      refine wpAnyIn_done (by kernel_rfl) ?_ _
      cases bb
      · have H1 : Hid (KeepsFrom (W.heap.size + 1 + 1) V V2 ∧ Jx (po ++ [(es', x.2, V.drew.heap.size)]) V2) := ⟨by simpa using HV.out.1, HV.out.2.2 rfl⟩
        clear HV
        gi_wp2
        exact ⟨by simpa using H1.out.1, rfl, _, H1.out.2, by simp [j2]⟩
      · have H1 : Hid (KeepsFrom (W.heap.size + 1 + 1) V V2 ∧ J (po ++ [(es', x.2, V.drew.heap.size)]) V2 ∧ KC B V V2) := ⟨by simpa using HV.out.1, HV.out.2.1 rfl⟩
        clear HV
        gi_wp2
        exact ⟨by simpa using H1.out.1, H1.out.2.2, _, H1.out.2.1, by simp [j2], j3.trans H1.out.2.2⟩
    · try simp only [Act.put, List.setIfInBounds_toArray, List.set_cons_zero, List.set_cons_succ]
      refine wpAnyIn_ready (rs := [0, 2]) (by kernel_rfl) (by simp) ?_
      refine AllReadyIn.cons rfl (fun K hK => ?_) (AllReadyIn.cons rfl (fun K hK => ?_) AllReadyIn.nil)
      · go_simp
        refine hK _ _ ?_
        clear hK
        refine wpAnyIn_ready (rs := [2]) (by kernel_rfl) (by simp) ?_
        refine AllReadyIn.cons rfl (fun K hK => ?_) AllReadyIn.nil
        go_simp
        refine ⟨trivial, fun h => (by cases h), ?_⟩
        change CallsIn Fence.wide _ _ _ _ _ _
        refine (C _).mono ?_
        rintro e V1 ⟨es', fn, tmps, assign, body, rfl, c2', hy, HR⟩
        refine hK _ _ ?_
        clear hK
        refine wpAnyIn_ready (rs := [3]) (by kernel_rfl) (by simp) ?_
        refine AllReadyIn.cons rfl (fun K hK => ?_) AllReadyIn.nil
        go_simp
        refine ⟨fun h => (by cases h), ?_⟩
        change RoundIn Fence.wide _ _ _ _ _ _ _ _ _
        refine (HR.out _).mono ?_
        rintro e V2 ⟨bb, rfl, HV⟩
        refine hK _ _ ?_
        clear hK
        refine wpAnyIn_ready (rs := [4]) (by kernel_rfl) (by simp) ?_
        refine AllReadyIn.cons rfl (fun K hK => ?_) AllReadyIn.nil
        go_simp
        refine hK _ _ ?_
        clear hK
        refine wpAnyIn_done (by kernel_rfl) ?_ _
        cases bb
        · have H1 : Hid (KeepsFrom (W.heap.size + 1 + 1) V V2 ∧ Jx (po ++ [(es', x.2, V.drew.heap.size)]) V2) := ⟨by simpa using HV.out.1, HV.out.2.2 rfl⟩
          clear HV
          gi_wp2
          exact ⟨by simpa using H1.out.1, rfl, _, H1.out.2, by simp [j2]⟩
        · have H1 : Hid (KeepsFrom (W.heap.size + 1 + 1) V V2 ∧ J (po ++ [(es', x.2, V.drew.heap.size)]) V2 ∧ KC B V V2) := ⟨by simpa using HV.out.1, HV.out.2.1 rfl⟩
          clear HV
          gi_wp2
          exact ⟨by simpa using H1.out.1, H1.out.2.2, _, H1.out.2.1, by simp [j2], j3.trans H1.out.2.2⟩
      · go_simp
        refine ⟨trivial, fun h => (by cases h), ?_⟩
        change CallsIn Fence.wide _ _ _ _ _ _
        refine (C _).mono ?_
        rintro e V1 ⟨es', fn, tmps, assign, body, rfl, c2', hy, HR⟩
        refine hK _ _ ?_
        clear hK
        refine wpAnyIn_ready (rs := [0]) (by kernel_rfl) (by simp) ?_
        refine AllReadyIn.cons rfl (fun K hK => ?_) AllReadyIn.nil
        go_simp
        refine hK _ _ ?_
        clear hK
        refine wpAnyIn_ready (rs := [3]) (by kernel_rfl) (by simp) ?_
        refine AllReadyIn.cons rfl (fun K hK => ?_) AllReadyIn.nil
        go_simp
        refine ⟨fun h => (by cases h), ?_⟩
        change RoundIn Fence.wide _ _ _ _ _ _ _ _ _
        refine (HR.out _).mono ?_
        rintro e V2 ⟨bb, rfl, HV⟩
        refine hK _ _ ?_
        clear hK
        refine wpAnyIn_ready (rs := [4]) (by kernel_rfl) (by simp) ?_
        refine AllReadyIn.cons rfl (fun K hK => ?_) AllReadyIn.nil
        go_simp
        refine hK _ _ ?_
        clear hK
        refine wpAnyIn_done (by kernel_rfl) ?_ _
        cases bb
        · have H1 : Hid (KeepsFrom (W.heap.size + 1 + 1) V V2 ∧ Jx (po ++ [(es', x.2, V.drew.heap.size)]) V2) := ⟨by simpa using HV.out.1, HV.out.2.2 rfl⟩
          clear HV
          gi_wp2
          exact ⟨by simpa using H1.out.1, rfl, _, H1.out.2, by simp [j2]⟩
        · have H1 : Hid (KeepsFrom (W.heap.size + 1 + 1) V V2 ∧ J (po ++ [(es', x.2, V.drew.heap.size)]) V2 ∧ KC B V V2) := ⟨by simpa using HV.out.1, HV.out.2.1 rfl⟩
          clear HV
          gi_wp2
          exact ⟨by simpa using H1.out.1, H1.out.2.2, _, H1.out.2.1, by simp [j2], j3.trans H1.out.2.2⟩
  case done =>
    rintro D ys V hD rfl ⟨po, j1, j2, j3⟩ hK
    have e1 := j2.trans hmap
    gi_wp2
    refine ⟨by simp, .inl ⟨_, _, rfl, run_takeDeferred hK, ?_⟩⟩
    exact ⟨_, results_none rfl _ _ _, ⟨_, rfl⟩, .inl ⟨po, e1, hJ.putObj _ j1 (by simp at hD; omega) hK rfl⟩⟩
  case stop =>
    rintro D c q V hD hq ⟨rfl, po, j1, j2⟩ hK
    have e1 : po.map (·.2.1) <+: preT t := by
      rw [j2]
      have h3 := hq.map (fun x => x.1.2)
      rwa [hmap] at h3
    gi_wp2
    refine ⟨by simp, .inl ⟨_, _, rfl, run_takeDeferred hK, ?_⟩⟩
    exact ⟨_, results_none rfl _ _ _, ⟨_, rfl⟩, .inr ⟨po, e1, hJx.putObj _ j1 (by simp at hD; omega) hK rfl⟩⟩
end Go.Proofs.YtnibldnfbikipaaGreatDoor
namespace Go
open Go.RowKit
variable {P : Program} {ops : Array Oper} {Q : Exit → Act → World → Prop} {n l : Nat}
theorem calls_round {m : Nat} {f : FuncId} {args : Array Value} {w : World} {R : Ending → World → Prop} (h : Calls P f args w R) : CallsIn (Fence.wide.inRound l) m P f args w R := (callsIn_wide (n := m)).2 h
theorem rows_round {m : Nat} {row : String} {args : Array Value} {w : World} {R : Value → World → Prop} (h : Rows P row args w R) : RowsIn (Fence.wide.inRound l) m P row args w R := fun c cs _ => by
 obtain ⟨v, w', r, s⟩ := h c cs
 exact ⟨v, w', r, stepsIn_wide.2 s⟩
theorem upon_round {o : Oper} {a : Act} {next : Act → World → Prop} {r : Result Next} (h : o.upon P a next Q r) : o.uponIn (Fence.wide.inRound l) n P a next Q r := by
 match r, h with
 | .ok (.value v) w', h => exact h
 | .ok .skip w', h => exact h
 | .ok (.defer d) w', h => exact h
 | .ok (.enter f args) w', h => exact ⟨fun e => (by cases e), calls_round h⟩
 | .ok (.row row args) w', h => exact ⟨fun e => (by cases e), rows_round h⟩
 | .halt (.panic v) w', h => exact h
def noDefers (ops : Array Oper) : Bool := ops.all fun o => match o.op with | .defer _ => false | _ => true
theorem any_round (hd : noDefers ops = true) (hq : ¬ LetsOut Q) {md : Region.Mode} : ∀ (fuel : Nat) (listed : Array Bool) (a : Act) (w : World), wpAny P md ops Q fuel listed a w → wpAnyIn (Fence.wide.inRound l) n P md ops Q fuel listed a w
 | 0, _, _, _, h => h
 | fuel + 1, listed, a, w, h => ⟨h.1, fun i hi => by
  have h2 := h.2 i hi
  unfold wpOp at h2
  unfold wpOpIn
  split
  ·rename_i ho; simp only [ho] at h2; exact any_round hd hq fuel _ _ _ h2
  ·rename_i o ho
   simp only [ho] at h2
   have hnd : ∀ c, o.op ≠ .defer c := fun c e => by
    have hm := Array.mem_of_getElem? ho
    have := Array.all_eq_true_iff_forall_mem.1 hd o hm
    rw [e] at this
    cases this
   split
   ·rename_i hw
    rw [if_pos hw] at h2
    rcases h2 with h2 | h2
    ·refine ⟨fun _ _ => trivial, ?_⟩
     rw [Oper.semAt_plain _ _ _ hnd]
     refine upon_round ?_
     exact Oper.wp_mono (fun a w => any_round hd hq fuel _ a w) h2
    ·exact absurd h2.2 hq
   ·rename_i hw
    rw [if_neg hw] at h2
    exact ⟨fun _ _ => trivial, any_round hd hq fuel _ _ _ h2⟩⟩
theorem region_round {id : Nat} {a : Act} {w : World} (S : World → Prop) (D : Nat → Bool) (hm : P.follows .mixedOrders = true) (hd : noDefers ops = true) (hq : ¬ LetsOut Q)
  (h : wpAnyD P .any ops Q S D ops.size (Array.replicate ops.size false) a w.drew) : (Code.region id ops true).wpIn (Fence.wide.inRound l) n P Q a w :=
 wpIn_region_any hm (any_round hd hq _ _ _ _ (wpAny_of_d _ _ _ _ h))
end Go
namespace Go.Proofs.YtnibldnfbikipaaGreatDoor
open Go.RowKit
theorem bl_beq (x y : List UInt8) : ((ba x).toList == y) = (x == y) := by rw [ByteArray.toList_eq]
theorem opsApart_any (x y : List UInt8) (w : World) : Calls Tryz.prog 176 #[.string (ba x), .string (ba y)] w fun e w' => e = .returned (.bool (oaF x y)) ∧ w' = w := by
 unfold oaF
 have y1 := bl_beq y [61]
 have y2 := bl_beq y [62]
 have y3 := bl_beq y [62, 61]
 have x1 := bl_beq x [60]
 have x2 := bl_beq x [62]
 by_cases h60 : x = [60]
 ·subst h60
  rw [if_pos rfl]
  generalize ba y = Y at *
  cases h1 : (y == [61]) <;> cases h2 : (y == [62]) <;> cases h3 : (y == [62, 61])
  all_goals
   rw [h1] at y1
   rw [h2] at y2
   rw [h3] at y3
   clear h1 h2 h3 x1 x2
   go_enter Tryz.func176, Tryz.ntmps176
   go_wp2
   go_ret
   exact ⟨rfl, rfl⟩
 ·rw [if_neg h60]
  have x1' : ((ba x).toList == [60]) = false := by rw [x1]; exact beq_eq_false_iff_ne.2 h60
  by_cases h62 : x = [62]
  ·subst h62
   rw [if_pos rfl]
   generalize ba y = Y at *
   cases h1 : (y == [61])
   all_goals
    rw [h1] at y1
    clear h1 x1 x2 y2 y3
    go_enter Tryz.func176, Tryz.ntmps176
    go_wp2
    go_ret
    exact ⟨rfl, rfl⟩
  ·rw [if_neg h62]
   have x2' : ((ba x).toList == [62]) = false := by rw [x2]; exact beq_eq_false_iff_ne.2 h62
   clear x1 x2 y1 y2 y3
   generalize ba y = Y at *
   generalize ba x = X at *
   go_enter Tryz.func176, Tryz.ntmps176
   go_wp2
   go_ret
   exact ⟨rfl, rfl⟩
theorem apart_core {a b : TT} {w : World} {q : Bool} (OA : ∀ u, Calls Tryz.prog 176 #[.string a.s, .string b.s] u fun e w' => e = .returned (.bool q) ∧ w' = u) :
  Calls Tryz.prog 132 #[.agg (tcs a.k a.n a.s a.b a.h a.r a.c a.fr a.fc), .agg (tcs b.k b.n b.s b.b b.h b.r b.c b.fr b.fc)] w fun e w' => e = .returned (.bool (if a.k = 5 then (if b.k = 5 then q else false) else (if b.k = 5 then false else true))) ∧ Below w.heap.size w w' := by
 obtain ⟨ak, an, ast, ab, ah, ar, ac, afr, afc⟩ := a
 obtain ⟨bk, bn, bs, bb, bh, br, bc, bfr, bfc⟩ := b
 simp only at OA ⊢
 by_cases h1 : ak = 5 <;> by_cases h2 : bk = 5
 ·subst h1 h2
  rw [if_pos rfl, if_pos rfl]
  go_enter Tryz.func132, Tryz.ntmps132
  go_wp2_with (go_at_call 176; refine (OA _).mono ?_; rintro e w' ⟨rfl, hw⟩; obtain rfl := hw.symm; clear hw)
  go_ret
  exact ⟨rfl, bel_alloc (bel_alloc (Below.refl _ _) _) _⟩
 all_goals
  clear OA
  have g1 : (ak == 5) = decide (ak = 5) := rfl
  have g2 : (bk == 5) = decide (bk = 5) := rfl
  simp only [h1, h2, decide_true, decide_false] at g1 g2
  go_enter Tryz.func132, Tryz.ntmps132
  go_wp2
  go_ret
  refine ⟨?_, bel_alloc (bel_alloc (Below.refl _ _) _) _⟩
  simp [h1, h2]
theorem apart_any (a b : Tk.Tok) (w : World) : Calls Tryz.prog 132 #[.agg (tcs (tk a).k (tk a).n (tk a).s (tk a).b (tk a).h (tk a).r (tk a).c (tk a).fr (tk a).fc), .agg (tcs (tk b).k (tk b).n (tk b).s (tk b).b (tk b).h (tk b).r (tk b).c (tk b).fr (tk b).fc)] w fun e w' => e = .returned (.bool (apT a b)) ∧ Below w.heap.size w w' := by
 have key := fun (q : Bool) OA => apart_core (a := tk a) (b := tk b) (w := w) (q := q) OA
 cases a using Tk.Tok.cs with
 | op x =>
  cases b using Tk.Tok.cs with
  | op y => exact key (oaF x y) (fun u => opsApart_any x y u)
  | num n => exact key _ (fun u => opsApart_any x [] u)
  | str s => exact key _ (fun u => opsApart_any x s u)
  | ref r => exact key _ (fun u => opsApart_any x [] u)
  | word b' s => exact key _ (fun u => opsApart_any x s u)
  | bad n => exact key _ (fun u => opsApart_any x [] u)
 | num n =>
  cases b using Tk.Tok.cs with
  | op y => exact key _ (fun u => opsApart_any [] y u)
  | num n => exact key _ (fun u => opsApart_any [] [] u)
  | str s => exact key _ (fun u => opsApart_any [] s u)
  | ref r => exact key _ (fun u => opsApart_any [] [] u)
  | word b' s => exact key _ (fun u => opsApart_any [] s u)
  | bad n => exact key _ (fun u => opsApart_any [] [] u)
 | str s0 =>
  cases b using Tk.Tok.cs with
  | op y => exact key _ (fun u => opsApart_any s0 y u)
  | num n => exact key _ (fun u => opsApart_any s0 [] u)
  | str s => exact key _ (fun u => opsApart_any s0 s u)
  | ref r => exact key _ (fun u => opsApart_any s0 [] u)
  | word b' s => exact key _ (fun u => opsApart_any s0 s u)
  | bad n => exact key _ (fun u => opsApart_any s0 [] u)
 | ref r0 =>
  cases b using Tk.Tok.cs with
  | op y => exact key _ (fun u => opsApart_any [] y u)
  | num n => exact key _ (fun u => opsApart_any [] [] u)
  | str s => exact key _ (fun u => opsApart_any [] s u)
  | ref r => exact key _ (fun u => opsApart_any [] [] u)
  | word b' s => exact key _ (fun u => opsApart_any [] s u)
  | bad n => exact key _ (fun u => opsApart_any [] [] u)
 | word b0 s0 =>
  cases b using Tk.Tok.cs with
  | op y => exact key _ (fun u => opsApart_any s0 y u)
  | num n => exact key _ (fun u => opsApart_any s0 [] u)
  | str s => exact key _ (fun u => opsApart_any s0 s u)
  | ref r => exact key _ (fun u => opsApart_any s0 [] u)
  | word b' s => exact key _ (fun u => opsApart_any s0 s u)
  | bad n => exact key _ (fun u => opsApart_any s0 [] u)
 | bad n0 =>
  cases b using Tk.Tok.cs with
  | op y => exact key _ (fun u => opsApart_any [] y u)
  | num n => exact key _ (fun u => opsApart_any [] [] u)
  | str s => exact key _ (fun u => opsApart_any [] s u)
  | ref r => exact key _ (fun u => opsApart_any [] [] u)
  | word b' s => exact key _ (fun u => opsApart_any [] s u)
  | bad n => exact key _ (fun u => opsApart_any [] [] u)
theorem pbook_any (x : List UInt8) (hx : x.length ≤ 1000) (w : World) : Calls Tryz.prog 181 #[.string (ba x)] w fun e w' => e = .returned (.string (ba (if x = [] then [] else 91 :: (x ++ [93])))) ∧ w' = w := by
 by_cases h : x = []
 ·subst h
  rw [if_pos rfl]
  go_enter Tryz.func181, Tryz.ntmps181
  go_wp2
  go_ret
  exact ⟨rfl, rfl⟩
 ·rw [if_neg h]
  have hne : ((ba x).toList == []) = false := by rw [bl_beq]; exact beq_eq_false_iff_ne.2 h
  have e1 : (⟨#[91]⟩ : ByteArray) ++ ba x = ba (91 :: x) := app_mk [91] x
  have e2 : ba (91 :: x) ++ (⟨#[93]⟩ : ByteArray) = ba (91 :: (x ++ [93])) := app_mk (91 :: x) [93]
  have s0 : (ba x).size = x.length := size_mk x
  have s1 : (ba (91 :: x)).size = x.length + 1 := size_mk (91 :: x)
  obtain ⟨R, hR⟩ : ∃ R, R = ba (91 :: (x ++ [93])) := ⟨_, rfl⟩
  rw [← hR] at e2 ⊢
  generalize ba (91 :: x) = Y at *
  generalize ba x = X at *
  have n1 : ¬ 9223372036854775807 < 1 + x.length := by omega
  have n2 : ¬ 9223372036854775807 < x.length + 1 + 1 := by omega
  clear hR
  go_enter Tryz.func181, Tryz.ntmps181
  go_wp2
  go_ret
  exact ⟨rfl, rfl⟩
end Go.Proofs.YtnibldnfbikipaaGreatDoor
