import Derived.Test.YtdgnodijmbeajaaGreatDoorPToken
import Derived.Test.YtdgnodijmbeajaaGreatDoorTSame
import Derived.Test.YtdgnodijmbeajaaGreatDoorTText2
import Derived.Test.YtdgnodijmbeajaaGreatDoorTLex
/- Print of the program. -/
namespace Go.Proofs.YtdgnodijmbeajaaGreatDoor
open Go.RowKit
set_option maxRecDepth 100000
set_option linter.unusedVariables false
set_option linter.unusedSimpArgs false
/-- The builder, and what is older. -/
structure PX (w : World) (acc : List UInt8) (u : World) : Prop where
  bel : Below w.heap.size w u
  bd : Lib.IsBuilderF 52 5 w.heap.size w.heap.size (Lib.byteCells acc) u
  gt : w.heap.size < u.heap.size
theorem bdAt_keptN {T e : TypeId} {B k : Nat} {p : Value} {bs : List Value} {w w' : World} (h : Lib.BuilderAtF T e B k p bs w) (hg : w.grownBy w' none) : Lib.BuilderAtF T e B k p bs w' := by
  have hlt := h.lt
  obtain ⟨hB, v, hk, hown, hne⟩ := h
  exact ⟨hB, v, (hg.block k hlt (by simp)).trans hk, hown.kept hg (by cases v.ownBlock <;> simp), hne⟩
theorem PX.below {w u u1 : World} {acc : List UInt8} (h : PX w acc u) (hb : Below u.heap.size u u1) : PX w acc u1 :=
  ⟨bel_step h.bel hb, h.bd.elim (fun x => .inl (bdAt_keptN x (grown_below hb))) (fun x => .inr (bdAt_keptN x (grown_below hb))), Nat.lt_of_lt_of_le h.gt hb.size⟩
theorem PX.alloc {w u : World} {acc : List UInt8} (h : PX w acc u) (o : Obj) : PX w acc (u.alloc o) := h.below (bel_alloc (Below.refl _ _) o)
theorem PX.drew {w u : World} {acc : List UInt8} (h : PX w acc u) : PX w acc u.drew := h.below (Below.refl _ _).drew
theorem PX.begin (w : World) : PX w [] (w.alloc (.cells #[.pointer none, .slice none 0 0] 52)) :=
  ⟨bel_alloc (Below.refl _ _) _, Lib.IsBuilderF.of (Lib.fresh_isBuilder 52 5 w), by simp⟩
theorem pw_any {w u : World} {acc : List UInt8} (h : PX w acc u) (s : List UInt8) (hs : acc.length + s.length ≤ 1000000) :
    Calls Tryz.prog 19 #[.pointer (some ⟨w.heap.size, 0, none⟩), .string (ba s)] u fun e w' => e = .returned (.tuple #[.int .i64 (s.length : Nat), .nilIface]) ∧ PX w (acc ++ s) w' ∧ ∀ (k : Nat) (es : Array Value), u.heap[k]? = some (Obj.cells es 35) → w'.heap[k]? = some (Obj.cells es 35) := by
  have := Tryz.Builder_WriteString_k w.heap.size w.heap.size (Lib.byteCells acc) (ba s) u h.bd (by rw [Lib.byteCells_length, size_mk]; omega) (by have := h.gt; omega)
  refine this.mono ?_
  rintro e w' ⟨rfl, h1, h2, h3⟩
  refine ⟨by rw [size_mk], ⟨h.bel.trans h2, .inr (by
    have e : Lib.byteCells (acc ++ s) = Lib.byteCells acc ++ Lib.strCells (ba s) := by simp [Lib.byteCells, Lib.strCells]
    rw [e]; exact h1), Nat.lt_of_lt_of_le h.gt h2.size⟩, fun k es hk => ?_⟩
  have hbd : ∃ p v, u.heap[w.heap.size]? = some (.cells #[p, v] 52 (0, 0)) := by
    rcases h.bd with ⟨_, v, hb, _⟩ | ⟨_, v, hb, _⟩
    · exact ⟨_, v, hb⟩
    · exact ⟨_, v, hb⟩
  obtain ⟨p, v, hb⟩ := hbd
  exact h3 k _ hk (fun e => by
    have e2 : k = w.heap.size := Option.some.inj e
    rw [e2, hb] at hk; cases hk) (fun c fz e => by cases e)
theorem ps_any {w u : World} {acc : List UInt8} (h : PX w acc u) :
    Calls Tryz.prog 21 #[.pointer (some ⟨w.heap.size, 0, none⟩)] u fun e w' => e = .returned (.string (ba acc)) ∧ Below w.heap.size w w' := by
  have := Tryz.Builder_String_any_k w.heap.size w.heap.size acc u h.bd (by have := h.gt; omega)
  refine this.mono ?_
  rintro e w' ⟨rfl, _, h2, _⟩
  exact ⟨rfl, h.bel.trans h2⟩
theorem take_last : ∀ (L : List Tk.Tok) (k : Nat) (h : k < L.length), lastT none (L.take (k + 1)) = some L[k] := fun L k h => by
  rw [List.take_succ_eq_append_getElem h]
  exact lastT_snoc _ _ _
theorem pr_len : ∀ (L : List Tk.Tok) (o : Option Tk.Tok), (∀ t ∈ L, (txT t).length ≤ 600) → (prT o L).length ≤ 601 * L.length
  | [], _, _ => Nat.zero_le _
  | t :: L, o, h => by
    have h1 := pr_len L (some t) (fun x hx => h x (by simp [hx]))
    have h2 := h t (by simp)
    have h3 : (sepT o t).length ≤ 1 := by
      unfold sepT
      split
      · simp
      · split <;> simp
    show (sepT o t ++ (txT t ++ prT (some t) L)).length ≤ _
    rw [List.length_append, List.length_append, List.length_cons]
    omega
set_option maxHeartbeats 8000000 in
theorem print_toks {base : Nat} {w : World} {v : Value} {L : List Tk.Tok} (T : Tab9 w) (h : OwnT 35 base w v (L.map tk)) (hL : L.length ≤ 255) (hok : ∀ t ∈ L, Tk.okT gnF trB okN t) (hsm : ∀ t ∈ L, smT t) :
    Calls Tryz.prog 10 #[v] w fun e w' => e = .returned (.string (ba (prT none L))) ∧ Below w.heap.size w w' := by
  obtain ⟨a, c, rfl⟩ := h.slice
  rw [List.length_map] at h ⊢
  have H : Hid (OwnT 35 base w (.slice a L.length c) (L.map tk)) := h
  have HT : Hid (Tab9 w) := T
  have HK : Hid (∀ (k : Nat) (hk : k < L.length) (u : World), Below w.heap.size w u → Calls Tryz.prog 20 #[.agg (tcs (tk L[k]).k (tk L[k]).n (tk L[k]).s (tk L[k]).b (tk L[k]).h (tk L[k]).r (tk L[k]).c (tk L[k]).fr (tk L[k]).fc)] u fun e w' => e = .returned (.string (ba (txT L[k]))) ∧ Below u.heap.size u w') :=
    fun k hk u hu => ptok_any L[k] (hok _ (List.getElem_mem hk)) (hsm _ (List.getElem_mem hk)) u (T.below hu)
  have HTL : Hid (∀ t ∈ L, (txT t).length ≤ 600) := fun t ht => tx_len (hok t ht) (hsm t ht)
  have HB0 : Hid (PX w [] (w.alloc (.cells #[.pointer none, .slice none 0 0] 52))) := PX.begin w
  clear h T hok hsm
  go_enter Tryz.func10, Tryz.ntmps10
  go_wp2
  go_loopw [4, 8] (fun _ i wr => ∃ k : Nat, k ≤ L.length ∧ i = .int .i64 (k : Nat) ∧ Hid (PX w (prT none (L.take k)) wr)) (fun _ i _ => L.length - (intOf i).toNat)
  case atStart => exact ⟨0, Nat.zero_le _, rfl, HB0⟩
  case round =>
    obtain ⟨k, hk, rfl, HP⟩ := hrel
    clear HB0
    by_cases hlt : k < L.length
    · have hki : (k : Int) < L.length := by omega
      have hltm : k < (L.map tk).length := by rw [List.length_map]; exact hlt
      obtain ⟨a', rfl, hld⟩ := (H.out.below HP.out.bel).load2 hltm rfl Tryz.underlying35 inf35
      rw [List.getElem_map] at hld
      have RL : Hid _ := hld
      have PT := HK.out k hlt
      have htl := HTL.out L[k] (List.getElem_mem hlt)
      have hac : (prT none (L.take k)).length ≤ 601 * 255 := by
        have := pr_len (L.take k) none (fun t ht => HTL.out t (List.mem_of_mem_take ht))
        rw [List.length_take] at this
        omega
      have HSN : Hid (prT none (L.take (k + 1)) = prT none (L.take k) ++ (sepT (lastT none (L.take k)) L[k] ++ txT L[k])) := by
        show _ = _
        rw [List.take_succ_eq_append_getElem hlt]
        exact prT_snoc _ _ _
      by_cases hk0 : k = 0
      · have HSE : Hid (sepT (lastT none (L.take k)) L[k] = []) := by
          show _ = _
          have : L.take k = [] := by rw [hk0]; rfl
          rw [this]; rfl
        have hd0 : decide ((0 : Int) < (k : Int)) = false := decide_eq_false (by omega)
        have hn0 : ¬ (0 : Int) < (k : Int) := by omega
        clear hk0 HK HTL hld H
        generalize prT none (L.take k) = acc at *
        generalize txT L[k] = tx at *
        generalize htt : tk L[k] = tt at *
        clear htt
        have HU : Hid (PX w acc ((wr.alloc (.cells (tcs tt.k tt.n tt.s tt.b tt.h tt.r tt.c tt.fr tt.fc) 35)).drew)) := (HP.out.alloc _).drew
        have HR5 : Hid (∀ u : World, u.heap[wr.heap.size]? = some (.cells (tcs tt.k tt.n tt.s tt.b tt.h tt.r tt.c tt.fr tt.fc) 35) → (Instr.loadAt 35 (.pointer (some ⟨wr.heap.size, 0, none⟩))).run Tryz.prog u = .ok (.agg (tcs tt.k tt.n tt.s tt.b tt.h tt.r tt.c tt.fr tt.fc)) u) := fun u hu => lod hu rfl Tryz.underlying35 inf35
        have HH5 : Hid ((wr.alloc (.cells (tcs tt.k tt.n tt.s tt.b tt.h tt.r tt.c tt.fr tt.fc) 35)).drew.heap[wr.heap.size]? = some (.cells (tcs tt.k tt.n tt.s tt.b tt.h tt.r tt.c tt.fr tt.fc) 35)) := heap_alloc_new wr _
        have R5 := HR5.out _ HH5.out
        have R5h : Hid _ := R5
        clear R5
        go_wp2_with (refine wpList_load_run rfl 35 _ rfl _ _ rfl RL.out ?_)
        refine wp_region_d (fun _ => True) (fun _ => false) (by kernel_rfl) ?_
        refine wpAnyD_pured (i := 0) (v := .int .i64 (k : Int)) rfl rfl (by kernel_rfl) (by kernel_rfl) (by kernel_rfl) (fun _ _ _ h => h) (by go_simp) (by intro u; go_simp) ?_
        try simp only [Act.put, List.setIfInBounds_toArray, List.set_cons_zero, List.set_cons_succ]
        refine wpAnyD_pured (i := 1) (v := .bool false) rfl rfl (by kernel_rfl) (by kernel_rfl) (by kernel_rfl) (fun _ _ _ h => h) (by go_simp) (by intro u; go_simp; omega) ?_
        try simp only [Act.put, List.setIfInBounds_toArray, List.set_cons_zero, List.set_cons_succ]
        refine wpAnyD_pured (i := 2) (v := .bool false) rfl rfl (by kernel_rfl) (by kernel_rfl) (by kernel_rfl) (fun _ _ _ h => h) (by go_simp) (by intro u; go_simp) ?_
        try simp only [Act.put, List.setIfInBounds_toArray, List.set_cons_zero, List.set_cons_succ]
        refine wpAnyD_skipd (i := 3) rfl rfl (by kernel_rfl) (by kernel_rfl) (by kernel_rfl) (fun _ _ _ h => h) (by go_simp) ?_
        try simp only [Act.put, List.setIfInBounds_toArray, List.set_cons_zero, List.set_cons_succ]
        refine wpAnyD_skipd (i := 4) rfl rfl (by kernel_rfl) (by kernel_rfl) (by kernel_rfl) (fun _ _ _ h => h) (by go_simp) ?_
        try simp only [Act.put, List.setIfInBounds_toArray, List.set_cons_zero, List.set_cons_succ]
        refine wpAnyD_skipd (i := 5) rfl rfl (by kernel_rfl) (by kernel_rfl) (by kernel_rfl) (fun _ _ _ h => h) (by go_simp) ?_
        try simp only [Act.put, List.setIfInBounds_toArray, List.set_cons_zero, List.set_cons_succ]
        refine wpAnyD_skipd (i := 6) rfl rfl (by kernel_rfl) (by kernel_rfl) (by kernel_rfl) (fun _ _ _ h => h) (by go_simp) ?_
        try simp only [Act.put, List.setIfInBounds_toArray, List.set_cons_zero, List.set_cons_succ]
        refine wpAnyD_skipd (i := 7) rfl rfl (by kernel_rfl) (by kernel_rfl) (by kernel_rfl) (fun _ _ _ h => h) (by go_simp) ?_
        try simp only [Act.put, List.setIfInBounds_toArray, List.set_cons_zero, List.set_cons_succ]
        refine wpAnyD_skipd (i := 8) rfl rfl (by kernel_rfl) (by kernel_rfl) (by kernel_rfl) (fun _ _ _ h => h) (by go_simp) ?_
        try simp only [Act.put, List.setIfInBounds_toArray, List.set_cons_zero, List.set_cons_succ]
        refine wpAnyD_skipd (i := 9) rfl rfl (by kernel_rfl) (by kernel_rfl) (by kernel_rfl) (fun _ _ _ h => h) (by go_simp) ?_
        try simp only [Act.put, List.setIfInBounds_toArray, List.set_cons_zero, List.set_cons_succ]
        refine wpAnyD_pured (i := 10) (v := .bool false) rfl rfl (by kernel_rfl) (by kernel_rfl) (by kernel_rfl) (fun _ _ _ h => h) (by go_simp) (by intro u; go_simp) ?_
        try simp only [Act.put, List.setIfInBounds_toArray, List.set_cons_zero, List.set_cons_succ]
        refine wpAnyD_done (by kernel_rfl) ?_ _
        have PW := fun u (Y : PX w acc u) => pw_any Y tx (by omega)
        go_wp2_with (first
          | (refine wpList_load_run rfl 35 _ rfl _ _ rfl R5h.out ?_)
          | (go_at_call 20; refine (PT _ HU.out.bel).mono ?_; rintro e w2 ⟨rfl, hs⟩; have HU2 : Hid (PX w acc w2) := HU.out.below hs; clear hs)
          | (go_at_call 19; refine (PW _ HU2.out).mono ?_; rintro e w3 ⟨rfl, hs, hs2⟩; have HU3 : Hid (PX w (acc ++ tx) w3) := hs; clear hs hs2))
        go_roundw
        case rel => exact ⟨k + 1, by omega, by go_num, by show PX _ _ _; rw [HSN.out, HSE.out]; exact HU3.out⟩
        case measure => simp [intOf]; omega
      · obtain ⟨kp, hkp⟩ : ∃ kp : Nat, k = kp + 1 := ⟨k - 1, by omega⟩
        have hk1 : kp < L.length := by omega
        have hk1m : kp < (L.map tk).length := by rw [List.length_map]; exact hk1
        have HSE : Hid (sepT (lastT none (L.take k)) L[k] = if apT L[kp] L[k] = true then [32] else []) := by
          show _ = _
          have e1 : L.take k = L.take (kp + 1) := by rw [hkp]
          rw [e1, take_last L kp hk1]; rfl
        have hd0 : (0 : Int) < (k : Int) := by omega
        have hsub : (k : Int) - 1 = (kp : Int) := by omega
        have hkpi : (kp : Int) < L.length := by omega
        have hwk : IntKind.i64.wrap (kp : Int) = (kp : Int) := by
          simp [IntKind.wrap, IntKind.bits, IntKind.signed]
          omega
        have hl2 : ∀ u, Below wr.heap.size wr u → (Instr.loadAt 35 (.pointer (some (a'.add (kp * 9))))).run Tryz.prog u = .ok (.agg (tcs (tk L[kp]).k (tk L[kp]).n (tk L[kp]).s (tk L[kp]).b (tk L[kp]).h (tk L[kp]).r (tk L[kp]).c (tk L[kp]).fr (tk L[kp]).fc)) u := fun u hu => by
          obtain ⟨a2, e2, h2⟩ := (H.out.below (bel_step HP.out.bel hu)).load2 hk1m rfl Tryz.underlying35 inf35
          cases e2
          rw [List.getElem_map] at h2
          exact h2
        have AP := fun u => apart_any L[kp] L[k] u
        generalize apT L[kp] L[k] = q at *
        clear hk0 HK HTL hld H hkp hk1m
        generalize prT none (L.take k) = acc at *
        generalize txT L[k] = tx at *
        generalize tk L[k] = tt at *
        generalize tk L[kp] = tp at *
        have HU : Hid (PX w acc ((wr.alloc (.cells (tcs tt.k tt.n tt.s tt.b tt.h tt.r tt.c tt.fr tt.fc) 35)).drew)) := (HP.out.alloc _).drew
        have HR5 : Hid (∀ u : World, u.heap[wr.heap.size]? = some (.cells (tcs tt.k tt.n tt.s tt.b tt.h tt.r tt.c tt.fr tt.fc) 35) → (Instr.loadAt 35 (.pointer (some ⟨wr.heap.size, 0, none⟩))).run Tryz.prog u = .ok (.agg (tcs tt.k tt.n tt.s tt.b tt.h tt.r tt.c tt.fr tt.fc)) u) := fun u hu => lod hu rfl Tryz.underlying35 inf35
        have HH5 : Hid ((wr.alloc (.cells (tcs tt.k tt.n tt.s tt.b tt.h tt.r tt.c tt.fr tt.fc) 35)).drew.heap[wr.heap.size]? = some (.cells (tcs tt.k tt.n tt.s tt.b tt.h tt.r tt.c tt.fr tt.fc) 35)) := heap_alloc_new wr _
        have HS : Hid ((Instr.loadAt 35 (.pointer (some (a'.add (kp * 9))))).run Tryz.prog ((wr.alloc (.cells (tcs tt.k tt.n tt.s tt.b tt.h tt.r tt.c tt.fr tt.fc) 35)).drew) = .ok (.agg (tcs tp.k tp.n tp.s tp.b tp.h tp.r tp.c tp.fr tp.fc)) ((wr.alloc (.cells (tcs tt.k tt.n tt.s tt.b tt.h tt.r tt.c tt.fr tt.fc) 35)).drew) ∧ (Instr.loadAt 35 (.pointer (some ⟨wr.heap.size, 0, none⟩))).run Tryz.prog ((wr.alloc (.cells (tcs tt.k tt.n tt.s tt.b tt.h tt.r tt.c tt.fr tt.fc) 35)).drew) = .ok (.agg (tcs tt.k tt.n tt.s tt.b tt.h tt.r tt.c tt.fr tt.fc)) ((wr.alloc (.cells (tcs tt.k tt.n tt.s tt.b tt.h tt.r tt.c tt.fr tt.fc) 35)).drew)) :=
          ⟨hl2 _ (bel_alloc (Below.refl _ _) _).drew, HR5.out _ HH5.out⟩
        clear hl2
        go_wp2_with (refine wpList_load_run rfl 35 _ rfl _ _ rfl RL.out ?_)
        refine wp_region_d (fun u => (Instr.loadAt 35 (.pointer (some (a'.add (kp * 9))))).run Tryz.prog u = .ok (.agg (tcs tp.k tp.n tp.s tp.b tp.h tp.r tp.c tp.fr tp.fc)) u ∧ (Instr.loadAt 35 (.pointer (some ⟨wr.heap.size, 0, none⟩))).run Tryz.prog u = .ok (.agg (tcs tt.k tt.n tt.s tt.b tt.h tt.r tt.c tt.fr tt.fc)) u) (fun j => j == 9) (by kernel_rfl) ?_
        refine wpAnyD_pured (i := 0) (v := .int .i64 (k : Int)) rfl rfl (by kernel_rfl) (by kernel_rfl) (by kernel_rfl) (fun _ _ _ h => h) (by go_simp) (by intro u; go_simp) ?_
        try simp only [Act.put, List.setIfInBounds_toArray, List.set_cons_zero, List.set_cons_succ]
        refine wpAnyD_pured (i := 1) (v := .bool true) rfl rfl (by kernel_rfl) (by kernel_rfl) (by kernel_rfl) (fun _ _ _ h => h) (by go_simp) (by intro u; go_simp; omega) ?_
        try simp only [Act.put, List.setIfInBounds_toArray, List.set_cons_zero, List.set_cons_succ]
        refine wpAnyD_pured (i := 2) (v := .bool true) rfl rfl (by kernel_rfl) (by kernel_rfl) (by kernel_rfl) (fun _ _ _ h => h) (by go_simp) (by intro u; go_simp) ?_
        try simp only [Act.put, List.setIfInBounds_toArray, List.set_cons_zero, List.set_cons_succ]
        refine wpAnyD_pured (i := 3) (v := .slice (some a') L.length c) rfl rfl (by kernel_rfl) (by kernel_rfl) (by kernel_rfl) (fun _ _ _ h => h) (by go_simp) (by intro u; go_simp) ?_
        try simp only [Act.put, List.setIfInBounds_toArray, List.set_cons_zero, List.set_cons_succ]
        refine wpAnyD_pured (i := 4) (v := .int .i64 (k : Int)) rfl rfl (by kernel_rfl) (by kernel_rfl) (by kernel_rfl) (fun _ _ _ h => h) (by go_simp) (by intro u; go_simp) ?_
        try simp only [Act.put, List.setIfInBounds_toArray, List.set_cons_zero, List.set_cons_succ]
        refine wpAnyD_pured (i := 5) (v := .int .i64 (kp : Int)) rfl rfl (by kernel_rfl) (by kernel_rfl) (by kernel_rfl) (fun _ _ _ h => h) (by go_simp) (by intro u; go_simp) ?_
        try simp only [Act.put, List.setIfInBounds_toArray, List.set_cons_zero, List.set_cons_succ]
        refine wpAnyD_pured (i := 6) (v := .pointer (some (a'.add (kp * 9)))) rfl rfl (by kernel_rfl) (by kernel_rfl) (by kernel_rfl) (fun _ _ _ h => h) (by go_simp) (by intro u; go_simp) ?_
        try simp only [Act.put, List.setIfInBounds_toArray, List.set_cons_zero, List.set_cons_succ]
        refine wpAnyD_loadd (i := 7) (v := .agg (tcs tp.k tp.n tp.s tp.b tp.h tp.r tp.c tp.fr tp.fc)) rfl rfl (by kernel_rfl) (by kernel_rfl) (by kernel_rfl) (by kernel_rfl) (fun _ _ _ h => h) (by go_simp) (fun u hSu => exec_load_run rfl rfl hSu.1) HS.out ?_
        try simp only [Act.put, List.setIfInBounds_toArray, List.set_cons_zero, List.set_cons_succ]
        refine wpAnyD_loadd (i := 8) (v := .agg (tcs tt.k tt.n tt.s tt.b tt.h tt.r tt.c tt.fr tt.fc)) rfl rfl (by kernel_rfl) (by kernel_rfl) (by kernel_rfl) (by kernel_rfl) (fun _ _ _ h => h) (by go_simp) (fun u hSu => exec_load_run rfl rfl hSu.2) HS.out ?_
        try simp only [Act.put, List.setIfInBounds_toArray, List.set_cons_zero, List.set_cons_succ]
        refine wpAnyD_one (i := 9) (by kernel_rfl) rfl ?_
        intro K hK
        go_simp
        refine (AP _).mono ?_
        rintro e w2 ⟨rfl, hs⟩
        have HU2 : Hid (PX w acc w2) := HU.out.below hs
        have HH6 : Hid (w2.heap[wr.heap.size]? = some (.cells (tcs tt.k tt.n tt.s tt.b tt.h tt.r tt.c tt.fr tt.fc) 35)) := (hs.block _ (lt_of HH5.out)).trans HH5.out
        clear hs
        refine hK _ _ (.inl rfl) ?_
        clear hK
        try simp only [Act.put, List.setIfInBounds_toArray, List.set_cons_zero, List.set_cons_succ]
        refine wpAnyD_pured (i := 10) (v := .bool q) rfl rfl (by kernel_rfl) (by kernel_rfl) (by kernel_rfl) (fun _ _ _ h => h) (by go_simp) (by intro u; go_simp) ?_
        try simp only [Act.put, List.setIfInBounds_toArray, List.set_cons_zero, List.set_cons_succ]
        refine wpAnyD_done (by kernel_rfl) ?_ _
        clear HS HU HH5 AP
        cases q
        · have R5h : Hid _ := HR5.out _ HH6.out
          have PW := fun u (Y : PX w acc u) => pw_any Y tx (by omega)
          go_wp2_with (first
            | (refine wpList_load_run rfl 35 _ rfl _ _ rfl R5h.out ?_)
            | (go_at_call 20; refine (PT _ HU2.out.bel).mono ?_; rintro e w3 ⟨rfl, hs⟩; have HU3 : Hid (PX w acc w3) := HU2.out.below hs; clear hs)
            | (go_at_call 19; refine (PW _ HU3.out).mono ?_; rintro e w4 ⟨rfl, hs, hs2⟩; have HU4 : Hid (PX w (acc ++ tx) w4) := hs; clear hs hs2))
          go_roundw
          case rel => exact ⟨k + 1, by omega, by go_num, by show PX _ _ _; rw [HSN.out, HSE.out]; exact HU4.out⟩
          case measure => simp [intOf]; omega
        · have PB := fun u (Y : PX w acc u) => pw_any Y [32] (by simp only [List.length_cons, List.length_nil]; omega)
          have PW := fun u (Y : PX w (acc ++ [32]) u) => pw_any Y tx (by simp only [List.length_append, List.length_cons, List.length_nil]; omega)
          have PB' : ∀ u, PX w acc u → Calls Tryz.prog 19 #[.pointer (some ⟨w.heap.size, 0, none⟩), .string ⟨#[32]⟩] u fun e w' => e = .returned (.tuple #[.int .i64 1, .nilIface]) ∧ PX w (acc ++ [32]) w' ∧ ∀ (k : Nat) (es : Array Value), u.heap[k]? = some (Obj.cells es 35) → w'.heap[k]? = some (Obj.cells es 35) := PB
          clear PB
          go_wp2_with (first
            | (go_at_call 19; refine (PB' _ HU2.out).mono ?_; rintro e w3 ⟨rfl, hs, hs2⟩; have HU3 : Hid (PX w (acc ++ [32]) w3) := hs; have R5h : Hid _ := HR5.out _ (hs2 _ _ HH6.out); clear hs hs2 HU2)
            | (refine wpList_load_run rfl 35 _ rfl _ _ rfl R5h.out ?_)
            | (go_at_call 20; refine (PT _ HU3.out.bel).mono ?_; rintro e w4 ⟨rfl, hs⟩; have HU4 : Hid (PX w (acc ++ [32]) w4) := HU3.out.below hs; clear hs)
            | (go_at_call 19; refine (PW _ HU4.out).mono ?_; rintro e w5 ⟨rfl, hs, hs2⟩; have HU5 : Hid (PX w (acc ++ [32] ++ tx) w5) := hs; clear hs hs2))
          go_roundw
          case rel => exact ⟨k + 1, by omega, by go_num, by show PX _ _ _; rw [HSN.out, HSE.out]; have := HU5.out; rw [List.append_assoc] at this; exact this⟩
          case measure => simp [intOf]; omega
    · have hki : ¬ (k : Int) < L.length := by omega
      have HE : Hid (L.take k = L) := List.take_of_length_le (by omega)
      have SG := fun u (Y : PX w (prT none (L.take k)) u) => ps_any Y
      clear HK HTL H
      rw [HE.out] at SG HP
      obtain ⟨acc, hacc⟩ : ∃ acc, acc = prT none L := ⟨_, rfl⟩
      rw [← hacc] at SG HP
      have HA : Hid (acc = prT none L) := hacc
      clear hacc HE
      go_wp2_with (go_at_call 21; refine (SG _ HP.out).mono ?_; rintro e w2 ⟨rfl, hs⟩; have HU2 : Hid (Below w.heap.size w w2) := hs; clear hs)
      go_ret
      exact ⟨by rw [← HA.out]; rfl, HU2.out⟩
end Go.Proofs.YtdgnodijmbeajaaGreatDoor

/- lives: the document's examples. -/
namespace Go.Proofs.YtdgnodijmbeajaaGreatDoor
open Go.RowKit
set_option maxRecDepth 100000
set_option linter.unusedVariables false
set_option linter.unusedSimpArgs false
abbrev exL : List Tk.Tok := [.ref ⟨[], [], ⟨1, 1, false, false⟩⟩, .op [43], .num 20000]
theorem lx1 : lexF [65, 49, 43, 50] = some exL := by kernel_rfl
theorem lx2 : lexF [65, 49, 48, 48] = none := by kernel_rfl
theorem px1 : prT none exL = [65, 49, 43, 50] := by
  have e1 : Ad.refW ⟨[], [], ⟨1, 1, false, false⟩⟩ = [65, 49] := by
    unfold Ad.refW Ad.cellW
    rw [Lib.decDigits_one (by decide)]
    rfl
  have e2 : printF 20000 = [50] := by
    unfold printF
    rw [show ((20000 : Int).natAbs) = 20000 from rfl, show 20000 / 10000 = 2 from rfl, show 20000 % 10000 = 0 from rfl, Lib.decDigits_one (by decide)]
    decide
  show [] ++ (Ad.refW ⟨[], [], ⟨1, 1, false, false⟩⟩ ++ ([] ++ ([43] ++ ([] ++ (printF 20000 ++ []))))) = _
  rw [e1, e2]
  rfl
theorem own3 {base : Nat} {w : World} {v : Value} {a b c : TT} (h : OwnT 35 base w v [a, b, c]) : ∃ g cap, v = .slice (some ⟨g, 0, none⟩) 3 cap ∧ ∀ u, Below w.heap.size w u → u.cell? ⟨g, 0, none⟩ = some (.int .i64 a.k) ∧ u.cell? ⟨g, 11, none⟩ = some (.string b.s) ∧ u.cell? ⟨g, 19, none⟩ = some (.int .i64 c.n) := by
  have hc := fun g (hg : v.ownBlock = some g) => World.ownsRow.cells h hg
  rcases h.2 with ⟨_, e2⟩ | ⟨g, cap, cur, rfl, _⟩
  · cases e2
  · refine ⟨g, cap, rfl, fun u hu => ?_⟩
    have hadd : ∀ k, (⟨g, 0, none⟩ : Addr).add k = ⟨g, k, none⟩ := fun k => by unfold Addr.add; split <;> simp_all
    have h0 := hc g rfl 0 _ rfl
    have h1 := hc g rfl 11 _ rfl
    have h2 := hc g rfl 19 _ rfl
    rw [hadd] at h0 h1 h2
    exact ⟨cell_bel hu h0, cell_bel hu h1, cell_bel hu h2⟩
set_option maxHeartbeats 4000000 in
theorem lives_any (w : World) (T : Tab9 w) : Calls Tryz.prog 9 #[] w fun e w' => e = .returned (.bool true) ∧ Below w.heap.size w w' := by
  have L1 : Calls Tryz.prog 6 #[.string ⟨#[65, 49, 43, 50]⟩] w fun e w' => Below w.heap.size w w' ∧ ∃ v, e = .returned (.tuple #[v, .int .i64 0]) ∧ OwnT 35 w.heap.size w' v (exL.map tk) := by
    have := lex_short [65, 49, 43, 50] w T (by decide)
    rw [lx1] at this
    exact this.mono fun e w' ⟨h1, v, h2, h3, _⟩ => ⟨h1, v, h2, h3⟩
  have L2 : ∀ u, Tab9 u → Calls Tryz.prog 6 #[.string ⟨#[65, 49, 48, 48]⟩] u fun e w' => e = .returned (.tuple #[.slice none 0 0, .int .i64 10]) ∧ Below u.heap.size u w' := fun u Tu => by
    have := lex_short [65, 49, 48, 48] u Tu (by decide)
    rw [lx2] at this
    exact this.mono fun e w' ⟨h1, h2⟩ => ⟨h2, h1⟩
  have P : ∀ (u : World) (v : Value), Tab9 u → OwnT 35 w.heap.size u v (exL.map tk) → Calls Tryz.prog 10 #[v] u fun e w' => e = .returned (.string ⟨#[65, 49, 43, 50]⟩) ∧ Below u.heap.size u w' := fun u v Tu ho => by
    have := print_toks Tu ho (by decide) (lex_ok lx1) (lex_sm (by decide) lx1)
    rw [px1] at this
    exact this
  have HT : Hid (Tab9 w) := T
  clear T
  go_enter Tryz.func9, Tryz.ntmps9
  go_wp2_with (first
    | (go_at_call 6; refine L1.mono ?_; rintro e w1 ⟨hb, v, rfl, ho⟩; obtain ⟨g, cap, rfl, hc⟩ := own3 ho; have H1 : Hid (Below w.heap.size w w1) := hb; have HO : Hid (OwnT 35 w.heap.size w1 (.slice (some ⟨g, 0, none⟩) 3 cap) (exL.map tk)) := ho; have HC : Hid (∀ u, Below w1.heap.size w1 u → u.cell? ⟨g, 0, none⟩ = some (.int .i64 3) ∧ u.cell? ⟨g, 11, none⟩ = some (.string ⟨#[43]⟩) ∧ u.cell? ⟨g, 19, none⟩ = some (.int .i64 20000)) := hc; clear hb ho hc L1)
    | (go_at_call 6; refine (L2 _ (HT.out.below H1.out)).mono ?_; rintro e w2 ⟨rfl, hb⟩; obtain ⟨c0, c1, c2⟩ := HC.out _ hb; have HO2 : Hid (OwnT 35 w.heap.size w2 (.slice (some ⟨g, 0, none⟩) 3 cap) (exL.map tk)) := HO.out.below hb; have H2 : Hid (Below w.heap.size w w2) := bel_step H1.out hb; clear hb L2)
    | (go_at_call 10; refine (P _ _ (HT.out.below H2.out) HO2.out).mono ?_; rintro e w3 ⟨rfl, hb⟩; have H3 : Hid (Below w.heap.size w w3) := bel_step H2.out hb; clear hb))
  go_ret
  exact ⟨rfl, H3.out⟩
end Go.Proofs.YtdgnodijmbeajaaGreatDoor
