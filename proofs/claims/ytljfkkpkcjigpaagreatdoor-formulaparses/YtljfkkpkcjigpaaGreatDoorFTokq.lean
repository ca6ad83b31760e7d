/- PPrint, FTok. -/
import Derived.Test.YtljfkkpkcjigpaaGreatDoorPTokenq
import Derived.Test.YtljfkkpkcjigpaaGreatDoorPTokq
import Derived.Test.YtljfkkpkcjigpaaGreatDoorTTextq
import Derived.Test.YtljfkkpkcjigpaaGreatDoorFGoodq
set_option linter.unusedVariables false
set_option linter.unusedSimpArgs false
namespace Go.Proofs.YtljfkkpkcjigpaaGreatDoor
open Go.RowKit
set_option maxRecDepth 100000
structure PX (w : World) (acc : List UInt8) (u : World) : Prop where
  bel : Below w.heap.size w u
  bd : Lib.IsBuilderF 92 5 w.heap.size w.heap.size (Lib.byteCells acc) u
  gt : w.heap.size < u.heap.size
theorem bdAt_keptN {T e : TypeId} {B k : Nat} {p : Value} {bs : List Value} {w w' : World} (h : Lib.BuilderAtF T e B k p bs w) (hg : w.grownBy w' none) : Lib.BuilderAtF T e B k p bs w' := by
  have hlt := h.lt
  obtain ⟨hB, v, hk, hown, hne⟩ := h
  exact ⟨hB, v, (hg.block k hlt (by simp)).trans hk, hown.kept hg (by cases v.ownBlock <;> simp), hne⟩
theorem PX.below {w u u1 : World} {acc : List UInt8} (h : PX w acc u) (hb : Below u.heap.size u u1) : PX w acc u1 :=
  ⟨bel_step h.bel hb, h.bd.elim (fun x => .inl (bdAt_keptN x (grown_below hb))) (fun x => .inr (bdAt_keptN x (grown_below hb))), Nat.lt_of_lt_of_le h.gt hb.size⟩
theorem PX.alloc {w u : World} {acc : List UInt8} (h : PX w acc u) (o : Obj) : PX w acc (u.alloc o) := h.below (bel_alloc (Below.refl _ _) o)
theorem PX.drew {w u : World} {acc : List UInt8} (h : PX w acc u) : PX w acc u.drew := h.below (Below.refl _ _).drew
theorem PX.begin (w : World) : PX w [] (w.alloc (.cells #[.pointer none, .slice none 0 0] 92)) :=
  ⟨bel_alloc (Below.refl _ _) _, Lib.IsBuilderF.of (Lib.fresh_isBuilder 92 5 w), by simp⟩
theorem pw_any {w u : World} {acc : List UInt8} (h : PX w acc u) (s : List UInt8) (hs : acc.length + s.length ≤ 100000000) :
    Calls Tryz.prog 64 #[.pointer (some ⟨w.heap.size, 0, none⟩), .string (ba s)] u fun e w' => e = .returned (.tuple #[.int .i64 (s.length : Nat), .nilIface]) ∧ PX w (acc ++ s) w' ∧ ∀ (k : Nat) (es : Array Value), u.heap[k]? = some (Obj.cells es 70) → w'.heap[k]? = some (Obj.cells es 70) := by
  have := Tryz.Builder_WriteString_k w.heap.size w.heap.size (Lib.byteCells acc) (ba s) u h.bd (by rw [Lib.byteCells_length, size_mk]; omega) (by have := h.gt; omega)
  refine this.mono ?_
  rintro e w' ⟨rfl, h1, h2, h3⟩
  refine ⟨by rw [size_mk], ⟨h.bel.trans h2, .inr (by
    have e : Lib.byteCells (acc ++ s) = Lib.byteCells acc ++ Lib.strCells (ba s) := by simp [Lib.byteCells, Lib.strCells]
    rw [e]; exact h1), Nat.lt_of_lt_of_le h.gt h2.size⟩, fun k es hk => ?_⟩
  have hbd : ∃ p v, u.heap[w.heap.size]? = some (.cells #[p, v] 92 (0, 0)) := by
    rcases h.bd with ⟨_, v, hb, _⟩ | ⟨_, v, hb, _⟩
    · exact ⟨_, v, hb⟩
    · exact ⟨_, v, hb⟩
  obtain ⟨p, v, hb⟩ := hbd
  exact h3 k _ hk (fun e => by
    have e2 : k = w.heap.size := Option.some.inj e
    rw [e2, hb] at hk; cases hk) (fun c fz e => by cases e)
theorem ps_any {w u : World} {acc : List UInt8} (h : PX w acc u) :
    Calls Tryz.prog 66 #[.pointer (some ⟨w.heap.size, 0, none⟩)] u fun e w' => e = .returned (.string (ba acc)) ∧ Below w.heap.size w w' := by
  have := Tryz.Builder_String_any_k w.heap.size w.heap.size acc u h.bd (by have := h.gt; omega)
  refine this.mono ?_
  rintro e w' ⟨rfl, _, h2, _⟩
  exact ⟨rfl, h.bel.trans h2⟩
theorem take_last : ∀ (L : List Tk.Tok) (k : Nat) (h : k < L.length), lastT none (L.take (k + 1)) = some L[k] := fun L k h => by
  rw [List.take_succ_eq_append_getElem h]
  exact lastT_snoc _ _ _
theorem pr_len : ∀ (L : List Tk.Tok) (o : Option Tk.Tok), (∀ t ∈ L, (txT t).length ≤ 600) → (prT o L).length ≤ 601 * L.length
  | [], _, _ => Nat.zero_le _
  | t :: L, o, h => by
    have h1 := pr_len L (some t) (fun x hx => h x (by simp [hx]))
    have h2 := h t (by simp)
    have h3 : (sepT o t).length ≤ 1 := by
      unfold sepT
      split
      · simp
      · split <;> simp
    show (sepT o t ++ (txT t ++ prT (some t) L)).length ≤ _
    rw [List.length_append, List.length_append, List.length_cons]
    omega
set_option maxHeartbeats 8000000 in
theorem print_toks {base : Nat} {w : World} {v : Value} {L : List Tk.Tok} (T : Tab9 w) (h : OwnT 70 base w v (L.map tk)) (hL : L.length ≤ 10000) (hok : ∀ t ∈ L, Tk.okT gnF trB okN t) (hsm : ∀ t ∈ L, smT t) :
    Calls Tryz.prog 37 #[v] w fun e w' => e = .returned (.string (ba (prT none L))) ∧ Below w.heap.size w w' := by
  obtain ⟨a, c, rfl⟩ := h.slice
  rw [List.length_map] at h ⊢
  have H : Hid (OwnT 70 base w (.slice a L.length c) (L.map tk)) := h
  have HT : Hid (Tab9 w) := T
  have HK : Hid (∀ (k : Nat) (hk : k < L.length) (u : World), Below w.heap.size w u → Calls Tryz.prog 65 #[.agg (tcs (tk L[k]).k (tk L[k]).n (tk L[k]).s (tk L[k]).b (tk L[k]).h (tk L[k]).r (tk L[k]).c (tk L[k]).fr (tk L[k]).fc)] u fun e w' => e = .returned (.string (ba (txT L[k]))) ∧ Below u.heap.size u w') :=
    fun k hk u hu => ptok_any L[k] (hok _ (List.getElem_mem hk)) (hsm _ (List.getElem_mem hk)) u (T.below hu)
  have HTL : Hid (∀ t ∈ L, (txT t).length ≤ 600) := fun t ht => tx_len (hok t ht) (hsm t ht)
  have HB0 : Hid (PX w [] (w.alloc (.cells #[.pointer none, .slice none 0 0] 92))) := PX.begin w
  clear h T hok hsm
  go_enter Tryz.func37, Tryz.ntmps37
  go_wp2
  go_loopw [4, 8] (fun _ i wr => ∃ k : Nat, k ≤ L.length ∧ i = .int .i64 (k : Nat) ∧ Hid (PX w (prT none (L.take k)) wr)) (fun _ i _ => L.length - (intOf i).toNat)
  case atStart => exact ⟨0, Nat.zero_le _, rfl, HB0⟩
  case round =>
    obtain ⟨k, hk, rfl, HP⟩ := hrel
    clear HB0
    by_cases hlt : k < L.length
    · have hki : (k : Int) < L.length := by omega
      have hltm : k < (L.map tk).length := by rw [List.length_map]; exact hlt
      obtain ⟨a', rfl, hld⟩ := (H.out.below HP.out.bel).load2 hltm rfl Tryz.underlying70 inf70
      rw [List.getElem_map] at hld
      have RL : Hid _ := hld
      have PT := HK.out k hlt
      have htl := HTL.out L[k] (List.getElem_mem hlt)
      have hac : (prT none (L.take k)).length ≤ 601 * 10000 := by
        have := pr_len (L.take k) none (fun t ht => HTL.out t (List.mem_of_mem_take ht))
        rw [List.length_take] at this
        omega
      have HSN : Hid (prT none (L.take (k + 1)) = prT none (L.take k) ++ (sepT (lastT none (L.take k)) L[k] ++ txT L[k])) := by
        show _ = _
        rw [List.take_succ_eq_append_getElem hlt]
        exact prT_snoc _ _ _
      by_cases hk0 : k = 0
      · have HSE : Hid (sepT (lastT none (L.take k)) L[k] = []) := by
          show _ = _
          have : L.take k = [] := by rw [hk0]; rfl
          rw [this]; rfl
        have hd0 : decide ((0 : Int) < (k : Int)) = false := decide_eq_false (by omega)
        have hn0 : ¬ (0 : Int) < (k : Int) := by omega
        clear hk0 HK HTL hld H
        generalize prT none (L.take k) = acc at *
        generalize txT L[k] = tx at *
        generalize htt : tk L[k] = tt at *
        clear htt
        have HU : Hid (PX w acc ((wr.alloc (.cells (tcs tt.k tt.n tt.s tt.b tt.h tt.r tt.c tt.fr tt.fc) 70)).drew)) := (HP.out.alloc _).drew
        have HR5 : Hid (∀ u : World, u.heap[wr.heap.size]? = some (.cells (tcs tt.k tt.n tt.s tt.b tt.h tt.r tt.c tt.fr tt.fc) 70) → (Instr.loadAt 70 (.pointer (some ⟨wr.heap.size, 0, none⟩))).run Tryz.prog u = .ok (.agg (tcs tt.k tt.n tt.s tt.b tt.h tt.r tt.c tt.fr tt.fc)) u) := fun u hu => lod hu rfl Tryz.underlying70 inf70
        have HH5 : Hid ((wr.alloc (.cells (tcs tt.k tt.n tt.s tt.b tt.h tt.r tt.c tt.fr tt.fc) 70)).drew.heap[wr.heap.size]? = some (.cells (tcs tt.k tt.n tt.s tt.b tt.h tt.r tt.c tt.fr tt.fc) 70)) := heap_alloc_new wr _
        have R5 := HR5.out _ HH5.out
        have R5h : Hid _ := R5
        clear R5
        go_wp2_with (refine wpList_load_run rfl 70 _ rfl _ _ rfl RL.out ?_)
        refine wp_region_d (fun _ => True) (fun _ => false) (by kernel_rfl) ?_
        refine wpAnyD_pured (i := 0) (v := .int .i64 (k : Int)) rfl rfl (by kernel_rfl) (by kernel_rfl) (by kernel_rfl) (fun _ _ _ h => h) (by go_simp) (by intro u; go_simp) ?_
        try simp only [Act.put, List.setIfInBounds_toArray, List.set_cons_zero, List.set_cons_succ]
        refine wpAnyD_pured (i := 1) (v := .bool false) rfl rfl (by kernel_rfl) (by kernel_rfl) (by kernel_rfl) (fun _ _ _ h => h) (by go_simp) (by intro u; go_simp; omega) ?_
        try simp only [Act.put, List.setIfInBounds_toArray, List.set_cons_zero, List.set_cons_succ]
        refine wpAnyD_pured (i := 2) (v := .bool false) rfl rfl (by kernel_rfl) (by kernel_rfl) (by kernel_rfl) (fun _ _ _ h => h) (by go_simp) (by intro u; go_simp) ?_
        try simp only [Act.put, List.setIfInBounds_toArray, List.set_cons_zero, List.set_cons_succ]
        refine wpAnyD_skipd (i := 3) rfl rfl (by kernel_rfl) (by kernel_rfl) (by kernel_rfl) (fun _ _ _ h => h) (by go_simp) ?_
        try simp only [Act.put, List.setIfInBounds_toArray, List.set_cons_zero, List.set_cons_succ]
        refine wpAnyD_skipd (i := 4) rfl rfl (by kernel_rfl) (by kernel_rfl) (by kernel_rfl) (fun _ _ _ h => h) (by go_simp) ?_
        try simp only [Act.put, List.setIfInBounds_toArray, List.set_cons_zero, List.set_cons_succ]
        refine wpAnyD_skipd (i := 5) rfl rfl (by kernel_rfl) (by kernel_rfl) (by kernel_rfl) (fun _ _ _ h => h) (by go_simp) ?_
        try simp only [Act.put, List.setIfInBounds_toArray, List.set_cons_zero, List.set_cons_succ]
        refine wpAnyD_skipd (i := 6) rfl rfl (by kernel_rfl) (by kernel_rfl) (by kernel_rfl) (fun _ _ _ h => h) (by go_simp) ?_
        try simp only [Act.put, List.setIfInBounds_toArray, List.set_cons_zero, List.set_cons_succ]
        refine wpAnyD_skipd (i := 7) rfl rfl (by kernel_rfl) (by kernel_rfl) (by kernel_rfl) (fun _ _ _ h => h) (by go_simp) ?_
        try simp only [Act.put, List.setIfInBounds_toArray, List.set_cons_zero, List.set_cons_succ]
        refine wpAnyD_skipd (i := 8) rfl rfl (by kernel_rfl) (by kernel_rfl) (by kernel_rfl) (fun _ _ _ h => h) (by go_simp) ?_
        try simp only [Act.put, List.setIfInBounds_toArray, List.set_cons_zero, List.set_cons_succ]
        refine wpAnyD_skipd (i := 9) rfl rfl (by kernel_rfl) (by kernel_rfl) (by kernel_rfl) (fun _ _ _ h => h) (by go_simp) ?_
        try simp only [Act.put, List.setIfInBounds_toArray, List.set_cons_zero, List.set_cons_succ]
        refine wpAnyD_pured (i := 10) (v := .bool false) rfl rfl (by kernel_rfl) (by kernel_rfl) (by kernel_rfl) (fun _ _ _ h => h) (by go_simp) (by intro u; go_simp) ?_
        try simp only [Act.put, List.setIfInBounds_toArray, List.set_cons_zero, List.set_cons_succ]
        refine wpAnyD_done (by kernel_rfl) ?_ _
        have PW := fun u (Y : PX w acc u) => pw_any Y tx (by omega)
        go_wp2_with (first
          | (refine wpList_load_run rfl 70 _ rfl _ _ rfl R5h.out ?_)
          | (go_at_call 65; refine (PT _ HU.out.bel).mono ?_; rintro e w2 ⟨rfl, hs⟩; have HU2 : Hid (PX w acc w2) := HU.out.below hs; clear hs)
          | (go_at_call 64; refine (PW _ HU2.out).mono ?_; rintro e w3 ⟨rfl, hs, hs2⟩; have HU3 : Hid (PX w (acc ++ tx) w3) := hs; clear hs hs2))
        go_roundw
        case rel => exact ⟨k + 1, by omega, by go_num, by show PX _ _ _; rw [HSN.out, HSE.out]; exact HU3.out⟩
        case measure => simp [intOf]; omega
      · obtain ⟨kp, hkp⟩ : ∃ kp : Nat, k = kp + 1 := ⟨k - 1, by omega⟩
        have hk1 : kp < L.length := by omega
        have hk1m : kp < (L.map tk).length := by rw [List.length_map]; exact hk1
        have HSE : Hid (sepT (lastT none (L.take k)) L[k] = if apT L[kp] L[k] = true then [32] else []) := by
          show _ = _
          have e1 : L.take k = L.take (kp + 1) := by rw [hkp]
          rw [e1, take_last L kp hk1]; rfl
        have hd0 : (0 : Int) < (k : Int) := by omega
        have hsub : (k : Int) - 1 = (kp : Int) := by omega
        have hkpi : (kp : Int) < L.length := by omega
        have hwk : IntKind.i64.wrap (kp : Int) = (kp : Int) := by
          simp [IntKind.wrap, IntKind.bits, IntKind.signed]
          omega
        have hl2 : ∀ u, Below wr.heap.size wr u → (Instr.loadAt 70 (.pointer (some (a'.add (kp * 9))))).run Tryz.prog u = .ok (.agg (tcs (tk L[kp]).k (tk L[kp]).n (tk L[kp]).s (tk L[kp]).b (tk L[kp]).h (tk L[kp]).r (tk L[kp]).c (tk L[kp]).fr (tk L[kp]).fc)) u := fun u hu => by
          obtain ⟨a2, e2, h2⟩ := (H.out.below (bel_step HP.out.bel hu)).load2 hk1m rfl Tryz.underlying70 inf70
          cases e2
          rw [List.getElem_map] at h2
          exact h2
        have AP := fun u => apart_any L[kp] L[k] u
        generalize apT L[kp] L[k] = q at *
        clear hk0 HK HTL hld H hkp hk1m
        generalize prT none (L.take k) = acc at *
        generalize txT L[k] = tx at *
        generalize tk L[k] = tt at *
        generalize tk L[kp] = tp at *
        have HU : Hid (PX w acc ((wr.alloc (.cells (tcs tt.k tt.n tt.s tt.b tt.h tt.r tt.c tt.fr tt.fc) 70)).drew)) := (HP.out.alloc _).drew
        have HR5 : Hid (∀ u : World, u.heap[wr.heap.size]? = some (.cells (tcs tt.k tt.n tt.s tt.b tt.h tt.r tt.c tt.fr tt.fc) 70) → (Instr.loadAt 70 (.pointer (some ⟨wr.heap.size, 0, none⟩))).run Tryz.prog u = .ok (.agg (tcs tt.k tt.n tt.s tt.b tt.h tt.r tt.c tt.fr tt.fc)) u) := fun u hu => lod hu rfl Tryz.underlying70 inf70
        have HH5 : Hid ((wr.alloc (.cells (tcs tt.k tt.n tt.s tt.b tt.h tt.r tt.c tt.fr tt.fc) 70)).drew.heap[wr.heap.size]? = some (.cells (tcs tt.k tt.n tt.s tt.b tt.h tt.r tt.c tt.fr tt.fc) 70)) := heap_alloc_new wr _
        have HS : Hid ((Instr.loadAt 70 (.pointer (some (a'.add (kp * 9))))).run Tryz.prog ((wr.alloc (.cells (tcs tt.k tt.n tt.s tt.b tt.h tt.r tt.c tt.fr tt.fc) 70)).drew) = .ok (.agg (tcs tp.k tp.n tp.s tp.b tp.h tp.r tp.c tp.fr tp.fc)) ((wr.alloc (.cells (tcs tt.k tt.n tt.s tt.b tt.h tt.r tt.c tt.fr tt.fc) 70)).drew) ∧ (Instr.loadAt 70 (.pointer (some ⟨wr.heap.size, 0, none⟩))).run Tryz.prog ((wr.alloc (.cells (tcs tt.k tt.n tt.s tt.b tt.h tt.r tt.c tt.fr tt.fc) 70)).drew) = .ok (.agg (tcs tt.k tt.n tt.s tt.b tt.h tt.r tt.c tt.fr tt.fc)) ((wr.alloc (.cells (tcs tt.k tt.n tt.s tt.b tt.h tt.r tt.c tt.fr tt.fc) 70)).drew)) :=
          ⟨hl2 _ (bel_alloc (Below.refl _ _) _).drew, HR5.out _ HH5.out⟩
        clear hl2
        go_wp2_with (refine wpList_load_run rfl 70 _ rfl _ _ rfl RL.out ?_)
        refine wp_region_d (fun u => (Instr.loadAt 70 (.pointer (some (a'.add (kp * 9))))).run Tryz.prog u = .ok (.agg (tcs tp.k tp.n tp.s tp.b tp.h tp.r tp.c tp.fr tp.fc)) u ∧ (Instr.loadAt 70 (.pointer (some ⟨wr.heap.size, 0, none⟩))).run Tryz.prog u = .ok (.agg (tcs tt.k tt.n tt.s tt.b tt.h tt.r tt.c tt.fr tt.fc)) u) (fun j => j == 9) (by kernel_rfl) ?_
        refine wpAnyD_pured (i := 0) (v := .int .i64 (k : Int)) rfl rfl (by kernel_rfl) (by kernel_rfl) (by kernel_rfl) (fun _ _ _ h => h) (by go_simp) (by intro u; go_simp) ?_
        try simp only [Act.put, List.setIfInBounds_toArray, List.set_cons_zero, List.set_cons_succ]
        refine wpAnyD_pured (i := 1) (v := .bool true) rfl rfl (by kernel_rfl) (by kernel_rfl) (by kernel_rfl) (fun _ _ _ h => h) (by go_simp) (by intro u; go_simp; omega) ?_
        try simp only [Act.put, List.setIfInBounds_toArray, List.set_cons_zero, List.set_cons_succ]
        refine wpAnyD_pured (i := 2) (v := .bool true) rfl rfl (by kernel_rfl) (by kernel_rfl) (by kernel_rfl) (fun _ _ _ h => h) (by go_simp) (by intro u; go_simp) ?_
        try simp only [Act.put, List.setIfInBounds_toArray, List.set_cons_zero, List.set_cons_succ]
        refine wpAnyD_pured (i := 3) (v := .slice (some a') L.length c) rfl rfl (by kernel_rfl) (by kernel_rfl) (by kernel_rfl) (fun _ _ _ h => h) (by go_simp) (by intro u; go_simp) ?_
        try simp only [Act.put, List.setIfInBounds_toArray, List.set_cons_zero, List.set_cons_succ]
        refine wpAnyD_pured (i := 4) (v := .int .i64 (k : Int)) rfl rfl (by kernel_rfl) (by kernel_rfl) (by kernel_rfl) (fun _ _ _ h => h) (by go_simp) (by intro u; go_simp) ?_
        try simp only [Act.put, List.setIfInBounds_toArray, List.set_cons_zero, List.set_cons_succ]
        refine wpAnyD_pured (i := 5) (v := .int .i64 (kp : Int)) rfl rfl (by kernel_rfl) (by kernel_rfl) (by kernel_rfl) (fun _ _ _ h => h) (by go_simp) (by intro u; go_simp) ?_
        try simp only [Act.put, List.setIfInBounds_toArray, List.set_cons_zero, List.set_cons_succ]
        refine wpAnyD_pured (i := 6) (v := .pointer (some (a'.add (kp * 9)))) rfl rfl (by kernel_rfl) (by kernel_rfl) (by kernel_rfl) (fun _ _ _ h => h) (by go_simp) (by intro u; go_simp) ?_
        try simp only [Act.put, List.setIfInBounds_toArray, List.set_cons_zero, List.set_cons_succ]
        refine wpAnyD_loadd (i := 7) (v := .agg (tcs tp.k tp.n tp.s tp.b tp.h tp.r tp.c tp.fr tp.fc)) rfl rfl (by kernel_rfl) (by kernel_rfl) (by kernel_rfl) (by kernel_rfl) (fun _ _ _ h => h) (by go_simp) (fun u hSu => exec_load_run rfl rfl hSu.1) HS.out ?_
        try simp only [Act.put, List.setIfInBounds_toArray, List.set_cons_zero, List.set_cons_succ]
        refine wpAnyD_loadd (i := 8) (v := .agg (tcs tt.k tt.n tt.s tt.b tt.h tt.r tt.c tt.fr tt.fc)) rfl rfl (by kernel_rfl) (by kernel_rfl) (by kernel_rfl) (by kernel_rfl) (fun _ _ _ h => h) (by go_simp) (fun u hSu => exec_load_run rfl rfl hSu.2) HS.out ?_
        try simp only [Act.put, List.setIfInBounds_toArray, List.set_cons_zero, List.set_cons_succ]
        refine wpAnyD_one (i := 9) (by kernel_rfl) rfl ?_
        intro K hK
        go_simp
        refine (AP _).mono ?_
        rintro e w2 ⟨rfl, hs⟩
        have HU2 : Hid (PX w acc w2) := HU.out.below hs
        have HH6 : Hid (w2.heap[wr.heap.size]? = some (.cells (tcs tt.k tt.n tt.s tt.b tt.h tt.r tt.c tt.fr tt.fc) 70)) := (hs.block _ (lt_of HH5.out)).trans HH5.out
        clear hs
        refine hK _ _ (.inl rfl) ?_
        clear hK
        try simp only [Act.put, List.setIfInBounds_toArray, List.set_cons_zero, List.set_cons_succ]
        refine wpAnyD_pured (i := 10) (v := .bool q) rfl rfl (by kernel_rfl) (by kernel_rfl) (by kernel_rfl) (fun _ _ _ h => h) (by go_simp) (by intro u; go_simp) ?_
        try simp only [Act.put, List.setIfInBounds_toArray, List.set_cons_zero, List.set_cons_succ]
        refine wpAnyD_done (by kernel_rfl) ?_ _
        clear HS HU HH5 AP
        cases q
        · have R5h : Hid _ := HR5.out _ HH6.out
          have PW := fun u (Y : PX w acc u) => pw_any Y tx (by omega)
          go_wp2_with (first
            | (refine wpList_load_run rfl 70 _ rfl _ _ rfl R5h.out ?_)
            | (go_at_call 65; refine (PT _ HU2.out.bel).mono ?_; rintro e w3 ⟨rfl, hs⟩; have HU3 : Hid (PX w acc w3) := HU2.out.below hs; clear hs)
            | (go_at_call 64; refine (PW _ HU3.out).mono ?_; rintro e w4 ⟨rfl, hs, hs2⟩; have HU4 : Hid (PX w (acc ++ tx) w4) := hs; clear hs hs2))
          go_roundw
          case rel => exact ⟨k + 1, by omega, by go_num, by show PX _ _ _; rw [HSN.out, HSE.out]; exact HU4.out⟩
          case measure => simp [intOf]; omega
        · have PB := fun u (Y : PX w acc u) => pw_any Y [32] (by simp only [List.length_cons, List.length_nil]; omega)
          have PW := fun u (Y : PX w (acc ++ [32]) u) => pw_any Y tx (by simp only [List.length_append, List.length_cons, List.length_nil]; omega)
          have PB' : ∀ u, PX w acc u → Calls Tryz.prog 64 #[.pointer (some ⟨w.heap.size, 0, none⟩), .string ⟨#[32]⟩] u fun e w' => e = .returned (.tuple #[.int .i64 1, .nilIface]) ∧ PX w (acc ++ [32]) w' ∧ ∀ (k : Nat) (es : Array Value), u.heap[k]? = some (Obj.cells es 70) → w'.heap[k]? = some (Obj.cells es 70) := PB
          clear PB
          go_wp2_with (first
            | (go_at_call 64; refine (PB' _ HU2.out).mono ?_; rintro e w3 ⟨rfl, hs, hs2⟩; have HU3 : Hid (PX w (acc ++ [32]) w3) := hs; have R5h : Hid _ := HR5.out _ (hs2 _ _ HH6.out); clear hs hs2 HU2)
            | (refine wpList_load_run rfl 70 _ rfl _ _ rfl R5h.out ?_)
            | (go_at_call 65; refine (PT _ HU3.out.bel).mono ?_; rintro e w4 ⟨rfl, hs⟩; have HU4 : Hid (PX w (acc ++ [32]) w4) := HU3.out.below hs; clear hs)
            | (go_at_call 64; refine (PW _ HU4.out).mono ?_; rintro e w5 ⟨rfl, hs, hs2⟩; have HU5 : Hid (PX w (acc ++ [32] ++ tx) w5) := hs; clear hs hs2))
          go_roundw
          case rel => exact ⟨k + 1, by omega, by go_num, by show PX _ _ _; rw [HSN.out, HSE.out]; have := HU5.out; rw [List.append_assoc] at this; exact this⟩
          case measure => simp [intOf]; omega
    · have hki : ¬ (k : Int) < L.length := by omega
      have HE : Hid (L.take k = L) := List.take_of_length_le (by omega)
      have SG := fun u (Y : PX w (prT none (L.take k)) u) => ps_any Y
      clear HK HTL H
      rw [HE.out] at SG HP
      obtain ⟨acc, hacc⟩ : ∃ acc, acc = prT none L := ⟨_, rfl⟩
      rw [← hacc] at SG HP
      have HA : Hid (acc = prT none L) := hacc
      clear hacc HE
      go_wp2_with (go_at_call 66; refine (SG _ HP.out).mono ?_; rintro e w2 ⟨rfl, hs⟩; have HU2 : Hid (Below w.heap.size w w2) := hs; clear hs)
      go_ret
      exact ⟨by rw [← HA.out]; rfl, HU2.out⟩
end Go.Proofs.YtljfkkpkcjigpaaGreatDoor

namespace Go.Proofs.YtljfkkpkcjigpaaGreatDoor
open Go.RowKit Go.Fm
set_option maxRecDepth 100000
def holdN (a : Lab) : Nat := if a.k = 6 then strn a.s.toList else if a.k = 5 then (if a.s.toList = [45] then 6 else 7) else 8
def constT (k n : Int) (s : ByteArray) : Tk.Tok := if k = 1 then .num n else if k = 2 then .str s.toList else if k = 3 then .word [] (textF k n s).toList else .bad n.toNat
def refK (b h : ByteArray) (r c : Int) (fr fc : Bool) : Tk.Tok := .ref ⟨b.toList, h.toList, ⟨r.toNat, c.toNat, fr, fc⟩⟩
def wrapK (p : Nat × List Tk.Tok) (least : Nat) : List Tk.Tok := if least ≤ p.1 then p.2 else Tk.Tok.op [40] :: (p.2 ++ [Tk.Tok.op [41]])
def commaK : List (List Tk.Tok) → List Tk.Tok
  | [] => []
  | [x] => x
  | x :: y :: r => x ++ Tk.Tok.op [44] :: commaK (y :: r)
def argK (l : List (Nat × List Tk.Tok)) (i : Nat) : Nat × List Tk.Tok := l[i]?.getD (8, [])
def nodeK (a : Lab) (l : List (Nat × List Tk.Tok)) : List Tk.Tok :=
  if a.k = 1 then [constT a.vk a.vn a.vs] else if a.k = 2 then [refK a.b1 a.h1 a.r1 a.c1 a.fr1 a.fc1]
  else if a.k = 3 then [refK a.b1 a.h1 a.r1 a.c1 a.fr1 a.fc1, Tk.Tok.op [58], refK a.b2 a.h2 a.r2 a.c2 a.fr2 a.fc2]
  else if a.k = 4 then [Tk.Tok.word a.b1.toList a.s.toList]
  else if a.k = 5 then (if a.s.toList = [45] then Tk.Tok.op [45] :: wrapK (argK l 0) 6 else wrapK (argK l 0) 7 ++ [Tk.Tok.op [37]])
  else if a.k = 6 then wrapK (argK l 0) (strn a.s.toList) ++ Tk.Tok.op a.s.toList :: wrapK (argK l 1) (strn a.s.toList + 1)
  else if a.k = 7 then Tk.Tok.word [] a.s.toList :: Tk.Tok.op [40] :: (commaK (l.map (·.2)) ++ [Tk.Tok.op [41]]) else []
def tksF : F → List (Nat × List Tk.Tok)
  | .nil => []
  | .node _ _ a l r => (holdN a, nodeK a (tksF l)) :: tksF r
def tkT (t : T) : List Tk.Tok := nodeK t.1 (tksF t.2)
theorem tks_kids : ∀ f : F, tksF f = (kids f).map fun t => (holdN t.1, tkT t) := by
  intro f
  induction f with
  | nil => rfl
  | node b o a l r ihl ihr => rw [tksF, kids, List.map_cons, ihr]; rfl
theorem wrap_len (p : Nat × List Tk.Tok) (k : Nat) : (wrapK p k).length ≤ p.2.length + 2 := by
  unfold wrapK
  split
  · omega
  · simp
theorem comma_len : ∀ l : List (List Tk.Tok), (commaK l).length ≤ (l.map fun x => x.length + 1).sum
  | [] => Nat.le_refl _
  | [x] => by simp [commaK]
  | x :: y :: r => by
    have := comma_len (y :: r)
    simp only [commaK, List.length_append, List.length_cons, List.map_cons, List.sum_cons] at this ⊢
    omega
theorem tk_len : ∀ t : T, (tkT t).length + 5 ≤ 10 * zT t := by
  refine ind ?_
  intro t ih
  have hz : zT t = ((kids t.2).map zT).sum + 1 := by unfold zT; rw [size_kids]; rfl
  have key : ∀ l : List T, (∀ s ∈ l, (tkT s).length + 5 ≤ 10 * zT s) → ((l.map fun s => (tkT s).length + 5)).sum ≤ 10 * (l.map zT).sum := by
    intro l
    induction l with
    | nil => intro _; simp
    | cons a l ihl =>
      intro h
      have h1 := h a (by simp)
      have h2 := ihl (fun s hs => h s (by simp [hs]))
      simp only [List.map_cons, List.sum_cons]
      omega
  have hk := key (kids t.2) ih
  have harg : ∀ i, (argK (tksF t.2) i).2.length ≤ ((kids t.2).map fun s => (tkT s).length + 5).sum := fun i => by
    unfold argK
    rw [tks_kids, List.getElem?_map]
    cases hq : (kids t.2)[i]? with
    | none => simp
    | some s =>
      simp only [Option.map_some, Option.getD_some]
      have hm := List.mem_of_getElem? hq
      have : ∀ l : List T, s ∈ l → (tkT s).length + 5 ≤ (l.map fun s => (tkT s).length + 5).sum := by
        intro l
        induction l with
        | nil => intro h; cases h
        | cons a l ihl =>
          intro h
          simp only [List.map_cons, List.sum_cons]
          rcases List.mem_cons.1 h with rfl | h
          · omega
          · have := ihl h; omega
      have := this _ hm
      omega
  have htwo : (argK (tksF t.2) 0).2.length + (argK (tksF t.2) 1).2.length ≤ ((kids t.2).map fun s => (tkT s).length + 5).sum := by
    unfold argK
    rw [tks_kids]
    cases hq : kids t.2 with
    | nil => simp
    | cons a l =>
      cases l with
      | nil => simp
      | cons b l => simp; omega
  have hcm : (commaK ((tksF t.2).map (·.2))).length ≤ ((kids t.2).map fun s => (tkT s).length + 5).sum := by
    rw [tks_kids, List.map_map]
    refine Nat.le_trans (comma_len _) ?_
    rw [List.map_map]
    have : ∀ l : List T, (l.map ((fun x : List Tk.Tok => x.length + 1) ∘ ((·.2) ∘ fun t : T => (holdN t.1, tkT t)))).sum ≤ (l.map fun s => (tkT s).length + 5).sum := by
      intro l
      induction l with
      | nil => simp
      | cons a l ihl => simp only [List.map_cons, List.sum_cons, Function.comp] at ihl ⊢; omega
    exact this _
  have w0 := wrap_len (argK (tksF t.2) 0)
  have w1 := wrap_len (argK (tksF t.2) 1)
  have a0 := harg 0
  unfold tkT nodeK
  split
  · simp; omega
  split
  · simp; omega
  split
  · simp; omega
  split
  · simp; omega
  split
  · split
    · have := w0 6; simp; omega
    · have := w0 7; simp; omega
  split
  · have h1 := w0 (strn t.1.s.toList)
    have h2 := w1 (strn t.1.s.toList + 1)
    simp; omega
  split
  · simp; omega
  · simp; omega
theorem tk_res {u : World} {g : Nat} {zs es : Array Value} (hg : u.heap[g]? = some (.cells zs 70)) (he : es.size = 9) {fn : Func} {i : Tmp} (hr : fn.results = #[.cell i 70]) {tmps : Array Value} (hp : tmps.getD i undef = .pointer (some ⟨g, 0, none⟩)) :
    (results fn tmps).run Tryz.prog (u.setRow g es) = .ok (.agg es) (u.setRow g es) :=
  results_cell_row hr _ _ g 70 _ (0, 0) _ hp (setRow_heap _ _ _ _ _ _ hg) Tryz.underlying70 rfl (by rw [he]; exact inf70)
set_option maxHeartbeats 1000000 in
theorem optok_any (s : ByteArray) (w : World) : Calls Tryz.prog 58 #[.string s] w fun e w' => e = .returned (.agg (tcs 5 0 s noB noB 0 0 false false)) ∧ Below w.heap.size w w' := by
  have RS : Hid _ := sto (t := 70) (es := tcs 5 0 s noB noB 0 0 false false) (heap_alloc_new w (.cells tk0 70)) inf70 rfl (tcs_one _ _ _ _ _ _ _ _ _)
  have HF : Hid (Below w.heap.size w ((w.alloc (.cells tk0 70)).setRow w.heap.size (tcs 5 0 s noB noB 0 0 false false))) := (bel_alloc (Below.refl _ _) _).grown (setRow_grown _ _ _) (by simp) (fun j e => by cases e; omega)
  go_enter Tryz.func58, Tryz.ntmps58
  go_wp2_with (refine wpList_store_run rfl 70 _ _ rfl _ _ _ rfl rfl RS.out ?_)
  exact bodyPost_ret (tk_res (heap_alloc_new w (.cells tk0 70)) rfl rfl rfl) rfl ⟨rfl, HF.out⟩
set_option maxHeartbeats 1000000 in
theorem wordtok_any (b s : ByteArray) (w : World) : Calls Tryz.prog 59 #[.string b, .string s] w fun e w' => e = .returned (.agg (tcs 4 0 s b noB 0 0 false false)) ∧ Below w.heap.size w w' := by
  have RS : Hid _ := sto (t := 70) (es := tcs 4 0 s b noB 0 0 false false) (heap_alloc_new w (.cells tk0 70)) inf70 rfl (tcs_one _ _ _ _ _ _ _ _ _)
  have HF : Hid (Below w.heap.size w ((w.alloc (.cells tk0 70)).setRow w.heap.size (tcs 4 0 s b noB 0 0 false false))) := (bel_alloc (Below.refl _ _) _).grown (setRow_grown _ _ _) (by simp) (fun j e => by cases e; omega)
  go_enter Tryz.func59, Tryz.ntmps59
  go_wp2_with (refine wpList_store_run rfl 70 _ _ rfl _ _ _ rfl rfl RS.out ?_)
  exact bodyPost_ret (tk_res (heap_alloc_new w (.cells tk0 70)) rfl rfl rfl) rfl ⟨rfl, HF.out⟩
theorem two_new {w : World} {o : Obj} {es : Array Value} : ((w.alloc o).alloc (.cells tk0 70)).heap[w.heap.size + 1]? = some (.cells tk0 70) ∧ Below w.heap.size w (((w.alloc o).alloc (.cells tk0 70)).setRow (w.heap.size + 1) es) ∧ ((w.alloc o).alloc (.cells tk0 70)).heap[w.heap.size]? = some o := by
  have h1 : ((w.alloc o).alloc (.cells tk0 70)).heap[w.heap.size + 1]? = some (.cells tk0 70) := by
    have := heap_alloc_new (w.alloc o) (.cells tk0 70)
    simpa using this
  have hb : Below w.heap.size w ((w.alloc o).alloc (.cells tk0 70)) := bel_alloc (bel_alloc (Below.refl _ _) _) _
  exact ⟨h1, hb.grown (setRow_grown _ _ _) hb.size (fun j e => by cases e; omega), (Below.heap_alloc _ _ _ (by simp)).trans (heap_alloc_new w _)⟩
set_option maxHeartbeats 1000000 in
theorem reftok_any (b h : ByteArray) (r c : Int) (fr fc : Bool) (w : World) : Calls Tryz.prog 57 #[refV b h r c fr fc] w fun e w' => e = .returned (.agg (tcs 3 0 noB b h r c fr fc)) ∧ Below w.heap.size w w' := by
  obtain ⟨h1, hb, h0⟩ := two_new (w := w) (o := .cells #[.string b, .string h, .int .i64 r, .int .i64 c, .bool fr, .bool fc] 25) (es := tcs 3 0 noB b h r c fr fc)
  have RS : Hid _ := sto (t := 70) (es := tcs 3 0 noB b h r c fr fc) h1 inf70 rfl (tcs_one _ _ _ _ _ _ _ _ _)
  have RL : Hid _ := lod (z := (0, 0)) h0 rfl Tryz.underlying25 inf25
  have HF : Hid _ := hb
  have HG : Hid _ := h1
  clear h1 hb h0
  go_enter Tryz.func57, Tryz.ntmps57
  go_wp2_with (first
    | (refine wpList_load_run rfl 25 _ rfl _ _ rfl RL.out ?_)
    | (refine wpList_store_run rfl 70 _ _ rfl _ _ _ rfl rfl RS.out ?_))
  exact bodyPost_ret (tk_res HG.out rfl rfl rfl) rfl ⟨rfl, HF.out⟩
end Go.Proofs.YtljfkkpkcjigpaaGreatDoor
