/- RPar7, RPar8, RPar3a. -/
import Derived.Test.YtlndkjcincflpaaGreatDoorRPar6X
import Derived.Test.YtlndkjcincflpaaGreatDoorRPar2X
set_option linter.unusedVariables false
set_option linter.unusedSimpArgs false
namespace Go.Proofs.YtlndkjcincflpaaGreatDoor
open Go.RowKit Go.Fm
set_option maxRecDepth 100000
theorem CI.keep {W w u u' : World} {b : Nat} {S : ByteArray} {v : Value} {L : List (Array Value × T)} (h : CI W b w S v L u) (hb : b < w.heap.size) (hg : u.grownBy u' (some b)) : CI W b w S v L u' :=
  ⟨(hg.block _ (lt_of h.box) (by intro e; have := Option.some.inj e; omega)).trans h.box, (hg.block _ (lt_of h.res) (by intro e; have := Option.some.inj e; omega)).trans h.res, ownN_kept h.own hg (ownN_ob h.own (by omega)), grown_trans h.grow hg⟩
theorem CI.bad {W w u : World} {b : Nat} {S : ByteArray} {v : Value} {L : List (Array Value × T)} (h : CI W b w S v L u) (hb : b < w.heap.size) (hS : Sw W b w u) : RA W b w none (lcs (lab0 7 S) v) (u.setRow w.heap.size (lcs (lab0 7 S) v)) := hS.grown (setRow_grown _ _ _) (Nat.le_refl _) hb
theorem CI.fail {W w u u' : World} {b : Nat} {S : ByteArray} {v : Value} {L : List (Array Value × T)} (h : CI W b w S v L u) (hb : b < w.heap.size) (hX : Sw W b u u') : Hid ((Instr.storeAt 50 (.pointer (some ⟨w.heap.size, 0, none⟩)) (.agg nd0)).run Tryz.prog u' = .ok () (u'.setRow w.heap.size nd0)) ∧ Hid (u'.heap[w.heap.size]? = some (.cells nd0 50)) ∧ Hid (RA W b w none nd0 (u'.setRow w.heap.size nd0)) := by
  have hr : u'.heap[w.heap.size]? = some (.cells nd0 50) := hX.kept h.res (by omega)
  have hS : Sw W b w u' := ⟨hX.1, grown_trans h.grow hX.2⟩
  exact ⟨NA.zero.sto hr rfl, hr, hS.grown (setRow_grown _ _ _) (Nat.le_refl _) hb⟩
set_option maxHeartbeats 4000000 in
theorem rcall_nil {W : World} {b : Nat} {S : ByteArray} {L : List Tk.Tok} (hn : L.length ≤ 256) (h40 : opOf L = [40]) (h41 : opOf L.tail = [41]) {w : World} (X : QR W b L w) :
    Calls Tryz.prog 224 #[.pointer (some ⟨b, 0, none⟩), .string S] w (RO W b w (some (tree (lab0 7 S) [], L.tail.tail))) := by
  have hb := X.lt
  have hl1 := (op_tail (ts := L) h40 (by decide)).1
  obtain ⟨hC, hB, hR⟩ := cw0_facts w S b W
  have RB : Hid _ := build_c (w.alloc (.cells nd0 50)) S
  have RS0 : Hid _ := hR
  have TK1 : Calls Tryz.prog 126 #[.pointer (some ⟨b, 0, none⟩), .string ⟨#[40]⟩] (cw0 w S) fun e w' => e = .returned (.tuple #[]) ∧ Sq W b L.tail (cw0 w S) w' := rtake_yes (s := [40]) (X.below hB) hn (by decide) h40
  have OP : Hid (∀ u, Sq W b L.tail (cw0 w S) u → Calls Tryz.prog 125 #[.pointer (some ⟨b, 0, none⟩)] u fun e w' => e = .returned (.string ⟨#[41]⟩) ∧ w' = u) := fun u hu => by
    have := rop_any hu.1 (by omega)
    rw [h41] at this
    exact this
  have TK2 : Hid (∀ u, Sq W b L.tail (cw0 w S) u → Calls Tryz.prog 126 #[.pointer (some ⟨b, 0, none⟩), .string ⟨#[41]⟩] u fun e w' => e = .returned (.tuple #[]) ∧ Hid (CI W b w S (.slice none 0 0) [] w') ∧ Hid (RA W b w (some (tree (lab0 7 S) [], L.tail.tail)) (lcs (lab0 7 S) (.slice none 0 0)) (w'.setRow w.heap.size (lcs (lab0 7 S) (.slice none 0 0))))) := fun u hu => (rtake_yes (s := [41]) hu.1 (by omega) (by decide) h41).mono (by
    rintro e w' ⟨rfl, h2⟩
    have hc := (hC.keep hb hu.2).keep hb h2.2
    refine ⟨rfl, hc, ?_⟩
    exact hc.good (L := []) hb (fun x hx => by cases hx) ⟨h2.1, hc.grow⟩)
  clear X h40 h41 hC hB hR
  go_enter Tryz.func224, Tryz.ntmps224
  go_wp2_with (first
    | (refine wpList_build_run rfl 50 _ rfl _ _ (by go_simp) RB.out ?_; clear RB)
    | (refine wpList_store_run rfl 50 _ _ rfl _ _ _ rfl rfl RS0.out ?_; clear RS0)
    | (go_at_call 126; refine TK1.mono ?_; rintro e w1 ⟨rfl, hw⟩; have HS1 : Hid (Sq W b L.tail (cw0 w S) w1) := hw; clear hw TK1)
    | (go_at_call 125; refine (OP.out _ HS1.out).mono ?_; rintro e w' ⟨rfl, hw⟩; obtain rfl := hw.symm; clear hw)
    | (go_at_call 126; refine (TK2.out _ HS1.out).mono ?_; rintro e w2 ⟨rfl, HC, HF⟩; obtain ⟨RL, RS, HG, HZ, HNA⟩ := HC.out.fin)
    | (refine wpList_load_run rfl 50 _ rfl _ _ rfl RL.out ?_; clear RL)
    | (refine wpList_store_run rfl 50 _ _ rfl _ _ _ rfl rfl RS.out ?_; clear RS))
  exact bodyPost_ret (nd_res HG.out HZ.out rfl rfl) rfl ⟨_, rfl, HNA.out, HF.out⟩
set_option maxHeartbeats 16000000 in
theorem rcall_some {W : World} {b : Nat} {S : ByteArray} {L0 : List Tk.Tok} (hn : L0.length ≤ 256) (h40 : opOf L0 = [40]) (h41 : opOf L0.tail ≠ [41]) {w : World} (X : QR W b L0 w)
    (C : ∀ ts' u, ts'.length ≤ L0.tail.length → QR W b ts' u → Calls Tryz.prog 92 #[.pointer (some ⟨b, 0, none⟩), .int .i64 1] u (RO W b u (PP 1 ts'))) :
    Calls Tryz.prog 224 #[.pointer (some ⟨b, 0, none⟩), .string S] w (RO W b w ((goF [] L0.tail).map fun q => (tree (lab0 7 S) q.1, q.2))) := by
  have hb := X.lt
  have hl1 := (op_tail (ts := L0) h40 (by decide)).1
  obtain ⟨hC, hB, hR⟩ := cw0_facts w S b W
  have RB : Hid _ := build_c (w.alloc (.cells nd0 50)) S
  have RS0 : Hid _ := hR
  have hts : L0.tail.length ≤ 255 := by omega
  have TK1 : Calls Tryz.prog 126 #[.pointer (some ⟨b, 0, none⟩), .string ⟨#[40]⟩] (cw0 w S) fun e w' => e = .returned (.tuple #[]) ∧ Hid (CI W b w S (.slice none 0 0) [] w') ∧ Hid (Sq W b L0.tail w w') := (rtake_yes (s := [40]) (X.below hB) hn (by decide) h40).mono (by
    rintro e w' ⟨rfl, h2⟩
    have hc := hC.keep hb h2.2
    exact ⟨rfl, hc, h2.1, hc.grow⟩)
  have OP0 : Hid (∀ u, Sq W b L0.tail w u → Calls Tryz.prog 125 #[.pointer (some ⟨b, 0, none⟩)] u fun e w' => e = .returned (.string (ba (opOf L0.tail))) ∧ w' = u) := fun u hu => rop_any hu.1 (by omega)
  have hne : ((ba (opOf L0.tail)).toList == [41]) = false := ne_list h41
  generalize ho : goF [] L0.tail = o
  have HO : Hid (goF [] L0.tail = o) := ho
  have HC : Hid (∀ ts' u, ts'.length ≤ L0.tail.length → QR W b ts' u → Calls Tryz.prog 92 #[.pointer (some ⟨b, 0, none⟩), .int .i64 1] u (RO W b u (PP 1 ts'))) := C
  clear ho C X h40 h41 hC hB hR hn hl1
  generalize L0.tail = ts at *
  generalize ba (opOf ts) = A at *
  go_enter Tryz.func224, Tryz.ntmps224
  go_wp2_with (first
    | (refine wpList_build_run rfl 50 _ rfl _ _ (by go_simp) RB.out ?_; clear RB)
    | (refine wpList_store_run rfl 50 _ _ rfl _ _ _ rfl rfl RS0.out ?_; clear RS0)
    | (go_at_call 126; refine TK1.mono ?_; rintro e w1 ⟨rfl, HC1, HS1⟩; clear TK1)
    | (go_at_call 125; refine (OP0.out _ HS1.out).mono ?_; rintro e w' ⟨rfl, hw⟩; obtain rfl := hw.symm; clear hw))
  clear OP0 hne
  try simp only [Act.put, List.setIfInBounds_toArray, List.set_cons_zero, List.set_cons_succ]
  go_loopw [] (fun wr => ∃ (L : List (Array Value × T)) (r : List Tk.Tok) (a : Option Addr) (n c : Nat), Hid (goF (L.map (·.2)) r = o) ∧ L.length + r.length ≤ 255 ∧ r.length ≤ ts.length ∧ Hid (CI W b w S (.slice a n c) L wr) ∧ Hid (∀ x ∈ L, NK (fun i => w.heap.size + 2 ≤ i ∧ (Value.slice a n c).ownBlock ≠ some i) wr x.1 x.2) ∧ Hid (Sq W b r w wr)) (fun wr => leftP b wr)
  case atStart => exact ⟨[], ts, none, 0, 0, HO, by simp; omega, Nat.le_refl _, HC1, fun x hx => (by cases hx), HS1⟩
  case round =>
    obtain ⟨L, r, a, n, c, HL, hlen, hr, HCI, HN, HS⟩ := hrel
    clear HO HC1 HS1
    have hnot : wr.cell? ⟨b, 1, none⟩ = some (.bool false) := HS.out.1.not
    have hleft := HS.out.1.left
    have hc17 := HCI.out.cells.1
    have HRT : Hid (∀ p, PP 1 r = some p → p.2.length < r.length) := fun p hp => ps_lt upF trF (by omega) _ p.1 p.2 hp
    have C1 : Calls Tryz.prog 92 #[.pointer (some ⟨b, 0, none⟩), .int .i64 1] wr.drew fun e w3 => ∃ es2, e = .returned (.agg es2) ∧ NA es2 ∧ RA W b wr.drew (PP 1 r) es2 w3 := HC.out r wr.drew hr HS.out.1.drew
    go_wp2
    refine wp_region_d (fun u => u.cell? ⟨w.heap.size + 1, 17, none⟩ = some (.slice a n c)) (fun j => j == 7) (by kernel_rfl) ?_
    have hc17d : wr.drew.cell? ⟨w.heap.size + 1, 17, none⟩ = some (.slice a n c) := hc17
    refine wpAnyD_pured (i := 0) (v := .pointer (some ⟨w.heap.size + 1, 17, none⟩)) rfl rfl (by kernel_rfl) (by kernel_rfl) (by kernel_rfl) (fun _ _ _ h => h) (by go_simp) (by intro u; go_simp) ?_
    try simp only [Act.put, List.setIfInBounds_toArray, List.set_cons_zero, List.set_cons_succ]
    refine wpAnyD_loadd (i := 1) (v := .slice a n c) rfl rfl (by kernel_rfl) (by kernel_rfl) (by kernel_rfl) (by kernel_rfl) (fun _ _ _ h => h) (by go_simp) (fun u hSu => by have h1 := hSu; go_simp) hc17d ?_
    try simp only [Act.put, List.setIfInBounds_toArray, List.set_cons_zero, List.set_cons_succ]
    refine wpAnyD_pured (i := 2) (v := .pointer (some ⟨b, 0, none⟩)) rfl rfl (by kernel_rfl) (by kernel_rfl) (by kernel_rfl) (fun _ _ _ h => h) (by go_simp) (by intro u; go_simp) ?_
    try simp only [Act.put, List.setIfInBounds_toArray, List.set_cons_zero, List.set_cons_succ]
    refine wpAnyD_one (i := 3) (by kernel_rfl) rfl ?_
    intro K hK
    go_simp
    refine C1.mono ?_
    rintro e w3 ⟨es2, rfl, hn2, h3⟩
    obtain ⟨R1, a', n', c', w5, R2, hn', R3, k3, k4, k5, HC6, HM⟩ := HCI.out.more (t := ((PP 1 r).map (·.1)).getD (tree (lab0 0 nb) [])) hb (by omega) rfl hn2 h3
    clear C1 hn2 h3
    refine hK _ _ (.inr fun _ => k3.out) ?_
    clear hK
    try simp only [Act.put, List.setIfInBounds_toArray, List.set_cons_zero, List.set_cons_succ]
    refine wpAnyD_one (i := 4) (by kernel_rfl) rfl ?_
    intro K hK
    rw [if_pos (by go_simp)]
    refine wp_bslice_run (some 25) rfl 48 1 _ rfl _ _ (by go_simp) R1.out (hK _ _ (.inr fun _ => k4.out) ?_)
    clear hK
    try simp only [Act.put, List.setIfInBounds_toArray, List.set_cons_zero, List.set_cons_succ]
    refine wpAnyD_one (i := 5) (by kernel_rfl) rfl ?_
    intro K hK
    rw [if_pos (by go_simp)]
    refine wp_append_run (some 26) rfl 48 rfl _ _ 48 rfl _ _ _ rfl rfl R2.out (hK _ _ (.inr fun _ => k5.out) ?_)
    clear hK
    try simp only [Act.put, List.setIfInBounds_toArray, List.set_cons_zero, List.set_cons_succ]
    refine wpAnyD_pured (i := 6) (v := .pointer (some ⟨w.heap.size + 1, 17, none⟩)) rfl rfl (by kernel_rfl) (by kernel_rfl) (by kernel_rfl) (fun _ _ _ h => h) (by go_simp) (by intro u; go_simp) ?_
    try simp only [Act.put, List.setIfInBounds_toArray, List.set_cons_zero, List.set_cons_succ]
    refine wpAnyD_one (i := 7) (by kernel_rfl) rfl ?_
    intro K hK
    rw [if_pos (by go_simp)]
    refine wp_store_run none rfl 48 _ _ rfl _ _ rfl rfl R3.out (hK _ _ (.inl rfl) ?_)
    clear hK
    try simp only [Act.put, List.setIfInBounds_toArray, List.set_cons_zero, List.set_cons_succ]
    refine wpAnyD_done (by kernel_rfl) ?_ _
    clear R1 R2 R3 k3 k4 k5 hc17 hc17d hnot HCI
    obtain ⟨w6, hw6⟩ : ∃ w6, w5.setCell ⟨w.heap.size + 1, 17, none⟩ (.slice a' n' c') = w6 := ⟨_, rfl⟩
    rw [hw6] at HC6 HM ⊢
    clear hw6 HC
    obtain ⟨RLs, RSs, HGs, HZs, HNAs⟩ := HC6.out.fin
    have hFA : Hid (∀ u, CI W b w S (.slice a' n' c') (L ++ [(es2, ((PP 1 r).map (·.1)).getD (tree (lab0 0 nb) []))]) u → QB W b u → Calls Tryz.prog 206 #[.pointer (some ⟨b, 0, none⟩)] u fun e w3 => e = .returned (.agg nd0) ∧ Hid ((Instr.storeAt 50 (.pointer (some ⟨w.heap.size, 0, none⟩)) (.agg nd0)).run Tryz.prog w3 = .ok () (w3.setRow w.heap.size nd0)) ∧ Hid (w3.heap[w.heap.size]? = some (.cells nd0 50)) ∧ Hid (RA W b w none nd0 (w3.setRow w.heap.size nd0))) := fun u hu hX => (rfail_any hX).mono (by
      rintro e w3 ⟨rfl, h3⟩
      exact ⟨rfl, hu.fail hb h3⟩)
    cases hP : PP 1 r with
    | none =>
      rw [hP] at HM
      have HSW : Hid (Sw W b w w6) := HM.out
      have HQ : Hid (none = o) := by show _ = _; rw [← HL.out]; exact (go_none hP).symm
      have OP : Calls Tryz.prog 125 #[.pointer (some ⟨b, 0, none⟩)] w6 fun e w' => e = .returned (.string noB) ∧ w' = w6 := rop_bad HSW.out.1
      have TK : Calls Tryz.prog 126 #[.pointer (some ⟨b, 0, none⟩), .string ⟨#[41]⟩] w6 fun e w' => e = .returned (.tuple #[]) ∧ w'.cell? ⟨w.heap.size + 1, 17, none⟩ = some (.slice a' n' c') ∧ Hid (CI W b w S (.slice a' n' c') (L ++ [(es2, ((PP 1 r).map (·.1)).getD (tree (lab0 0 nb) []))]) w') ∧ Hid (Sw W b w w') := (rtake_bad (s := [41]) HSW.out.1 (by decide)).mono (by
        rintro e w' ⟨rfl, h2⟩
        have hc := HC6.out.keep hb h2.2
        exact ⟨rfl, hc.cells.1, hc, h2.1, hc.grow⟩)
      clear HM HL hP HN HS HRT
      by_cases h16 : (16 : Int) < (n' : Int)
      · go_wp2_with (first
          | (go_at_call 125; refine OP.mono ?_; rintro e w' ⟨rfl, hw⟩; obtain rfl := hw.symm; clear hw)
          | (go_at_call 126; refine TK.mono ?_; rintro e w7 ⟨rfl, hc7, HC7, HS7⟩)
          | (go_at_call 206; refine (hFA.out _ HC7.out HS7.out.1.b).mono ?_; rintro e w8 ⟨rfl, RS8, HG8, HF8⟩)
          | (refine wpList_store_run rfl 50 _ _ rfl _ _ _ rfl rfl RS8.out ?_; clear RS8))
        refine bodyPost_ret (nd_res HG8.out rfl rfl rfl) rfl ?_
        rw [← HQ.out]
        exact ⟨_, rfl, NA.zero, HF8.out⟩
      · go_wp2_with (first
          | (go_at_call 125; refine OP.mono ?_; rintro e w' ⟨rfl, hw⟩; obtain rfl := hw.symm; clear hw)
          | (go_at_call 126; refine TK.mono ?_; rintro e w7 ⟨rfl, hc7, HC7, HS7⟩; obtain ⟨RL7, RS7, HG7, HZ7, HNA7⟩ := HC7.out.fin; have HF7 : Hid _ := HC7.out.bad hb HS7.out)
          | (refine wpList_load_run rfl 50 _ rfl _ _ rfl RL7.out ?_; clear RL7)
          | (refine wpList_store_run rfl 50 _ _ rfl _ _ _ rfl rfl RS7.out ?_; clear RS7))
        refine bodyPost_ret (nd_res HG7.out HZ7.out rfl rfl) rfl ?_
        rw [← HQ.out]
        exact ⟨_, rfl, HNA7.out, HF7.out⟩
    | some p =>
      obtain ⟨m, r2⟩ := p
      have hr2 : r2.length < r.length := HRT.out _ hP
      rw [hP] at HM HC6 hFA
      obtain ⟨hS6, hN6⟩ := HM.out
      have HS6 : Hid (Sq W b r2 w w6) := hS6
      have HN6 : Hid (∀ x ∈ L ++ [(es2, m)], NK (fun i => w.heap.size + 2 ≤ i ∧ (Value.slice a' n' c').ownBlock ≠ some i) w6 x.1 x.2) := hN6 HN.out rfl
      have HC6' : Hid (CI W b w S (.slice a' n' c') (L ++ [(es2, m)]) w6) := HC6.out
      have hFA' : Hid (∀ u, CI W b w S (.slice a' n' c') (L ++ [(es2, m)]) u → QB W b u → _) := hFA.out
      have OP := rop_any HS6.out.1 (by omega)
      clear HM HC6 hFA hS6 hN6 HN HS HRT
      by_cases h44 : opOf r2 = [44]
      · have TK : Calls Tryz.prog 126 #[.pointer (some ⟨b, 0, none⟩), .string ⟨#[44]⟩] w6 fun e w' => e = .returned (.tuple #[]) ∧ Hid (CI W b w S (.slice a' n' c') (L ++ [(es2, m)]) w') ∧ Hid (Sq W b r2.tail w w') ∧ Hid (∀ x ∈ L ++ [(es2, m)], NK (fun i => w.heap.size + 2 ≤ i ∧ (Value.slice a' n' c').ownBlock ≠ some i) w' x.1 x.2) := (rtake_yes (s := [44]) HS6.out.1 (by omega) (by decide) h44).mono (by
          rintro e w' ⟨rfl, h2⟩
          have hc := HC6'.out.keep hb h2.2
          exact ⟨rfl, hc, ⟨h2.1, hc.grow⟩, fun x hx => (HN6.out x hx).grown h2.2 (fun g e hk => by cases e; have := hk.1; omega)⟩)
        have hrt := (op_tail (ts := r2) h44 (by decide)).1
        have HQ : Hid (goF ((L ++ [(es2, m)]).map (·.2)) r2.tail = o) := by
          show _ = _
          rw [← HL.out, go_comma hP h44]
          simp
        rw [h44] at OP
        have OP' : Calls Tryz.prog 125 #[.pointer (some ⟨b, 0, none⟩)] w6 fun e w' => e = .returned (.string ⟨#[44]⟩) ∧ w' = w6 := OP
        clear HL hP h44 OP HC6' HN6 hFA'
        go_wp2_with (first
          | (go_at_call 125; refine OP'.mono ?_; rintro e w' ⟨rfl, hw⟩; obtain rfl := hw.symm; clear hw)
          | (go_at_call 126; refine TK.mono ?_; rintro e w7 ⟨rfl, HC7, HS7, HN7⟩))
        try simp only [Act.put, List.setIfInBounds_toArray, List.set_cons_zero, List.set_cons_succ]
        go_roundw
        case rel => exact ⟨L ++ [(es2, m)], r2.tail, a', n', c', HQ, by simp; omega, by omega, HC7, HN7, HS7⟩
        case measure => rw [HS7.out.1.left, hleft]; omega
      · have hne44 : ((ba (opOf r2)).toList == [44]) = false := ne_list h44
        have hn16 : n' = (L ++ [(es2, m)]).length := by simp [hn']
        by_cases h41 : opOf r2 = [41]
        · have TK : Calls Tryz.prog 126 #[.pointer (some ⟨b, 0, none⟩), .string ⟨#[41]⟩] w6 fun e w' => e = .returned (.tuple #[]) ∧ w'.cell? ⟨w.heap.size + 1, 17, none⟩ = some (.slice a' n' c') ∧ Hid (CI W b w S (.slice a' n' c') (L ++ [(es2, m)]) w') ∧ Hid (Sq W b r2.tail w w') ∧ Hid (∀ x ∈ L ++ [(es2, m)], NK (fun i => w.heap.size + 2 ≤ i ∧ (Value.slice a' n' c').ownBlock ≠ some i) w' x.1 x.2) := (rtake_yes (s := [41]) HS6.out.1 (by omega) (by decide) h41).mono (by
            rintro e w' ⟨rfl, h2⟩
            have hc := HC6'.out.keep hb h2.2
            exact ⟨rfl, hc.cells.1, hc, ⟨h2.1, hc.grow⟩, fun x hx => (HN6.out x hx).grown h2.2 (fun g e hk => by cases e; have := hk.1; omega)⟩)
          have HQ : Hid (o = if n' ≤ 16 then some ((L ++ [(es2, m)]).map (·.2), r2.tail) else none) := by
            show _ = _
            rw [← HL.out, go_close hP h41, hn16]
            simp
          clear HL hP h41 h44 HC6' HN6
          generalize ba (opOf r2) = A2 at *
          by_cases h16 : n' ≤ 16
          · have h16i : ¬ (16 : Int) < (n' : Int) := by omega
            go_wp2_with (first
              | (go_at_call 125; refine OP.mono ?_; rintro e w' ⟨rfl, hw⟩; obtain rfl := hw.symm; clear hw)
              | (go_at_call 126; refine TK.mono ?_; rintro e w7 ⟨rfl, hc7, HC7, HS7, HN7⟩; obtain ⟨RL7, RS7, HG7, HZ7, HNA7⟩ := HC7.out.fin; have HF7 : Hid _ := HC7.out.good hb HN7.out HS7.out)
              | (refine wpList_load_run rfl 50 _ rfl _ _ rfl RL7.out ?_; clear RL7)
              | (refine wpList_store_run rfl 50 _ _ rfl _ _ _ rfl rfl RS7.out ?_; clear RS7))
            refine bodyPost_ret (nd_res HG7.out HZ7.out rfl rfl) rfl ?_
            rw [HQ.out, if_pos h16]
            exact ⟨_, rfl, HNA7.out, HF7.out⟩
          · have h16i : (16 : Int) < (n' : Int) := by omega
            go_wp2_with (first
              | (go_at_call 125; refine OP.mono ?_; rintro e w' ⟨rfl, hw⟩; obtain rfl := hw.symm; clear hw)
              | (go_at_call 126; refine TK.mono ?_; rintro e w7 ⟨rfl, hc7, HC7, HS7, HN7⟩)
              | (go_at_call 206; refine (hFA'.out _ HC7.out HS7.out.1.b).mono ?_; rintro e w8 ⟨rfl, RS8, HG8, HF8⟩)
              | (refine wpList_store_run rfl 50 _ _ rfl _ _ _ rfl rfl RS8.out ?_; clear RS8))
            refine bodyPost_ret (nd_res HG8.out rfl rfl rfl) rfl ?_
            rw [HQ.out, if_neg h16]
            exact ⟨_, rfl, NA.zero, HF8.out⟩
        · have HQ : Hid (none = o) := by show _ = _; rw [← HL.out]; exact (go_bad hP h41 h44).symm
          have TK : Calls Tryz.prog 126 #[.pointer (some ⟨b, 0, none⟩), .string ⟨#[41]⟩] w6 fun e w' => e = .returned (.tuple #[]) ∧ w'.cell? ⟨w.heap.size + 1, 17, none⟩ = some (.slice a' n' c') ∧ Hid (CI W b w S (.slice a' n' c') (L ++ [(es2, m)]) w') ∧ Hid (Sw W b w w') := (rtake_no (s := [41]) HS6.out.1 (by omega) h41).mono (by
            rintro e w' ⟨rfl, h2⟩
            have hc := HC6'.out.keep hb h2.2
            exact ⟨rfl, hc.cells.1, hc, h2.1, hc.grow⟩)
          clear HL hP h41 h44 HC6' HN6
          generalize ba (opOf r2) = A2 at *
          by_cases h16 : (16 : Int) < (n' : Int)
          · go_wp2_with (first
              | (go_at_call 125; refine OP.mono ?_; rintro e w' ⟨rfl, hw⟩; obtain rfl := hw.symm; clear hw)
              | (go_at_call 126; refine TK.mono ?_; rintro e w7 ⟨rfl, hc7, HC7, HS7⟩)
              | (go_at_call 206; refine (hFA'.out _ HC7.out HS7.out.1.b).mono ?_; rintro e w8 ⟨rfl, RS8, HG8, HF8⟩)
              | (refine wpList_store_run rfl 50 _ _ rfl _ _ _ rfl rfl RS8.out ?_; clear RS8))
            refine bodyPost_ret (nd_res HG8.out rfl rfl rfl) rfl ?_
            rw [← HQ.out]
            exact ⟨_, rfl, NA.zero, HF8.out⟩
          · go_wp2_with (first
              | (go_at_call 125; refine OP.mono ?_; rintro e w' ⟨rfl, hw⟩; obtain rfl := hw.symm; clear hw)
              | (go_at_call 126; refine TK.mono ?_; rintro e w7 ⟨rfl, hc7, HC7, HS7⟩; obtain ⟨RL7, RS7, HG7, HZ7, HNA7⟩ := HC7.out.fin; have HF7 : Hid _ := HC7.out.bad hb HS7.out)
              | (refine wpList_load_run rfl 50 _ rfl _ _ rfl RL7.out ?_; clear RL7)
              | (refine wpList_store_run rfl 50 _ _ rfl _ _ _ rfl rfl RS7.out ?_; clear RS7))
            refine bodyPost_ret (nd_res HG7.out HZ7.out rfl rfl) rfl ?_
            rw [← HQ.out]
            exact ⟨_, rfl, HNA7.out, HF7.out⟩
theorem rcall_any {W : World} {b : Nat} {S : ByteArray} {L0 : List Tk.Tok} (hn : L0.length ≤ 256) (h40 : opOf L0 = [40]) {w : World} (X : QR W b L0 w)
    (C : ∀ ts' u, ts'.length ≤ L0.tail.length → QR W b ts' u → Calls Tryz.prog 92 #[.pointer (some ⟨b, 0, none⟩), .int .i64 1] u (RO W b u (PP 1 ts'))) :
    Calls Tryz.prog 224 #[.pointer (some ⟨b, 0, none⟩), .string S] w (RO W b w ((AA L0.tail).map fun q => (tree (lab0 7 S) q.1, q.2))) := by
  by_cases h : opOf L0.tail = [41]
  · unfold AA
    rw [if_pos h]
    exact rcall_nil hn h40 h X
  · rw [AA_go h]
    exact rcall_some hn h40 h X C
end Go.Proofs.YtlndkjcincflpaaGreatDoor

namespace Go.Proofs.YtlndkjcincflpaaGreatDoor
open Go.RowKit Go.Fm
set_option maxRecDepth 100000
theorem RA.from {W w u w' : World} {b : Nat} {o : Option (T × List Tk.Tok)} {es : Array Value} (hg : w.grownBy u (some b)) (h : RA W b u o es w') : RA W b w o es w' := by
  cases o with
  | none => exact ⟨h.1, grown_trans hg h.2⟩
  | some p => exact ⟨h.1.mono (fun i hi _ => Nat.le_trans hg.size hi), h.2.1, grown_trans hg h.2.2⟩
theorem tr_num (s : List UInt8) : (∃ n, trF s = some n ∧ truN (szF 97 65 s) = n ∧ 0 ≤ n) ∨ (trF s = none ∧ truN (szF 97 65 s) = -1) := by
  unfold trF truF
  rcases tru_cases (szF 97 65 (ba s).data.toList) with ⟨e, e2, e3⟩ | ⟨e, e2, e3⟩ | ⟨_, _, e2, e3⟩
  · left; rw [e2]; exact ⟨1, rfl, e3, by decide⟩
  · left; rw [e2]; exact ⟨0, rfl, e3, by decide⟩
  · right; rw [e2]; exact ⟨rfl, e3⟩
theorem build_t (u : World) (n : Int) : (Instr.build 45 #[(0, .int .i64 3), (1, .int .i64 n)]).run Tryz.prog u = .ok (.agg #[.int .i64 3, .int .i64 n, .string noB]) u := by kernel_rfl
theorem build_n (u : World) (s bk h : ByteArray) (r c : Int) (fr fc : Bool) : (Instr.build 50 #[(0, .int .i64 4), (1, .string s), (3, refV bk h r c fr fc)]).run Tryz.prog u = .ok (.agg (lcs ⟨4, s, 0, 0, nb, bk, h, r, c, fr, fc, nb, nb, 0, 0, false, false⟩ (.slice none 0 0))) u := by kernel_rfl
section
variable {W w : World} {b : Nat} {s bk : List UInt8} {L : List Tk.Tok}
abbrev wcs (bk s : List UInt8) : Array Value := tcs 4 0 (ba s) (ba bk) noB 0 0 false false
theorem wbox {u : World} {g : Nat} {cs : Array Value} (h : u.heap[g]? = some (.cells cs 138)) (j : Nat) (v : Value) (hj : cs[j]? = some v) : u.cell? ⟨g, j, none⟩ = some v := by rw [cell_of_row u g j _ 138 (0, 0) h]; exact hj
set_option maxHeartbeats 4000000 in
theorem rword_call (hn : L.length ≤ 256) (hs : s.length ≤ 1000) (h40 : opOf L = [40]) (X : QR W b L w) {o : Option (T × List Tk.Tok)} (C : ∀ u, QR W b L u → Calls Tryz.prog 224 #[.pointer (some ⟨b, 0, none⟩), .string (ba (upF s))] u (RO W b u o)) :
    Calls Tryz.prog 208 #[.pointer (some ⟨b, 0, none⟩), .agg (wcs [] s)] w (RO W b w o) := by
  have hb := X.lt
  obtain ⟨f0, f1, f2, f3⟩ := rw2_facts (w := w) (cs := wcs [] s)
  have X2 := X.below f3
  have OP : Calls Tryz.prog 125 #[.pointer (some ⟨b, 0, none⟩)] (rw2 w (wcs [] s)) fun e w' => e = .returned (.string ⟨#[40]⟩) ∧ w' = rw2 w (wcs [] s) := by
    have := rop_any X2 hn
    rw [h40] at this
    exact this
  have c3 : (rw2 w (wcs [] s)).cell? ⟨w.heap.size, 3, none⟩ = some (.string ⟨#[]⟩) := wbox f0 3 _ rfl
  have c2 : (rw2 w (wcs [] s)).cell? ⟨w.heap.size, 2, none⟩ = some (.string (ba s)) := wbox f0 2 _ rfl
  have UP : Calls Tryz.prog 107 #[.string (ba s)] (rw2 w (wcs [] s)) fun e w' => e = .returned (.string (ba (upF s))) ∧ Below (rw2 w (wcs [] s)).heap.size (rw2 w (wcs [] s)) w' := rup_any (ba s) (by rw [size_mk]; omega) _
  have C1 : Hid (∀ u, Below (rw2 w (wcs [] s)).heap.size (rw2 w (wcs [] s)) u → Calls Tryz.prog 224 #[.pointer (some ⟨b, 0, none⟩), .string (ba (upF s))] u fun e w3 => ∃ es, e = .returned (.agg es) ∧ Hid ((Instr.storeAt 50 (.pointer (some ⟨w.heap.size + 1, 0, none⟩)) (.agg es)).run Tryz.prog w3 = .ok () (w3.setRow (w.heap.size + 1) es)) ∧ Hid (w3.heap[w.heap.size + 1]? = some (.cells nd0 50)) ∧ Hid (es.size = 18) ∧ Hid (NA es) ∧
    Hid (RA W b w o es (w3.setRow (w.heap.size + 1) es))) := fun u hu => (C u (X2.below hu)).mono (by
    rintro e w3 ⟨es, rfl, hn, h⟩
    exact ⟨es, rfl, RA.fin2 hb hn (h.from (grown_below hu))⟩)
  clear C X X2 f0 f1 f2 f3 h40
  generalize ba (upF s) = U at *
  generalize ba s = S at *
  generalize wcs [] s = cs at *
  go_enter Tryz.func208, Tryz.ntmps208
  go_wp2_with (first
    | (go_at_call 125; refine OP.mono ?_; rintro e w' ⟨rfl, hw⟩; obtain rfl := hw.symm; clear hw)
    | (go_at_call 107; refine UP.mono ?_; rintro e w1 ⟨rfl, hw⟩; have HU : Hid (Below (rw2 w cs).heap.size (rw2 w cs) w1) := hw; clear hw)
    | (go_at_call 224; refine (C1.out _ HU.out).mono ?_; rintro e w3 ⟨es, rfl, RS, HG, HZ, HNA, HF⟩)
    | (refine wpList_store_run rfl 50 _ _ rfl _ _ _ rfl rfl RS.out ?_; clear RS))
  exact bodyPost_ret (nd_res HG.out HZ.out rfl rfl) rfl ⟨_, rfl, HNA.out, HF.out⟩
set_option maxHeartbeats 8000000 in
theorem rword_rest (hn : L.length ≤ 256) (hs : s.length ≤ 1000) (h40 : ¬ (bk = [] ∧ opOf L = [40])) (X : QR W b L w) :
    Calls Tryz.prog 208 #[.pointer (some ⟨b, 0, none⟩), .agg (wcs bk s)] w (RO W b w (match trF s with
      | some n => some (tree (labV 3 n nb) [], L)
      | none => some (tree (labN bk s) [], L))) := by
  have hb := X.lt
  obtain ⟨f0, f1, f2, f3⟩ := rw2_facts (w := w) (cs := wcs bk s)
  have X2 := X.below f3
  have OP := rop_any X2 hn
  have c3 : (rw2 w (wcs bk s)).cell? ⟨w.heap.size, 3, none⟩ = some (.string (ba bk)) := wbox f0 3 _ rfl
  have c2 : (rw2 w (wcs bk s)).cell? ⟨w.heap.size, 2, none⟩ = some (.string (ba s)) := wbox f0 2 _ rfl
  have TR : Calls Tryz.prog 89 #[.string (ba s)] (rw2 w (wcs bk s)) fun e w' => e = .returned (.int .i64 (truN (szF 97 65 s))) ∧ Hid (Sq W b L (rw2 w (wcs bk s)) w') ∧ w'.cell? ⟨w.heap.size, 2, none⟩ = some (.string (ba s)) ∧ Hid ((Instr.loadAt 47 (.pointer (some ⟨w.heap.size, 3, none⟩))).run Tryz.prog w' = .ok (refV (ba bk) noB 0 0 false false) w') := (rtruth_any (ba s) (by rw [size_mk]; omega) _).mono (by
    rintro e w' ⟨rfl, h⟩
    have hk := (h.block _ (lt_of f0)).trans f0
    exact ⟨rfl, (Sq.refl X2).bel h, wbox hk 2 _ rfl, box_ref hk⟩)
  have hcond : ((ba (opOf L)).toList == [40]) = false ∨ (((ba (opOf L)).toList == [40]) = true ∧ (ba bk).toList.isEmpty = false) := by
    by_cases h : opOf L = [40]
    · right
      refine ⟨by rw [h, ByteArray.toList_eq]; rfl, ?_⟩
      rw [ByteArray.toList_eq]
      show bk.isEmpty = false
      cases bk with
      | nil => exact absurd ⟨rfl, h⟩ h40
      | cons _ _ => rfl
    · exact .inl (ne_list h)
  have FT : Hid (∀ (n : Int) u, Sq W b L (rw2 w (wcs bk s)) u → _) := fun n u hu => RA.fin2 hb (na_leaf (labV 3 n nb)) (RA.leaf (labV 3 n nb) hu)
  have FN : Hid (∀ u, Sq W b L (rw2 w (wcs bk s)) u → _) := fun u hu => RA.fin2 hb (na_leaf (labN bk s)) (RA.leaf (labN bk s) hu)
  have BT : Hid (∀ (n : Int) (u : World), _ ∧ _) := fun n u => ⟨build_t u n, build_val u 3 n noB⟩
  have BN : Hid (∀ u, (Instr.build 50 #[(0, .int .i64 4), (1, .string (ba s)), (3, refV (ba bk) noB 0 0 false false)]).run Tryz.prog u = .ok (.agg (lcs (labN bk s) (.slice none 0 0))) u) := fun u => build_n u (ba s) (ba bk) noB 0 0 false false
  clear X X2 f0 f1 f2 f3 h40
  rcases tr_num s with ⟨n, h1, h2, h3⟩ | ⟨h1, h2⟩
  · rw [h1]
    rw [h2] at TR
    have FT' := fun u hu => FT.out n u hu
    have BT1 : Hid _ := fun u => (BT.out n u).1
    have BT2 : Hid _ := fun u => (BT.out n u).2
    clear FT FN BT BN h1 h2
    have hz := lcs_size (labV 3 n nb) (.slice none 0 0)
    generalize lcs (labV 3 n nb) (.slice none 0 0) = es at *
    generalize ba (opOf L) = A at *
    generalize ba s = S at *
    generalize ba bk = B at *
    generalize wcs bk s = cs at *
    have hge : ¬ n < 0 := by omega
    rcases hcond with hA | ⟨hA, hB⟩
    · go_enter Tryz.func208, Tryz.ntmps208
      go_wp2_with (first
        | (go_at_call 125; refine OP.mono ?_; rintro e w' ⟨rfl, hw⟩; obtain rfl := hw.symm; clear hw)
        | (go_at_call 89; refine TR.mono ?_; rintro e w1 ⟨rfl, HS1, k2, RL1⟩; obtain ⟨RS, HG, HZ, HNA, HF⟩ := FT' _ HS1.out)
        | (refine wpList_build_run rfl 45 _ rfl _ _ (by go_simp) (BT1.out _) ?_)
        | (refine wpList_build_run rfl 50 _ rfl _ _ (by go_simp) (BT2.out _) ?_)
        | (refine wpList_store_run rfl 50 _ _ rfl _ _ _ rfl rfl RS.out ?_; clear RS))
      exact bodyPost_ret (nd_res HG.out HZ.out rfl rfl) rfl ⟨_, rfl, HNA.out, HF.out⟩
    · go_enter Tryz.func208, Tryz.ntmps208
      go_wp2_with (first
        | (go_at_call 125; refine OP.mono ?_; rintro e w' ⟨rfl, hw⟩; obtain rfl := hw.symm; clear hw)
        | (go_at_call 89; refine TR.mono ?_; rintro e w1 ⟨rfl, HS1, k2, RL1⟩; obtain ⟨RS, HG, HZ, HNA, HF⟩ := FT' _ HS1.out)
        | (refine wpList_build_run rfl 45 _ rfl _ _ (by go_simp) (BT1.out _) ?_)
        | (refine wpList_build_run rfl 50 _ rfl _ _ (by go_simp) (BT2.out _) ?_)
        | (refine wpList_store_run rfl 50 _ _ rfl _ _ _ rfl rfl RS.out ?_; clear RS))
      exact bodyPost_ret (nd_res HG.out HZ.out rfl rfl) rfl ⟨_, rfl, HNA.out, HF.out⟩
  · rw [h1]
    rw [h2] at TR
    have FN' := fun u hu => FN.out u hu
    clear FT FN BT h1 h2
    generalize lcs (labN bk s) (.slice none 0 0) = es at *
    generalize labN bk s = lb at *
    generalize ba (opOf L) = A at *
    generalize ba s = S at *
    generalize ba bk = B at *
    generalize wcs bk s = cs at *
    rcases hcond with hA | ⟨hA, hB⟩
    · go_enter Tryz.func208, Tryz.ntmps208
      go_wp2_with (first
        | (go_at_call 125; refine OP.mono ?_; rintro e w' ⟨rfl, hw⟩; obtain rfl := hw.symm; clear hw)
        | (go_at_call 89; refine TR.mono ?_; rintro e w1 ⟨rfl, HS1, k2, RL1⟩; obtain ⟨RS, HG, HZ, HNA, HF⟩ := FN' _ HS1.out)
        | (refine wpList_load_run rfl 47 _ rfl _ _ rfl RL1.out ?_; clear RL1)
        | (refine wpList_build_run rfl 50 _ rfl _ _ (by go_simp) (BN.out _) ?_)
        | (refine wpList_store_run rfl 50 _ _ rfl _ _ _ rfl rfl RS.out ?_; clear RS))
      exact bodyPost_ret (nd_res HG.out HZ.out rfl rfl) rfl ⟨_, rfl, HNA.out, HF.out⟩
    · go_enter Tryz.func208, Tryz.ntmps208
      go_wp2_with (first
        | (go_at_call 125; refine OP.mono ?_; rintro e w' ⟨rfl, hw⟩; obtain rfl := hw.symm; clear hw)
        | (go_at_call 89; refine TR.mono ?_; rintro e w1 ⟨rfl, HS1, k2, RL1⟩; obtain ⟨RS, HG, HZ, HNA, HF⟩ := FN' _ HS1.out)
        | (refine wpList_load_run rfl 47 _ rfl _ _ rfl RL1.out ?_; clear RL1)
        | (refine wpList_build_run rfl 50 _ rfl _ _ (by go_simp) (BN.out _) ?_)
        | (refine wpList_store_run rfl 50 _ _ rfl _ _ _ rfl rfl RS.out ?_; clear RS))
      exact bodyPost_ret (nd_res HG.out HZ.out rfl rfl) rfl ⟨_, rfl, HNA.out, HF.out⟩
end
theorem pword_any {W w : World} {b : Nat} {bk s : List UInt8} {L : List Tk.Tok} (hn : L.length ≤ 256) (hs : s.length ≤ 1000) (X : QR W b L w)
    (C : ∀ ts' u, ts'.length ≤ L.tail.length → QR W b ts' u → Calls Tryz.prog 92 #[.pointer (some ⟨b, 0, none⟩), .int .i64 1] u (RO W b u (PP 1 ts'))) :
    Calls Tryz.prog 208 #[.pointer (some ⟨b, 0, none⟩), .agg (tk (Tk.Tok.word bk s)).cs] w (RO W b w (wordF bk s L)) := by
  unfold wordF
  by_cases h : bk = [] ∧ opOf L = [40]
  · rw [if_pos h]
    obtain ⟨rfl, h40⟩ := h
    exact rword_call hn hs h40 X (fun u hu => rcall_any hn h40 hu C)
  · rw [if_neg h]
    exact rword_rest hn hs h X
end Go.Proofs.YtlndkjcincflpaaGreatDoor

namespace Go.Proofs.YtlndkjcincflpaaGreatDoor
open Go.RowKit Go.Fm
set_option maxRecDepth 100000
set_option maxHeartbeats 4000000 in
theorem rstrength_any (s : List UInt8) (w : World) : Calls Tryz.prog 84 #[.string (ba s)] w fun e w' => e = .returned (.int .i64 (strn s : Nat)) ∧ w' = w := by
  rcases strn_cases s with h | ⟨h0, h1, h2, h3, h4, h5, h6, h7, h8, h9, h10, h11, h12⟩
  · rcases h with rfl | rfl | rfl | rfl | rfl | rfl | rfl | rfl | rfl | rfl | rfl | rfl <;>
      (go_enter Tryz.func84, Tryz.ntmps84
       go_wp2
       go_ret
       exact ⟨rfl, rfl⟩)
  · rw [h0]
    have k1 := ne_list h1
    have k2 := ne_list h2
    have k3 := ne_list h3
    have k4 := ne_list h4
    have k5 := ne_list h5
    have k6 := ne_list h6
    have k7 := ne_list h7
    have k8 := ne_list h8
    have k9 := ne_list h9
    have k10 := ne_list h10
    have k11 := ne_list h11
    have k12 := ne_list h12
    clear h0 h1 h2 h3 h4 h5 h6 h7 h8 h9 h10 h11 h12
    generalize ba s = S at *
    go_enter Tryz.func84, Tryz.ntmps84
    go_wp2
    go_ret
    exact ⟨rfl, rfl⟩
end Go.Proofs.YtlndkjcincflpaaGreatDoor
