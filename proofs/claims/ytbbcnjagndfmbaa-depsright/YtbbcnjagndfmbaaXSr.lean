/- The search for groups: the closure that calls itself. -/
import Derived.Test.YtbbcnjagndfmbaaXSuf
namespace Go.Proofs.Ytbbcnjagndfmbaa
open Go.RowKit Go.Dp
set_option maxRecDepth 100000
set_option linter.unusedVariables false
set_option linter.unusedSimpArgs false
/-- What a search leaves. -/
def SP (w0 : World) (A : Addr) (n c ga gb : Nat) (E : List (Nat × Nat)) (a : Nat) (sn : Nat → Option Nat) (op : List Nat) (cnt : Nat) (e : Ending) (w' : World) : Prop :=
  ∃ (r : Nat) (sn' : Nat → Option Nat) (op' : List Nat) (gr' : Nat → Nat) (cnt' : Nat), e = .returned (.int .i64 (r : Nat)) ∧ GS w0 A n c ga gb w' sn' op' gr' cnt' ∧ TP n E a sn op cnt sn' op' gr' cnt' r
theorem take_one {l : List Nat} {k : Nat} (h : k < l.length) : l.take (k + 1) = l.take k ++ [l[k]] := List.take_succ_eq_append_getElem h
theorem shutS_nil {n : Nat} {sn : Nat → Option Nat} : shutS n [] sn = sn := by funext x; simp [shutS]
theorem shutG_nil {m : Nat} {gr : Nat → Nat} : shutG m [] gr = gr := by funext x; simp [shutG]
theorem shutS_one {n : Nat} {l : List Nat} {x : Nat} {sn : Nat → Option Nat} : shutS n (l ++ [x]) sn = upd (shutS n l sn) x (some n) := by
  funext y
  unfold shutS upd
  by_cases e : y = x
  · subst e; simp
  · by_cases q : y ∈ l <;> simp [e, q]
theorem shutG_one {m : Nat} {l : List Nat} {x : Nat} {gr : Nat → Nat} : shutG m (l ++ [x]) gr = upd (shutG m l gr) x m := by
  funext y
  unfold shutG upd
  by_cases e : y = x
  · subst e; simp
  · by_cases q : y ∈ l <;> simp [e, q]
set_option maxHeartbeats 16000000 in
theorem search_any {w0 : World} {A : Addr} {n c ga gb : Nat} {E : List (Nat × Nat)} (hR : RdR w0 (.slice (some A) n c) n (reads E)) (hE : ∀ e ∈ E, e.1 < n ∧ e.2 < n) (hn : n ≤ 4096) (hEl : E.length ≤ 1099511627776) :
    ∀ (d : Nat) (w : World) (a : Nat) (sn : Nat → Option Nat) (op : List Nat) (gr : Nat → Nat) (cnt : Nat), n - cnt ≤ d → GS w0 A n c ga gb w sn op gr cnt → TI n E sn op gr cnt → a < n → sn a = none → (∀ x ∈ op, Far n E x a) →
      Calls Try.prog 18 #[.int .i64 (a : Nat), .pointer (some ⟨gb + 2, 0, none⟩), .pointer (some ⟨gb + 3, 0, none⟩), .pointer (some ⟨w0.heap.size, 0, none⟩), .pointer (some ⟨gb + 4, 0, none⟩), .pointer (some ⟨gb, 0, none⟩)] w (SP w0 A n c ga gb E a sn op cnt) := by
  intro d
  induction d with
  | zero =>
    intro w a sn op gr cnt hd hG hT ha hs hf
    have := seen_lt ha hs
    have := hT.cnt
    omega
  | succ d ih =>
    intro w a sn op gr cnt hd hG hT ha hs hf
    have hcn : cnt < n := by rw [← hT.cnt]; exact seen_lt ha hs
    have hop : op.length ≤ n := nodup_le (hT.ord.imp fun {x y} q e => by subst e; omega) fun x hx => (hT.of_op hx).1
    have IH : Hid (∀ (w : World) (a : Nat) (sn : Nat → Option Nat) (op : List Nat) (gr : Nat → Nat) (cnt : Nat), n - cnt ≤ d → GS w0 A n c ga gb w sn op gr cnt → TI n E sn op gr cnt → a < n → sn a = none → (∀ x ∈ op, Far n E x a) →
      Calls Try.prog 18 #[.int .i64 (a : Nat), .pointer (some ⟨gb + 2, 0, none⟩), .pointer (some ⟨gb + 3, 0, none⟩), .pointer (some ⟨w0.heap.size, 0, none⟩), .pointer (some ⟨gb + 4, 0, none⟩), .pointer (some ⟨gb, 0, none⟩)] w (SP w0 A n c ga gb E a sn op cnt)) := ih
    have HL0 : Hid (TL n E a sn op cnt [] (upd sn a (some cnt)) (op ++ [a]) gr (cnt + 1) cnt) := TL.begin hT ha hs hf
    have HT0 : Hid (TI n E sn op gr cnt) := hT
    have HG1 : Hid (GS w0 A n c ga gb w.drew sn op gr cnt) := hG.below (Below.refl _ _).drew
    obtain ⟨w1, M1, G2, _⟩ := HG1.out.seen a cnt (by omega)
    rw [if_pos hs] at G2
    obtain ⟨a0, j0, a1, j1, w2, w3, q1, RA, RS, G3⟩ := G2.push a (by omega)
    have HG3 : Hid (GS w0 A n c ga gb w3 (upd sn a (some cnt)) (op ++ [a]) gr (cnt + 1)) := G3
    obtain ⟨A', c', a2, d2, e', r1, r2⟩ := hR.at ha
    cases e'
    have HRow : Hid (∀ u, Below w0.heap.size w0 u → Rd u (.slice a2 (reads E a).length d2) (reads E a).length (nV (reads E a))) := fun u hu => r2.below hu
    have HEl : Hid (∀ b ∈ reads E a, St n E a b) := fun b hb => ⟨ha, (hE _ (mem_reads.1 hb)).2, mem_reads.1 hb⟩
    have HEr : Hid (∀ y, St n E a y → y ∈ reads E a) := fun y s => mem_reads.2 s.2.2
    have hml : (reads E a).length ≤ 1099511627776 := by have := reads_len (E := E) (a := a); omega
    have p3 := cell0 G2.sbx
    have p4 := cell0 G3.bx
    have p5 := cell_bel G3.bel r1
    have HSb : Hid (w.drew.heap[gb + 2]? = some (.cells #[.map (some (gb + 1))] 44)) := HG1.out.sbx
    obtain ⟨ao, jo, ob, _⟩ := HG1.out.obx
    have HOb : Hid (w.drew.heap[gb + 3]? = some (.cells #[.slice ao op.length jo] 24)) := ob
    have HMp : Hid (MapR w.drew (gb + 1) sn cnt) := HG1.out.mp
    have pS := cell0 HG1.out.sbx
    generalize hl : reads E a = l at *
    clear hG hT hs hf ih G2 G3 r1 r2 ob hR hl
    go_enter Try.func18, Try.ntmps18
    go_wp2_with fail
    refine wp_region_d (fun u => u.heap = w.drew.heap) (fun _ => false) (by kernel_rfl) ?_
    generalize w.drew = W at *
    refine wpAnyD_loadd (i := 0) (v := .map (some (gb + 1))) rfl rfl (by kernel_rfl) (by kernel_rfl) (by kernel_rfl) (by kernel_rfl) (fun _ _ _ h => h) (by go_simp) (fun u hu => exec_loadx rfl rfl (ld44 (cell0 (by rw [hu]; exact HSb.out)))) rfl ?_
    try simp only [Act.put, List.setIfInBounds_toArray, List.set_cons_zero, List.set_cons_succ]
    refine wpAnyD_loadd (i := 1) (v := .int .i64 (cnt : Nat)) rfl rfl (by kernel_rfl) (by kernel_rfl) (by kernel_rfl) (by kernel_rfl) (fun _ _ _ h => h) (by go_simp) (fun u hu => exec_len rfl rfl ((HMp.out.of_block (by rw [hu])).len _)) rfl ?_
    try simp only [Act.put, List.setIfInBounds_toArray, List.set_cons_zero, List.set_cons_succ]
    refine wpAnyD_loadd (i := 2) (v := .slice ao op.length jo) rfl rfl (by kernel_rfl) (by kernel_rfl) (by kernel_rfl) (by kernel_rfl) (fun _ _ _ h => h) (by go_simp) (fun u hu => exec_loadx rfl rfl (ld24 (cell0 (by rw [hu]; exact HOb.out)))) rfl ?_
    try simp only [Act.put, List.setIfInBounds_toArray, List.set_cons_zero, List.set_cons_succ]
    refine wpAnyD_pured (i := 3) (v := .int .i64 (op.length : Nat)) rfl rfl (by kernel_rfl) (by kernel_rfl) (by kernel_rfl) (fun _ _ _ h => h) (by go_simp) (by intro u; go_simp) ?_
    try simp only [Act.put, List.setIfInBounds_toArray, List.set_cons_zero, List.set_cons_succ]
    refine wpAnyD_pured (i := 4) (v := .int .i64 (cnt : Nat)) rfl rfl (by kernel_rfl) (by kernel_rfl) (by kernel_rfl) (fun _ _ _ h => h) (by go_simp) (by intro u; go_simp) ?_
    try simp only [Act.put, List.setIfInBounds_toArray, List.set_cons_zero, List.set_cons_succ]
    refine wpAnyD_pured (i := 5) (v := .int .i64 (op.length : Nat)) rfl rfl (by kernel_rfl) (by kernel_rfl) (by kernel_rfl) (fun _ _ _ h => h) (by go_simp) (by intro u; go_simp) ?_
    try simp only [Act.put, List.setIfInBounds_toArray, List.set_cons_zero, List.set_cons_succ]
    refine wpAnyD_done (by kernel_rfl) ?_ _
    clear HSb HOb HMp HG1
    go_wp2_with (first
      | (refine nl_mapUpdate rfl 44 _ _ _ rfl _ _ _ _ rfl rfl rfl M1.out ?_; clear M1)
      | (at_builtin; refine nl_append rfl _ _ 24 24 rfl _ _ _ _ rfl rfl RA.out ?_; clear RA)
      | (refine nl_store rfl 24 _ _ rfl _ _ _ rfl rfl RS.out ?_; clear RS))
    go_loopw [10, 35] (fun v10 v35 wr => ∃ (k e : Nat) (sn1 : Nat → Option Nat) (op1 : List Nat) (gr1 : Nat → Nat) (cnt1 : Nat), v35 = .int .i64 (k : Nat) ∧ k ≤ l.length ∧ v10 = .int .i64 (e : Nat) ∧ Hid (GS w0 A n c ga gb wr sn1 op1 gr1 cnt1) ∧ Hid (TL n E a sn op cnt (l.take k) sn1 op1 gr1 cnt1 e)) (fun _ v35 _ => l.length - (intOf v35).toNat)
    case atStart => exact ⟨0, cnt, _, _, _, _, rfl, Nat.zero_le _, rfl, HG3.out, by rw [List.take_zero]; exact HL0.out⟩
    case round =>
      clear HL0 HG3 p3 p4 p5 pS q1
      obtain ⟨k, e, sn1, op1, gr1, cnt1, rfl, hk, rfl, HG, HL⟩ := hrel
      by_cases hkl : k < l.length
      · have hki : (k : Int) < l.length := by omega
        obtain ⟨A1, c1, e1, x1⟩ := (HRow.out wr HG.out.bel).at (j := k) (by simpa using hkl)
        cases e1
        rw [List.getElem_map] at x1
        have St1 : Hid (St n E a l[k]) := HEl.out _ (List.getElem_mem hkl)
        have HTk : Hid (l.take (k + 1) = l.take k ++ [l[k]]) := take_one hkl
        generalize l[k] = b at *
        have hb : b < n := St1.out.2.1
        have y1 := cell0 HG.out.sbx
        have LK := HG.out.mp.look b (by omega)
        cases hsb : sn1 b with
        | some v =>
          rw [hsb] at LK
          simp only [Option.getD_some, Option.isSome_some] at LK
          have LK1 : Hid _ := LK
          have HL2 : Hid (TL n E a sn op cnt (l.take (k + 1)) sn1 op1 gr1 cnt1 (min e v)) := by rw [HTk.out]; exact HL.out.met St1.out hsb
          clear LK HL hsb St1 HTk HRow HEl HEr
          go_wp2_with (first
            | (refine nl_lookup rfl 44 _ _ rfl _ _ _ rfl rfl LK1.out ?_; clear LK1))
          go_roundw
          case rel => exact ⟨k + 1, min e v, _, _, _, _, by go_num, by omega, by first | rfl | (congr 1; omega) | (simp; omega), HG.out, HL2.out⟩
          case measure => simp [intOf]; omega
        | none =>
          rw [hsb] at LK
          simp only [Option.getD_none, Option.isSome_none] at LK
          have LK1 : Hid _ := LK
          have hd1 : n - cnt1 ≤ d := by have := HL.out.more; omega
          have C : Hid _ := IH.out wr b sn1 op1 gr1 cnt1 hd1 HG.out HL.out.inv hb hsb (HL.out.fa St1.out)
          have y2 := cell0 HG.out.fbx
          have HL2 : Hid (∀ sn2 op2 gr2 cnt2 r, TP n E b sn1 op1 cnt1 sn2 op2 gr2 cnt2 r → TL n E a sn op cnt (l.take (k + 1)) sn2 op2 gr2 cnt2 (min e r)) := fun sn2 op2 gr2 cnt2 r p => by rw [HTk.out]; exact HL.out.call St1.out hsb p
          clear LK HL hsb St1 HTk HRow HEl HEr IH HG
          go_wp2_with (first
            | (refine nl_lookup rfl 44 _ _ rfl _ _ _ rfl rfl LK1.out ?_; clear LK1)
            | (go_at_call 18; refine Calls.mono C.out ?_; clear C; rintro e2 u ⟨r, sn2, op2, gr2, cnt2, rfl, hg, hp⟩; have HG2 : Hid _ := hg; have HL3 : Hid _ := HL2.out _ _ _ _ _ hp; clear hg hp HL2))
          go_roundw
          case rel => exact ⟨k + 1, min e r, _, _, _, _, by go_num, by omega, by first | rfl | (congr 1; omega) | (simp; omega), HG2.out, HL3.out⟩
          case measure => simp [intOf]; omega
      · have hki : ¬ (k : Int) < l.length := by omega
        rw [List.take_of_length_le (by omega)] at HL
        clear IH HRow HEl
        by_cases he : e = cnt
        · subst he
          obtain ⟨new, en, _⟩ := HL.out.new
          have hL1 : a :: new ≠ [] := by simp
          have ho1 : op1.length ≤ n := nodup_le (HL.out.inv.ord.imp fun {x y} q e => by subst e; omega) fun x hx => (HL.out.inv.of_op hx).1
          have hx1 : Hid (∀ x ∈ a :: new, x < n ∧ sn1 x ≠ none) := fun x hx => by
            obtain ⟨q1, q2, _⟩ := HL.out.inv.of_op (x := x) (by rw [en]; exact List.mem_append_right _ hx)
            exact ⟨q1, by rw [q2]; simp⟩
          generalize a :: new = L1 at *
          subst en
          rw [List.length_append] at ho1
          obtain ⟨p, j, B, j2, m, z1, SL, m1, m2, HB, hBb, CM⟩ := HG.out.suf hL1 (by omega)
          have HP : Hid (TP n E a sn op e (shutS n L1 sn1) op (shutG m L1 gr1) cnt1 e) := HL.out.close HT0.out HEr.out rfl m1 m2
          have HS0 : Hid (GS w0 A n c ga gb wr (shutS n (L1.take 0) sn1) (op ++ L1) (shutG m (L1.take 0) gr1) cnt1) := by
            rw [List.take_zero, shutS_nil, shutG_nil]
            exact HG.out
          clear HL HG HT0 HEr m1 m2 hL1
          obtain ⟨GA, hGA⟩ : ∃ GA : Addr, Hid (GA = ⟨ga, 0, none⟩) := ⟨_, rfl⟩
          go_wp2_with (first
            | ((with_reducible show wpList _ _ _ ({ dst := _, op := Op.slice 24 _ _ _ _, type := _, pos := _, after := _, guard := none } :: _) _ _); refine nl_slice rfl 24 _ _ _ _ rfl (.slice p (op.length + L1.length) j) (some (.int .i64 (op.length : Nat))) none none _ rfl rfl rfl rfl (SL.out _) ?_)
            | (go_at_call 19; refine Calls.mono CM.out ?_; clear CM; rintro e2 u ⟨rfl, hw⟩; obtain rfl := hw.symm; clear hw))
          go_loopw [65] (fun v65 wr => ∃ i : Nat, v65 = .int .i64 (i : Nat) ∧ i ≤ L1.length ∧ Hid (GS w0 A n c ga gb wr (shutS n (L1.take i) sn1) (op ++ L1) (shutG m (L1.take i) gr1) cnt1) ∧ Hid (∀ i (hi : i < L1.length), wr.cell? (B.add i) = some (.int .i64 (L1[i] : Nat)))) (fun v65 _ => L1.length - (intOf v65).toNat)
          case atStart => exact ⟨0, rfl, Nat.zero_le _, HS0.out, HB.out⟩
          case round =>
            clear HS0 HB z1 SL
            obtain ⟨i, rfl, hi, HS, HB⟩ := hrel
            by_cases hil : i < L1.length
            · have hii : (i : Int) < L1.length := by omega
              have u1 := HB.out i hil
              have HTk : Hid (L1.take (i + 1) = L1.take i ++ [L1[i]]) := take_one hil
              have hxn := hx1.out _ (List.getElem_mem hil)
              generalize L1[i] = x at *
              have hxi : (x : Int) < n := by omega
              have HSD : Hid (GS w0 A n c ga gb wr.drew (shutS n (L1.take i) sn1) (op ++ L1) (shutG m (L1.take i) gr1) cnt1) := HS.out.below (Below.refl _ _).drew
              obtain ⟨w5, T5, G5, g5⟩ := HSD.out.told (x := x) m hxn.1
              obtain ⟨w6, T6, G6, g6⟩ := G5.seen x n (by omega)
              have hsx : shutS n (L1.take i) sn1 x ≠ none := by
                unfold shutS
                split
                · simp
                · exact hxn.2
              rw [if_neg hsx, ← shutS_one, ← shutG_one, ← HTk.out] at G6
              have HG6 : Hid _ := G6
              have ho1' := G5.o1
              have ho2' := G5.o2
              have hsz := HSD.out.sz
              have HB6 : Hid (∀ i (hi : i < L1.length), w6.cell? (B.add i) = some (.int .i64 (L1[i] : Nat))) := fun i hi => by
                have h0 : wr.drew.cell? (B.add i) = _ := HB.out i hi
                have hb0 : (B.add i).block = B.block := by unfold Addr.add; split <;> rfl
                have hlt := World.block_lt_of_cell? wr.drew _ h0
                have e5 : w5.heap[(B.add i).block]? = wr.drew.heap[(B.add i).block]? := g5.block _ hlt (by simp; omega)
                have e6 : w6.heap[(B.add i).block]? = w5.heap[(B.add i).block]? := g6.block _ (by have := g5.size; omega) (by simp; omega)
                rw [World.cell?_of_block (e6.trans e5)]
                exact h0
              have SG : Hid (wr.drew.heap[gb]? = some (.cells #[.slice (some GA) n n] 24)) := by rw [hGA.out]; exact HSD.out.gbx
              have SM : Hid (wr.drew.heap[gb + 2]? = some (.cells #[.map (some (gb + 1))] 44)) := HSD.out.sbx
              have SR : Hid (wr.drew.heap[w0.heap.size]? = some (.cells #[.slice (some A) n c] 36)) := HSD.out.bx
              rw [← hGA.out] at T5
              have S5 : Hid (w5.heap[gb]? = some (.cells #[.slice (some GA) n n] 24) ∧ w5.heap[gb + 2]? = some (.cells #[.map (some (gb + 1))] 44) ∧ w5.heap[w0.heap.size]? = some (.cells #[.slice (some A) n c] 36)) := ⟨by rw [hGA.out]; exact G5.gbx, G5.sbx, G5.bx⟩
              have S6 : Hid (w6.heap[gb]? = some (.cells #[.slice (some GA) n n] 24) ∧ w6.heap[gb + 2]? = some (.cells #[.map (some (gb + 1))] 44) ∧ w6.heap[w0.heap.size]? = some (.cells #[.slice (some A) n c] 36)) := ⟨by rw [hGA.out]; exact G6.gbx, G6.sbx, G6.bx⟩
              clear HS HB HTk hsx G5 G6 g5 g6 HSD
              go_wp2_with fail
              refine wp_region_d (fun u => u.heap[gb]? = some (.cells #[.slice (some GA) n n] 24) ∧ u.heap[gb + 2]? = some (.cells #[.map (some (gb + 1))] 44) ∧ u.heap[w0.heap.size]? = some (.cells #[.slice (some A) n c] 36)) (fun _ => false) (by kernel_rfl) ?_
              generalize wr.drew = W at *
              refine wpAnyD_loadd (i := 0) (v := .slice (some GA) n n) rfl rfl (by kernel_rfl) (by kernel_rfl) (by kernel_rfl) (by kernel_rfl) (fun _ _ _ h => h) (by go_simp) (fun u hu => exec_loadx rfl rfl (ld24 (cell0 hu.1))) ⟨SG.out, SM.out, SR.out⟩ ?_
              try simp only [Act.put, List.setIfInBounds_toArray, List.set_cons_zero, List.set_cons_succ]
              refine wpAnyD_pured (i := 1) (v := .int .i64 (x : Nat)) rfl rfl (by kernel_rfl) (by kernel_rfl) (by kernel_rfl) (fun _ _ _ h => h) (by go_simp) (by intro u; go_simp) ?_
              try simp only [Act.put, List.setIfInBounds_toArray, List.set_cons_zero, List.set_cons_succ]
              refine wpAnyD_loadd (i := 2) (v := .map (some (gb + 1))) rfl rfl (by kernel_rfl) (by kernel_rfl) (by kernel_rfl) (by kernel_rfl) (fun _ _ _ h => h) (by go_simp) (fun u hu => exec_loadx rfl rfl (ld44 (cell0 hu.2.1))) ⟨SG.out, SM.out, SR.out⟩ ?_
              try simp only [Act.put, List.setIfInBounds_toArray, List.set_cons_zero, List.set_cons_succ]
              refine wpAnyD_pured (i := 3) (v := .int .i64 (x : Nat)) rfl rfl (by kernel_rfl) (by kernel_rfl) (by kernel_rfl) (fun _ _ _ h => h) (by go_simp) (by intro u; go_simp) ?_
              try simp only [Act.put, List.setIfInBounds_toArray, List.set_cons_zero, List.set_cons_succ]
              refine wpAnyD_pured (i := 4) (v := .int .i64 (m : Nat)) rfl rfl (by kernel_rfl) (by kernel_rfl) (by kernel_rfl) (fun _ _ _ h => h) (by go_simp) (by intro u; go_simp) ?_
              try simp only [Act.put, List.setIfInBounds_toArray, List.set_cons_zero, List.set_cons_succ]
              refine wpAnyD_loadd (i := 5) (v := .slice (some A) n c) rfl rfl (by kernel_rfl) (by kernel_rfl) (by kernel_rfl) (by kernel_rfl) (fun _ _ _ h => h) (by go_simp) (fun u hu => exec_loadx rfl rfl (ld36 (cell0 hu.2.2))) ⟨SG.out, SM.out, SR.out⟩ ?_
              try simp only [Act.put, List.setIfInBounds_toArray, List.set_cons_zero, List.set_cons_succ]
              refine wpAnyD_pured (i := 6) (v := .int .i64 (n : Nat)) rfl rfl (by kernel_rfl) (by kernel_rfl) (by kernel_rfl) (fun _ _ _ h => h) (by go_simp) (by intro u; go_simp) ?_
              try simp only [Act.put, List.setIfInBounds_toArray, List.set_cons_zero, List.set_cons_succ]
              refine wpAnyD_pured (i := 7) (v := .pointer (some (GA.add x))) rfl rfl (by kernel_rfl) (by kernel_rfl) (by kernel_rfl) (fun _ _ _ h => h) (by go_simp) (by intro u; go_simp) ?_
              try simp only [Act.put, List.setIfInBounds_toArray, List.set_cons_zero, List.set_cons_succ]
              refine wpAnyD_one (i := 8) (by kernel_rfl) rfl ?_
              intro K' hK'
              rw [if_pos (by rfl)]
              refine op_store rfl rfl rfl T5.out ?_
              refine hK' _ _ (.inr fun _ => S5.out) ?_
              clear hK'
              try simp only [Act.put, List.setIfInBounds_toArray, List.set_cons_zero, List.set_cons_succ]
              refine wpAnyD_one (i := 9) (by kernel_rfl) rfl ?_
              intro K' hK'
              rw [if_pos (by rfl)]
              refine op_mapUpdate rfl rfl rfl rfl T6.out ?_
              refine hK' _ _ (.inr fun _ => S6.out) ?_
              clear hK'
              try simp only [Act.put, List.setIfInBounds_toArray, List.set_cons_zero, List.set_cons_succ]
              refine wpAnyD_done (by kernel_rfl) ?_ _
              go_wp2
              go_roundw
              case rel => exact ⟨i + 1, by go_num, by omega, HG6.out, HB6.out⟩
              case measure => simp [intOf]; omega
            · have hii : ¬ (i : Int) < L1.length := by omega
              rw [List.take_of_length_le (by omega)] at HS
              obtain ⟨p7, j7, w7, z7, hj7, S7, G7⟩ := HS.out.cut (k := op.length) (by simp)
              rw [List.take_left] at G7
              rw [List.length_append] at z7
              have HG7 : Hid _ := G7
              have SL7 : Hid (∀ u, (Instr.sliceAt 24 (.slice p7 (op.length + L1.length) j7) none (some (.int .i64 (op.length : Nat))) none).run Try.prog u = .ok (.slice p7 op.length j7) u) := fun u => sl_hi u hj7
              clear HS HB hx1 G7
              go_wp2_with (first
                | ((with_reducible show wpList _ _ _ ({ dst := _, op := Op.slice 24 _ _ _ _, type := _, pos := _, after := _, guard := none } :: _) _ _); refine nl_slice rfl 24 _ _ _ _ rfl (.slice p7 (op.length + L1.length) j7) none (some (.int .i64 (op.length : Nat))) none _ rfl rfl rfl rfl (SL7.out _) ?_)
                | (refine nl_store rfl 24 _ _ rfl _ _ _ rfl rfl S7.out ?_; clear S7))
              go_ret
              exact ⟨e, _, _, _, _, rfl, HG7.out, HP.out⟩
        · have HP : Hid (TP n E a sn op cnt sn1 op1 gr1 cnt1 e) := HL.out.keep HEr.out he
          have he' : ((e : Int) == (cnt : Int)) = false := by simpa using (show ¬ (e : Int) = cnt by omega)
          clear HL HEr HT0
          go_wp2_with fail
          go_ret
          exact ⟨e, sn1, op1, gr1, cnt1, rfl, HG.out, HP.out⟩
end Go.Proofs.Ytbbcnjagndfmbaa
