/- queue: group behind group, each when it waits for none. -/
import Derived.Test.YtbbcnjagndfmbaaXFind
namespace Go.Proofs.Ytbbcnjagndfmbaa
open Go.RowKit Go.Dp
set_option maxRecDepth 100000
set_option linter.unusedVariables false
set_option linter.unusedSimpArgs false
set_option maxHeartbeats 32000000 in
theorem queue_any {w : World} {A G : Addr} {n c gc : Nat} {E : List (Nat × Nat)} {gr : Nat → Nat} (hR : RdR w (.slice (some A) n c) n (reads E)) (hG : GrC w G n gr) (hgr : GR n E gr) (hn : n ≤ 4096) (hE : E.length ≤ 1000000) :
    Calls Try.prog 13 #[.slice (some A) n c, .slice (some G) n gc] w fun e w' => (∃ ov, e = .returned ov ∧ w'.ownsRow w.heap.size 3 1 ov n (nV (orderB n E))) ∧ Below w.heap.size w w' := by
  obtain ⟨Am, w1, RM1, hO1, hB1⟩ := ro_make w 36 24 (.slice none 0 0) 24 Try.underlying36 (by kernel_rfl) rfl n (by omega) (by omega)
  obtain ⟨Ar, w2, RM2, hO2, hB2⟩ := ro_make w1 36 24 (.slice none 0 0) 24 Try.underlying36 (by kernel_rfl) rfl n (by omega) (by omega)
  obtain ⟨Aw, w3, RM3, hO3, hB3⟩ := ro_make w2 24 3 (.int .i64 0) 8 Try.underlying24 ninf3 rfl n (by omega) (by omega)
  have HQ0 : Hid (QQ w w3 Am Ar Aw n (mbr gr 0) (rdr gr (PP E 0)) (wt gr (PP E 0)) (.slice none 0 0) [] (.slice none 0 0) []) := QQ.begin hO1 hB1 hO2 hB2 hO3 hB3
  have HR : Hid (RdR w (.slice (some A) n c) n (reads E)) := hR
  have HG : Hid (GrC w G n gr) := hG
  have Hgr : Hid (GR n E gr) := hgr
  have HPl : ∀ k, k ≤ n → (PP E k).length + E.length ≤ 4097000000 := fun k hk => by
    have := PP_le (E := E) k
    have : k * E.length ≤ 4096 * 1000000 := Nat.mul_le_mul (by omega) hE
    omega
  have HPl : Hid _ := HPl
  clear hO1 hO2 hO3 hB1 hB2 hB3 hR hG hgr
  go_enter Try.func13, Try.ntmps13
  go_wp2_with (first
    | (refine nl_make rfl 36 _ _ rfl _ _ _ _ rfl rfl RM1.out ?_; clear RM1)
    | (refine nl_make rfl 36 _ _ rfl _ _ _ _ rfl rfl RM2.out ?_; clear RM2)
    | (refine nl_make rfl 24 _ _ rfl _ _ _ _ rfl rfl RM3.out ?_; clear RM3))
  go_loopw [34] (fun v34 wr => ∃ k : Nat, v34 = .int .i64 (k : Nat) ∧ k ≤ n ∧ Hid (QQ w wr Am Ar Aw n (mbr gr k) (rdr gr (PP E k)) (wt gr (PP E k)) (.slice none 0 0) [] (.slice none 0 0) [])) (fun v34 _ => n - (intOf v34).toNat)
  case atStart => exact ⟨0, rfl, Nat.zero_le _, HQ0.out⟩
  case round =>
    clear HQ0
    obtain ⟨k, rfl, hk, HQ⟩ := hrel
    by_cases hkn : k < n
    · have hki : (k : Int) < n := by omega
      obtain ⟨A', c', a2, d2, e', r1, r2⟩ := HR.out.at hkn
      cases e'
      have HRow : Hid (∀ u, Below w.heap.size w u → Rd u (.slice a2 (reads E k).length d2) (reads E k).length (nV (reads E k))) := fun u hu => r2.below hu
      have q0 := cell_bel HQ.out.bel r1
      have q1 := HG.out.below HQ.out.bel k hkn
      have hgn := Hgr.out.lt' hkn
      have hgi : ((gr k : Nat) : Int) < n := by omega
      obtain ⟨a3, c3, a4, c4, w4, p1, RA, p3, p4, hQ2⟩ := HQ.out.pushM hgn k (by have := mbr_len (gr := gr) (k := k) (g := gr k); omega)
      rw [← mbr_upd] at hQ2
      have HQ2 : Hid _ := hQ2
      have hml : (reads E k).length ≤ 1000000 := Nat.le_trans reads_len hE
      clear r1 r2 hQ2 HQ
      generalize (mbr gr k (gr k)).length = m at *
      go_wp2_with (first
        | (at_builtin; refine nl_append rfl _ _ 24 24 rfl _ _ _ _ rfl rfl RA.out ?_; clear RA))
      clear q0 q1 p1 p3 p4
      have HQ3 : Hid (QQ w (w4.setCell (Am.add (gr k)) (.slice a4 (m + 1) c4)) Am Ar Aw n (mbr gr (k + 1)) (rdr gr (PP E k ++ ((reads E k).take 0).map fun b => (k, b))) (wt gr (PP E k ++ ((reads E k).take 0).map fun b => (k, b))) (.slice none 0 0) [] (.slice none 0 0) []) := by
        rw [List.take_zero, List.map_nil, List.append_nil]
        exact HQ2.out
      clear HQ2
      generalize w4.setCell (Am.add (gr k)) (.slice a4 (m + 1) c4) = W4 at *
      go_loopw [55] (fun v55 wr => ∃ j : Nat, v55 = .int .i64 (j : Nat) ∧ j ≤ (reads E k).length ∧ Hid (QQ w wr Am Ar Aw n (mbr gr (k + 1)) (rdr gr (PP E k ++ ((reads E k).take j).map fun b => (k, b))) (wt gr (PP E k ++ ((reads E k).take j).map fun b => (k, b))) (.slice none 0 0) [] (.slice none 0 0) [])) (fun v55 _ => (reads E k).length - (intOf v55).toNat)
      case atStart => exact ⟨0, rfl, Nat.zero_le _, HQ3.out⟩
      case round =>
        clear HQ3
        obtain ⟨j, rfl, hj, HQ⟩ := hrel
        by_cases hjl : j < (reads E k).length
        · have hji : (j : Int) < (reads E k).length := by omega
          obtain ⟨a', c', e', s1⟩ := (HRow.out wr HQ.out.bel).at (j := j) (by simpa using hjl)
          cases e'
          rw [List.getElem_map] at s1
          have hyE : (k, (reads E k)[j]) ∈ E := mem_reads.1 (List.getElem_mem hjl)
          have hyn := (Hgr.out.lt _ hyE).2
          have HT : Hid (PP E k ++ ((reads E k).take (j + 1)).map (fun b => (k, b)) = PP E k ++ ((reads E k).take j).map (fun b => (k, b)) ++ [(k, (reads E k)[j])]) := by
            show _ = _
            rw [List.take_succ_eq_append_getElem hjl, List.map_append, List.append_assoc]
            rfl
          have hPl : (PP E k ++ ((reads E k).take j).map fun b => (k, b)).length ≤ 4097000000 := by
            have := HPl.out k (by omega)
            have := reads_len (E := E) (a := k)
            rw [List.length_append, List.length_map, List.length_take]
            omega
          generalize (reads E k)[j] = y at *
          dsimp only at hyn
          have hyi : (y : Int) < n := by omega
          have s2 := HG.out.below HQ.out.bel y hyn
          generalize PP E k ++ ((reads E k).take j).map (fun b => (k, b)) = P at *
          by_cases e : gr y = gr k
          · have HQ4 : Hid (QQ w wr Am Ar Aw n (mbr gr (k + 1)) (rdr gr (PP E k ++ ((reads E k).take (j + 1)).map fun b => (k, b))) (wt gr (PP E k ++ ((reads E k).take (j + 1)).map fun b => (k, b))) (.slice none 0 0) [] (.slice none 0 0) []) := by
              rw [HT.out]
              exact HQ.out.congr rfl (funext fun h => (rdr_in (p := (k, y)) e h).1.symm) (funext fun h => (rdr_in (p := (k, y)) e h).2.symm)
            rw [e] at s2
            clear HQ HT
            go_wp2_with fail
            go_roundw
            case rel => exact ⟨j + 1, by go_num, by omega, HQ4.out⟩
            case measure => simp [intOf]; omega
          · have hgy := Hgr.out.lt' hyn
            have hgyi : ((gr y : Nat) : Int) < n := by omega
            have hne : ((gr y : Nat) : Int) ≠ (gr k : Nat) := by omega
            obtain ⟨a3, c3, a4, c4, w5, p1, RA, p3, p4, hQ2⟩ := HQ.out.pushR hgy (gr k) (by have := rdr_len (gr := gr) (P := P) (h := gr y); omega)
            have hw := hQ2.wait hgn
            obtain ⟨p5, p6⟩ := hw
            obtain ⟨hQ5, _⟩ := hQ2.setW hgn (wt gr P (gr k) + 1)
            rw [← rdr_upd (p := (k, y)) e, ← wt_upd (p := (k, y)) e, ← HT.out] at hQ5
            have hwl : wt gr P (gr k) ≤ 4097000000 := Nat.le_trans wt_len hPl
            have hcast : (((wt gr P (gr k) + 1 : Nat)) : Int) = ((wt gr P (gr k) : Nat) : Int) + 1 := by omega
            rw [hcast] at hQ5
            have HQ5 : Hid _ := hQ5
            clear HQ HT hQ2 hQ5 hcast
            generalize wt gr P (gr k) = z at *
            generalize (rdr gr P (gr y)).length = m at *
            go_wp2_with (first
              | (at_builtin; refine nl_append rfl _ _ 24 24 rfl _ _ _ _ rfl rfl RA.out ?_; clear RA))
            go_roundw
            case rel => exact ⟨j + 1, by go_num, by omega, HQ5.out⟩
            case measure => simp [intOf]; omega
        · have hji : ¬ (j : Int) < (reads E k).length := by omega
          have HQ6 : Hid (QQ w wr Am Ar Aw n (mbr gr (k + 1)) (rdr gr (PP E (k + 1))) (wt gr (PP E (k + 1))) (.slice none 0 0) [] (.slice none 0 0) []) := by
            have := HQ.out
            rw [List.take_of_length_le (by omega), ← PP_succ] at this
            exact this
          clear HQ
          go_wp2_with fail
          go_roundw
          case rel => exact ⟨k + 1, by go_num, by omega, HQ6.out⟩
          case measure => simp [intOf]; omega
    · have hki : ¬ (k : Int) < n := by omega
      obtain rfl : k = n := by omega
      clear HR
      have HQ1 : Hid (QQ w wr Am Ar Aw k (mbr gr k) (rdr gr (PP E k)) (wt gr (PP E k)) (.slice none 0 0) (rdy k E gr 0) (.slice none 0 0) []) := HQ.out
      clear HQ hki hk
      go_wp2_with fail
      go_loopw [14, 86] (fun v14 v86 wr => ∃ (i : Nat) (a : Option Addr) (c : Nat), v14 = .slice a (rdy k E gr i).length c ∧ v86 = .int .i64 (i : Nat) ∧ i ≤ k ∧ Hid (QQ w wr Am Ar Aw k (mbr gr k) (rdr gr (PP E k)) (wt gr (PP E k)) (.slice a (rdy k E gr i).length c) (rdy k E gr i) (.slice none 0 0) [])) (fun _ v86 _ => k - (intOf v86).toNat)
      case atStart => exact ⟨0, none, 0, rfl, rfl, Nat.zero_le _, HQ1.out⟩
      case round =>
        clear HQ1
        obtain ⟨i, a8, c8, rfl, rfl, hi, HQ⟩ := hrel
        by_cases hik : i < k
        · have hii : (i : Int) < k := by omega
          have q1 := HG.out.below HQ.out.bel i hik
          by_cases e : gr i = i
          · rw [e] at q1
            obtain ⟨p5, p6⟩ := HQ.out.wait hik
            have hwl : wt gr (PP E k) i ≤ 4097000000 := by
              have := HPl.out k (Nat.le_refl _)
              have := wt_len (gr := gr) (P := PP E k) (h := i)
              omega
            by_cases z : wt gr (PP E k) i = 0
            · have hr := rdyq_yes e z
              have hrl := rdyq_len (n := k) (E := E) (gr := gr) (k := i)
              rw [z] at p5
              obtain ⟨a3, c3, a4, c4, w5, e8, RA, hQ2⟩ := HQ.out.pushQ i (by omega)
              cases e8
              rw [← hr] at hQ2
              have hlr : (rdy k E gr (i + 1)).length = (rdy k E gr i).length + 1 := by rw [hr]; simp
              rw [← hlr] at hQ2 RA
              have HQ2 : Hid _ := hQ2
              clear HQ hQ2 hwl z hr hlr
              go_wp2_with (first
                | (at_builtin; refine nl_append rfl _ _ 24 24 rfl _ _ _ _ rfl rfl RA.out ?_; clear RA))
              go_roundw
              case rel => exact ⟨i + 1, _, _, by first | rfl | rw [HN.out], by go_num, by omega, HQ2.out⟩
              case measure => simp [intOf]; omega
            · have HN : Hid (rdy k E gr (i + 1) = rdy k E gr i) := rdyq_no fun q => z q.2
              have z0 : ((wt gr (PP E k) i : Nat) : Int) ≠ 0 := by omega
              have z1 : (((wt gr (PP E k) i : Nat) : Int) == 0) = false := by simpa using z0
              have HQ2 : Hid (QQ w wr Am Ar Aw k (mbr gr k) (rdr gr (PP E k)) (wt gr (PP E k)) (.slice a8 (rdy k E gr (i + 1)).length c8) (rdy k E gr (i + 1)) (.slice none 0 0) []) := by
                rw [rdyq_no fun q => z q.2]
                exact HQ.out
              clear HQ
              generalize wt gr (PP E k) i = x at *
              go_wp2_with fail
              go_roundw
              case rel => exact ⟨i + 1, _, _, by first | rfl | rw [HN.out], by go_num, by omega, HQ2.out⟩
              case measure => simp [intOf]; omega
          · have HN : Hid (rdy k E gr (i + 1) = rdy k E gr i) := rdyq_no fun q => e q.1
            have e1 : ((i : Int) == ((gr i : Nat) : Int)) = false := by simpa using (show ¬ (i : Int) = (gr i : Nat) by omega)
            have HQ2 : Hid (QQ w wr Am Ar Aw k (mbr gr k) (rdr gr (PP E k)) (wt gr (PP E k)) (.slice a8 (rdy k E gr (i + 1)).length c8) (rdy k E gr (i + 1)) (.slice none 0 0) []) := by
              rw [rdyq_no fun q => e q.1]
              exact HQ.out
            clear HQ
            go_wp2_with fail
            go_roundw
            case rel => exact ⟨i + 1, _, _, by first | rfl | rw [HN.out], by go_num, by omega, HQ2.out⟩
            case measure => simp [intOf]; omega
        · have hii : ¬ (i : Int) < k := by omega
          obtain rfl : i = k := by omega
          have HQ1 : Hid (QQ w wr Am Ar Aw i (mbr gr i) (rdr gr (PP E i)) (wo gr (PP E i) (ordB i E 0)) (.slice a8 (rdy i E gr i).length c8) (rdy i E gr i) (.slice none 0 0) (ordB i E 0)) := HQ.out.congr rfl rfl (funext fun _ => wo_nil.symm)
          have HL1 : Hid (Rl i gr (ordB i E 0) (wo gr (PP E i) (ordB i E 0)) (rdy i E gr i)) := by
            have : wo gr (PP E i) (ordB i E 0) = wt gr (PP E i) := funext fun _ => wo_nil
            rw [this]
            exact Rl.begin
          clear HQ
          go_wp2_with fail
          go_loopw [14, 15] (fun v14 v15 wr => ∃ (m : Nat) (rl : List Nat) (a1 : Option Addr) (c1 : Nat) (a2 : Option Addr) (c2 : Nat), v14 = .slice a1 rl.length c1 ∧ v15 = .slice a2 (ordB i E m).length c2 ∧ Hid (QQ w wr Am Ar Aw i (mbr gr i) (rdr gr (PP E i)) (wo gr (PP E i) (ordB i E m)) (.slice a1 rl.length c1) rl (.slice a2 (ordB i E m).length c2) (ordB i E m)) ∧ Hid (Rl i gr (ordB i E m) (wo gr (PP E i) (ordB i E m)) rl)) (fun _ v15 _ => i - lenV v15)
          case atStart => exact ⟨0, rdy i E gr i, _, _, none, 0, rfl, rfl, HQ1.out, HL1.out⟩
          case round =>
            clear HQ1 HL1
            obtain ⟨m, rl, a1, c1, a2, c2, rfl, rfl, HQ, HL⟩ := hrel
            have HCo : Hid (Come i E (ordB i E m)) := (come_ord m).1
            cases rl with
            | nil =>
              have HF : Hid (wr.ownsRow w.heap.size 3 1 (.slice a2 (ordB i E m).length c2) i (nV (orderB i E)) ∧ Below w.heap.size w wr) := by
                refine ⟨?_, HQ.out.bel⟩
                have e := Hgr.out.all HL.out
                obtain ⟨b, vm, vr, q⟩ := HQ.out
                have := q.od
                rw [e, order_length] at this ⊢
                exact this
              clear HQ HL HCo
              simp only [List.length_nil] at *
              go_wp2_with fail
              go_ret
              exact ⟨⟨_, rfl, HF.out.1⟩, HF.out.2⟩
            | cons g rest =>
              obtain ⟨hg1, hg2, hg3, hg4⟩ := (HL.out.mem g).1 (List.mem_cons_self ..)
              have hgi : (g : Int) < i := by omega
              have hol : (ordB i E m).length + 1 ≤ i := nodup_le (l := g :: ordB i E m) (List.nodup_cons.2 ⟨hg3, HCo.out.one⟩) (fun x hx => by
                rcases List.mem_cons.1 hx with rfl | hx
                · exact hg1
                · exact HCo.out.lt x hx)
              have hml := mbr_len (gr := gr) (k := i) (g := g)
              have hm1 : 1 ≤ (mbr gr i g).length := List.length_pos_iff.2 (List.ne_nil_of_mem (a := g) (by unfold mbr; simp [hg1, hg2]))
              have hnx := Hgr.out.next HL.out
              have hlen : (ordB i E (m + 1)).length = (ordB i E m).length + (mbr gr i g).length := by rw [hnx, List.length_append]
              obtain ⟨hT1, hT2⟩ := Rl.take Hgr.out HL.out
              have hrl := hT1.len
              obtain ⟨A3, c3, A4, e3, pc, TS, hQ2⟩ := HQ.out.tail
              cases e3
              obtain ⟨a5, c5, d5, e5, a6, c6, w6, e6, p1, RC, hQ3⟩ := hQ2.come hg1 (by omega)
              cases e6
              obtain ⟨ar, cr, p2, _⟩ := hQ3.rdrs hg1
              rw [← hlen] at RC hQ3
              have HQ5 : Hid (QQ w w6 Am Ar Aw i (mbr gr i) (rdr gr (PP E i)) (wj gr (PP E i) (ordB i E (m + 1)) (rdr gr (PP E i) g) 0) (.slice (some A4) rest.length (c1 - 1)) rest (.slice a6 (ordB i E (m + 1)).length c6) (ordB i E (m + 1))) := by
                have := hQ3.congr rfl rfl (funext fun h => (hT2 h).symm)
                rw [← hnx] at this
                exact this
              have HL5 : Hid (Rl i gr (ordB i E (m + 1)) (wj gr (PP E i) (ordB i E (m + 1)) (rdr gr (PP E i) g) 0) rest) := hT1
              have HC5 : Hid (w6.cell? (Ar.add g) = some (.slice ar (rdr gr (PP E i) g).length cr)) := p2
              have HGm : Hid (g ∈ ordB i E (m + 1) ∧ g ∉ ordB i E m ∧ ordB i E (m + 1) = ordB i E m ++ mbr gr i g) := ⟨by rw [hnx]; exact List.mem_append_right _ (by unfold mbr; simp [hg1, hg2]), hg3, hnx⟩
              have HMe : Hid ((ordB i E m).length + 1 ≤ i ∧ (ordB i E m).length + 1 ≤ (ordB i E (m + 1)).length) := ⟨hol, by omega⟩
              have hPl : (PP E i).length ≤ 4097000000 := by
                have := HPl.out i (Nat.le_refl _)
                omega
              have hLl : (rdr gr (PP E i) g).length ≤ 4097000000 := Nat.le_trans rdr_len hPl
              clear HQ HL hT1 hT2 hQ2 hQ3 hnx hg2 hg3 hg4 hol hml hm1 hlen HCo
              simp only [List.length_cons] at *
              go_wp2_with (first
                | ((with_reducible show wpList _ _ _ ({ dst := _, op := Op.slice 24 _ _ _ _, type := _, pos := _, after := _, guard := none } :: _) _ _); refine nl_slice rfl 24 _ _ _ _ rfl (.slice (some A3) (rest.length + 1) c1) (some (.int .i64 1)) none none _ rfl rfl rfl rfl (TS.out _) ?_; clear TS)
                | (at_builtin; refine nl_append rfl _ _ 24 24 rfl _ _ _ _ rfl rfl RC.out ?_; clear RC))
              clear pc p1 p2
              go_loopw [14, 125] (fun v14 v125 wr => ∃ (j : Nat) (rl : List Nat) (a1 : Option Addr) (c1 : Nat), v14 = .slice a1 rl.length c1 ∧ v125 = .int .i64 (j : Nat) ∧ j ≤ (rdr gr (PP E i) g).length ∧ Hid (QQ w wr Am Ar Aw i (mbr gr i) (rdr gr (PP E i)) (wj gr (PP E i) (ordB i E (m + 1)) (rdr gr (PP E i) g) j) (.slice a1 rl.length c1) rl (.slice a6 (ordB i E (m + 1)).length c6) (ordB i E (m + 1))) ∧ Hid (Rl i gr (ordB i E (m + 1)) (wj gr (PP E i) (ordB i E (m + 1)) (rdr gr (PP E i) g) j) rl) ∧ Hid (wr.cell? (Ar.add g) = some (.slice ar (rdr gr (PP E i) g).length cr))) (fun _ v125 _ => (rdr gr (PP E i) g).length - (intOf v125).toNat)
              case atStart => exact ⟨0, rest, _, _, rfl, rfl, Nat.zero_le _, HQ5.out, HL5.out, HC5.out⟩
              case round =>
                clear HQ5 HL5 HC5
                obtain ⟨j, rl, a1, c1, rfl, rfl, hj, HQ, HL, HC⟩ := hrel
                have hrn := HL.out.len
                by_cases hjl : j < (rdr gr (PP E i) g).length
                · have hji : (j : Int) < (rdr gr (PP E i) g).length := by omega
                  obtain ⟨A9, c9, e9, s1⟩ := (HQ.out.rdrsAt hg1 HC.out).at (j := j) (by simpa using hjl)
                  cases e9
                  rw [List.getElem_map] at s1
                  have hxn : (rdr gr (PP E i) g)[j] < i := by
                    obtain ⟨p, hp, _, _, e⟩ := rdr_mem Hgr.out (List.getElem_mem hjl)
                    rw [e]
                    exact Hgr.out.lt' (Hgr.out.lt p hp).1
                  have HSt : Hid (wj gr (PP E i) (ordB i E (m + 1)) (rdr gr (PP E i) g) (j + 1) (rdr gr (PP E i) g)[j] ≠ 0 → Rl i gr (ordB i E (m + 1)) (wj gr (PP E i) (ordB i E (m + 1)) (rdr gr (PP E i) g) (j + 1)) rl) := HL.out.stay Hgr.out hjl
                  have HPu : Hid (wj gr (PP E i) (ordB i E (m + 1)) (rdr gr (PP E i) g) (j + 1) (rdr gr (PP E i) g)[j] = 0 → Rl i gr (ordB i E (m + 1)) (wj gr (PP E i) (ordB i E (m + 1)) (rdr gr (PP E i) g) (j + 1)) (rl.take (rl.countP fun y => decide (y < (rdr gr (PP E i) g)[j])) ++ (rdr gr (PP E i) g)[j] :: rl.drop (rl.countP fun y => decide (y < (rdr gr (PP E i) g)[j])))) := fun h0 => by
                    obtain ⟨l1, l2⟩ := count_low HL.out.rise (rdr gr (PP E i) g)[j]
                    exact HL.out.put Hgr.out HGm.out.1 HGm.out.2.1 HGm.out.2.2 hjl h0 List.countP_le_length l1 l2
                  have hws := wj_succ (gr := gr) (P := PP E i) (out := ordB i E (m + 1)) hjl (rdr gr (PP E i) g)[j]
                  rw [if_pos rfl] at hws
                  have hup := wj_upd (gr := gr) (P := PP E i) (out := ordB i E (m + 1)) hjl
                  have hyl := wj_len (gr := gr) (P := PP E i) (out := ordB i E (m + 1)) (L := rdr gr (PP E i) g) (j := j + 1) (h := (rdr gr (PP E i) g)[j])
                  generalize (rdr gr (PP E i) g)[j] = x at *
                  obtain ⟨p5, p6⟩ := HQ.out.wait hxn
                  rw [hws] at p5
                  generalize wj gr (PP E i) (ordB i E (m + 1)) (rdr gr (PP E i) g) (j + 1) x = y at *
                  have hcast : (((y + 1 : Nat)) : Int) = (y : Int) + 1 := by omega
                  rw [hcast] at p5
                  obtain ⟨hQ2, p7⟩ := HQ.out.setW hxn y
                  rw [hup] at hQ2
                  have HC2 : Hid ((wr.setCell (Aw.add x) (.int .i64 (y : Nat))).cell? (Ar.add g) = some (.slice (some A9) (rdr gr (PP E i) g).length cr)) := (HQ.out.setWR _ _).trans HC.out
                  have HQ2 : Hid _ := hQ2
                  have hxi : (x : Int) < i := by omega
                  have hyl2 : y ≤ 8194000000 := by omega
                  have HLr : Hid (rl.Pairwise (· < ·)) := HL.out.rise
                  clear HQ hQ2 hws hup hyl hcast HC HL
                  by_cases hy : y = 0
                  · have hz : (((y : Nat) : Int) == 0) = true := by simp [hy]
                    have HL2 : Hid _ := HPu.out hy
                    have HF : Hid _ := QQ.find HQ2.out HLr.out x (by omega)
                    have HIn : Hid (∀ q u, u = (wr.setCell (Aw.add x) (.int .i64 (y : Nat))).drewN q → Calls Try.prog 21 #[.slice a1 rl.length c1, .int .i64 ((rl.countP fun y => decide (y < x) : Nat) : Nat), .slice (some ⟨u.heap.size, 0, none⟩) 1 1] (u.alloc (.cells #[.int .i64 (x : Nat)] 3)) fun e w' => ∃ v, e = .returned v ∧ QQ w w' Am Ar Aw i (mbr gr i) (rdr gr (PP E i)) (wj gr (PP E i) (ordB i E (m + 1)) (rdr gr (PP E i) g) (j + 1)) v (rl.take (rl.countP fun y => decide (y < x)) ++ x :: rl.drop (rl.countP fun y => decide (y < x))) (.slice a6 (ordB i E (m + 1)).length c6) (ordB i E (m + 1)) ∧ w'.cell? (Ar.add g) = some (.slice (some A9) (rdr gr (PP E i) g).length cr)) := by
                      rintro q u rfl
                      have h6 := QQ.below (w' := (wr.setCell (Aw.add x) (.int .i64 (y : Nat))).drewN q) HQ2.out ⟨rfl, rfl, rfl, Nat.le_refl _, fun _ _ => rfl⟩
                      refine Calls.mono (QQ.ins h6 x List.countP_le_length (by omega)) ?_
                      rintro e w' ⟨v, rfl, hq, hc⟩
                      exact ⟨v, rfl, hq, (hc g).trans HC2.out⟩
                    clear HSt HPu HQ2 HC2 hy
                    generalize (rl.countP fun y => decide (y < x)) = t at *
                    go_wp2_with (first
                      | (go_at_call 20; refine Calls.mono HF.out ?_; clear HF; rintro e5 u ⟨f, q, rfl, hu⟩; have C2 : Hid _ := HIn.out q u hu; clear hu HIn)
                      | (go_at_call 21; refine Calls.mono C2.out ?_; clear C2; rintro e6 u2 ⟨v, rfl, hq, hc⟩; obtain ⟨⟨a7, c7, rfl⟩, _⟩ := QQ.forms hq; have HQ9 : Hid _ := hq; have HC9 : Hid _ := hc; clear hq hc))
                    go_roundw
                    case rel => exact ⟨j + 1, _, _, _, by first | rfl | simp, by go_num, by omega, HQ9.out, HL2.out, HC9.out⟩
                    case measure => simp [intOf]; omega
                  · have hz : (((y : Nat) : Int) == 0) = false := by simp [hy]
                    have HL2 : Hid _ := HSt.out hy
                    clear HSt HPu hy
                    go_wp2_with fail
                    go_roundw
                    case rel => exact ⟨j + 1, rl, _, _, rfl, by go_num, by omega, HQ2.out, HL2.out, HC2.out⟩
                    case measure => simp [intOf]; omega
                · have hji : ¬ (j : Int) < (rdr gr (PP E i) g).length := by omega
                  obtain rfl : j = (rdr gr (PP E i) g).length := by omega
                  have HE1 : Hid (wj gr (PP E i) (ordB i E (m + 1)) (rdr gr (PP E i) g) (rdr gr (PP E i) g).length = wo gr (PP E i) (ordB i E (m + 1))) := funext fun _ => wj_end
                  rw [HE1.out] at HQ HL
                  clear HC
                  go_wp2_with fail
                  go_roundw
                  case rel => exact ⟨m + 1, rl, _, _, _, _, rfl, rfl, HQ.out, HL.out⟩
                  case measure => have := HMe.out; simp [lenV]; omega
end Go.Proofs.Ytbbcnjagndfmbaa
