/- The walk of FilesApart. -/
import Derived.Test.YtjncibejdplamaaActMem
import Derived.Test.YtjncibejdplamaaLives
import Derived.Test.YtjncibejdplamaaSame
namespace Go.Proofs.Ytjncibejdplamaa
open Go.RowKit Go.Maps
set_option maxRecDepth 100000
set_option linter.unusedVariables false
set_option linter.unusedSimpArgs false

theorem bts_src {w : World} {v : Value} {l : List UInt8} (h : Byt.Bts w v l) : SrcB w w.heap.size v l := by
  rcases h with h | ⟨a, c, h1, h2, h3, h4⟩
  · exact .inl h
  · refine .inr ⟨a, c, h1, fun hl e => ?_, h4⟩
    obtain ⟨x, r, rfl⟩ := List.exists_cons_of_ne_nil hl
    have := World.block_lt_of_cell? w _ (h4 0 _ rfl)
    rw [Byt.addr_block] at this
    omega
section
variable {K : Nat → Prop} {base : Nat} {w : World} {b bm : Nat} {dat : List UInt8} {n : Int}
theorem ops_ap {nm0 : List UInt8} (h : AP K base b bm nm0 dat n w) : Calls Try.prog 28 #[ptrOf b] w fun e w' => e = .returned (.int .i64 n) ∧ w' = w := by
  obtain ⟨s, D, F, f, hS, ho, hl, hops, hf, hd⟩ := h
  rw [← hops]
  exact ops_any hS
theorem read_ap {nm : ByteArray} (h : AP K base b bm nm.data.toList dat n w) (hbase : base ≤ w.heap.size) (hn : nm.size ≤ maxLen) (hg : goodB nm = true) :
    Calls Try.prog 21 #[ptrOf b, .string nm] w fun e w' => ∃ v, e = .returned (.tuple #[v, .int .i64 0]) ∧ Byt.Bts w' v dat ∧ Below base w w' := by
  obtain ⟨s, D, F, f, hS, ho, hl, hops, hf, rfl⟩ := h
  refine (read_ok hS hbase ho nm hn hg hf).mono ?_
  rintro e w' ⟨v, rfl, h1, h2, h3, h4⟩
  exact ⟨v, rfl, Byt.Own.bts (base := base) h1, h3.below⟩
end

theorem ne_list {a b : ByteArray} (h : a ≠ b) : a.data.toList ≠ b.data.toList := fun e => h (by
  cases a with | mk d => cases b with | mk d2 => exact congrArg ByteArray.mk (Array.toList_inj.1 e))
/-- What the loop keeps. -/
def Lp (base b bm : Nat) (nm0 dat : List UInt8) (w0 : World) (k : Nat) (w : World) : Prop := ∃ n : Int, 0 ≤ n ∧ n ≤ k ∧ AP K0 base b bm nm0 dat n w ∧ Below base w0 w

set_option maxHeartbeats 8000000 in
theorem apart_small {w : World} {a0 : Option Addr} {c0 : Nat} {L : List ActT} (hA : ActsIn w.heap.size w (.slice a0 L.length c0) L) (nm : ByteArray) (hs : nm.size ≤ maxLen) (hg : goodB nm = true) (hL : L.length ≤ 1000)
    {da : Option Addr} {dc : Nat} {dat : List UInt8} (hd : DB w.heap.size w (.slice da dat.length dc) dat) (h2 : dat.length ≤ 1000) :
    Calls Try.prog 8 #[.slice a0 L.length c0, .string nm, .slice da dat.length dc] w fun e w' => e = .returned (.bool true) ∧ Below w.heap.size w w' := by
  have N := new_any (K := K0) w (fun _ h => h.elim)
  have G : Hid (∀ w, Calls Try.prog 13 #[.string nm] w fun e w' => e = .returned (.bool true) ∧ w' = w) := fun w => by have := good_any nm w hs; rw [hg] at this; exact this
  have HA : Hid (ActsIn w.heap.size w (.slice a0 L.length c0) L) := hA
  have HD : Hid (DB w.heap.size w (.slice da dat.length dc) dat) := hd
  have HG : Hid (nm.size ≤ maxLen ∧ goodB nm = true) := ⟨hs, hg⟩
  clear hA hd hs hg
  generalize hbase : w.heap.size = base at N HA HD ⊢
  go_enter Try.func8, Try.ntmps8
  go_wp2_with fail
  refine N.mono ?_
  rintro e w1 ⟨b, bm, rfl, s1, b1⟩
  have PL := place_ok s1 (by have := b1.size; omega) nm HG.out.1 HG.out.2 (.inr (by decide)) dat (.slice da dat.length dc) ((HD.out.below b1.below).src s1.hb.1) (by omega)
  have B1 : Hid (Below base w w1) := b1.below
  clear s1 b1 N
  go_wp2_with fail
  refine (G.out _).mono ?_
  rintro e w' ⟨rfl, hw⟩
  obtain rfl := hw.symm
  clear hw
  go_wp2_with fail
  refine PL.mono ?_
  rintro e w3 ⟨rfl, ⟨f, hf, -, s3⟩, b3⟩
  have HP : Hid (Lp base b bm nm.data.toList dat w 0 w3) := ⟨0, by omega, by omega, ⟨_, _, _, f, s3, rfl, rfl, rfl, upd_same _ _ _, hf⟩, B1.out.trans b3.below⟩
  clear s3 b3 hf PL G B1
  go_wp2_with fail
  go_loopw [44] (fun u44 wr => ∃ k : Nat, u44 = .int .i64 k ∧ k ≤ L.length ∧ Hid (Lp base b bm nm.data.toList dat w k wr)) (fun u44 _ => L.length - (intOf u44).toNat)
  case atStart => exact ⟨0, rfl, by omega, HP⟩
  case round =>
    obtain ⟨k, rfl, hk, HL⟩ := hrel
    clear HP
    by_cases hlt : k < L.length
    · obtain ⟨n, hn0, hn1, aP, bP⟩ := HL.out
      obtain ⟨a', rfl, R1, R2, R3, HO⟩ := HA.out.runs bP hlt
      generalize L[k] = t at R1 R2 R3 HO
      obtain ⟨kk, nA, nB, n1, m1, da1, dn1, dc1, l1⟩ := t
      simp only [actC] at R1 R2 R3
      have HP : Hid (AP K0 base b bm nm.data.toList dat n wr ∧ Below base w wr ∧ base ≤ wr.heap.size) := ⟨aP, bP, by have := bP.size; omega⟩
      clear HL aP bP HA
      have HW : Hid (∀ o, Lp base b bm nm.data.toList dat w (k + 1) (wr.alloc o)) := fun o => ⟨n, hn0, by omega, HP.out.1.reK (fun i hi => Below.heap_alloc _ _ i hi) (fun _ h => h.elim), HP.out.2.1.alloc HP.out.2.2 _⟩
      by_cases h6 : kk < 6
      · by_cases hA : nA.toList = nm.toList
        · skip
          go_wp2_with (first
            | (refine wpList_load_run rfl 31 _ rfl _ _ rfl R1.out ?_)
            | (refine wpList_store_run rfl 31 _ _ rfl _ _ _ rfl rfl R2.out ?_))
          clear R1 R2 R3
          go_roundw
          case rel => exact ⟨k + 1, by go_num, by omega, HW.out _⟩
          case measure => simp [intOf]; omega
        by_cases hB : nB.toList = nm.toList
        · skip
          go_wp2_with (first
            | (refine wpList_load_run rfl 31 _ rfl _ _ rfl R1.out ?_)
            | (refine wpList_store_run rfl 31 _ _ rfl _ _ _ rfl rfl R2.out ?_))
          clear R1 R2 R3
          go_roundw
          case rel => exact ⟨k + 1, by go_num, by omega, HW.out _⟩
          case measure => simp [intOf]; omega
        have O1 := ops_ap (HP.out.1.reK (w' := wr.alloc (.cells #[.int .i64 kk, .string nA, .string nB, .int .i64 n1, .int .i64 m1, .slice da1 dn1 dc1] 31)) (K' := K0) (fun i hi => Below.heap_alloc _ _ i hi) (fun _ h => h.elim))
        have C2 : Calls Try.prog 10 #[ptrOf b, ptrOf (wr.heap.size + 1), .agg #[.int .i64 kk, .string nA, .string nB, .int .i64 n1, .int .i64 m1, .slice da1 dn1 dc1]] ((wr.alloc (.cells #[.int .i64 kk, .string nA, .string nB, .int .i64 n1, .int .i64 m1, .slice da1 dn1 dc1] 31)).alloc (.cells #[.slice none 0 0, .bool false, .int .i64 0, .int .i64 0, .int .i64 0, .int .i64 0] 28)) (Ad base b bm nm.data.toList dat n ((wr.alloc (.cells #[.int .i64 kk, .string nA, .string nB, .int .i64 n1, .int .i64 m1, .slice da1 dn1 dc1] 31)).alloc (.cells #[.slice none 0 0, .bool false, .int .i64 0, .int .i64 0, .int .i64 0, .int .i64 0] 28))) := by
          have hsz : (wr.alloc (.cells #[.int .i64 kk, .string nA, .string nB, .int .i64 n1, .int .i64 m1, .slice da1 dn1 dc1] 31)).heap.size = wr.heap.size + 1 := by simp
          refine act_any (rb := wr.heap.size + 1) (HP.out.1.reK (fun i hi => (Below.heap_alloc _ _ i (by omega)).trans (Below.heap_alloc _ _ i hi)) ?_) ?_ (by have := HP.out.2.2; omega) (by have := HP.out.2.2; simp; omega) hn0 (by omega) kk h6 nA nB (ne_list fun e => hA (e ▸ rfl)) (ne_list fun e => hB (e ▸ rfl)) HO.out.2.1 HO.out.2.2.1 n1 m1 da1 dn1 dc1 (HO.out.1.below (((Below.refl base wr).alloc HP.out.2.2 _).alloc (by have := HP.out.2.2; simp; omega) _)) HO.out.2.2.2
          · rintro i rfl
            exact ⟨by simp, .inr (by omega)⟩
          · rw [← hsz]
            exact heap_alloc_new _ _
        have HB : Hid (Below base w ((wr.alloc (.cells #[.int .i64 kk, .string nA, .string nB, .int .i64 n1, .int .i64 m1, .slice da1 dn1 dc1] 31)).alloc (.cells #[.slice none 0 0, .bool false, .int .i64 0, .int .i64 0, .int .i64 0, .int .i64 0] 28))) := (HP.out.2.1.alloc HP.out.2.2 _).alloc (by have := HP.out.2.2; simp; omega) _
        have fA : (nA.toList == nm.toList) = false := by simpa using hA
        have fB : (nB.toList == nm.toList) = false := by simpa using hB
        clear HP HW HO
        go_wp2_with (first
          | (refine wpList_load_run rfl 31 _ rfl _ _ rfl R1.out ?_)
          | (refine wpList_store_run rfl 31 _ _ rfl _ _ _ rfl rfl R2.out ?_))
        refine O1.mono ?_
        rintro e w' ⟨rfl, rfl⟩
        clear O1 R1 R2
        go_wp2_with (refine wpList_load_run rfl 31 _ rfl _ _ rfl (R3.out _) ?_)
        refine C2.mono ?_
        rintro e w5 ⟨⟨tt, rfl⟩, a5, b5⟩
        obtain ⟨n', q1, q2, aP5⟩ : ∃ n', n ≤ n' ∧ n' ≤ n + 1 ∧ AP K0 base b bm nm.data.toList dat n' w5 := by
          rcases a5 with h | h
          · exact ⟨n, by omega, by omega, h⟩
          · exact ⟨n + 1, by omega, by omega, h⟩
        have H5 : Hid (Lp base b bm nm.data.toList dat w (k + 1) w5) := ⟨n', by omega, by omega, aP5, HB.out.trans b5⟩
        have O5 := ops_ap aP5
        have q3 : ¬ n' < n := by omega
        have q4 : ¬ n + 1 < n' := by omega
        have q5 : IntKind.i64.wrap (n + 1) = n + 1 := by rw [IntKind.wrap_i64]; omega
        clear C2 a5 b5 aP5 HB R3
        go_wp2_with (go_at_call 28; refine O5.mono ?_; rintro e w' ⟨rfl, hw⟩; obtain rfl := hw.symm; clear hw)
        clear O5
        go_roundw
        case rel => exact ⟨k + 1, by go_num, by omega, H5⟩
        case measure => simp [intOf]; omega
      · go_wp2_with (first
          | (refine wpList_load_run rfl 31 _ rfl _ _ rfl R1.out ?_)
          | (refine wpList_store_run rfl 31 _ _ rfl _ _ _ rfl rfl R2.out ?_))
        clear R1 R2 R3
        go_roundw
        case rel => exact ⟨k + 1, by go_num, by omega, HW.out _⟩
        case measure => simp [intOf]; omega
    · obtain ⟨n, hn0, hn1, aP, bP⟩ := HL.out
      have RD := read_ap aP (by have := bP.size; omega) HG.out.1 HG.out.2
      have BP : Hid (Below base w wr) := bP
      clear HL aP bP HA
      go_wp2_with fail
      refine RD.mono ?_
      rintro e w4 ⟨v, rfl, t4, b4⟩
      have SM := same_yes (bts_src t4) (bts_src ((HD.out.below (BP.out.trans b4)).bts))
      have LV := lives_any w4
      have B4 : Hid (Below base w w4) := BP.out.trans b4
      clear t4 b4 RD BP
      go_wp2_with (first
        | (go_at_call 22; refine SM.mono ?_; rintro e w' ⟨rfl, hw⟩; obtain rfl := hw.symm; clear hw)
        | (go_at_call 12; refine LV.mono ?_; rintro e w6 ⟨rfl, b6⟩))
      go_ret
      exact ⟨rfl, B4.out.trans (b6.mono (by have := B4.out.size; omega))⟩
end Go.Proofs.Ytjncibejdplamaa
