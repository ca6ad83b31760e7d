/- RPar3. -/
import Derived.Test.YtlndkjcincflpaaGreatDoorRPar3aX
import Derived.Test.YtlndkjcincflpaaGreatDoorRPar4X
set_option linter.unusedVariables false
set_option linter.unusedSimpArgs false
namespace Go.Proofs.YtlndkjcincflpaaGreatDoor
open Go.RowKit Go.Fm
set_option maxRecDepth 100000
theorem wr1 : IntKind.i64.wrap (((1 : Nat) : Int) + 1) = ((1 + 1 : Nat) : Int) := by kernel_rfl
theorem wr2 : IntKind.i64.wrap (((2 : Nat) : Int) + 1) = ((2 + 1 : Nat) : Int) := by kernel_rfl
theorem wr3 : IntKind.i64.wrap (((3 : Nat) : Int) + 1) = ((3 + 1 : Nat) : Int) := by kernel_rfl
theorem wr4 : IntKind.i64.wrap (((4 : Nat) : Int) + 1) = ((4 + 1 : Nat) : Int) := by kernel_rfl
theorem wr5 : IntKind.i64.wrap (((5 : Nat) : Int) + 1) = ((5 + 1 : Nat) : Int) := by kernel_rfl
set_option maxHeartbeats 8000000 in
theorem rbin_any {W : World} {b : Nat} {lv : Nat} (h1 : 1 ≤ lv) (h5 : lv ≤ 5) {ts : List Tk.Tok} (hn : ts.length ≤ 256)
    (C : ∀ ts' u, ts'.length ≤ ts.length → QR W b ts' u → Calls Tryz.prog 92 #[.pointer (some ⟨b, 0, none⟩), .int .i64 ((lv + 1 : Nat) : Int)] u (RO W b u (PP (lv + 1) ts'))) {w : World} (X : QR W b ts w) :
    Calls Tryz.prog 92 #[.pointer (some ⟨b, 0, none⟩), .int .i64 ((lv : Nat) : Int)] w (RO W b w (PP lv ts)) := by
  have hb := X.lt
  have e : PP lv ts = (PP (lv + 1) ts).bind fun p => loopF (PP (lv + 1)) lv p.2.length p.1 p.2 := ps_row upF trF h1 h5 ts
  have hlen : ∀ p, PP (lv + 1) ts = some p → p.2.length ≤ ts.length := fun p hp => Nat.le_of_lt (ps_lt upF trF (by omega) _ p.1 p.2 hp)
  have C0 : Calls Tryz.prog 92 #[.pointer (some ⟨b, 0, none⟩), .int .i64 ((lv + 1 : Nat) : Int)] (w.alloc (.cells nd0 50)) fun e w1 => ∃ es, e = .returned (.agg es) ∧ Hid ((Instr.storeAt 50 (.pointer (some ⟨w1.heap.size, 0, none⟩)) (.agg es)).run Tryz.prog (w1.alloc (.cells nd0 50)) = .ok () (w1.alloc (.cells es 50))) ∧ Hid (BI W b w w1.heap.size (PP (lv + 1) ts) es (w1.alloc (.cells es 50))) ∧ Hid (w.heap.size < w1.heap.size) := (C ts _ (Nat.le_refl _) (X.alloc _)).mono (by
    rintro e w1 ⟨es, rfl, hn, h⟩
    exact ⟨es, rfl, BI.begin hb hn h⟩)
  generalize PP lv ts = o at e ⊢
  have HO : Hid (((PP (lv + 1) ts).bind fun p => loopF (PP (lv + 1)) lv p.2.length p.1 p.2) = o) := e.symm
  have HC : Hid (∀ ts' u, ts'.length ≤ ts.length → QR W b ts' u → Calls Tryz.prog 92 #[.pointer (some ⟨b, 0, none⟩), .int .i64 ((lv + 1 : Nat) : Int)] u (RO W b u (PP (lv + 1) ts'))) := C
  have HLE : Hid (∀ p, PP (lv + 1) ts = some p → p.2.length ≤ ts.length) := hlen
  have hi5 : ¬ (5 : Int) < ((lv : Nat) : Int) := by omega
  have hw1 : IntKind.i64.wrap (((lv : Nat) : Int) + 1) = ((lv + 1 : Nat) : Int) := by
    have : lv = 1 ∨ lv = 2 ∨ lv = 3 ∨ lv = 4 ∨ lv = 5 := by omega
    rcases this with rfl | rfl | rfl | rfl | rfl
    · exact wr1
    · exact wr2
    · exact wr3
    · exact wr4
    · exact wr5
  have HLV : Hid (1 ≤ lv) := h1
  have HN256 : Hid (ts.length ≤ 256) := hn
  clear e C hlen X h5
  generalize PP (lv + 1) ts = o1 at C0 HO HLE
  obtain ⟨l1, hl1⟩ : ∃ l1 : Int, ((lv + 1 : Nat) : Int) = l1 := ⟨_, rfl⟩
  rw [hl1] at C0 HC hw1
  clear hl1
  obtain ⟨N, hN⟩ : ∃ N, ts.length = N := ⟨_, rfl⟩
  rw [hN] at HC HLE HN256
  clear hN hn h1
  go_enter Tryz.func92, Tryz.ntmps92
  go_wp2_with (first
    | (go_at_call 92; refine C0.mono ?_; rintro e w1 ⟨es0, rfl, RS0, HB0, HLT⟩)
    | (refine wpList_store_run rfl 50 _ _ rfl _ _ _ rfl rfl RS0.out ?_; clear RS0))
  clear C0
  try simp only [Act.put, List.setIfInBounds_toArray, List.set_cons_zero, List.set_cons_succ]
  generalize hg7 : w1.heap.size = g7 at *
  clear hg7
  go_loopw [6] (fun _ wr => ∃ (cur : Option (T × List Tk.Tok)) (es : Array Value), Hid ((cur.bind fun p => loopF (PP (lv + 1)) lv p.2.length p.1 p.2) = o) ∧ Hid (BI W b w g7 cur es wr) ∧ Hid (∀ p, cur = some p → p.2.length ≤ N)) (fun _ wr => leftP b wr)
  case atStart => exact ⟨o1, es0, HO, HB0, HLE⟩
  case round =>
    obtain ⟨cur, es, HL, HB, HR⟩ := hrel
    clear HO HB0 HLE
    cases cur with
    | none =>
      obtain ⟨RL, RS, HZ, HF⟩ := HB.out.fin hb
      have hyes : wr.cell? ⟨b, 1, none⟩ = some (.bool true) := (show Sw W b w wr from HB.out.st).1.yes
      have HQ : Hid (none = o) := HL.out
      have HNA : Hid (NA es) := HB.out.na
      have HG : Hid (wr.heap[w.heap.size]? = some (.cells nd0 50)) := HB.out.res
      clear HL HB HR
      go_wp2_with (first
        | (refine wpList_load_run rfl 50 _ rfl _ _ rfl RL.out ?_; clear RL)
        | (refine wpList_store_run rfl 50 _ _ rfl _ _ _ rfl rfl RS.out ?_; clear RS))
      refine bodyPost_ret (nd_res HG.out HZ.out rfl rfl) rfl ?_
      rw [← HQ.out]
      exact ⟨es, rfl, HNA.out, HF.out⟩
    | some p =>
      obtain ⟨n, r⟩ := p
      have hr : r.length ≤ N := HR.out _ rfl
      have hS : Sq W b r w wr := (HB.out.st).2
      have hnot : wr.cell? ⟨b, 1, none⟩ = some (.bool false) := hS.1.not
      have OP := rop_any hS.1 (by have := HN256.out; omega)
      have ST := fun u => rstrength_any (opOf r) u
      have hleft := hS.1.left
      by_cases hq : strn (opOf r) = lv
      · have hlv := HLV.out
        have hne := strn_ne (s := opOf r) (by omega)
        obtain ⟨hrt, hrc⟩ := op_tail (ts := r) rfl hne
        have HQ : Hid (o = (PP (lv + 1) r.tail).bind fun p => loopF (PP (lv + 1)) lv p.2.length (binT (opOf r) n p.1) p.2) := by show _ = _; rw [← HL.out]; exact loop_yes hlv hq
        have TK : Calls Tryz.prog 126 #[.pointer (some ⟨b, 0, none⟩), .string (ba (opOf r))] wr fun e w' => e = .returned (.tuple #[]) ∧ Sq W b r.tail wr w' := rtake_yes hS.1 (by have := HN256.out; omega) hne rfl
        have hqi : (((strn (opOf r) : Nat) : Int) == ((lv : Nat) : Int)) = true := by simp [hq]
        have hltr : r.tail.length < r.length := by omega
        have HPL : Hid (∀ p, PP (lv + 1) r.tail = some p → p.2.length < r.tail.length) := fun p hp => ps_lt upF trF (by omega) _ p.1 p.2 hp
        have C1 : Hid (∀ u2, Sq W b r.tail wr u2 → Calls Tryz.prog 92 #[.pointer (some ⟨b, 0, none⟩), .int .i64 l1] u2 fun e w3 => ∃ es2, e = .returned (.agg es2) ∧ NA es2 ∧ RA W b u2 (PP (lv + 1) r.tail) es2 w3) := fun u2 h2 => HC.out r.tail u2 (by omega) h2.1
        clear HL hq hrc HC hS
        generalize hrr : r.tail = r' at *
        generalize strn (opOf r) = sv at *
        generalize hss : opOf r = sg at *
        clear hrr hss
        go_wp2_with (first
          | (go_at_call 125; refine OP.mono ?_; rintro e w' ⟨rfl, hw⟩; obtain rfl := hw.symm; clear hw)
          | (go_at_call 84; refine (ST _).mono ?_; rintro e w' ⟨rfl, hw⟩; obtain rfl := hw.symm; clear hw)
          | (go_at_call 126; refine TK.mono ?_; rintro e w2 ⟨rfl, hw⟩; have HS2 : Hid (Sq W b r' wr w2) := hw; clear hw TK)
          | (go_at_call 92; refine (C1.out _ HS2.out).mono ?_; rintro e w3 ⟨es2, rfl, hn2, h3⟩; obtain ⟨R1, R2, R3, w5, R4, R5, R6, HB6⟩ := BI.two (sg := sg) HB.out hb HLT.out HS2.out hn2 h3; clear hn2 h3)
          | (refine wpList_store_run rfl 50 _ _ rfl _ _ _ rfl rfl R1.out ?_; clear R1)
          | (refine wpList_load_run rfl 50 _ rfl _ _ rfl R2.out ?_; clear R2)
          | (refine wpList_load_run rfl 50 _ rfl _ _ rfl R3.out ?_; clear R3)
          | (refine wpList_bslice_run rfl 48 2 _ rfl _ _ _ (by go_simp) R4.out ?_; clear R4)
          | (refine wpList_build_run rfl 50 _ rfl _ _ (by go_simp) R5.out ?_; clear R5)
          | (refine wpList_store_run rfl 50 _ _ rfl _ _ _ rfl rfl R6.out ?_; clear R6))
        try simp only [Act.put, List.setIfInBounds_toArray, List.set_cons_zero, List.set_cons_succ]
        go_roundw
        case rel =>
          refine ⟨_, _, ?_, HB6, ?_⟩
          · show _ = _
            rw [HQ.out]
            cases PP (lv + 1) r' <;> rfl
          · show ∀ p, _ → _
            intro p hp
            cases hP : PP (lv + 1) r' with
            | none => rw [hP] at hp; cases hp
            | some q =>
              rw [hP] at hp
              cases hp
              have := HPL.out _ hP
              show q.2.length ≤ N
              omega
        case measure =>
          have hst := HB6.out.st
          cases hP : PP (lv + 1) r' with
          | none =>
            rw [hP] at hst
            rw [(show Sw W b w _ from hst).1.left, hleft]; omega
          | some q =>
            rw [hP] at hst
            have := HPL.out _ hP
            rw [(show _ ∧ Sq W b q.2 w _ from hst).2.1.left, hleft]; omega
      · have HQ : Hid (o = some (n, r)) := by show _ = _; rw [← HL.out]; exact loop_no hq _
        have hqi : (((strn (opOf r) : Nat) : Int) == ((lv : Nat) : Int)) = false := by simp; omega
        obtain ⟨RL, RS, HZ, HF⟩ := HB.out.fin hb
        have HNA : Hid (NA es) := HB.out.na
        have HG : Hid (wr.heap[w.heap.size]? = some (.cells nd0 50)) := HB.out.res
        generalize strn (opOf r) = sv at *
        generalize ba (opOf r) = A at *
        clear hq HL hleft HB hS HC
        go_wp2_with (first
          | (go_at_call 125; refine OP.mono ?_; rintro e w' ⟨rfl, hw⟩; obtain rfl := hw.symm; clear hw)
          | (go_at_call 84; refine (ST _).mono ?_; rintro e w' ⟨rfl, hw⟩; obtain rfl := hw.symm; clear hw)
          | (refine wpList_load_run rfl 50 _ rfl _ _ rfl RL.out ?_; clear RL)
          | (refine wpList_store_run rfl 50 _ _ rfl _ _ _ rfl rfl RS.out ?_; clear RS))
        refine bodyPost_ret (nd_res HG.out HZ.out rfl rfl) rfl ?_
        rw [HQ.out]
        exact ⟨es, rfl, HNA.out, HF.out⟩
end Go.Proofs.YtlndkjcincflpaaGreatDoor
