import Derived.Test.YtdgnodijmbeajaaGreatDoorTFault
/- operator: an Op that a text begins with. -/
namespace Go.Proofs.YtdgnodijmbeajaaGreatDoor
open Go.RowKit
set_option maxRecDepth 100000
set_option linter.unusedVariables false
set_option linter.unusedSimpArgs false
def opn : Nat → List UInt8
  | 0 => [60, 62]
  | 1 => [60, 61]
  | 2 => [62, 61]
  | 3 => [43]
  | 4 => [45]
  | 5 => [42]
  | 6 => [47]
  | 7 => [94]
  | 8 => [38]
  | 9 => [61]
  | 10 => [60]
  | 11 => [62]
  | 12 => [37]
  | 13 => [40]
  | 14 => [41]
  | 15 => [44]
  | 16 => [58]
  | _ => []
def opsV : Array Value := #[.string (ba [60, 62]), .string (ba [60, 61]), .string (ba [62, 61]), .string (ba [43]), .string (ba [45]), .string (ba [42]), .string (ba [47]), .string (ba [94]), .string (ba [38]), .string (ba [61]), .string (ba [60]), .string (ba [62]), .string (ba [37]), .string (ba [40]), .string (ba [41]), .string (ba [44]), .string (ba [58])]
theorem ixo0 (W : World) : (Instr.index 84 (.agg opsV) (.int .i64 0)).run Tryz.prog W = .ok (.string (ba [60, 62])) W := by kernel_rfl
theorem ixo1 (W : World) : (Instr.index 84 (.agg opsV) (.int .i64 1)).run Tryz.prog W = .ok (.string (ba [60, 61])) W := by kernel_rfl
theorem ixo2 (W : World) : (Instr.index 84 (.agg opsV) (.int .i64 2)).run Tryz.prog W = .ok (.string (ba [62, 61])) W := by kernel_rfl
theorem ixo3 (W : World) : (Instr.index 84 (.agg opsV) (.int .i64 3)).run Tryz.prog W = .ok (.string (ba [43])) W := by kernel_rfl
theorem ixo4 (W : World) : (Instr.index 84 (.agg opsV) (.int .i64 4)).run Tryz.prog W = .ok (.string (ba [45])) W := by kernel_rfl
theorem ixo5 (W : World) : (Instr.index 84 (.agg opsV) (.int .i64 5)).run Tryz.prog W = .ok (.string (ba [42])) W := by kernel_rfl
theorem ixo6 (W : World) : (Instr.index 84 (.agg opsV) (.int .i64 6)).run Tryz.prog W = .ok (.string (ba [47])) W := by kernel_rfl
theorem ixo7 (W : World) : (Instr.index 84 (.agg opsV) (.int .i64 7)).run Tryz.prog W = .ok (.string (ba [94])) W := by kernel_rfl
theorem ixo8 (W : World) : (Instr.index 84 (.agg opsV) (.int .i64 8)).run Tryz.prog W = .ok (.string (ba [38])) W := by kernel_rfl
theorem ixo9 (W : World) : (Instr.index 84 (.agg opsV) (.int .i64 9)).run Tryz.prog W = .ok (.string (ba [61])) W := by kernel_rfl
theorem ixo10 (W : World) : (Instr.index 84 (.agg opsV) (.int .i64 10)).run Tryz.prog W = .ok (.string (ba [60])) W := by kernel_rfl
theorem ixo11 (W : World) : (Instr.index 84 (.agg opsV) (.int .i64 11)).run Tryz.prog W = .ok (.string (ba [62])) W := by kernel_rfl
theorem ixo12 (W : World) : (Instr.index 84 (.agg opsV) (.int .i64 12)).run Tryz.prog W = .ok (.string (ba [37])) W := by kernel_rfl
theorem ixo13 (W : World) : (Instr.index 84 (.agg opsV) (.int .i64 13)).run Tryz.prog W = .ok (.string (ba [40])) W := by kernel_rfl
theorem ixo14 (W : World) : (Instr.index 84 (.agg opsV) (.int .i64 14)).run Tryz.prog W = .ok (.string (ba [41])) W := by kernel_rfl
theorem ixo15 (W : World) : (Instr.index 84 (.agg opsV) (.int .i64 15)).run Tryz.prog W = .ok (.string (ba [44])) W := by kernel_rfl
theorem ixo16 (W : World) : (Instr.index 84 (.agg opsV) (.int .i64 16)).run Tryz.prog W = .ok (.string (ba [58])) W := by kernel_rfl
theorem index_ops (i : Nat) (h : i < 17) (W : World) : (Instr.index 84 (.agg opsV) (.int .i64 (i : Int))).run Tryz.prog W = .ok (.string (ba (opn i))) W := by
  have : i = 0 ∨ i = 1 ∨ i = 2 ∨ i = 3 ∨ i = 4 ∨ i = 5 ∨ i = 6 ∨ i = 7 ∨ i = 8 ∨ i = 9 ∨ i = 10 ∨ i = 11 ∨ i = 12 ∨ i = 13 ∨ i = 14 ∨ i = 15 ∨ i = 16 := by omega
  rcases this with rfl | rfl | rfl | rfl | rfl | rfl | rfl | rfl | rfl | rfl | rfl | rfl | rfl | rfl | rfl | rfl | rfl
  · exact ixo0 W
  · exact ixo1 W
  · exact ixo2 W
  · exact ixo3 W
  · exact ixo4 W
  · exact ixo5 W
  · exact ixo6 W
  · exact ixo7 W
  · exact ixo8 W
  · exact ixo9 W
  · exact ixo10 W
  · exact ixo11 W
  · exact ixo12 W
  · exact ixo13 W
  · exact ixo14 W
  · exact ixo15 W
  · exact ixo16 W
theorem ops_cell (w : World) (T : Tab9 w) (i : Nat) (h : i < 17) : w.cell? ⟨0, i, none⟩ = some (.string (ba (opn i))) := by
  rw [T.ops i h]
  have : i = 0 ∨ i = 1 ∨ i = 2 ∨ i = 3 ∨ i = 4 ∨ i = 5 ∨ i = 6 ∨ i = 7 ∨ i = 8 ∨ i = 9 ∨ i = 10 ∨ i = 11 ∨ i = 12 ∨ i = 13 ∨ i = 14 ∨ i = 15 ∨ i = 16 := by omega
  rcases this with rfl | rfl | rfl | rfl | rfl | rfl | rfl | rfl | rfl | rfl | rfl | rfl | rfl | rfl | rfl | rfl | rfl <;> rfl
theorem load_ops (w : World) (T : Tab9 w) : (Instr.loadAt 84 (.pointer (some ⟨0, 0, none⟩))).run Tryz.prog w = .ok (.agg opsV) w := by
  have := run_loadAt_mid (P := Tryz.prog) w 0 0 84 opsV.toList _ (fun j v hj => by
    have hj2 : j < 17 := by
      rcases Nat.lt_or_ge j 17 with h | h
      · exact h
      · rw [List.getElem?_eq_none (by simpa [opsV] using h)] at hj; cases hj
    rw [Nat.zero_add, ops_cell w T j hj2, ← hj]
    have : j = 0 ∨ j = 1 ∨ j = 2 ∨ j = 3 ∨ j = 4 ∨ j = 5 ∨ j = 6 ∨ j = 7 ∨ j = 8 ∨ j = 9 ∨ j = 10 ∨ j = 11 ∨ j = 12 ∨ j = 13 ∨ j = 14 ∨ j = 15 ∨ j = 16 := by omega
    rcases this with rfl | rfl | rfl | rfl | rfl | rfl | rfl | rfl | rfl | rfl | rfl | rfl | rfl | rfl | rfl | rfl | rfl <;> rfl) Tryz.underlying84 rfl (by kernel_rfl)
  simpa using this
theorem pre_one (c : UInt8) (l : List UInt8) : [c].isPrefixOf l = true ↔ ∃ t, l = c :: t := by
  cases l with
  | nil => simp [List.isPrefixOf]
  | cons d t =>
    simp only [List.isPrefixOf, Bool.and_true, beq_iff_eq]
    exact ⟨fun h => ⟨t, by rw [h]⟩, fun ⟨_, h⟩ => by cases h; rfl⟩
theorem pre_two (c d : UInt8) (l : List UInt8) : [c, d].isPrefixOf l = true ↔ ∃ t, l = c :: d :: t := by
  rcases l with _ | ⟨a, _ | ⟨e, t⟩⟩
  · simp [List.isPrefixOf]
  · simp [List.isPrefixOf]
  · simp only [List.isPrefixOf, Bool.and_true, Bool.and_eq_true, beq_iff_eq]
    exact ⟨fun h => ⟨t, by rw [h.1, h.2]⟩, fun ⟨_, h⟩ => by cases h; exact ⟨rfl, rfl⟩⟩
theorem op_two {c d : UInt8} {t : List UInt8} (h : Tk.two c d = true) : Tk.opF (c :: d :: t) = some (.op [c, d], t) := by simp [Tk.opF, h]
theorem op_one {c : UInt8} {t : List UInt8} (hm : c ∈ Tk.ones) (h0 : [60, 62].isPrefixOf (c :: t) = false) (h1 : [60, 61].isPrefixOf (c :: t) = false) (h2 : [62, 61].isPrefixOf (c :: t) = false) : Tk.opF (c :: t) = some (.op [c], t) := by
  cases t with
  | nil => show (if c ∈ Tk.ones then _ else none) = _; rw [if_pos hm]
  | cons d t =>
    have : Tk.two c d = false := by
      simp [List.isPrefixOf] at h0 h1 h2
      unfold Tk.two
      simp only [Bool.or_eq_false_iff, Bool.and_eq_false_iff, beq_eq_false_iff_ne]
      refine ⟨⟨?_, ?_⟩, ?_⟩
      · by_cases e : c = 60
        · exact .inr fun e2 => h0 e.symm e2.symm
        · exact .inl e
      · by_cases e : c = 60
        · exact .inr fun e2 => h1 e.symm e2.symm
        · exact .inl e
      · by_cases e : c = 62
        · exact .inr fun e2 => h2 e.symm e2.symm
        · exact .inl e
    show (if Tk.two c d = true then _ else if c ∈ Tk.ones then _ else none) = _
    rw [this, if_neg (by decide), if_pos hm]
theorem op_hit {l : List UInt8} {i : Nat} (hi : i < 17) (hb : ∀ j, j < i → (opn j).isPrefixOf l = false) (hp : (opn i).isPrefixOf l = true) : Tk.opF l = some (.op (opn i), l.drop (opn i).length) := by
  have : i = 0 ∨ i = 1 ∨ i = 2 ∨ i = 3 ∨ i = 4 ∨ i = 5 ∨ i = 6 ∨ i = 7 ∨ i = 8 ∨ i = 9 ∨ i = 10 ∨ i = 11 ∨ i = 12 ∨ i = 13 ∨ i = 14 ∨ i = 15 ∨ i = 16 := by omega
  rcases this with rfl | rfl | rfl | rfl | rfl | rfl | rfl | rfl | rfl | rfl | rfl | rfl | rfl | rfl | rfl | rfl | rfl
  · obtain ⟨t, rfl⟩ := (pre_two 60 62 l).1 hp; exact op_two rfl
  · obtain ⟨t, rfl⟩ := (pre_two 60 61 l).1 hp; exact op_two rfl
  · obtain ⟨t, rfl⟩ := (pre_two 62 61 l).1 hp; exact op_two rfl
  · obtain ⟨t, rfl⟩ := (pre_one 43 l).1 hp; exact op_one (by decide) (hb 0 (by decide)) (hb 1 (by decide)) (hb 2 (by decide))
  · obtain ⟨t, rfl⟩ := (pre_one 45 l).1 hp; exact op_one (by decide) (hb 0 (by decide)) (hb 1 (by decide)) (hb 2 (by decide))
  · obtain ⟨t, rfl⟩ := (pre_one 42 l).1 hp; exact op_one (by decide) (hb 0 (by decide)) (hb 1 (by decide)) (hb 2 (by decide))
  · obtain ⟨t, rfl⟩ := (pre_one 47 l).1 hp; exact op_one (by decide) (hb 0 (by decide)) (hb 1 (by decide)) (hb 2 (by decide))
  · obtain ⟨t, rfl⟩ := (pre_one 94 l).1 hp; exact op_one (by decide) (hb 0 (by decide)) (hb 1 (by decide)) (hb 2 (by decide))
  · obtain ⟨t, rfl⟩ := (pre_one 38 l).1 hp; exact op_one (by decide) (hb 0 (by decide)) (hb 1 (by decide)) (hb 2 (by decide))
  · obtain ⟨t, rfl⟩ := (pre_one 61 l).1 hp; exact op_one (by decide) (hb 0 (by decide)) (hb 1 (by decide)) (hb 2 (by decide))
  · obtain ⟨t, rfl⟩ := (pre_one 60 l).1 hp; exact op_one (by decide) (hb 0 (by decide)) (hb 1 (by decide)) (hb 2 (by decide))
  · obtain ⟨t, rfl⟩ := (pre_one 62 l).1 hp; exact op_one (by decide) (hb 0 (by decide)) (hb 1 (by decide)) (hb 2 (by decide))
  · obtain ⟨t, rfl⟩ := (pre_one 37 l).1 hp; exact op_one (by decide) (hb 0 (by decide)) (hb 1 (by decide)) (hb 2 (by decide))
  · obtain ⟨t, rfl⟩ := (pre_one 40 l).1 hp; exact op_one (by decide) (hb 0 (by decide)) (hb 1 (by decide)) (hb 2 (by decide))
  · obtain ⟨t, rfl⟩ := (pre_one 41 l).1 hp; exact op_one (by decide) (hb 0 (by decide)) (hb 1 (by decide)) (hb 2 (by decide))
  · obtain ⟨t, rfl⟩ := (pre_one 44 l).1 hp; exact op_one (by decide) (hb 0 (by decide)) (hb 1 (by decide)) (hb 2 (by decide))
  · obtain ⟨t, rfl⟩ := (pre_one 58 l).1 hp; exact op_one (by decide) (hb 0 (by decide)) (hb 1 (by decide)) (hb 2 (by decide))
theorem op_miss {l : List UInt8} (hb : ∀ j, j < 17 → (opn j).isPrefixOf l = false) : Tk.opF l = none := by
  rcases l with _ | ⟨c, t⟩
  · rfl
  · have hm : c ∉ Tk.ones := by
      intro h
      simp only [Tk.ones, List.mem_cons, List.not_mem_nil, or_false] at h
      rcases h with rfl | rfl | rfl | rfl | rfl | rfl | rfl | rfl | rfl | rfl | rfl | rfl | rfl | rfl
      · exact absurd (hb 3 (by decide)) (by simp [opn, List.isPrefixOf])
      · exact absurd (hb 4 (by decide)) (by simp [opn, List.isPrefixOf])
      · exact absurd (hb 5 (by decide)) (by simp [opn, List.isPrefixOf])
      · exact absurd (hb 6 (by decide)) (by simp [opn, List.isPrefixOf])
      · exact absurd (hb 7 (by decide)) (by simp [opn, List.isPrefixOf])
      · exact absurd (hb 8 (by decide)) (by simp [opn, List.isPrefixOf])
      · exact absurd (hb 9 (by decide)) (by simp [opn, List.isPrefixOf])
      · exact absurd (hb 10 (by decide)) (by simp [opn, List.isPrefixOf])
      · exact absurd (hb 11 (by decide)) (by simp [opn, List.isPrefixOf])
      · exact absurd (hb 12 (by decide)) (by simp [opn, List.isPrefixOf])
      · exact absurd (hb 13 (by decide)) (by simp [opn, List.isPrefixOf])
      · exact absurd (hb 14 (by decide)) (by simp [opn, List.isPrefixOf])
      · exact absurd (hb 15 (by decide)) (by simp [opn, List.isPrefixOf])
      · exact absurd (hb 16 (by decide)) (by simp [opn, List.isPrefixOf])
    cases t with
    | nil => show (if c ∈ Tk.ones then _ else none) = _; rw [if_neg hm]
    | cons d t =>
      have : Tk.two c d = false := by
        cases h : Tk.two c d
        · rfl
        · unfold Tk.two at h
          simp only [Bool.or_eq_true, Bool.and_eq_true, beq_iff_eq] at h
          rcases h with (⟨rfl, rfl⟩ | ⟨rfl, rfl⟩) | ⟨rfl, rfl⟩
          · exact absurd (by decide) hm
          · exact absurd (by decide) hm
          · exact absurd (by decide) hm
      show (if Tk.two c d = true then _ else if c ∈ Tk.ones then _ else none) = _
      rw [this, if_neg (by decide), if_neg hm]
set_option maxHeartbeats 4000000 in
theorem operator_any {W w : World} {b : Nat} {l : List UInt8} (X : LX W b l w) : Calls Tryz.prog 30 #[.pointer (some ⟨b, 0, none⟩)] w (Ans W b w (Tk.opF l)) := by
  have hb := X.lt
  have H0 : Hid (St W b l (w.alloc tkO) (w.alloc tkO)) := St.refl (X.alloc tkO)
  have L0 : Hid _ := load_ops (w.alloc tkO) H0.out.1.t
  generalize ho : Tk.opF l = o
  have HO : Hid (Tk.opF l = o) := ho
  have HI : Hid (∀ (i : Nat) (h : i < 17) (W : World), (Instr.index 84 (.agg opsV) (.int .i64 (i : Int))).run Tryz.prog W = .ok (.string (ba (opn i))) W) := index_ops
  clear ho X
  generalize opsV = V at *
  go_enter Tryz.func30, Tryz.ntmps30
  go_wp2_with (refine wpList_load_run rfl 84 _ rfl _ _ rfl L0.out ?_)
  go_loopw [5, 7] (fun _ v wr => ∃ i : Nat, i ≤ 17 ∧ v = .int .i64 (i : Nat) ∧ Hid (∀ j, j < i → (opn j).isPrefixOf l = false) ∧ Hid (St W b l (w.alloc tkO) wr)) (fun _ v _ => 17 - (intOf v).toNat)
  case atStart => exact ⟨0, by decide, rfl, fun j h => by omega, H0⟩
  case round =>
    obtain ⟨i, h17, rfl, HJ, HS⟩ := hrel
    clear H0 L0
    by_cases hi : i < 17
    · have hi2 : (i : Int) < 17 := by omega
      have IX := HI.out i hi
      have SK := fun u (Y : LX W b l u) => skip_any Y (opn i)
      cases hp : (opn i).isPrefixOf l
      · rw [hp] at SK
        have HN : Hid (∀ j, j < i + 1 → (opn j).isPrefixOf l = false) := fun j h3 => by
          by_cases e : j = i
          · rw [e]; exact hp
          · exact HJ.out j (by omega)
        simp only [skF_no hp] at SK
        clear HJ HO HI
        generalize ba (opn i) = A at *
        go_wp2_with (go_at_call 52; refine (SK _ HS.out.1).mono ?_; rintro e w3 ⟨rfl, hs⟩; have HS3 : Hid (St W b l (w.alloc tkO) w3) := HS.out.step hs; clear hs)
        go_roundw
        case rel => exact ⟨i + 1, by omega, by simp, HN, HS3⟩
        case measure => simp [intOf]; omega
      · rw [hp] at SK
        have HN : Hid (o = some (.op (opn i), l.drop (opn i).length)) := by
          show _ = _
          rw [← HO.out, op_hit hi HJ.out hp]
        simp only [skF_yes hp] at SK
        clear HJ HO HI
        obtain ⟨A, hA⟩ : ∃ A, A = ba (opn i) := ⟨_, rfl⟩
        rw [← hA] at SK IX
        have HA2 : Hid (tcs 5 0 A noB noB 0 0 false false = (tk (.op (opn i))).cs) := by
          show _ = _
          rw [hA]; rfl
        clear hA
        generalize l.drop (opn i).length = m at *
        go_wp2_with (first
          | (go_at_call 52; refine (SK _ HS.out.1).mono ?_; rintro e w3 ⟨rfl, hs⟩; have HS3 : Hid (St W b m (w.alloc tkO) w3) := HS.out.step hs; have R := HS3.out.put hb 5 0 A noB noB 0 0 false false; clear hs)
          | (refine wpList_store_run rfl 35 _ _ rfl _ _ _ rfl rfl R.out ?_))
        refine bodyPost_ret (HS3.out.ans hb (tcs 5 0 A noB noB 0 0 false false) rfl rfl rfl rfl) rfl ?_
        rw [HN.out]
        exact ⟨by rw [← HA2.out]; rfl, HS3.out.fin hb _⟩
    · have hi2 : ¬ (i : Int) < 17 := by omega
      have HN : Hid (o = none) := by
        show _ = _
        rw [← HO.out, op_miss (fun j h => HJ.out j (by omega))]
      have R := HS.out.put hb 0 0 noB noB noB 0 0 false false
      clear HJ HO HI
      go_wp2_with (refine wpList_store_run rfl 35 _ _ rfl _ _ _ rfl rfl R.out ?_)
      refine bodyPost_ret (HS.out.ans hb (tcs 0 0 noB noB noB 0 0 false false) rfl rfl rfl rfl) rfl ?_
      rw [HN.out]
      exact ⟨⟨⟨0, 0, noB, noB, noB, 0, 0, false, false⟩, rfl⟩, l, HS.out.fin hb _⟩
end Go.Proofs.YtdgnodijmbeajaaGreatDoor

/- bySign: which method cuts the next token off. -/
namespace Go.Proofs.YtdgnodijmbeajaaGreatDoor
open Go.RowKit
set_option maxRecDepth 100000
set_option linter.unusedVariables false
set_option linter.unusedSimpArgs false
/-- The method for a sign. -/
def mthF (c : UInt8) : Nat := if Ad.isD c = true then 25 else if c = 34 then 26 else if c = 35 then 27 else if c = 91 ∨ c = 36 ∨ Ad.isL c = true then 29 else 30
theorem u8_ne {c d : UInt8} (h : ¬ c = d) : ¬ (c.toNat : Int) = (d.toNat : Int) := fun e => h (UInt8.toNat_inj.1 (by omega))
theorem tdig (c : UInt8) (u : World) : Calls Tryz.prog 24 #[.int .i32 (c.toNat : Nat)] u fun e w' => e = .returned (.bool (Ad.isD c)) ∧ w' = u := tdigit_any c.toNat u
theorem tlet (c : UInt8) (u : World) : Calls Tryz.prog 28 #[.int .i32 (c.toNat : Nat)] u fun e w' => e = .returned (.bool (Ad.isL c)) ∧ w' = u := by
  have := tletter_any c.toNat u
  rw [Bool.or_comm] at this
  exact this
set_option maxHeartbeats 2000000 in
theorem sign_any (c : UInt8) (w : World) : Calls Tryz.prog 13 #[.int .i32 (c.toNat : Nat)] w fun e w' => e = .returned (.func (.func (mthF c)) #[] #[]) ∧ w' = w := by
  have D := fun u => tdig c u
  have L := fun u => tlet c u
  generalize hk : mthF c = k
  unfold mthF at hk
  cases hd : Ad.isD c
  · rw [hd] at D hk
    rw [if_neg (by decide)] at hk
    by_cases h34 : c = 34
    · subst h34
      obtain rfl : 26 = k := hk
      clear L
      go_enter Tryz.func13, Tryz.ntmps13
      go_wp2_with (go_at_call 24; refine (D _).mono ?_; rintro e w' ⟨rfl, hw⟩; obtain rfl := hw.symm; clear hw)
      go_ret
      exact ⟨rfl, rfl⟩
    rw [if_neg h34] at hk
    have n34 : ¬ (c.toNat : Int) = 34 := u8_ne h34
    by_cases h35 : c = 35
    · subst h35
      obtain rfl : 27 = k := hk
      clear L
      go_enter Tryz.func13, Tryz.ntmps13
      go_wp2_with (go_at_call 24; refine (D _).mono ?_; rintro e w' ⟨rfl, hw⟩; obtain rfl := hw.symm; clear hw)
      go_ret
      exact ⟨rfl, rfl⟩
    rw [if_neg h35] at hk
    have n35 : ¬ (c.toNat : Int) = 35 := u8_ne h35
    by_cases h91 : c = 91
    · subst h91
      obtain rfl : 29 = k := hk
      clear L
      go_enter Tryz.func13, Tryz.ntmps13
      go_wp2_with (go_at_call 24; refine (D _).mono ?_; rintro e w' ⟨rfl, hw⟩; obtain rfl := hw.symm; clear hw)
      go_ret
      exact ⟨rfl, rfl⟩
    have n91 : ¬ (c.toNat : Int) = 91 := u8_ne h91
    by_cases h36 : c = 36
    · subst h36
      obtain rfl : 29 = k := hk
      clear L
      go_enter Tryz.func13, Tryz.ntmps13
      go_wp2_with (go_at_call 24; refine (D _).mono ?_; rintro e w' ⟨rfl, hw⟩; obtain rfl := hw.symm; clear hw)
      go_ret
      exact ⟨rfl, rfl⟩
    have n36 : ¬ (c.toNat : Int) = 36 := u8_ne h36
    cases hl : Ad.isL c
    · rw [hl] at L hk
      rw [if_neg (by rintro (h | h | h); exact h91 h; exact h36 h; cases h)] at hk
      subst hk
      generalize c.toNat = n at *
      go_enter Tryz.func13, Tryz.ntmps13
      go_wp2_with (first | (go_at_call 24; refine (D _).mono ?_; rintro e w' ⟨rfl, hw⟩; obtain rfl := hw.symm; clear hw) | (go_at_call 28; refine (L _).mono ?_; rintro e w' ⟨rfl, hw⟩; obtain rfl := hw.symm; clear hw))
      go_ret
      exact ⟨rfl, rfl⟩
    · rw [hl] at L hk
      rw [if_pos (.inr (.inr rfl))] at hk
      subst hk
      generalize c.toNat = n at *
      go_enter Tryz.func13, Tryz.ntmps13
      go_wp2_with (first | (go_at_call 24; refine (D _).mono ?_; rintro e w' ⟨rfl, hw⟩; obtain rfl := hw.symm; clear hw) | (go_at_call 28; refine (L _).mono ?_; rintro e w' ⟨rfl, hw⟩; obtain rfl := hw.symm; clear hw))
      go_ret
      exact ⟨rfl, rfl⟩
  · rw [hd] at D hk
    rw [if_pos rfl] at hk
    subst hk
    clear L
    generalize c.toNat = n at *
    go_enter Tryz.func13, Tryz.ntmps13
    go_wp2_with (go_at_call 24; refine (D _).mono ?_; rintro e w' ⟨rfl, hw⟩; obtain rfl := hw.symm; clear hw)
    go_ret
    exact ⟨rfl, rfl⟩
end Go.Proofs.YtdgnodijmbeajaaGreatDoor
