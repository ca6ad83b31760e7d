import Derived.Test.YtdgnodijmbeajaaGreatDoorTTake
/- skip, more, number: the lexer's small methods. -/
namespace Go.Proofs.YtdgnodijmbeajaaGreatDoor
open Go.RowKit
set_option maxRecDepth 100000
set_option linter.unusedVariables false
set_option linter.unusedSimpArgs false
def skF (s l : List UInt8) : List UInt8 := if s.isPrefixOf l = true then l.drop s.length else l
theorem skF_len (s l : List UInt8) : (skF s l).length ≤ l.length := by unfold skF; split <;> simp
set_option maxHeartbeats 2000000 in
theorem skip_any {W w : World} {b : Nat} {l : List UInt8} (X : LX W b l w) (s : List UInt8) :
    Calls Tryz.prog 52 #[.pointer (some ⟨b, 0, none⟩), .string (ba s)] w fun e w' => e = .returned (.bool (s.isPrefixOf l)) ∧ St W b (skF s l) w w' := by
  have CP : ∀ u, Calls Tryz.prog 81 #[.string (ba l), .string (ba s)] u fun e w' => e = .returned (.tuple #[.string (ba (skF s l)), .bool (s.isPrefixOf l)]) ∧ w' = u := fun u => Tryz.strings_CutPrefix (ba l) (ba s) u
  obtain ⟨c0, c1, f0⟩ := X.cells
  have HS : Hid (St W b (skF s l) w (w.setCell ⟨b, 0, none⟩ (.string (ba (skF s l))))) := (St.refl X).set _
  clear X
  generalize ba (skF s l) = A at *
  generalize s.isPrefixOf l = q at *
  generalize ba l = L at *
  generalize ba s = S at *
  go_enter Tryz.func52, Tryz.ntmps52
  go_wp2_with (go_at_call 81; refine (CP _).mono ?_; rintro e w' ⟨rfl, hw⟩; obtain rfl := hw.symm; clear hw)
  go_ret
  exact ⟨rfl, HS.out⟩
theorem e32 : ∀ args u, (callFunc 32 args).run Tryz.prog u = .ok (.enter 32 args) u := enters_of Tryz.func32 (by kernel_rfl) rfl
theorem e51 : ∀ args u, (callFunc 51 args).run Tryz.prog u = .ok (.enter 51 args) u := enters_of Tryz.func51 (by kernel_rfl) rfl
theorem e53 : ∀ args u, (callFunc 53 args).run Tryz.prog u = .ok (.enter 53 args) u := enters_of Tryz.func53 (by kernel_rfl) rfl
theorem e56 : ∀ args u, (callFunc 56 args).run Tryz.prog u = .ok (.enter 56 args) u := enters_of Tryz.func56 (by kernel_rfl) rfl
theorem nil_beq (l : List UInt8) : ((ba l).toList == []) = l.isEmpty := by
  rw [ByteArray.toList_eq]
  cases l <;> rfl
set_option maxHeartbeats 2000000 in
theorem more_any {W w : World} {b : Nat} {l : List UInt8} (X : LX W b l w) (hl : l.length ≤ 255) :
    Calls Tryz.prog 14 #[.pointer (some ⟨b, 0, none⟩)] w fun e w' => e = .returned (.bool (!(l.dropWhile Tk.blank).isEmpty)) ∧ St W b (l.dropWhile Tk.blank) w w' := by
  have T := take_any X hl asks_blank e32
  have HE := nil_beq (l.dropWhile Tk.blank)
  generalize l.takeWhile Tk.blank = A at *
  generalize l.dropWhile Tk.blank = m at *
  cases hq : m.isEmpty
  all_goals
    rw [hq] at HE
    have HT : Hid _ := T
    clear T
    go_enter Tryz.func14, Tryz.ntmps14
    go_wp2_with (go_at_call 31; refine Calls.mono HT.out ?_; rintro e w1 ⟨rfl, hs⟩; have HS : Hid (St W b m w w1) := hs; obtain ⟨d0, d1, g0⟩ := hs.1.cells; clear hs)
    go_ret
    exact ⟨rfl, HS.out⟩
/-- What a method that cuts a token off leaves. -/
def Ans (W : World) (b : Nat) (w : World) (o : Option (Tk.Tok × List UInt8)) (e : Ending) (w' : World) : Prop :=
  match o with
  | some (t, m) => e = .returned (.tuple #[.agg (tk t).cs, .bool true]) ∧ St W b m w w'
  | none => (∃ t : TT, e = .returned (.tuple #[.agg t.cs, .bool false])) ∧ ∃ m, St W b m w w'
/-- The result's own block, turned last. -/
theorem St.fin {W w w1 : World} {b : Nat} {l : List UInt8} {o : Obj} (hb : b < w.heap.size) (h : St W b l (w.alloc o) w1) (es : Array Value) : St W b l w (w1.setRow w.heap.size es) :=
  St.grown (l := l) (w1 := w1) ⟨h.1, grown_trans (World.grownBy_alloc w o _) h.2⟩ (setRow_grown _ _ _) (Nat.le_refl _) hb
theorem St.res {W w w1 : World} {b : Nat} {l : List UInt8} {o : Obj} (hb : b < w.heap.size) (h : St W b l (w.alloc o) w1) : w1.heap[w.heap.size]? = some o := h.kept (heap_alloc_new w o) (by omega)
theorem tcs_one (k n : Int) (s b h : ByteArray) (r c : Int) (fr fc : Bool) : (tcs k n s b h r c fr fc).all (·.oneCell') = true := by simp [Value.oneCell']
abbrev tkO : Obj := .cells tk0 35
theorem St.put {W w w1 : World} {b : Nat} {l : List UInt8} (hb : b < w.heap.size) (h : St W b l (w.alloc tkO) w1) (k n : Int) (s b' h' : ByteArray) (r c : Int) (fr fc : Bool) :
    Hid ((Instr.storeAt 35 (.pointer (some ⟨w.heap.size, 0, none⟩)) (.agg (tcs k n s b' h' r c fr fc))).run Tryz.prog w1 = .ok () (w1.setRow w.heap.size (tcs k n s b' h' r c fr fc))) :=
  sto (h.res hb) inf35 rfl (tcs_one k n s b' h' r c fr fc)
/-- The token and the truth that a method answers. -/
theorem St.ans {W w w1 : World} {b : Nat} {l : List UInt8} (hb : b < w.heap.size) (h : St W b l (w.alloc tkO) w1) (es : Array Value) (he : es.size = 9) {fn : Func} {p u : Tmp} (hr : fn.results = #[.cell p 35, .tmp u]) {tmps : Array Value} {v2 : Value}
    (hp : tmps.getD p undef = .pointer (some ⟨w.heap.size, 0, none⟩)) (hv : tmps.getD u undef = v2) : (results fn tmps).run Tryz.prog (w1.setRow w.heap.size es) = .ok (.tuple #[.agg es, v2]) (w1.setRow w.heap.size es) :=
  results2_row hr hp (setRow_heap _ _ _ es _ _ (h.res hb)) rfl Tryz.underlying35 (by rw [he]; exact inf35) hv
/-- The number that a text is. -/
def pnF (l : List UInt8) : Option Int := if (parseF l).2 = true then some (parseF l).1 else none
set_option maxHeartbeats 2000000 in
theorem number_core {W w : World} {b : Nat} {l : List UInt8} (X : LX W b l w) (hl : l.length ≤ 255) :
    Calls Tryz.prog 25 #[.pointer (some ⟨b, 0, none⟩)] w fun e w' => e = .returned (.tuple #[.agg (tcs 1 (parseF (l.takeWhile Tk.numC)).1 noB noB noB 0 0 false false), .bool (parseF (l.takeWhile Tk.numC)).2]) ∧ St W b (l.dropWhile Tk.numC) w w' := by
  have HT : Hid _ := take_any (X.alloc tkO) hl asks_point e51
  have hlen : (l.takeWhile Tk.numC).length ≤ 255 := Nat.le_trans (List.takeWhile_sublist _).length_le hl
  have PA : ∀ u, Calls Tryz.prog 50 #[.string (ba (l.takeWhile Tk.numC))] u fun e w' => e = .returned (.tuple #[.int .i64 (parseF (l.takeWhile Tk.numC)).1, .bool (parseF (l.takeWhile Tk.numC)).2]) ∧ Below u.heap.size u w' := fun u => parse_s (ba (l.takeWhile Tk.numC)) (by rw [size_mk]; omega) u
  have hb := X.lt
  clear X
  generalize (parseF (l.takeWhile Tk.numC)).1 = n at *
  generalize (parseF (l.takeWhile Tk.numC)).2 = ok at *
  generalize ba (l.takeWhile Tk.numC) = A at *
  generalize l.dropWhile Tk.numC = m at *
  go_enter Tryz.func25, Tryz.ntmps25
  go_wp2_with (first
    | (go_at_call 31; refine Calls.mono HT.out ?_; rintro e w1 ⟨rfl, hs⟩; have HS : Hid (St W b m (w.alloc tkO) w1) := hs; clear hs)
    | (go_at_call 50; refine (PA _).mono ?_; rintro e w2 ⟨rfl, hs⟩; have HS2 : Hid (St W b m (w.alloc tkO) w2) := HS.out.bel hs; have R := HS2.out.put hb 1 n noB noB noB 0 0 false false; clear hs HS)
    | (refine wpList_store_run rfl 35 _ _ rfl _ _ _ rfl rfl R.out ?_))
  exact bodyPost_ret (HS2.out.ans hb (tcs 1 n noB noB noB 0 0 false false) rfl rfl rfl rfl) rfl ⟨rfl, HS2.out.fin hb _⟩
theorem number_any {W w : World} {b : Nat} {l : List UInt8} (X : LX W b l w) (hl : l.length ≤ 255) :
    Calls Tryz.prog 25 #[.pointer (some ⟨b, 0, none⟩)] w (Ans W b w ((pnF (l.takeWhile Tk.numC)).map fun n => (.num n, l.dropWhile Tk.numC))) := by
  refine (number_core X hl).mono ?_
  rintro e w' ⟨rfl, h⟩
  unfold pnF
  cases hq : (parseF (l.takeWhile Tk.numC)).2
  · exact ⟨⟨⟨1, _, noB, noB, noB, 0, 0, false, false⟩, rfl⟩, _, h⟩
  · exact ⟨rfl, h⟩
end Go.Proofs.YtdgnodijmbeajaaGreatDoor

/- fault: an error that a text begins with. -/
namespace Go.Proofs.YtdgnodijmbeajaaGreatDoor
open Go.RowKit
set_option maxRecDepth 100000
set_option linter.unusedVariables false
set_option linter.unusedSimpArgs false
theorem fnm_err : ∀ i, i < 9 → fnm i = ba (Tk.errN i) := by decide
theorem bad_hit {l : List UInt8} {i : Nat} (h1 : 1 ≤ i) (h8 : i ≤ 8) (hb : ∀ j, 1 ≤ j → j < i → (Tk.errN j).isPrefixOf l = false) (hp : (Tk.errN i).isPrefixOf l = true) : Tk.badF l = some (.bad i, l.drop (Tk.errN i).length) := by
  have hf : ([1, 2, 3, 4, 5, 6, 7, 8].find? fun i => (Tk.errN i).isPrefixOf l) = some i := by
    have : i = 1 ∨ i = 2 ∨ i = 3 ∨ i = 4 ∨ i = 5 ∨ i = 6 ∨ i = 7 ∨ i = 8 := by omega
    rcases this with rfl | rfl | rfl | rfl | rfl | rfl | rfl | rfl
    · simp [List.find?, hp]
    · simp [List.find?, hp, hb 1 (by decide) (by decide)]
    · simp [List.find?, hp, hb 1 (by decide) (by decide), hb 2 (by decide) (by decide)]
    · simp [List.find?, hp, hb 1 (by decide) (by decide), hb 2 (by decide) (by decide), hb 3 (by decide) (by decide)]
    · simp [List.find?, hp, hb 1 (by decide) (by decide), hb 2 (by decide) (by decide), hb 3 (by decide) (by decide), hb 4 (by decide) (by decide)]
    · simp [List.find?, hp, hb 1 (by decide) (by decide), hb 2 (by decide) (by decide), hb 3 (by decide) (by decide), hb 4 (by decide) (by decide), hb 5 (by decide) (by decide)]
    · simp [List.find?, hp, hb 1 (by decide) (by decide), hb 2 (by decide) (by decide), hb 3 (by decide) (by decide), hb 4 (by decide) (by decide), hb 5 (by decide) (by decide), hb 6 (by decide) (by decide)]
    · simp [List.find?, hp, hb 1 (by decide) (by decide), hb 2 (by decide) (by decide), hb 3 (by decide) (by decide), hb 4 (by decide) (by decide), hb 5 (by decide) (by decide), hb 6 (by decide) (by decide), hb 7 (by decide) (by decide)]
  unfold Tk.badF
  rw [hf]
  rfl
theorem bad_miss {l : List UInt8} (hb : ∀ j, 1 ≤ j → j < 9 → (Tk.errN j).isPrefixOf l = false) : Tk.badF l = none := by
  unfold Tk.badF
  simp [List.find?, hb 1 (by decide) (by decide), hb 2 (by decide) (by decide), hb 3 (by decide) (by decide), hb 4 (by decide) (by decide), hb 5 (by decide) (by decide), hb 6 (by decide) (by decide), hb 7 (by decide) (by decide), hb 8 (by decide) (by decide)]
theorem skF_no {s l : List UInt8} (h : s.isPrefixOf l = false) : skF s l = l := by unfold skF; rw [h]; rfl
theorem skF_yes {s l : List UInt8} (h : s.isPrefixOf l = true) : skF s l = l.drop s.length := by unfold skF; rw [h]; rfl
/-- An error's text, of the program. -/
theorem badtext (i : Nat) (h1 : 1 ≤ i) (h8 : i ≤ 8) (w : World) (T : Tabs w) : Calls Tryz.prog 45 #[.agg #[.int .i64 4, .int .i64 (i : Nat), .string noB]] w fun e w' => e = .returned (.string (ba (Tk.errN i))) ∧ Below w.heap.size w w' := by
  have := vtext_any 4 i noB ⟨by omega, by omega⟩ w T
  rw [show textF 4 (i : Int) noB = ba (Tk.errN i) by
    rw [← fnm_err i (by omega), ← fnB_nat i h1 h8]; rfl] at this
  exact this
theorem badval (i : Nat) (h1 : 1 ≤ i) (h8 : i ≤ 8) (w : World) : Calls Tryz.prog 54 #[.int .i64 (i : Nat)] w fun e w' => e = .returned (.agg #[.int .i64 4, .int .i64 (i : Nat), .string noB]) ∧ Below w.heap.size w w' := by
  have := bad_any (i : Int) w
  rw [show badN (i : Int) = (i : Nat) by unfold badN; rw [kn_nat i h1 h8]; rfl] at this
  exact this
set_option maxHeartbeats 4000000 in
theorem fault_any {W w : World} {b : Nat} {l : List UInt8} (X : LX W b l w) : Calls Tryz.prog 27 #[.pointer (some ⟨b, 0, none⟩)] w (Ans W b w (Tk.badF l)) := by
  have hb := X.lt
  have H0 : Hid (St W b l (w.alloc tkO) (w.alloc tkO)) := St.refl (X.alloc tkO)
  generalize ho : Tk.badF l = o
  have HO : Hid (Tk.badF l = o) := ho
  clear ho X
  go_enter Tryz.func27, Tryz.ntmps27
  go_wp2
  go_loopw [4] (fun v wr => ∃ i : Nat, 1 ≤ i ∧ i ≤ 9 ∧ v = .int .i64 (i : Nat) ∧ Hid (∀ j, 1 ≤ j → j < i → (Tk.errN j).isPrefixOf l = false) ∧ Hid (St W b l (w.alloc tkO) wr)) (fun v _ => 9 - (intOf v).toNat)
  case atStart => exact ⟨1, Nat.le_refl _, by decide, rfl, fun j h1 h2 => by omega, H0⟩
  case round =>
    obtain ⟨i, h1, h9, rfl, HJ, HS⟩ := hrel
    clear H0
    by_cases h8 : i ≤ 8
    · have hi : (i : Int) ≤ 8 := by omega
      have BV := fun u => badval i h1 h8 u
      have BT := fun u (T : Tabs u) => badtext i h1 h8 u T
      have SK := fun u (Y : LX W b l u) => skip_any Y (Tk.errN i)
      cases hp : (Tk.errN i).isPrefixOf l
      · rw [hp] at SK
        have HN : Hid (∀ j, 1 ≤ j → j < i + 1 → (Tk.errN j).isPrefixOf l = false) := fun j h2 h3 => by
          by_cases e : j = i
          · rw [e]; exact hp
          · exact HJ.out j h2 (by omega)
        simp only [skF_no hp] at SK
        clear HJ HO
        generalize ba (Tk.errN i) = A at *
        go_wp2_with (first
          | (go_at_call 54; refine (BV _).mono ?_; rintro e w1 ⟨rfl, hs⟩; have HS1 : Hid (St W b l (w.alloc tkO) w1) := HS.out.bel hs; clear hs)
          | (go_at_call 45; refine (BT _ HS1.out.1.t.t.t).mono ?_; rintro e w2 ⟨rfl, hs⟩; have HS2 : Hid (St W b l (w.alloc tkO) w2) := HS1.out.bel hs; clear hs)
          | (go_at_call 52; refine (SK _ HS2.out.1).mono ?_; rintro e w3 ⟨rfl, hs⟩; have HS3 : Hid (St W b l (w.alloc tkO) w3) := HS2.out.step hs; clear hs))
        go_roundw
        case rel => exact ⟨i + 1, by omega, by omega, by simp, HN, HS3⟩
        case measure => simp [intOf]; omega
      · rw [hp] at SK
        have HN : Hid (o = some (.bad i, l.drop (Tk.errN i).length)) := by
          show _ = _
          rw [← HO.out, bad_hit h1 h8 HJ.out hp]
        simp only [skF_yes hp] at SK
        clear HJ HO
        generalize ba (Tk.errN i) = A at *
        generalize l.drop (Tk.errN i).length = m at *
        go_wp2_with (first
          | (go_at_call 54; refine (BV _).mono ?_; rintro e w1 ⟨rfl, hs⟩; have HS1 : Hid (St W b l (w.alloc tkO) w1) := HS.out.bel hs; clear hs)
          | (go_at_call 45; refine (BT _ HS1.out.1.t.t.t).mono ?_; rintro e w2 ⟨rfl, hs⟩; have HS2 : Hid (St W b l (w.alloc tkO) w2) := HS1.out.bel hs; clear hs)
          | (go_at_call 52; refine (SK _ HS2.out.1).mono ?_; rintro e w3 ⟨rfl, hs⟩; have HS3 : Hid (St W b m (w.alloc tkO) w3) := HS2.out.step hs; have R := HS3.out.put hb 6 (i : Nat) noB noB noB 0 0 false false; clear hs)
          | (refine wpList_store_run rfl 35 _ _ rfl _ _ _ rfl rfl R.out ?_))
        refine bodyPost_ret (HS3.out.ans hb (tcs 6 (i : Nat) noB noB noB 0 0 false false) rfl rfl rfl rfl) rfl ?_
        rw [HN.out]
        exact ⟨rfl, HS3.out.fin hb _⟩
    · have hi : ¬ (i : Int) ≤ 8 := by omega
      have HN : Hid (o = none) := by
        show _ = _
        rw [← HO.out, bad_miss (fun j h2 h3 => HJ.out j h2 (by omega))]
      have R := HS.out.put hb 0 0 noB noB noB 0 0 false false
      clear HJ HO
      go_wp2_with (refine wpList_store_run rfl 35 _ _ rfl _ _ _ rfl rfl R.out ?_)
      refine bodyPost_ret (HS.out.ans hb (tcs 0 0 noB noB noB 0 0 false false) rfl rfl rfl rfl) rfl ?_
      rw [HN.out]
      exact ⟨⟨⟨0, 0, noB, noB, noB, 0, 0, false, false⟩, rfl⟩, l, HS.out.fin hb _⟩
end Go.Proofs.YtdgnodijmbeajaaGreatDoor
