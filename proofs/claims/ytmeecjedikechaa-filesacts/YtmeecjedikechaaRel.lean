import Derived.Test.YtmeecjedikechaaRRename
import Derived.Sort.Walk0
import Derived.Test.YtmeecjedikechaaErrs
import Derived.Test.YtmeecjedikechaaRnS
import Derived.Test.YtmeecjedikechaaOper
/- The plain lists of files: names looked up behind put, drop and a failure. -/
namespace Go.Proofs.Ytmeecjedikechaa
open Go.Sort
set_option linter.unusedVariables false
set_option linter.unusedSimpArgs false
theorem look_nil (nm : ByteArray) : lookP nm [] = none := rfl
theorem look_cons (nm : ByteArray) (x : PF) (P : List PF) : lookP nm (x :: P) = if x.nm = nm then some x else lookP nm P := by
  unfold lookP; rw [List.find?_cons]; split <;> simp_all
theorem look_drop (a nm : ByteArray) : ∀ P : List PF, lookP nm (P.filter fun t => decide (t.nm ≠ a)) = if nm = a then none else lookP nm P
  | [] => by simp [look_nil]
  | x :: P => by
    have ih := look_drop a nm P
    rw [List.filter_cons]
    by_cases h : x.nm = a
    · rw [if_neg (by simpa using h), ih, look_cons]
      by_cases h2 : nm = a
      · simp [h2]
      · rw [if_neg h2, if_neg h2, if_neg (by rw [h]; exact fun e => h2 e.symm)]
    · rw [if_pos (by simpa using h), look_cons, look_cons, ih]
      by_cases h2 : x.nm = nm
      · rw [if_pos h2, if_neg (by rw [← h2]; exact h), if_pos h2]
      · rw [if_neg h2, if_neg h2]
theorem look_put_true (f : PF) (nm : ByteArray) : ∀ P : List PF, lookP nm (putP f true P) = if nm = f.nm then none else lookP nm P
  | [] => by simp [putP, look_nil]
  | x :: P => by
    have ih := look_put_true f nm P
    simp only [putP, Bool.true_or, Bool.true_eq_false, false_and, if_false, List.nil_append]
    by_cases h : x.nm = f.nm
    · rw [if_neg (by simpa using h), List.nil_append, ih, look_cons]
      by_cases h2 : nm = f.nm
      · simp [h2]
      · rw [if_neg h2, if_neg h2, if_neg (by rw [h]; exact fun e => h2 e.symm)]
    · rw [if_pos h, List.singleton_append, look_cons, look_cons, ih]
      by_cases h2 : x.nm = nm
      · rw [if_pos h2, if_neg (by rw [← h2]; exact h), if_pos h2]
      · rw [if_neg h2, if_neg h2]
theorem look_put (f : PF) (nm : ByteArray) : ∀ P : List PF, lookP nm (putP f false P) = if nm = f.nm then some f else lookP nm P
  | [] => by
           simp only [putP, Bool.false_eq_true, if_false, look_cons, look_nil]
           by_cases h : f.nm = nm
           · simp [h]
           · rw [if_neg h, if_neg (fun e => h e.symm)]
  | x :: P => by
    have ih := look_put f nm P
    have ih2 := look_put_true f nm P
    have key : ∀ (b : Bool) (Q : List PF), (b = true → lookP nm Q = if nm = f.nm then none else lookP nm P) → (b = false → lookP nm Q = if nm = f.nm then some f else lookP nm P) →
        lookP nm ((if b = true then [f] else []) ++ ((if x.nm ≠ f.nm then [x] else []) ++ Q)) = if nm = f.nm then some f else lookP nm (x :: P) := by
      intro b Q q1 q2
      rw [look_cons]
      cases b with
      | true =>
        rw [if_pos rfl, List.singleton_append, look_cons]
        by_cases h2 : nm = f.nm
        · rw [if_pos h2.symm, if_pos h2]
        · rw [if_neg (fun e => h2 e.symm), if_neg h2]
          have q := q1 rfl
          rw [if_neg h2] at q
          by_cases h : x.nm = f.nm
          · rw [if_neg (by simpa using h), List.nil_append, q, if_neg (by rw [h]; exact fun e => h2 e.symm)]
          · rw [if_pos h, List.singleton_append, look_cons, q]
      | false =>
        rw [if_neg (by simp), List.nil_append]
        have q := q2 rfl
        by_cases h : x.nm = f.nm
        · rw [if_neg (by simpa using h), List.nil_append, q]
          by_cases h2 : nm = f.nm
          · rw [if_pos h2, if_pos h2]
          · rw [if_neg h2, if_neg h2, if_neg (by rw [h]; exact fun e => h2 e.symm)]
        · rw [if_pos h, List.singleton_append, look_cons, q]
          by_cases h2 : x.nm = nm
          · rw [if_pos h2, if_neg (by rw [← h2]; exact h), if_pos h2]
          · rw [if_neg h2, if_neg h2]
    unfold putP
    have := key (gePB x f) (putP f (false || gePB x f) P) (fun e => by rw [e]; exact ih2) (fun e => by rw [e]; exact ih)
    simpa using this
theorem look_map (g : PF → PF) (hg : ∀ p, (g p).nm = p.nm) (nm : ByteArray) : ∀ P : List PF, lookP nm (P.map g) = (lookP nm P).map g
  | [] => rfl
  | x :: P => by
    rw [List.map_cons, look_cons, look_cons, hg, look_map g hg nm P]
    split <;> rfl
theorem bytes_inj {a b : ByteArray} (h : a.toList = b.toList) : a = b := Classical.byContradiction fun hn => by
  have := bne_list hn
  simp [h] at this
def Srt (P : List PF) : Prop := P.Pairwise fun a b => a.nm.toList < b.nm.toList
theorem put_true_eq (f : PF) : ∀ P : List PF, putP f true P = P.filter fun t => decide (t.nm ≠ f.nm)
  | [] => rfl
  | x :: P => by
    simp only [putP, Bool.true_or, Bool.true_eq_false, false_and, if_false, List.nil_append, put_true_eq f P, List.filter_cons]
    by_cases h : x.nm = f.nm <;> simp [h]
theorem mem_put (f y : PF) : ∀ P : List PF, y ∈ putP f false P → y = f ∨ y ∈ P
  | [], h => by simp [putP] at h; exact .inl h
  | x :: P, h => by
    unfold putP at h
    rw [List.mem_append, List.mem_append] at h
    rcases h with h | h | h
    · split at h
      · simp at h; exact .inl h
      · simp at h
    · split at h
      · simp at h; exact .inr (by simp [h])
      · simp at h
    · simp only [Bool.false_or] at h
      cases hg : gePB x f with
      | true => rw [hg, put_true_eq] at h; exact .inr (List.mem_cons_of_mem _ (List.mem_filter.1 h).1)
      | false => rw [hg] at h; exact (mem_put f y P h).imp id (List.mem_cons_of_mem _)
theorem ge_not {x f : PF} : gePB x f = true ↔ ¬ x.nm.toList < f.nm.toList := by
  unfold gePB; rw [bytesLess_eq]; simp
theorem srt_put (f : PF) : ∀ P : List PF, Srt P → Srt (putP f false P)
  | [], _ => by simp [putP, Srt]
  | x :: P, h => by
    have hx := (List.pairwise_cons.1 h).1
    have hP : Srt P := (List.pairwise_cons.1 h).2
    cases hg : gePB x f with
    | true =>
      have hle := ge_not.1 hg
      have e : putP f false (x :: P) = f :: ((x :: P).filter fun t => decide (t.nm ≠ f.nm)) := by
        rw [← put_true_eq]; simp [putP, hg]
      rw [e]
      refine List.pairwise_cons.2 ⟨fun y hy => ?_, List.Pairwise.filter _ h⟩
      have hy' := List.mem_filter.1 hy
      have hne : y.nm.toList ≠ f.nm.toList := fun e => (by simpa using hy'.2 : y.nm ≠ f.nm) (bytes_inj e)
      have hle2 : ¬ y.nm.toList < f.nm.toList := by
        rcases List.mem_cons.1 hy'.1 with rfl | hm
        · exact hle
        · exact fun hlt => hle (List.lt_trans (hx y hm) hlt)
      have h3 : f.nm.toList ≤ y.nm.toList := hle2
      rcases List.le_iff_lt_or_eq.1 h3 with h1 | h1
      · exact h1
      · exact absurd h1.symm hne
    | false =>
      have hlt : x.nm.toList < f.nm.toList := by
        have : ¬ gePB x f = true := by simp [hg]
        rw [ge_not] at this
        exact Classical.not_not.1 this
      have hne : x.nm ≠ f.nm := fun e => by rw [e] at hlt; exact absurd hlt (List.lt_irrefl _)
      have e : putP f false (x :: P) = x :: putP f false P := by simp [putP, hg, hne]
      rw [e]
      refine List.pairwise_cons.2 ⟨fun y hy => ?_, srt_put f P hP⟩
      rcases mem_put f y P hy with rfl | hm
      · exact hlt
      · exact hx y hm
end Go.Proofs.Ytmeecjedikechaa

/- The program's operations with a planned cut, and without power. -/
namespace Go.Proofs.Ytmeecjedikechaa
open Go.RowKit Go.Maps
open Go.WideMaps
set_option maxRecDepth 100000
set_option linter.unusedVariables false
section
variable {K : Nat → Prop} {base : Nat} {w : World} {b bm : Nat} {s : WS} {D : DataW Value} {F : List UInt8 → Option FileS}
set_option maxHeartbeats 1000000 in
theorem written_any (h : S K base w b bm s D F) :
    Calls Try.prog 29 #[ptrOf b] w fun e w' => e = .returned (.int .i64 s.written) ∧ w' = w := by
  have R := made_yes h.hB
  obtain ⟨-, -, -, -, -, c5⟩ := blk_cells h.hB
  clear h
  go_enter Try.func29, Try.ntmps29
  go_wp2_with (go_at_call 50; refine R.mono ?_; rintro e w' ⟨rfl, rfl⟩)
  go_ret
  exact ⟨rfl, rfl⟩
set_option maxHeartbeats 1000000 in
theorem synced_ok (h : S K base w b bm s D F) (hbase : base ≤ w.heap.size) (ho : s.off = false) (nm : ByteArray) (hnm : nm.size ≤ maxLen) (hg : goodB nm = true) {f : FileS} (hf : F nm.data.toList = some f) :
    Calls Try.prog 25 #[ptrOf b, .string nm] w fun e w' => e = .returned (.tuple #[.int .i64 f.sy, .int .i64 0]) ∧ S K base w' b bm s D F ∧ Bel K base w w' := by
  have FD := find_some h ho nm hnm hg hf
  have cf : Hid (∀ o, (w.alloc o).cell? ⟨f.fb, 1, none⟩ = some (.int .i64 f.sy)) := fun o => cell_alloc (fcells (h.files _ _ hf).2.1).2.1 o
  have HE : Hid (∀ o, S K base (w.alloc o) b bm s D F ∧ Bel K base w (w.alloc o)) := fun o => ⟨h.alloc _, h.refl.alloc hbase _⟩
  clear h ho hf hnm hg
  go_enter Try.func25, Try.ntmps25
  go_wp2_with (go_at_call 47; refine FD.mono ?_; rintro e w' ⟨rfl, o, rfl⟩; have cfo := cf.out o)
  go_ret2
  exact ⟨rfl, HE.out o⟩
set_option maxHeartbeats 1000000 in
theorem synced_none (h : S K base w b bm s D F) (hbase : base ≤ w.heap.size) (ho : s.off = false) (nm : ByteArray) (hnm : nm.size ≤ maxLen) (hg : goodB nm = true) (hf : F nm.data.toList = none) :
    Calls Try.prog 25 #[ptrOf b, .string nm] w fun e w' => e = .returned (.tuple #[.int .i64 0, .int .i64 6]) ∧ S K base w' b bm s D F ∧ Bel K base w w' := by
  have FD := find_none h ho nm hnm hg hf
  have HE : Hid (∀ o, S K base (w.alloc o) b bm s D F ∧ Bel K base w (w.alloc o)) := fun o => ⟨h.alloc _, h.refl.alloc hbase _⟩
  clear h ho hf hnm hg
  go_enter Try.func25, Try.ntmps25
  go_wp2_with (go_at_call 47; refine FD.mono ?_; rintro e w' ⟨rfl, o, rfl⟩)
  go_ret2
  exact ⟨rfl, HE.out o⟩
set_option maxHeartbeats 1000000 in
theorem synced_off (h : S K base w b bm s D F) (hbase : base ≤ w.heap.size) (ho : s.off = true) (nm : ByteArray) :
    Calls Try.prog 25 #[ptrOf b, .string nm] w fun e w' => e = .returned (.tuple #[.int .i64 0, .int .i64 13]) ∧ S K base w' b bm s D F ∧ Bel K base w w' := by
  have FD := find_off h.hB ho nm
  have HE : Hid (∀ o, S K base (w.alloc o) b bm s D F ∧ Bel K base w (w.alloc o)) := fun o => ⟨h.alloc _, h.refl.alloc hbase _⟩
  clear h ho
  go_enter Try.func25, Try.ntmps25
  go_wp2_with (go_at_call 47; refine FD.mono ?_; rintro e w' ⟨rfl, o, rfl⟩)
  go_ret2
  exact ⟨rfl, HE.out o⟩
set_option maxHeartbeats 1000000 in
theorem read_off (h : S K base w b bm s D F) (hbase : base ≤ w.heap.size) (ho : s.off = true) (nm : ByteArray) :
    Calls Try.prog 21 #[ptrOf b, .string nm] w fun e w' => e = .returned (.tuple #[.slice none 0 0, .int .i64 13]) ∧ S K base w' b bm s D F ∧ Bel K base w w' := by
  have FD := find_off h.hB ho nm
  have HE : Hid (∀ o, S K base (w.alloc o) b bm s D F ∧ Bel K base w (w.alloc o)) := fun o => ⟨h.alloc _, h.refl.alloc hbase _⟩
  clear h ho
  go_enter Try.func21, Try.ntmps21
  go_wp2_with (go_at_call 47; refine FD.mono ?_; rintro e w' ⟨rfl, o, rfl⟩)
  go_ret2
  exact ⟨rfl, HE.out o⟩
set_option maxHeartbeats 1000000 in
theorem sync_off (h : S K base w b bm s D F) (hbase : base ≤ w.heap.size) (ho : s.off = true) (nm : ByteArray) :
    Calls Try.prog 17 #[ptrOf b, .string nm] w fun e w' => e = .returned (.int .i64 13) ∧ S K base w' b bm s D F ∧ Bel K base w w' := by
  have FD := find_off h.hB ho nm
  have HE : Hid (∀ o, S K base (w.alloc o) b bm s D F ∧ Bel K base w (w.alloc o)) := fun o => ⟨h.alloc _, h.refl.alloc hbase _⟩
  have HB : Hid (∀ w', S K base w' b bm s D F → base ≤ w'.heap.size → ∀ o, S K base (w'.alloc o) b bm s D F ∧ Bel K base w' (w'.alloc o)) := fun w' h hb o => ⟨h.alloc o, h.refl.alloc hb o⟩
  have hs : Hid (base ≤ w.heap.size) := hbase
  clear h ho
  go_enter Try.func17, Try.ntmps17
  go_wp2_with (go_at_call 47; refine FD.mono ?_; rintro e w' ⟨rfl, o, rfl⟩)
  go_ret
  have h1 := HE.out o
  have h2 := HB.out _ h1.1 (by have := hs.out; simp; omega) (.cells #[.pointer none] 73)
  exact ⟨rfl, h2.1, h1.2.trans h2.2⟩
set_option maxHeartbeats 1000000 in
/-- Create, where the cut is planned for it. -/
theorem create_cut (h : S K base w b bm s D F) (hbase : base ≤ w.heap.size) (ho : s.off = false) (nm : ByteArray) (hn : nm.size ≤ maxLen) (hg : goodB nm = true)
    (hroom : (F nm.data.toList).isSome = true ∨ Maps.size D < 16) (h1 : s.left = 1) (hkeep : 0 ≤ s.keep) (hkeep' : s.keep ≤ 9223372036854775807) :
    Calls Try.prog 15 #[ptrOf b, .string nm] w fun e w' => e = .returned (.int .i64 13) ∧
      S K base w' b bm { stepped s with off := true, keep := 0 } D (fun l => (F l).map (cutf s.keep)) ∧ Bel K base w w' := by
  have hS : S K base (crW w b nm) b bm s D F := ((h.alloc _).alloc _).alloc _
  have hBel : Hid (Bel K base w (crW w b nm)) := ((h.refl.alloc hbase _).alloc (by simp; omega) _).alloc (by simp; omega) _
  have R := refusal_on hS.hB ho (w.heap.size + 2) 1 [nm] (by simp [maxLen]) (by
    intro j hj; simp at hj; subst hj
    exact cell0 (by have := heap_new ((w.alloc (.cells #[ptrOf b] 23)).alloc (.cells #[.string nm] 9)) (.cells #[.string nm] 9); rw [size_alloc, size_alloc] at this; exact this)) (by intro j hj; simp at hj; subst hj; simpa using hn)
  have e8 : refE false [nm] = 0 := by simp [refE, hg]
  rw [e8] at R
  have RM := room_any hS nm hn
  have er : ((F nm.data.toList).isSome || decide ((Maps.size D : Int) < 16)) = true := by
    rcases hroom with e | e
    · simp [e]
    · simp; right; omega
  rw [er] at RM
  have O : Hid _ := fun dv => operate_cut hS h1 hkeep hkeep' (by simp [crW]; omega) dv
  have mk := mkF
  clear e8 er hS h hroom h1 hg ho hn hkeep hkeep'
  go_enter Try.func15, Try.ntmps15
  go_wp2_with (first
    | (go_at_call 43; refine R.mono ?_; rintro e w' ⟨rfl, rfl⟩)
    | (go_at_call 44; refine RM.mono ?_; rintro e w' ⟨rfl, rfl⟩)
    | (go_at_call 45; refine Calls.mono (O.out _) ?_; rintro e w' ⟨rfl, h2, h3⟩))
  go_ret
  exact ⟨rfl, h2, hBel.out.trans h3⟩
end
end Go.Proofs.Ytmeecjedikechaa

/- The program's operations that are refused, exactly; Remove and Rename, cut. -/
namespace Go.Proofs.Ytmeecjedikechaa
open Go.RowKit Go.Maps
open Go.WideMaps
set_option maxRecDepth 100000
set_option linter.unusedVariables false
/-- What find refuses with; 0: nothing. -/
def findE (s : WS) (F : List UInt8 → Option FileS) (nm : ByteArray) : Int := if s.off = true then 13 else if goodB nm = false then 8 else if F nm.data.toList = none then 6 else 0
section
variable {K : Nat → Prop} {base : Nat} {w : World} {b bm : Nat} {s : WS} {D : DataW Value} {F : List UInt8 → Option FileS}
theorem find_err (h : S K base w b bm s D F) (nm : ByteArray) (hn : nm.size ≤ maxLen) (hE : findE s F nm ≠ 0) :
    Calls Try.prog 47 #[ptrOf b, .string nm] w fun e w' => e = .returned (.tuple #[.pointer none, .int .i64 (findE s F nm)]) ∧ ∃ o, w' = w.alloc o := by
  unfold findE at *
  cases ho : s.off with
  | true => simpa [ho] using find_off h.hB ho nm
  | false =>
    cases hg : goodB nm with
    | false => simpa [ho, hg] using find_bad h.hB ho nm hn hg
    | true =>
      cases hf : F nm.data.toList with
      | none => simpa [ho, hg, hf] using find_none h ho nm hn hg hf
      | some f => simp [ho, hg, hf] at hE
set_option maxHeartbeats 1000000 in
theorem sync_err (h : S K base w b bm s D F) (hbase : base ≤ w.heap.size) (nm : ByteArray) (hn : nm.size ≤ maxLen) (hE : findE s F nm ≠ 0) :
    Calls Try.prog 17 #[ptrOf b, .string nm] w fun e w' => e = .returned (.int .i64 (findE s F nm)) ∧ S K base w' b bm s D F ∧ Bel K base w w' := by
  have HE : Hid (∀ o, S K base (w.alloc o) b bm s D F ∧ Bel K base w (w.alloc o)) := fun o => ⟨h.alloc _, h.refl.alloc hbase _⟩
  have HB : Hid (∀ w', S K base w' b bm s D F → base ≤ w'.heap.size → ∀ o, S K base (w'.alloc o) b bm s D F ∧ Bel K base w' (w'.alloc o)) := fun w' h hb o => ⟨h.alloc o, h.refl.alloc hb o⟩
  have FD := find_err h nm hn hE
  generalize findE s F nm = E at *
  have hE' : (E == 0) = false := by simpa using hE
  clear h hn
  go_enter Try.func17, Try.ntmps17
  go_wp2_with (go_at_call 47; refine FD.mono ?_; rintro e w' ⟨rfl, o, rfl⟩)
  go_ret
  have E1 := HE.out o
  have E2 := HB.out _ E1.1 (by have := E1.2.size; omega) (.cells #[.pointer none] 73)
  exact ⟨rfl, E2.1, E1.2.trans E2.2⟩
set_option maxHeartbeats 1000000 in
theorem append_err (h : S K base w b bm s D F) (hbase : base ≤ w.heap.size) (nm : ByteArray) (hn : nm.size ≤ maxLen) (ba : Option Addr) (bn bc : Nat) (hE : findE s F nm ≠ 0) :
    Calls Try.prog 16 #[ptrOf b, .string nm, .slice ba bn bc] w fun e w' => e = .returned (.int .i64 (findE s F nm)) ∧ S K base w' b bm s D F ∧ Bel K base w w' := by
  have hS := (h.alloc (.cells #[ptrOf b] 23)).alloc (.cells #[.slice ba bn bc] 29)
  have HE : Hid (∀ o, S K base (((w.alloc (.cells #[ptrOf b] 23)).alloc (.cells #[.slice ba bn bc] 29)).alloc o) b bm s D F ∧ Bel K base w (((w.alloc (.cells #[ptrOf b] 23)).alloc (.cells #[.slice ba bn bc] 29)).alloc o)) := fun o => ⟨hS.alloc _, ((h.refl.alloc hbase _).alloc (by simp; omega) _).alloc (by simp; omega) _⟩
  have HB : Hid (∀ w', S K base w' b bm s D F → base ≤ w'.heap.size → ∀ o, S K base (w'.alloc o) b bm s D F ∧ Bel K base w' (w'.alloc o)) := fun w' h hb o => ⟨h.alloc o, h.refl.alloc hb o⟩
  have FD := find_err hS nm hn hE
  generalize findE s F nm = E at *
  have hE' : (E == 0) = false := by simpa using hE
  clear h hn hS
  go_enter Try.func16, Try.ntmps16
  go_wp2_with (go_at_call 47; refine FD.mono ?_; rintro e w' ⟨rfl, o, rfl⟩)
  go_ret
  have E1 := HE.out o
  have E2 := HB.out _ E1.1 (by have := E1.2.size; omega) (.cells #[.pointer none] 73)
  exact ⟨rfl, E2.1, E1.2.trans E2.2⟩
set_option maxHeartbeats 1000000 in
theorem remove_err (h : S K base w b bm s D F) (hbase : base ≤ w.heap.size) (nm : ByteArray) (hn : nm.size ≤ maxLen) (hE : findE s F nm ≠ 0) :
    Calls Try.prog 26 #[ptrOf b, .string nm] w fun e w' => e = .returned (.int .i64 (findE s F nm)) ∧ S K base w' b bm s D F ∧ Bel K base w w' := by
  have hS := (h.alloc (.cells #[ptrOf b] 23)).alloc (.cells #[.string nm] 9)
  have HE : Hid (∀ o, S K base ((rmW w b nm).alloc o) b bm s D F ∧ Bel K base w ((rmW w b nm).alloc o)) := fun o => ⟨hS.alloc _, ((h.refl.alloc hbase _).alloc (by simp; omega) _).alloc (by simp; omega) _⟩
  have FD := find_err hS nm hn hE
  generalize findE s F nm = E at *
  have hE' : (E == 0) = false := by simpa using hE
  clear h hn hS
  go_enter Try.func26, Try.ntmps26
  go_wp2_with (go_at_call 47; refine FD.mono ?_; rintro e w' ⟨rfl, o, rfl⟩)
  go_ret
  exact ⟨rfl, HE.out o⟩
set_option maxHeartbeats 1000000 in
theorem read_err (h : S K base w b bm s D F) (hbase : base ≤ w.heap.size) (nm : ByteArray) (hn : nm.size ≤ maxLen) (hE : findE s F nm ≠ 0) :
    Calls Try.prog 21 #[ptrOf b, .string nm] w fun e w' => e = .returned (.tuple #[.slice none 0 0, .int .i64 (findE s F nm)]) ∧ S K base w' b bm s D F ∧ Bel K base w w' := by
  have HE : Hid (∀ o, S K base (w.alloc o) b bm s D F ∧ Bel K base w (w.alloc o)) := fun o => ⟨h.alloc _, h.refl.alloc hbase _⟩
  have FD := find_err h nm hn hE
  generalize findE s F nm = E at *
  have hE' : (E == 0) = false := by simpa using hE
  clear h hn
  go_enter Try.func21, Try.ntmps21
  go_wp2_with (go_at_call 47; refine FD.mono ?_; rintro e w' ⟨rfl, o, rfl⟩)
  go_ret2
  exact ⟨rfl, HE.out o⟩
set_option maxHeartbeats 1000000 in
theorem synced_err (h : S K base w b bm s D F) (hbase : base ≤ w.heap.size) (nm : ByteArray) (hn : nm.size ≤ maxLen) (hE : findE s F nm ≠ 0) :
    Calls Try.prog 25 #[ptrOf b, .string nm] w fun e w' => e = .returned (.tuple #[.int .i64 0, .int .i64 (findE s F nm)]) ∧ S K base w' b bm s D F ∧ Bel K base w w' := by
  have HE : Hid (∀ o, S K base (w.alloc o) b bm s D F ∧ Bel K base w (w.alloc o)) := fun o => ⟨h.alloc _, h.refl.alloc hbase _⟩
  have FD := find_err h nm hn hE
  generalize findE s F nm = E at *
  have hE' : (E == 0) = false := by simpa using hE
  clear h hn
  go_enter Try.func25, Try.ntmps25
  go_wp2_with (go_at_call 47; refine FD.mono ?_; rintro e w' ⟨rfl, o, rfl⟩)
  go_ret2
  exact ⟨rfl, HE.out o⟩
set_option maxHeartbeats 1000000 in
theorem remove_cut (h : S K base w b bm s D F) (hbase : base ≤ w.heap.size) (ho : s.off = false) (nm : ByteArray) (hn : nm.size ≤ maxLen) (hg : goodB nm = true) {f : FileS} (hf : F nm.data.toList = some f)
    (h1 : s.left = 1) (hkeep : 0 ≤ s.keep) (hkeep' : s.keep ≤ 9223372036854775807) :
    Calls Try.prog 26 #[ptrOf b, .string nm] w fun e w' => e = .returned (.int .i64 13) ∧
      S K base w' b bm { stepped s with off := true, keep := 0 } D (fun l => (F l).map (cutf s.keep)) ∧ Bel K base w w' := by
  have hS := (h.alloc (.cells #[ptrOf b] 23)).alloc (.cells #[.string nm] 9)
  have FD := find_some hS ho nm hn hg hf
  have HE : Hid (∀ o, Bel K base w ((rmW w b nm).alloc o)) := fun o => ((h.refl.alloc hbase _).alloc (by simp; omega) _).alloc (by simp; omega) _
  have HO : Hid _ := fun o dv => operate_cut (hS.alloc o) h1 hkeep hkeep' (by simp; omega) dv
  have mk := mkF
  clear h hf h1 hkeep hkeep' hg ho hn hS
  go_enter Try.func26, Try.ntmps26
  go_wp2_with (first
    | (go_at_call 47; refine FD.mono ?_; rintro e w' ⟨rfl, o, rfl⟩)
    | (go_at_call 45; refine Calls.mono (HO.out o _) ?_; rintro e w' ⟨rfl, h2, h3⟩))
  go_ret
  exact ⟨rfl, h2, (HE.out o).trans h3⟩
set_option maxHeartbeats 1000000 in
theorem rename_cut (h : S K base w b bm s D F) (hbase : base ≤ w.heap.size) (ho : s.off = false) (nm to : ByteArray) (hn : nm.size ≤ maxLen) (ht : to.size ≤ maxLen) (hg : goodB nm = true) (hg' : goodB to = true) {f : FileS} (hf : F nm.data.toList = some f)
    (h1 : s.left = 1) (hkeep : 0 ≤ s.keep) (hkeep' : s.keep ≤ 9223372036854775807) :
    Calls Try.prog 23 #[ptrOf b, .string nm, .string to] w fun e w' => e = .returned (.int .i64 13) ∧
      S K base w' b bm { stepped s with off := true, keep := 0 } D (fun l => (F l).map (cutf s.keep)) ∧ Bel K base w w' := by
  have R := rename_refusal h hbase ho nm to hn ht
  have e8 : refE false [nm, to] = 0 := by simp [refE, hg, hg']
  rw [e8] at R
  obtain ⟨hS, hb, -⟩ := rnW_facts h hbase nm to
  have FD := find_some hS ho nm hn hg hf
  have hsz := hb.size
  have HE : Hid (∀ o, Bel K base w (((rnW w b nm to).alloc o).alloc (.cells #[ptrOf f.fb] 73))) := fun o => (hb.alloc (by omega) _).alloc (by simp; omega) _
  have HO : Hid _ := fun o dv => operate_cut ((hS.alloc o).alloc (.cells #[ptrOf f.fb] 73)) h1 hkeep hkeep' (by simp; omega) dv
  have mk := mkF
  clear h hf h1 hkeep hkeep' hg hg' ho hn ht e8 hS hb hsz
  go_enter Try.func23, Try.ntmps23
  go_wp2_with (first
    | (go_at_call 43; refine R.mono ?_; rintro e w' ⟨rfl, rfl⟩)
    | (go_at_call 47; refine FD.mono ?_; rintro e w' ⟨rfl, o, rfl⟩)
    | (go_at_call 45; refine Calls.mono (HO.out o _) ?_; rintro e w' ⟨rfl, h2, h3⟩))
  go_ret
  exact ⟨rfl, h2, (HE.out o).trans h3⟩
end
end Go.Proofs.Ytmeecjedikechaa

/- The program's world and the reference's, held against each other, plainly. -/
namespace Go.Proofs.Ytmeecjedikechaa
open Go.RowKit Go.Maps
set_option linter.unusedVariables false
set_option linter.unusedSimpArgs false
def inF (f : FileS) : List UInt8 × Nat := (f.data, f.sy)
def inP (p : PF) : List UInt8 × Nat := (p.data, p.sy)
structure Rel (s : WS) (F : List UInt8 → Option FileS) (r : RS) (P : List PF) : Prop where
  off : r.off = s.off
  cut : r.cut = s.left
  keep : s.left ≠ 0 → r.keep = s.keep
  ops : r.ops = s.ops
  written : r.written = s.written
  look : ∀ nm : ByteArray, (F nm.data.toList).map inF = (lookP nm P).map inP
  srt : Srt P
  c0 : 0 ≤ s.left
  cm : s.left ≤ 9223372036854775807
  k0 : 0 ≤ r.keep
  km : r.keep ≤ 9223372036854775807
  l0 : 0 ≤ s.keep
  lm : s.keep ≤ 9223372036854775807
variable {s : WS} {F : List UInt8 → Option FileS} {r : RS} {P : List PF}
theorem Rel.step (h : Rel s F r P) (h1 : s.left ≠ 1) : Rel (stepped s) F (stepR r) P := by
  have e := h.cut
  have c0 := h.c0
  have cm := h.cm
  refine ⟨h.off, ?_, fun hn => ?_, ?_, h.written, h.look, h.srt, ?_, ?_, h.k0, h.km, h.l0, h.lm⟩
  · simp only [stepped, stepR, e]
  · refine h.keep fun h0 => hn ?_
    simp [stepped, h0]
  · simp only [stepped, stepR, h.ops]
  · simp only [stepped]; split <;> omega
  · simp only [stepped]; split <;> omega
theorem Rel.fail (h : Rel s F r P) (h1 : s.left = 1) : Rel { stepped s with off := true, keep := 0 } (fun l => (F l).map (cutf s.keep)) { stepR r with off := true } (P.map (cutP r.keep)) := by
  have e := h.cut
  have hk : r.keep = s.keep := h.keep (by omega)
  refine ⟨rfl, ?_, fun hn => ?_, ?_, h.written, fun nm => ?_, ?_, ?_, ?_, h.k0, h.km, Int.le_refl _, by show (0 : Int) ≤ _; decide⟩
  · simp only [stepped, stepR, e]
  · exact absurd (by simp [stepped, h1]) hn
  · simp only [stepped, stepR, h.ops]
  · rw [look_map (cutP r.keep) (fun p => rfl), hk]
    have hl := h.look nm
    cases hf : F nm.data.toList with
    | none =>
      cases hp : lookP nm P with
      | none => rfl
      | some p => rw [hf, hp] at hl; simp at hl
    | some f =>
      cases hp : lookP nm P with
      | none => rw [hf, hp] at hl; simp at hl
      | some p =>
        rw [hf, hp] at hl
        simp only [Option.map_some, Option.some.injEq, inF, inP, Prod.mk.injEq] at hl
        simp only [Option.map_some, Option.some.injEq, inF, inP, cutf, cutP, cutN, cutNP, Prod.mk.injEq, hl.1, hl.2, and_self]
  · exact List.Pairwise.map _ (fun a b hab => hab) h.srt
  · simp [stepped, h1]
  · simp [stepped, h1]
theorem Rel.put (h : Rel s F r P) {nm : ByteArray} {f : FileS} {p : PF} (hn : p.nm = nm) (hp : inF f = inP p) : Rel s (upd F nm.data.toList (some f)) r (putP p false P) := by
  refine ⟨h.off, h.cut, h.keep, h.ops, h.written, fun x => ?_, srt_put p P h.srt, h.c0, h.cm, h.k0, h.km, h.l0, h.lm⟩
  rw [look_put]
  by_cases e : x = nm
  · subst e
    rw [upd_same, if_pos hn.symm]
    simp [hp]
  · rw [upd_other _ (fun e2 => e (WideShapes.bytes_inj e2)), if_neg (by rw [hn]; exact e)]
    exact h.look x
theorem Rel.drop (h : Rel s F r P) (nm : ByteArray) : Rel s (upd F nm.data.toList none) r (P.filter fun t => decide (t.nm ≠ nm)) := by
  refine ⟨h.off, h.cut, h.keep, h.ops, h.written, fun x => ?_, List.Pairwise.filter _ h.srt, h.c0, h.cm, h.k0, h.km, h.l0, h.lm⟩
  rw [look_drop]
  by_cases e : x = nm
  · subst e
    rw [upd_same, if_pos rfl]
    rfl
  · rw [upd_other _ (fun e2 => e (WideShapes.bytes_inj e2)), if_neg e]
    exact h.look x
/-- A name that find refuses is refused by the reference with the same. -/
theorem Rel.find (h : Rel s F r P) (nm : ByteArray) : findE s F nm = if r.off = true then 13 else if goodB nm = false then 8 else if lookP nm P = none then 6 else 0 := by
  have hl := h.look nm
  have : F nm.data.toList = none ↔ lookP nm P = none := by
    cases hf : F nm.data.toList <;> cases hp : lookP nm P <;> rw [hf, hp] at hl <;> simp at hl ⊢
  unfold findE
  rw [h.off]
  by_cases hn : F nm.data.toList = none
  · rw [if_pos hn, if_pos (this.1 hn)]
  · rw [if_neg hn, if_neg (fun e => hn (this.2 e))]
end Go.Proofs.Ytmeecjedikechaa
