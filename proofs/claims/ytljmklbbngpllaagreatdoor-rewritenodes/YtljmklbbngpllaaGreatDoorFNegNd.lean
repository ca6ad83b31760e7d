/- FLev, FNeg. -/
import Derived.Test.YtljmklbbngpllaaGreatDoorFRowNd
set_option linter.unusedVariables false
set_option linter.unusedSimpArgs false
set_option maxHeartbeats 16000000
set_option maxRecDepth 100000
namespace Go.Proofs.YtljmklbbngpllaaGreatDoor
open Go.RowKit Go.Fm
theorem dU {W w w1 : World} {b : Nat} {es : Array Value} {t : T} {r : List Tk.Tok} (hb : b < w.heap.size) (h1 : NK (fun i => w.heap.size < i) w1 es t) (h2 : Sp W b r (w.alloc (.cells nd0 28)) w1) :
  Hid ((Instr.storeAt 28 (.pointer (some ⟨w.heap.size, 0, none⟩)) (.agg es)).run Tryz.prog w1 = .ok () (w1.setRow w.heap.size es)) ∧ Hid (w1.heap[w.heap.size]? = some (.cells nd0 28)) ∧ Hid (es.size = 18) ∧
  Hid (NK (fun i => w.heap.size ≤ i) (w1.setRow w.heap.size es) es t ∧ Sp W b r w (w1.setRow w.heap.size es)) := by
 have hg := h2.kept (heap_alloc_new w _) (by omega)
 exact ⟨h1.sto hg rfl, hg, h1.size, (h1.grown (aC _ _ _) (fun g e hk => by cases e; exact Nat.lt_irrefl _ hk)).mono (fun i hi _ => Nat.le_of_lt hi), (h2.jB).grown (aC _ _ _) (Nat.le_refl _) hb⟩
theorem oJ {w w1 : World} {es : Array Value} {t : T} (h : NK (fun i => (w.alloc (.cells nd0 28)).heap.size ≤ i) w1 es t) : NK (fun i => w.heap.size < i) w1 es t :=
 h.mono (fun i hi _ => by simp at hi; omega)
theorem nI {W : World} {b : Nat} {lv pf : Nat} (h1 : 1 ≤ lv) (h5 : lv ≤ 5) (hE : ∀ args u, (callFunc pf args).run Tryz.prog u = .ok (.enter pf args) u) {ts : List Tk.Tok} (hn : ts.length ≤ 256)
  (C : ∀ ts' u, ts'.length ≤ ts.length → PR W b ts' u → Calls Tryz.prog pf #[.pointer (some ⟨b, 0, none⟩)] u (PO W b u (PP (lv + 1) ts'))) {w : World} (X : PR W b ts w) :
  Calls Tryz.prog 121 #[.pointer (some ⟨b, 0, none⟩), .int .i64 (lv : Nat), .func (.func pf) #[] #[]] w (PO W b w (PP lv ts)) := by
 have C0 := C ts (w.alloc (.cells nd0 28)) (Nat.le_refl _) (X.alloc _)
 have e : PP lv ts = (PP (lv + 1) ts).bind fun p => dJ (PP (lv + 1)) lv p.2.length p.1 p.2 := aIQ upF trF h1 h5 ts
 rw [e]
 cases hP : PP (lv + 1) ts with
 | none =>
  rw [hP] at C0
  exact aFo (W := W) hE X.lt C0
 | some p =>
  rw [hP] at C0
  have := jP upF trF (by omega) _ p.1 p.2 hP
  exact aFp h1 h5 hE (by omega) (fun ts' u hl hx => C ts' u (by omega) hx) X.lt C0
theorem e82 : ∀ args u, (callFunc 122 args).run Tryz.prog u = .ok (.enter 122 args) u := enters_of Tryz.func122 (by kernel_rfl) rfl
theorem aHe {W : World} {b : Nat} {ts : List Tk.Tok} (hn : ts.length ≤ 256) (C : ∀ ts' u, ts'.length ≤ ts.length → PR W b ts' u → Calls Tryz.prog 122 #[.pointer (some ⟨b, 0, none⟩)] u (PO W b u (PP 2 ts'))) {w : World} (X : PR W b ts w) :
  Calls Tryz.prog 79 #[.pointer (some ⟨b, 0, none⟩)] w (PO W b w (PP 1 ts)) := by
 have R := nI (lv := 1) (by decide) (by decide) e82 hn C (X.alloc (.cells nd0 28))
 have hb := X.lt
 clear C X
 cases hP : PP 1 ts with
 | none =>
  rw [hP] at R
  have R' : Calls Tryz.prog 121 #[.pointer (some ⟨b, 0, none⟩), .int .i64 1, .func (.func 122) #[] #[]] (w.alloc (.cells nd0 28)) fun e w' => e = .panicked bQ ∧ (w.alloc (.cells nd0 28)).grownBy w' (some b) := R
  clear R hP
  go_enter Tryz.func79, Tryz.ntmps79
  go_wp2_with (go_at_call 121; refine R'.mono ?_; rintro e w1 ⟨rfl, hg⟩)
  exact ⟨rfl, rfl, aM (World.grownBy_alloc _ _ _) hg⟩
 | some p =>
  rw [hP] at R
  have R' : Calls Tryz.prog 121 #[.pointer (some ⟨b, 0, none⟩), .int .i64 1, .func (.func 122) #[] #[]] (w.alloc (.cells nd0 28)) fun e w1 => ∃ es, e = .returned (.agg es) ∧ Hid ((Instr.storeAt 28 (.pointer (some ⟨w.heap.size, 0, none⟩)) (.agg es)).run Tryz.prog w1 = .ok () (w1.setRow w.heap.size es)) ∧ Hid (w1.heap[w.heap.size]? = some (.cells nd0 28)) ∧ Hid (es.size = 18) ∧
    Hid (NK (fun i => w.heap.size ≤ i) (w1.setRow w.heap.size es) es p.1 ∧ Sp W b p.2 w (w1.setRow w.heap.size es)) := R.mono (by
   rintro e w1 ⟨es, rfl, h1, h2⟩
   exact ⟨es, rfl, dU hb (oJ h1) h2⟩)
  clear R hP
  go_enter Tryz.func79, Tryz.ntmps79
  go_wp2_with (first
   | (go_at_call 121; refine R'.mono ?_; rintro e w1 ⟨es, rfl, RS, HG, HZ, HF⟩)
   | (refine aD rfl 28 _ _ rfl _ _ _ rfl rfl RS.out ?_))
  exact bodyPost_ret (bP HG.out HZ.out rfl rfl) rfl ⟨es, rfl, HF.out.1, HF.out.2⟩
theorem e125 : ∀ args u, (callFunc 158 args).run Tryz.prog u = .ok (.enter 158 args) u := enters_of Tryz.func158 (by kernel_rfl) rfl
theorem aHf {W : World} {b : Nat} {ts : List Tk.Tok} (hn : ts.length ≤ 256) (C : ∀ ts' u, ts'.length ≤ ts.length → PR W b ts' u → Calls Tryz.prog 158 #[.pointer (some ⟨b, 0, none⟩)] u (PO W b u (PP 3 ts'))) {w : World} (X : PR W b ts w) :
  Calls Tryz.prog 122 #[.pointer (some ⟨b, 0, none⟩)] w (PO W b w (PP 2 ts)) := by
 have R := nI (lv := 2) (by decide) (by decide) e125 hn C (X.alloc (.cells nd0 28))
 have hb := X.lt
 clear C X
 cases hP : PP 2 ts with
 | none =>
  rw [hP] at R
  have R' : Calls Tryz.prog 121 #[.pointer (some ⟨b, 0, none⟩), .int .i64 2, .func (.func 158) #[] #[]] (w.alloc (.cells nd0 28)) fun e w' => e = .panicked bQ ∧ (w.alloc (.cells nd0 28)).grownBy w' (some b) := R
  clear R hP
  go_enter Tryz.func122, Tryz.ntmps122
  go_wp2_with (go_at_call 121; refine R'.mono ?_; rintro e w1 ⟨rfl, hg⟩)
  exact ⟨rfl, rfl, aM (World.grownBy_alloc _ _ _) hg⟩
 | some p =>
  rw [hP] at R
  have R' : Calls Tryz.prog 121 #[.pointer (some ⟨b, 0, none⟩), .int .i64 2, .func (.func 158) #[] #[]] (w.alloc (.cells nd0 28)) fun e w1 => ∃ es, e = .returned (.agg es) ∧ Hid ((Instr.storeAt 28 (.pointer (some ⟨w.heap.size, 0, none⟩)) (.agg es)).run Tryz.prog w1 = .ok () (w1.setRow w.heap.size es)) ∧ Hid (w1.heap[w.heap.size]? = some (.cells nd0 28)) ∧ Hid (es.size = 18) ∧
    Hid (NK (fun i => w.heap.size ≤ i) (w1.setRow w.heap.size es) es p.1 ∧ Sp W b p.2 w (w1.setRow w.heap.size es)) := R.mono (by
   rintro e w1 ⟨es, rfl, h1, h2⟩
   exact ⟨es, rfl, dU hb (oJ h1) h2⟩)
  clear R hP
  go_enter Tryz.func122, Tryz.ntmps122
  go_wp2_with (first
   | (go_at_call 121; refine R'.mono ?_; rintro e w1 ⟨es, rfl, RS, HG, HZ, HF⟩)
   | (refine aD rfl 28 _ _ rfl _ _ _ rfl rfl RS.out ?_))
  exact bodyPost_ret (bP HG.out HZ.out rfl rfl) rfl ⟨es, rfl, HF.out.1, HF.out.2⟩
theorem e167 : ∀ args u, (callFunc 201 args).run Tryz.prog u = .ok (.enter 201 args) u := enters_of Tryz.func201 (by kernel_rfl) rfl
theorem aHg {W : World} {b : Nat} {ts : List Tk.Tok} (hn : ts.length ≤ 256) (C : ∀ ts' u, ts'.length ≤ ts.length → PR W b ts' u → Calls Tryz.prog 201 #[.pointer (some ⟨b, 0, none⟩)] u (PO W b u (PP 4 ts'))) {w : World} (X : PR W b ts w) :
  Calls Tryz.prog 158 #[.pointer (some ⟨b, 0, none⟩)] w (PO W b w (PP 3 ts)) := by
 have R := nI (lv := 3) (by decide) (by decide) e167 hn C (X.alloc (.cells nd0 28))
 have hb := X.lt
 clear C X
 cases hP : PP 3 ts with
 | none =>
  rw [hP] at R
  have R' : Calls Tryz.prog 121 #[.pointer (some ⟨b, 0, none⟩), .int .i64 3, .func (.func 201) #[] #[]] (w.alloc (.cells nd0 28)) fun e w' => e = .panicked bQ ∧ (w.alloc (.cells nd0 28)).grownBy w' (some b) := R
  clear R hP
  go_enter Tryz.func158, Tryz.ntmps158
  go_wp2_with (go_at_call 121; refine R'.mono ?_; rintro e w1 ⟨rfl, hg⟩)
  exact ⟨rfl, rfl, aM (World.grownBy_alloc _ _ _) hg⟩
 | some p =>
  rw [hP] at R
  have R' : Calls Tryz.prog 121 #[.pointer (some ⟨b, 0, none⟩), .int .i64 3, .func (.func 201) #[] #[]] (w.alloc (.cells nd0 28)) fun e w1 => ∃ es, e = .returned (.agg es) ∧ Hid ((Instr.storeAt 28 (.pointer (some ⟨w.heap.size, 0, none⟩)) (.agg es)).run Tryz.prog w1 = .ok () (w1.setRow w.heap.size es)) ∧ Hid (w1.heap[w.heap.size]? = some (.cells nd0 28)) ∧ Hid (es.size = 18) ∧
    Hid (NK (fun i => w.heap.size ≤ i) (w1.setRow w.heap.size es) es p.1 ∧ Sp W b p.2 w (w1.setRow w.heap.size es)) := R.mono (by
   rintro e w1 ⟨es, rfl, h1, h2⟩
   exact ⟨es, rfl, dU hb (oJ h1) h2⟩)
  clear R hP
  go_enter Tryz.func158, Tryz.ntmps158
  go_wp2_with (first
   | (go_at_call 121; refine R'.mono ?_; rintro e w1 ⟨es, rfl, RS, HG, HZ, HF⟩)
   | (refine aD rfl 28 _ _ rfl _ _ _ rfl rfl RS.out ?_))
  exact bodyPost_ret (bP HG.out HZ.out rfl rfl) rfl ⟨es, rfl, HF.out.1, HF.out.2⟩
theorem aKX : ∀ args u, (callFunc 227 args).run Tryz.prog u = .ok (.enter 227 args) u := enters_of Tryz.func227 (by kernel_rfl) rfl
theorem aHh {W : World} {b : Nat} {ts : List Tk.Tok} (hn : ts.length ≤ 256) (C : ∀ ts' u, ts'.length ≤ ts.length → PR W b ts' u → Calls Tryz.prog 227 #[.pointer (some ⟨b, 0, none⟩)] u (PO W b u (PP 5 ts'))) {w : World} (X : PR W b ts w) :
  Calls Tryz.prog 201 #[.pointer (some ⟨b, 0, none⟩)] w (PO W b w (PP 4 ts)) := by
 have R := nI (lv := 4) (by decide) (by decide) aKX hn C (X.alloc (.cells nd0 28))
 have hb := X.lt
 clear C X
 cases hP : PP 4 ts with
 | none =>
  rw [hP] at R
  have R' : Calls Tryz.prog 121 #[.pointer (some ⟨b, 0, none⟩), .int .i64 4, .func (.func 227) #[] #[]] (w.alloc (.cells nd0 28)) fun e w' => e = .panicked bQ ∧ (w.alloc (.cells nd0 28)).grownBy w' (some b) := R
  clear R hP
  go_enter Tryz.func201, Tryz.ntmps201
  go_wp2_with (go_at_call 121; refine R'.mono ?_; rintro e w1 ⟨rfl, hg⟩)
  exact ⟨rfl, rfl, aM (World.grownBy_alloc _ _ _) hg⟩
 | some p =>
  rw [hP] at R
  have R' : Calls Tryz.prog 121 #[.pointer (some ⟨b, 0, none⟩), .int .i64 4, .func (.func 227) #[] #[]] (w.alloc (.cells nd0 28)) fun e w1 => ∃ es, e = .returned (.agg es) ∧ Hid ((Instr.storeAt 28 (.pointer (some ⟨w.heap.size, 0, none⟩)) (.agg es)).run Tryz.prog w1 = .ok () (w1.setRow w.heap.size es)) ∧ Hid (w1.heap[w.heap.size]? = some (.cells nd0 28)) ∧ Hid (es.size = 18) ∧
    Hid (NK (fun i => w.heap.size ≤ i) (w1.setRow w.heap.size es) es p.1 ∧ Sp W b p.2 w (w1.setRow w.heap.size es)) := R.mono (by
   rintro e w1 ⟨es, rfl, h1, h2⟩
   exact ⟨es, rfl, dU hb (oJ h1) h2⟩)
  clear R hP
  go_enter Tryz.func201, Tryz.ntmps201
  go_wp2_with (first
   | (go_at_call 121; refine R'.mono ?_; rintro e w1 ⟨es, rfl, RS, HG, HZ, HF⟩)
   | (refine aD rfl 28 _ _ rfl _ _ _ rfl rfl RS.out ?_))
  exact bodyPost_ret (bP HG.out HZ.out rfl rfl) rfl ⟨es, rfl, HF.out.1, HF.out.2⟩
theorem e206 : ∀ args u, (callFunc 240 args).run Tryz.prog u = .ok (.enter 240 args) u := enters_of Tryz.func240 (by kernel_rfl) rfl
theorem aHi {W : World} {b : Nat} {ts : List Tk.Tok} (hn : ts.length ≤ 256) (C : ∀ ts' u, ts'.length ≤ ts.length → PR W b ts' u → Calls Tryz.prog 240 #[.pointer (some ⟨b, 0, none⟩)] u (PO W b u (PP 6 ts'))) {w : World} (X : PR W b ts w) :
  Calls Tryz.prog 227 #[.pointer (some ⟨b, 0, none⟩)] w (PO W b w (PP 5 ts)) := by
 have R := nI (lv := 5) (by decide) (by decide) e206 hn C (X.alloc (.cells nd0 28))
 have hb := X.lt
 clear C X
 cases hP : PP 5 ts with
 | none =>
  rw [hP] at R
  have R' : Calls Tryz.prog 121 #[.pointer (some ⟨b, 0, none⟩), .int .i64 5, .func (.func 240) #[] #[]] (w.alloc (.cells nd0 28)) fun e w' => e = .panicked bQ ∧ (w.alloc (.cells nd0 28)).grownBy w' (some b) := R
  clear R hP
  go_enter Tryz.func227, Tryz.ntmps227
  go_wp2_with (go_at_call 121; refine R'.mono ?_; rintro e w1 ⟨rfl, hg⟩)
  exact ⟨rfl, rfl, aM (World.grownBy_alloc _ _ _) hg⟩
 | some p =>
  rw [hP] at R
  have R' : Calls Tryz.prog 121 #[.pointer (some ⟨b, 0, none⟩), .int .i64 5, .func (.func 240) #[] #[]] (w.alloc (.cells nd0 28)) fun e w1 => ∃ es, e = .returned (.agg es) ∧ Hid ((Instr.storeAt 28 (.pointer (some ⟨w.heap.size, 0, none⟩)) (.agg es)).run Tryz.prog w1 = .ok () (w1.setRow w.heap.size es)) ∧ Hid (w1.heap[w.heap.size]? = some (.cells nd0 28)) ∧ Hid (es.size = 18) ∧
    Hid (NK (fun i => w.heap.size ≤ i) (w1.setRow w.heap.size es) es p.1 ∧ Sp W b p.2 w (w1.setRow w.heap.size es)) := R.mono (by
   rintro e w1 ⟨es, rfl, h1, h2⟩
   exact ⟨es, rfl, dU hb (oJ h1) h2⟩)
  clear R hP
  go_enter Tryz.func227, Tryz.ntmps227
  go_wp2_with (first
   | (go_at_call 121; refine R'.mono ?_; rintro e w1 ⟨es, rfl, RS, HG, HZ, HF⟩)
   | (refine aD rfl 28 _ _ rfl _ _ _ rfl rfl RS.out ?_))
  exact bodyPost_ret (bP HG.out HZ.out rfl rfl) rfl ⟨es, rfl, HF.out.1, HF.out.2⟩
theorem aHj {W : World} {b : Nat} {ts : List Tk.Tok} (hn : ts.length ≤ 256) (C6 : ∀ u, bE ts = [45] → PR W b ts.tail u → Calls Tryz.prog 240 #[.pointer (some ⟨b, 0, none⟩)] u (PO W b u (PP 6 ts.tail)))
  (C7 : ∀ u, PR W b ts u → Calls Tryz.prog 259 #[.pointer (some ⟨b, 0, none⟩)] u (PO W b u (PP 7 ts))) {w : World} (X : PR W b ts w) :
  Calls Tryz.prog 240 #[.pointer (some ⟨b, 0, none⟩)] w (PO W b w (PP 6 ts)) := by
 have hb := X.lt
 have e : PP 6 ts = if bE ts = [45] then (PP 6 ts.tail).map fun p => (unT [45] p.1, p.2) else PP 7 ts := aIR upF trF ts
 rw [e]
 by_cases h : bE ts = [45]
 ·rw [if_pos h]
  have SK : Calls Tryz.prog 257 #[.pointer (some ⟨b, 0, none⟩), .string ⟨#[45]⟩] (w.alloc (.cells nd0 28)) fun e w' => e = .returned (.bool true) ∧ Sp W b ts.tail (w.alloc (.cells nd0 28)) w' := dR (X.alloc (.cells nd0 28)) (by omega) [45] (by decide) h
  have C := fun u => C6 u h
  clear C6 C7 X e
  cases hP : PP 6 ts.tail with
  | none =>
   rw [hP] at C
   have C' : ∀ u, PR W b ts.tail u → Calls Tryz.prog 240 #[.pointer (some ⟨b, 0, none⟩)] u fun e w' => e = .panicked bQ ∧ u.grownBy w' (some b) := C
   clear C hP h
   go_enter Tryz.func240, Tryz.ntmps240
   go_wp2_with (first
    | (go_at_call 257; refine SK.mono ?_; rintro e w1 ⟨rfl, hs⟩; have HS : Hid (Sp W b ts.tail (w.alloc (.cells nd0 28)) w1) := hs; clear hs)
    | (go_at_call 240; refine (C' _ HS.out.1).mono ?_; rintro e w2 ⟨rfl, hg⟩))
   exact ⟨rfl, rfl, aM (World.grownBy_alloc _ _ _) (aM HS.out.2 hg)⟩
  | some p =>
   obtain ⟨m, r⟩ := p
   rw [hP] at C
   have C' : ∀ u, PR W b ts.tail u → Calls Tryz.prog 240 #[.pointer (some ⟨b, 0, none⟩)] u fun e w' => ∃ es, e = .returned (.agg es) ∧ NK (fun i => u.heap.size ≤ i) w' es m ∧ Sp W b r u w' := C
   have C2 : ∀ u, Sp W b ts.tail (w.alloc (.cells nd0 28)) u → Calls Tryz.prog 240 #[.pointer (some ⟨b, 0, none⟩)] u fun e w' => ∃ es, e = .returned (.agg es) ∧ Hid (NK (fun i => w.heap.size < i) w' es m) ∧ Hid (Sp W b r (w.alloc (.cells nd0 28)) w') := fun u hu => (C' u hu.1).mono (by
    rintro e w' ⟨es, rfl, h1, h2⟩
    exact ⟨es, rfl, h1.mono (fun i hi _ => by have := hu.2.size; simp at this; omega), hu.step h2⟩)
   have UN : ∀ (u : World) (es : Array Value), NK (fun i => w.heap.size < i) u es m → Sp W b r (w.alloc (.cells nd0 28)) u → Calls Tryz.prog 258 #[.string ⟨#[45]⟩, .agg es] u fun e w' => ∃ fs, e = .returned (.agg fs) ∧ Hid ((Instr.storeAt 28 (.pointer (some ⟨w.heap.size, 0, none⟩)) (.agg fs)).run Tryz.prog w' = .ok () (w'.setRow w.heap.size fs)) ∧ Hid (w'.heap[w.heap.size]? = some (.cells nd0 28)) ∧ Hid (fs.size = 18) ∧
     Hid (NK (fun i => w.heap.size ≤ i) (w'.setRow w.heap.size fs) fs (unT [45] m) ∧ Sp W b r w (w'.setRow w.heap.size fs)) := fun u es hN hS => (uN [45] hN).mono (by
    rintro e w' ⟨fs, rfl, h1, h2⟩
    exact ⟨fs, rfl, dU hb (h1.mono (fun i hi _ => by have := hS.2.size; simp at this; rcases hi with hi | hi <;> omega)) (hS.bel h2)⟩)
   clear C C' hP h
   go_enter Tryz.func240, Tryz.ntmps240
   go_wp2_with (first
    | (go_at_call 257; refine SK.mono ?_; rintro e w1 ⟨rfl, hs⟩; have HS : Hid (Sp W b ts.tail (w.alloc (.cells nd0 28)) w1) := hs; clear hs)
    | (go_at_call 240; refine (C2 _ HS.out).mono ?_; rintro e w2 ⟨es, rfl, HN, HS2⟩)
    | (go_at_call 258; refine (UN _ _ HN.out HS2.out).mono ?_; rintro e w3 ⟨fs, rfl, RS, HG, HZ, HF⟩)
    | (refine aD rfl 28 _ _ rfl _ _ _ rfl rfl RS.out ?_))
   exact bodyPost_ret (bP HG.out HZ.out rfl rfl) rfl ⟨fs, rfl, HF.out.1, HF.out.2⟩
 ·rw [if_neg h]
  have SK : Calls Tryz.prog 257 #[.pointer (some ⟨b, 0, none⟩), .string ⟨#[45]⟩] (w.alloc (.cells nd0 28)) fun e w' => e = .returned (.bool false) ∧ w' = w.alloc (.cells nd0 28) := fH (X.alloc (.cells nd0 28)) (by omega) [45] h
  have C := C7 _ (X.alloc (.cells nd0 28))
  clear C6 C7 X e
  cases hP : PP 7 ts with
  | none =>
   rw [hP] at C
   have C' : Calls Tryz.prog 259 #[.pointer (some ⟨b, 0, none⟩)] (w.alloc (.cells nd0 28)) fun e w' => e = .panicked bQ ∧ (w.alloc (.cells nd0 28)).grownBy w' (some b) := C
   clear C hP h
   go_enter Tryz.func240, Tryz.ntmps240
   go_wp2_with (first
    | (go_at_call 257; refine SK.mono ?_; rintro e w1 ⟨rfl, hs⟩; obtain rfl := hs.symm; clear hs)
    | (go_at_call 259; refine C'.mono ?_; rintro e w2 ⟨rfl, hg⟩))
   exact ⟨rfl, rfl, aM (World.grownBy_alloc _ _ _) hg⟩
  | some p =>
   obtain ⟨m, r⟩ := p
   rw [hP] at C
   have C' : Calls Tryz.prog 259 #[.pointer (some ⟨b, 0, none⟩)] (w.alloc (.cells nd0 28)) fun e w' => ∃ fs, e = .returned (.agg fs) ∧ Hid ((Instr.storeAt 28 (.pointer (some ⟨w.heap.size, 0, none⟩)) (.agg fs)).run Tryz.prog w' = .ok () (w'.setRow w.heap.size fs)) ∧ Hid (w'.heap[w.heap.size]? = some (.cells nd0 28)) ∧ Hid (fs.size = 18) ∧
     Hid (NK (fun i => w.heap.size ≤ i) (w'.setRow w.heap.size fs) fs m ∧ Sp W b r w (w'.setRow w.heap.size fs)) := C.mono (by
    rintro e w' ⟨fs, rfl, h1, h2⟩
    exact ⟨fs, rfl, dU hb (oJ h1) h2⟩)
   clear C hP h
   go_enter Tryz.func240, Tryz.ntmps240
   go_wp2_with (first
    | (go_at_call 257; refine SK.mono ?_; rintro e w1 ⟨rfl, hs⟩; obtain rfl := hs.symm; clear hs)
    | (go_at_call 259; refine C'.mono ?_; rintro e w2 ⟨fs, rfl, RS, HG, HZ, HF⟩)
    | (refine aD rfl 28 _ _ rfl _ _ _ rfl rfl RS.out ?_))
   exact bodyPost_ret (bP HG.out HZ.out rfl rfl) rfl ⟨fs, rfl, HF.out.1, HF.out.2⟩
theorem aI4 {n : T} {r : List Tk.Tok} (h : bE r ≠ [37]) (k : Nat) : iI k n r = (n, r) := by
 cases k with
 | zero => rfl
 | succ k => unfold iI; rw [if_neg h]
theorem aHk {n : T} {r : List Tk.Tok} (h : bE r = [37]) : iI r.length n r = iI r.tail.length (unT [37] n) r.tail := by
 have h2 := (bA (ts := r) h (by decide)).1
 rw [← h2]
 conv => lhs; unfold iI
 rw [if_pos h]
theorem aHl {W : World} {b : Nat} {ts : List Tk.Tok} (hn : ts.length ≤ 256) (C8 : ∀ u, PR W b ts u → Calls Tryz.prog 272 #[.pointer (some ⟨b, 0, none⟩)] u (PO W b u (PP 8 ts))) {w : World} (X : PR W b ts w) :
  Calls Tryz.prog 259 #[.pointer (some ⟨b, 0, none⟩)] w (PO W b w (PP 7 ts)) := by
 have hb := X.lt
 have e : PP 7 ts = (PP 8 ts).map fun p => iI p.2.length p.1 p.2 := aIS upF trF ts
 rw [e]
 have C := C8 _ (X.alloc (.cells nd0 28))
 clear C8 X e
 cases hP : PP 8 ts with
 | none =>
  rw [hP] at C
  have C' : Calls Tryz.prog 272 #[.pointer (some ⟨b, 0, none⟩)] (w.alloc (.cells nd0 28)) fun e w' => e = .panicked bQ ∧ (w.alloc (.cells nd0 28)).grownBy w' (some b) := C
  clear C hP
  go_enter Tryz.func259, Tryz.ntmps259
  go_wp2_with (go_at_call 272; refine C'.mono ?_; rintro e w2 ⟨rfl, hg⟩)
  exact ⟨rfl, rfl, aM (World.grownBy_alloc _ _ _) hg⟩
 | some p =>
  obtain ⟨n0, r0⟩ := p
  have hr0 := jP upF trF (by omega) _ n0 r0 hP
  rw [hP] at C
  have C0' : Calls Tryz.prog 272 #[.pointer (some ⟨b, 0, none⟩)] (w.alloc (.cells nd0 28)) fun e w1 => ∃ es, e = .returned (.agg es) ∧
    Hid ((Instr.storeAt 28 (.pointer (some ⟨w1.heap.size, 0, none⟩)) (.agg es)).run Tryz.prog (w1.alloc (.cells nd0 28)) = .ok () (w1.alloc (.cells es 28))) ∧ Hid (NK (fun i => w.heap.size < i ∧ i ≠ w1.heap.size) (w1.alloc (.cells es 28)) es n0) ∧ Hid (Sp W b r0 w (w1.alloc (.cells es 28))) ∧
    Hid ((w1.alloc (.cells es 28)).heap[w.heap.size]? = some (.cells nd0 28)) ∧ Hid ((w1.alloc (.cells es 28)).heap[w1.heap.size]? = some (.cells es 28)) ∧ Hid (w.heap.size < w1.heap.size) := by
   refine C.mono ?_
   rintro e w1 ⟨es, rfl, h1, h2⟩
   have hlt : w.heap.size < w1.heap.size := by have := h2.2.size; simp at this; omega
   refine ⟨es, rfl, (kC w1 h1.nt).1, ?_, h2.jB.alloc _, ?_, heap_alloc_new _ _, hlt⟩
   ·refine NK.below (K := fun i => w.heap.size < i ∧ i ≠ w1.heap.size) (h1.mono (fun i hi hl => ?_)) (aA (Below.refl _ _) (.cells es 28))
    simp at hi
    exact ⟨by omega, by omega⟩
   ·exact (Below.heap_alloc _ _ _ hlt).trans (h2.kept (heap_alloc_new w _) (by omega))
  clear C hP
  rw [Option.map_some]
  generalize ho : iI r0.length n0 r0 = o
  have HO : Hid (iI r0.length n0 r0 = o) := ho
  clear ho
  go_enter Tryz.func259, Tryz.ntmps259
  go_wp2_with (first
   | (go_at_call 272; refine C0'.mono ?_; rintro e w1 ⟨es0, rfl, RS0, HN0, HS0, HG0, HG7, HLT⟩)
   | (refine aD rfl 28 _ _ rfl _ _ _ rfl rfl RS0.out ?_))
  clear C0'
  try simp only [Act.put, List.setIfInBounds_toArray, List.set_cons_zero, List.set_cons_succ]
  generalize hg7 : w1.heap.size = g7 at *
  clear hg7
  go_loopw [7] (fun _ wr => ∃ (nT : T) (r : List Tk.Tok) (es : Array Value), Hid (iI r.length nT r = o) ∧ r.length ≤ r0.length ∧ Hid (wr.heap[g7]? = some (.cells es 28)) ∧ Hid (NK (fun i => w.heap.size < i ∧ i ≠ g7) wr es nT) ∧ Hid (Sp W b r w wr) ∧ Hid (wr.heap[w.heap.size]? = some (.cells nd0 28))) (fun _ wr => zQ b wr)
  case atStart => exact ⟨n0, r0, es0, HO, Nat.le_refl _, HG7, HN0, HS0, HG0⟩
  case round =>
   obtain ⟨nT, r, es, HL, hr, H7, HN, HS, H0⟩ := hrel
   clear HO HG7 HN0 HS0 HG0 RS0
   have hleft := HS.out.1.left
   by_cases hq : bE r = [37]
   ·have SK : Calls Tryz.prog 257 #[.pointer (some ⟨b, 0, none⟩), .string ⟨#[37]⟩] wr fun e w' => e = .returned (.bool true) ∧ Sp W b r.tail wr w' := dR HS.out.1 (by omega) [37] (by decide) hq
    have hrt := (bA (ts := r) hq (by decide)).1
    have HQ : Hid (iI r.tail.length (unT [37] nT) r.tail = o) := by show _ = _; rw [← HL.out]; exact (aHk hq).symm
    have aKW : g7 < wr.heap.size := aS H7.out
    have SK2 : Calls Tryz.prog 257 #[.pointer (some ⟨b, 0, none⟩), .string ⟨#[37]⟩] wr fun e w2 => e = .returned (.bool true) ∧ Hid (Sp W b r.tail w w2) ∧ Hid (NK (fun i => w.heap.size < i ∧ i ≠ g7) w2 es nT) ∧ Hid ((Instr.loadAt 28 (.pointer (some ⟨g7, 0, none⟩))).run Tryz.prog w2 = .ok (.agg es) w2) ∧ Hid (w2.heap[g7]? = some (.cells es 28)) ∧ Hid (w2.heap[w.heap.size]? = some (.cells nd0 28)) ∧ Hid (g7 < w2.heap.size) := SK.mono (by
     rintro e w2 ⟨rfl, h⟩
     have h7 : w2.heap[g7]? = some (.cells es 28) := h.kept H7.out (by have := HLT.out; omega)
     exact ⟨rfl, HS.out.step h, HN.out.grown h.2 (fun g e hk => by cases e; have := hk.1; omega), HN.out.lod h7, h7, h.kept H0.out (by omega), aS h7⟩)
    have UN : ∀ u : World, NK (fun i => w.heap.size < i ∧ i ≠ g7) u es nT → Sp W b r.tail w u → u.heap[g7]? = some (.cells es 28) → u.heap[w.heap.size]? = some (.cells nd0 28) → Calls Tryz.prog 258 #[.string ⟨#[37]⟩, .agg es] u fun e w' => ∃ fs, e = .returned (.agg fs) ∧ Hid ((Instr.storeAt 28 (.pointer (some ⟨g7, 0, none⟩)) (.agg fs)).run Tryz.prog w' = .ok () (w'.setRow g7 fs)) ∧ Hid ((w'.setRow g7 fs).heap[g7]? = some (.cells fs 28)) ∧ Hid ((w'.setRow g7 fs).heap[w.heap.size]? = some (.cells nd0 28)) ∧
      Hid (NK (fun i => w.heap.size < i ∧ i ≠ g7) (w'.setRow g7 fs) fs (unT [37] nT)) ∧ Hid (Sp W b r.tail w (w'.setRow g7 fs)) := fun u hN hS h7 h0 => (uN [37] hN).mono (by
     rintro e w' ⟨fs, rfl, h1, h2⟩
     have hl := HLT.out
     have h7' : w'.heap[g7]? = some (.cells es 28) := (h2.block _ (aS h7)).trans h7
     have h0' : w'.heap[w.heap.size]? = some (.cells nd0 28) := (h2.block _ (aS h0)).trans h0
     have hN' : NK (fun i => w.heap.size < i ∧ i ≠ g7) w' fs (unT [37] nT) := h1.mono (fun i hi _ => by
      have := aS h7
      rcases hi with hi | hi
      ·exact hi
      ·exact ⟨by omega, by omega⟩)
     exact ⟨fs, rfl, h1.sto h7' hN.size, setRow_heap _ _ _ _ _ _ h7', ((aC _ _ _).block _ (aS h0') (by intro e; have := Option.some.inj e; omega)).trans h0', hN'.grown (aC _ _ _) (fun g e hk => by cases e; exact hk.2 rfl), (hS.bel h2).grown (aC _ _ _) (by omega) hb⟩)
    clear SK hq HL
    generalize hrr : r.tail = r' at *
    clear hrr
    go_wp2_with (first
     | (go_at_call 257; refine SK2.mono ?_; rintro e w2 ⟨rfl, HS2, HN2, RL, H72, H02, _⟩)
     | (refine aB rfl 28 _ rfl _ _ rfl RL.out ?_)
     | (go_at_call 258; refine (UN _ HN2.out HS2.out H72.out H02.out).mono ?_; rintro e w3 ⟨fs, rfl, RS, H75, H05, HN5, HS5⟩)
     | (refine aD rfl 28 _ _ rfl _ _ _ rfl rfl RS.out ?_))
    try simp only [Act.put, List.setIfInBounds_toArray, List.set_cons_zero, List.set_cons_succ]
    go_roundw
    case rel => exact ⟨unT [37] nT, r', fs, HQ, by omega, H75, HN5, HS5, H05⟩
    case measure => rw [HS5.out.1.left, hleft]; omega
   ·have SK : Calls Tryz.prog 257 #[.pointer (some ⟨b, 0, none⟩), .string ⟨#[37]⟩] wr fun e w' => e = .returned (.bool false) ∧ w' = wr := fH HS.out.1 (by omega) [37] hq
    have HQ : Hid (o = (nT, r)) := by show _ = _; rw [← HL.out]; exact aI4 hq _
    have RL := HN.out.lod H7.out
    have RS := HN.out.sto H0.out rfl
    have HF : Hid (Sp W b r w (wr.setRow w.heap.size es)) := HS.out.grown (aC _ _ _) (Nat.le_refl _) hb
    have HNF : Hid (NK (fun i => w.heap.size ≤ i) (wr.setRow w.heap.size es) es nT) := (HN.out.grown (aC _ _ _) (fun g e hk => by cases e; have := hk.1; omega)).mono (fun i hi _ => by have := hi.1; omega)
    have hes := HN.out.size
    clear hq HL hleft
    go_wp2_with (first
     | (go_at_call 257; refine SK.mono ?_; rintro e w1 ⟨rfl, hs⟩; obtain rfl := hs.symm; clear hs)
     | (refine aB rfl 28 _ rfl _ _ rfl RL.out ?_)
     | (refine aD rfl 28 _ _ rfl _ _ _ rfl rfl RS.out ?_))
    refine bodyPost_ret (bP H0.out hes rfl rfl) rfl ?_
    rw [HQ.out]
    exact ⟨es, rfl, HNF.out, HF.out⟩
end Go.Proofs.YtljmklbbngpllaaGreatDoor
