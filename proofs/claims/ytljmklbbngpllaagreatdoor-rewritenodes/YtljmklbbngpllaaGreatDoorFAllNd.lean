/- FOne, FAll. -/
import Derived.Test.YtljmklbbngpllaaGreatDoorVGoodNd
set_option linter.unusedVariables false
set_option linter.unusedSimpArgs false
set_option maxHeartbeats 16000000
set_option maxRecDepth 100000
namespace Go.Proofs.YtljmklbbngpllaaGreatDoor
open Go.RowKit Go.Fm
section
variable {W w : World} {b : Nat}
abbrev w0 (w : World) : World := w.alloc (.cells nd0 28)
theorem aFx {ts r : List Tk.Tok} {n : T} (hn : ts.length ≤ 256) (h : bE ts = [40]) (hr : r.length ≤ 256) (X : PR W b ts w) (C : ∀ u, PR W b ts.tail u → Calls Tryz.prog 79 #[.pointer (some ⟨b, 0, none⟩)] u (PO W b u (some (n, r)))) (h41 : bE r = [41]) :
  Calls Tryz.prog 272 #[.pointer (some ⟨b, 0, none⟩)] w (PO W b w (some (n, r.tail))) := by
 have hb := X.lt
 have X2 := X.alloc (.cells nd0 28)
 have SK : Calls Tryz.prog 257 #[.pointer (some ⟨b, 0, none⟩), .string ⟨#[40]⟩] (w0 w) fun e w' => e = .returned (.bool true) ∧ Hid (Sp W b ts.tail (w0 w) w') := dR X2 (by omega) [40] (by decide) h
 have C2 : ∀ u, Sp W b ts.tail (w0 w) u → Calls Tryz.prog 79 #[.pointer (some ⟨b, 0, none⟩)] u fun e w1 => ∃ es, e = .returned (.agg es) ∧ Hid ((Instr.storeAt 28 (.pointer (some ⟨w1.heap.size, 0, none⟩)) (.agg es)).run Tryz.prog (w1.alloc (.cells nd0 28)) = .ok () (w1.alloc (.cells es 28))) ∧ Hid (Sp W b r (w0 w) (w1.alloc (.cells es 28))) ∧
   Hid (∀ u, Sp W b r.tail (w1.alloc (.cells es 28)) u → (Instr.loadAt 28 (.pointer (some ⟨w1.heap.size, 0, none⟩))).run Tryz.prog u = .ok (.agg es) u ∧ Sp W b r.tail (w0 w) u ∧ NK (fun i => w.heap.size < i) u es n) := fun u hu => (C u hu.1).mono (by
  rintro e w1 ⟨es, rfl, h1, h2⟩
  have hS : Sp W b r (w0 w) (w1.alloc (.cells es 28)) := (hu.step h2).alloc _
  refine ⟨es, rfl, (kC w1 h1.nt).1, hS, fun v hv => ?_⟩
  have hz := hu.2.size
  have hzz := h2.2.size
  simp at hz
  refine ⟨h1.lod (hv.kept (heap_alloc_new w1 _) (by omega)), hS.step hv, ?_⟩
  exact ((h1.mono (K' := fun i => w.heap.size < i) (fun i hi _ => by omega)).below (aA (Below.refl _ _) (.cells es 28))).grown hv.2 (fun g e hk => by cases e; omega))
 have MU : ∀ u, PR W b r u → Calls Tryz.prog 277 #[.pointer (some ⟨b, 0, none⟩), .string ⟨#[41]⟩] u fun e w' => e = .returned (.tuple #[]) ∧ Sp W b r.tail u w' := fun u hu => zP hu hr [41] (by decide) h41
 clear C X X2 h h41
 generalize ts.tail = L' at *
 generalize r.tail = r' at *
 obtain ⟨w2, hw2⟩ : ∃ w2, w0 w = w2 := ⟨_, rfl⟩
 have FIN : ∀ (u : World) (es : Array Value), Sp W b r' w2 u → NK (fun i => w.heap.size < i) u es n → _ := fun u es hu hN => by
  rw [← hw2] at hu
  exact dU hb hN hu
 rw [hw2] at SK
 simp only [hw2] at C2
 go_enter Tryz.func272, Tryz.ntmps272
 go_wp2_with (first
  | (go_at_call 257; refine SK.mono ?_; rintro e w3 ⟨rfl, HS⟩)
  | (go_at_call 79; refine (C2 _ HS.out).mono ?_; rintro e w4 ⟨es, rfl, RS0, HS4, HL4⟩)
  | (refine aD rfl 28 _ _ rfl _ _ _ rfl rfl RS0.out ?_; clear RS0)
  | (go_at_call 277; refine (MU _ HS4.out.1).mono ?_; rintro e w5 ⟨rfl, hs⟩; obtain ⟨rl5, hs5, hn5⟩ := HL4.out _ hs; have RL5 : Hid _ := rl5; obtain ⟨RS, HG, HZ, HF⟩ := FIN _ _ hs5 hn5; clear hs rl5 hs5 hn5)
  | (refine aB rfl 28 _ rfl _ _ rfl RL5.out ?_)
  | (refine aD rfl 28 _ _ rfl _ _ _ rfl rfl RS.out ?_))
 exact bodyPost_ret (bP HG.out HZ.out rfl rfl) rfl ⟨_, rfl, HF.out.1, HF.out.2⟩
theorem wE {ts r : List Tk.Tok} {n : T} (hn : ts.length ≤ 256) (h : bE ts = [40]) (hr : r.length ≤ 256) (X : PR W b ts w) (C : ∀ u, PR W b ts.tail u → Calls Tryz.prog 79 #[.pointer (some ⟨b, 0, none⟩)] u (PO W b u (some (n, r)))) (h41 : bE r ≠ [41]) :
  Calls Tryz.prog 272 #[.pointer (some ⟨b, 0, none⟩)] w fun e w' => e = .panicked bQ ∧ w.grownBy w' (some b) := by
 have X2 := X.alloc (.cells nd0 28)
 have SK : Calls Tryz.prog 257 #[.pointer (some ⟨b, 0, none⟩), .string ⟨#[40]⟩] (w0 w) fun e w' => e = .returned (.bool true) ∧ Hid (Sp W b ts.tail (w0 w) w') := dR X2 (by omega) [40] (by decide) h
 have C2 : ∀ u, Sp W b ts.tail (w0 w) u → Calls Tryz.prog 79 #[.pointer (some ⟨b, 0, none⟩)] u fun e w1 => ∃ es, e = .returned (.agg es) ∧ Hid ((Instr.storeAt 28 (.pointer (some ⟨w1.heap.size, 0, none⟩)) (.agg es)).run Tryz.prog (w1.alloc (.cells nd0 28)) = .ok () (w1.alloc (.cells es 28))) ∧ Hid (Sp W b r (w0 w) (w1.alloc (.cells es 28))) := fun u hu => (C u hu.1).mono (by
  rintro e w1 ⟨es, rfl, h1, h2⟩
  exact ⟨es, rfl, (kC w1 h1.nt).1, (hu.step h2).alloc _⟩)
 have MU : ∀ u, PR W b r u → Calls Tryz.prog 277 #[.pointer (some ⟨b, 0, none⟩), .string ⟨#[41]⟩] u fun e w' => e = .panicked bQ ∧ w' = u := fun u hu => aB9 hu hr [41] h41
 have HG0 : Hid (w.grownBy (w0 w) (some b)) := World.grownBy_alloc _ _ _
 clear C X X2 h h41
 generalize ts.tail = L' at *
 obtain ⟨w2, hw2⟩ : ∃ w2, w0 w = w2 := ⟨_, rfl⟩
 rw [hw2] at SK HG0
 simp only [hw2] at C2
 go_enter Tryz.func272, Tryz.ntmps272
 go_wp2_with (first
  | (go_at_call 257; refine SK.mono ?_; rintro e w3 ⟨rfl, HS⟩)
  | (go_at_call 79; refine (C2 _ HS.out).mono ?_; rintro e w4 ⟨es, rfl, RS0, HS4⟩)
  | (refine aD rfl 28 _ _ rfl _ _ _ rfl rfl RS0.out ?_; clear RS0)
  | (go_at_call 277; refine (MU _ HS4.out.1).mono ?_; rintro e w5 ⟨rfl, hs⟩; obtain rfl := hs.symm; clear hs))
 exact ⟨rfl, rfl, aM HG0.out HS4.out.2⟩
theorem aDj {ts : List Tk.Tok} (hn : ts.length ≤ 256) (h : bE ts = [40]) (X : PR W b ts w) (C : ∀ u, PR W b ts.tail u → Calls Tryz.prog 79 #[.pointer (some ⟨b, 0, none⟩)] u fun e w' => e = .panicked bQ ∧ u.grownBy w' (some b)) :
  Calls Tryz.prog 272 #[.pointer (some ⟨b, 0, none⟩)] w fun e w' => e = .panicked bQ ∧ w.grownBy w' (some b) := by
 have X2 := X.alloc (.cells nd0 28)
 have SK : Calls Tryz.prog 257 #[.pointer (some ⟨b, 0, none⟩), .string ⟨#[40]⟩] (w0 w) fun e w' => e = .returned (.bool true) ∧ Hid (Sp W b ts.tail (w0 w) w') := dR X2 (by omega) [40] (by decide) h
 have HG0 : Hid (w.grownBy (w0 w) (some b)) := World.grownBy_alloc _ _ _
 clear X X2 h
 generalize ts.tail = L' at *
 obtain ⟨w2, hw2⟩ : ∃ w2, w0 w = w2 := ⟨_, rfl⟩
 rw [hw2] at SK HG0
 go_enter Tryz.func272, Tryz.ntmps272
 go_wp2_with (first
  | (go_at_call 257; refine SK.mono ?_; rintro e w3 ⟨rfl, HS⟩)
  | (go_at_call 79; refine (C _ HS.out.1).mono ?_; rintro e w4 ⟨rfl, hg⟩))
 exact ⟨rfl, rfl, aM HG0.out (aM HS.out.2 hg)⟩
theorem aHo (X : PR W b [] w) : Calls Tryz.prog 272 #[.pointer (some ⟨b, 0, none⟩)] w fun e w' => e = .panicked bQ ∧ w.grownBy w' (some b) := by
 have X2 := X.alloc (.cells nd0 28)
 have SK : Calls Tryz.prog 257 #[.pointer (some ⟨b, 0, none⟩), .string ⟨#[40]⟩] (w0 w) fun e w' => e = .returned (.bool false) ∧ w' = w0 w := fH X2 (by simp) [40] (by decide)
 have TK := take_nil X2
 have HG0 : Hid (w.grownBy (w0 w) (some b)) := World.grownBy_alloc _ _ _
 clear X X2
 go_enter Tryz.func272, Tryz.ntmps272
 go_wp2_with (first
  | (go_at_call 257; refine SK.mono ?_; rintro e w3 ⟨rfl, hs⟩; obtain rfl := hs.symm; clear hs)
  | (go_at_call 157; refine TK.mono ?_; rintro e w4 ⟨rfl, hg⟩))
 exact ⟨rfl, rfl, aM HG0.out hg⟩
theorem aI5 {t : Tk.Tok} {q : List Tk.Tok} (hn : (t :: q).length ≤ 256) (h : bE (t :: q) ≠ [40]) (X : PR W b (t :: q) w) :
  Calls Tryz.prog 257 #[.pointer (some ⟨b, 0, none⟩), .string ⟨#[40]⟩] (w0 w) (fun e w' => e = .returned (.bool false) ∧ w' = w0 w) ∧ Calls Tryz.prog 157 #[.pointer (some ⟨b, 0, none⟩)] (w0 w) (fun e w' => e = .returned (.agg (tcs (tk t).k (tk t).n (tk t).s (tk t).b (tk t).h (tk t).r (tk t).c (tk t).fr (tk t).fc)) ∧ Hid (Sp W b q (w0 w) w')) :=
 ⟨fH (X.alloc (.cells nd0 28)) hn [40] h, take_cons (X.alloc (.cells nd0 28)) (by simp at hn; omega)⟩
theorem one_num {n : Int} {q : List Tk.Tok} (hb : b < w.heap.size) (SK : Calls Tryz.prog 257 #[.pointer (some ⟨b, 0, none⟩), .string ⟨#[40]⟩] (w0 w) fun e w' => e = .returned (.bool false) ∧ w' = w0 w)
  (TK : Calls Tryz.prog 157 #[.pointer (some ⟨b, 0, none⟩)] (w0 w) fun e w' => e = .returned (.agg (tcs 1 n noB noB noB 0 0 false false)) ∧ Hid (Sp W b q (w0 w) w')) (V : ∀ u, Calls Tryz.prog 223 #[.int .i64 n, .bool true] u fun e w' => e = .returned (.agg #[.int .i64 1, .int .i64 n, .string noB]) ∧ Below u.heap.size u w') :
  Calls Tryz.prog 272 #[.pointer (some ⟨b, 0, none⟩)] w fun e w' => e = .returned (.agg (lcs (iH 1 n noB) (.slice none 0 0))) ∧ Sp W b q w w' := by
 have FIN := fun u (hu : Sp W b q (w0 w) u) => dU hb (NK.leaf (a := iH 1 n noB)) hu
 go_enter Tryz.func272, Tryz.ntmps272
 go_wp2_with (first
  | (go_at_call 257; refine SK.mono ?_; rintro e w3 ⟨rfl, hs⟩; obtain rfl := hs.symm; clear hs)
  | (go_at_call 157; refine TK.mono ?_; rintro e w4 ⟨rfl, HS4⟩)
  | (go_at_call 223; refine (V _).mono ?_; rintro e w5 ⟨rfl, hs⟩; have HS5 : Hid (Sp W b q (w0 w) w5) := (HS4.out.alloc _).bel hs; clear hs)
  | (go_at_call 278; refine (iP 1 n noB _).mono ?_; rintro e w6 ⟨rfl, hs⟩; obtain ⟨RS, HG, HZ, HF⟩ := FIN _ (HS5.out.bel hs); clear hs)
  | (refine aD rfl 28 _ _ rfl _ _ _ rfl rfl RS.out ?_))
 exact bodyPost_ret (bP HG.out HZ.out rfl rfl) rfl ⟨rfl, HF.out.2⟩
theorem aHp {S : ByteArray} {q : List Tk.Tok} (hb : b < w.heap.size) (SK : Calls Tryz.prog 257 #[.pointer (some ⟨b, 0, none⟩), .string ⟨#[40]⟩] (w0 w) fun e w' => e = .returned (.bool false) ∧ w' = w0 w)
  (TK : Calls Tryz.prog 157 #[.pointer (some ⟨b, 0, none⟩)] (w0 w) fun e w' => e = .returned (.agg (tcs 2 0 S noB noB 0 0 false false)) ∧ Hid (Sp W b q (w0 w) w')) (V : ∀ u, Calls Tryz.prog 279 #[.string S] u fun e w' => e = .returned (.agg #[.int .i64 2, .int .i64 0, .string S]) ∧ Below u.heap.size u w') :
  Calls Tryz.prog 272 #[.pointer (some ⟨b, 0, none⟩)] w fun e w' => e = .returned (.agg (lcs (iH 2 0 S) (.slice none 0 0))) ∧ Sp W b q w w' := by
 have FIN := fun u (hu : Sp W b q (w0 w) u) => dU hb (NK.leaf (a := iH 2 0 S)) hu
 go_enter Tryz.func272, Tryz.ntmps272
 go_wp2_with (first
  | (go_at_call 257; refine SK.mono ?_; rintro e w3 ⟨rfl, hs⟩; obtain rfl := hs.symm; clear hs)
  | (go_at_call 157; refine TK.mono ?_; rintro e w4 ⟨rfl, HS4⟩)
  | (go_at_call 279; refine (V _).mono ?_; rintro e w5 ⟨rfl, hs⟩; have HS5 : Hid (Sp W b q (w0 w) w5) := (HS4.out.alloc _).bel hs; clear hs)
  | (go_at_call 278; refine (iP 2 0 S _).mono ?_; rintro e w6 ⟨rfl, hs⟩; obtain ⟨RS, HG, HZ, HF⟩ := FIN _ (HS5.out.bel hs); clear hs)
  | (refine aD rfl 28 _ _ rfl _ _ _ rfl rfl RS.out ?_))
 exact bodyPost_ret (bP HG.out HZ.out rfl rfl) rfl ⟨rfl, HF.out.2⟩
theorem aHq {n : Int} {q : List Tk.Tok} (hb : b < w.heap.size) (SK : Calls Tryz.prog 257 #[.pointer (some ⟨b, 0, none⟩), .string ⟨#[40]⟩] (w0 w) fun e w' => e = .returned (.bool false) ∧ w' = w0 w)
  (TK : Calls Tryz.prog 157 #[.pointer (some ⟨b, 0, none⟩)] (w0 w) fun e w' => e = .returned (.agg (tcs 6 n noB noB noB 0 0 false false)) ∧ Hid (Sp W b q (w0 w) w')) (V : ∀ u, Calls Tryz.prog 149 #[.int .i64 n] u fun e w' => e = .returned (.agg #[.int .i64 4, .int .i64 n, .string noB]) ∧ Below u.heap.size u w') :
  Calls Tryz.prog 272 #[.pointer (some ⟨b, 0, none⟩)] w fun e w' => e = .returned (.agg (lcs (iH 4 n noB) (.slice none 0 0))) ∧ Sp W b q w w' := by
 have FIN := fun u (hu : Sp W b q (w0 w) u) => dU hb (NK.leaf (a := iH 4 n noB)) hu
 go_enter Tryz.func272, Tryz.ntmps272
 go_wp2_with (first
  | (go_at_call 257; refine SK.mono ?_; rintro e w3 ⟨rfl, hs⟩; obtain rfl := hs.symm; clear hs)
  | (go_at_call 157; refine TK.mono ?_; rintro e w4 ⟨rfl, HS4⟩)
  | (go_at_call 149; refine (V _).mono ?_; rintro e w5 ⟨rfl, hs⟩; have HS5 : Hid (Sp W b q (w0 w) w5) := (HS4.out.alloc _).bel hs; clear hs)
  | (go_at_call 278; refine (iP 4 n noB _).mono ?_; rintro e w6 ⟨rfl, hs⟩; obtain ⟨RS, HG, HZ, HF⟩ := FIN _ (HS5.out.bel hs); clear hs)
  | (refine aD rfl 28 _ _ rfl _ _ _ rfl rfl RS.out ?_))
 exact bodyPost_ret (bP HG.out HZ.out rfl rfl) rfl ⟨rfl, HF.out.2⟩
theorem aHr {S : ByteArray} {q : List Tk.Tok} (SK : Calls Tryz.prog 257 #[.pointer (some ⟨b, 0, none⟩), .string ⟨#[40]⟩] (w0 w) fun e w' => e = .returned (.bool false) ∧ w' = w0 w)
  (TK : Calls Tryz.prog 157 #[.pointer (some ⟨b, 0, none⟩)] (w0 w) fun e w' => e = .returned (.agg (tcs 5 0 S noB noB 0 0 false false)) ∧ Hid (Sp W b q (w0 w) w')) :
  Calls Tryz.prog 272 #[.pointer (some ⟨b, 0, none⟩)] w fun e w' => e = .panicked bQ ∧ w.grownBy w' (some b) := by
 have HG0 : Hid (w.grownBy (w0 w) (some b)) := World.grownBy_alloc _ _ _
 go_enter Tryz.func272, Tryz.ntmps272
 go_wp2_with (first
  | (go_at_call 257; refine SK.mono ?_; rintro e w3 ⟨rfl, hs⟩; obtain rfl := hs.symm; clear hs)
  | (go_at_call 157; refine TK.mono ?_; rintro e w4 ⟨rfl, HS4⟩))
 exact ⟨rfl, rfl, aM HG0.out (HS4.out.alloc _).2⟩
theorem aHs {B H : ByteArray} {r c : Int} {fr fc : Bool} {q : List Tk.Tok} {o : Option (T × List Tk.Tok)} (hb : b < w.heap.size) (SK : Calls Tryz.prog 257 #[.pointer (some ⟨b, 0, none⟩), .string ⟨#[40]⟩] (w0 w) fun e w' => e = .returned (.bool false) ∧ w' = w0 w)
  (TK : Calls Tryz.prog 157 #[.pointer (some ⟨b, 0, none⟩)] (w0 w) fun e w' => e = .returned (.agg (tcs 3 0 noB B H r c fr fc)) ∧ Hid (Sp W b q (w0 w) w')) (C : ∀ u, PR W b q u → Calls Tryz.prog 280 #[.pointer (some ⟨b, 0, none⟩), .agg #[.string B, .string H, .int .i64 r, .int .i64 c, .bool fr, .bool fc]] u (PO W b u o)) :
  Calls Tryz.prog 272 #[.pointer (some ⟨b, 0, none⟩)] w (PO W b w o) := by
 have HG0 : Hid (w.grownBy (w0 w) (some b)) := World.grownBy_alloc _ _ _
 cases o with
 | none =>
  have C' : ∀ u, PR W b q u → Calls Tryz.prog 280 #[.pointer (some ⟨b, 0, none⟩), .agg #[.string B, .string H, .int .i64 r, .int .i64 c, .bool fr, .bool fc]] u fun e w' => e = .panicked bQ ∧ u.grownBy w' (some b) := C
  clear C
  go_enter Tryz.func272, Tryz.ntmps272
  go_wp2_with (first
   | (go_at_call 257; refine SK.mono ?_; rintro e w3 ⟨rfl, hs⟩; obtain rfl := hs.symm; clear hs)
   | (go_at_call 157; refine TK.mono ?_; rintro e w4 ⟨rfl, HS4⟩)
   | (go_at_call 280; refine (C' _ (HS4.out.alloc _).1).mono ?_; rintro e w5 ⟨rfl, hg⟩))
  exact ⟨rfl, rfl, aM HG0.out (aM (HS4.out.alloc _).2 hg)⟩
 | some p =>
  have C' : ∀ u, Sp W b q (w0 w) u → Calls Tryz.prog 280 #[.pointer (some ⟨b, 0, none⟩), .agg #[.string B, .string H, .int .i64 r, .int .i64 c, .bool fr, .bool fc]] u fun e w1 => ∃ es, e = .returned (.agg es) ∧ Hid ((Instr.storeAt 28 (.pointer (some ⟨w.heap.size, 0, none⟩)) (.agg es)).run Tryz.prog w1 = .ok () (w1.setRow w.heap.size es)) ∧ Hid (w1.heap[w.heap.size]? = some (.cells nd0 28)) ∧ Hid (es.size = 18) ∧
    Hid (NK (fun i => w.heap.size ≤ i) (w1.setRow w.heap.size es) es p.1 ∧ Sp W b p.2 w (w1.setRow w.heap.size es)) := fun u hu => (C u hu.1).mono (by
   rintro e w1 ⟨es, rfl, h1, h2⟩
   exact ⟨es, rfl, dU hb (h1.mono (fun i hi _ => by have := hu.2.size; simp at this; omega)) (hu.step h2)⟩)
  clear C
  go_enter Tryz.func272, Tryz.ntmps272
  go_wp2_with (first
   | (go_at_call 257; refine SK.mono ?_; rintro e w3 ⟨rfl, hs⟩; obtain rfl := hs.symm; clear hs)
   | (go_at_call 157; refine TK.mono ?_; rintro e w4 ⟨rfl, HS4⟩)
   | (go_at_call 280; refine (C' _ (HS4.out.alloc _)).mono ?_; rintro e w5 ⟨es, rfl, RS, HG, HZ, HF⟩)
   | (refine aD rfl 28 _ _ rfl _ _ _ rfl rfl RS.out ?_))
  exact bodyPost_ret (bP HG.out HZ.out rfl rfl) rfl ⟨_, rfl, HF.out.1, HF.out.2⟩
theorem aFy {S B : ByteArray} {q : List Tk.Tok} {o : Option (T × List Tk.Tok)} (hb : b < w.heap.size) (SK : Calls Tryz.prog 257 #[.pointer (some ⟨b, 0, none⟩), .string ⟨#[40]⟩] (w0 w) fun e w' => e = .returned (.bool false) ∧ w' = w0 w)
  (TK : Calls Tryz.prog 157 #[.pointer (some ⟨b, 0, none⟩)] (w0 w) fun e w' => e = .returned (.agg (tcs 4 0 S B noB 0 0 false false)) ∧ Hid (Sp W b q (w0 w) w')) (C : ∀ u, PR W b q u → Calls Tryz.prog 281 #[.pointer (some ⟨b, 0, none⟩), .agg (tcs 4 0 S B noB 0 0 false false)] u (PO W b u o)) :
  Calls Tryz.prog 272 #[.pointer (some ⟨b, 0, none⟩)] w (PO W b w o) := by
 have HG0 : Hid (w.grownBy (w0 w) (some b)) := World.grownBy_alloc _ _ _
 cases o with
 | none =>
  have C' : ∀ u, PR W b q u → Calls Tryz.prog 281 #[.pointer (some ⟨b, 0, none⟩), .agg (tcs 4 0 S B noB 0 0 false false)] u fun e w' => e = .panicked bQ ∧ u.grownBy w' (some b) := C
  clear C
  go_enter Tryz.func272, Tryz.ntmps272
  go_wp2_with (first
   | (go_at_call 257; refine SK.mono ?_; rintro e w3 ⟨rfl, hs⟩; obtain rfl := hs.symm; clear hs)
   | (go_at_call 157; refine TK.mono ?_; rintro e w4 ⟨rfl, HS4⟩)
   | (go_at_call 281; refine (C' _ (HS4.out.alloc _).1).mono ?_; rintro e w5 ⟨rfl, hg⟩))
  exact ⟨rfl, rfl, aM HG0.out (aM (HS4.out.alloc _).2 hg)⟩
 | some p =>
  have C' : ∀ u, Sp W b q (w0 w) u → Calls Tryz.prog 281 #[.pointer (some ⟨b, 0, none⟩), .agg (tcs 4 0 S B noB 0 0 false false)] u fun e w1 => ∃ es, e = .returned (.agg es) ∧ Hid ((Instr.storeAt 28 (.pointer (some ⟨w.heap.size, 0, none⟩)) (.agg es)).run Tryz.prog w1 = .ok () (w1.setRow w.heap.size es)) ∧ Hid (w1.heap[w.heap.size]? = some (.cells nd0 28)) ∧ Hid (es.size = 18) ∧
    Hid (NK (fun i => w.heap.size ≤ i) (w1.setRow w.heap.size es) es p.1 ∧ Sp W b p.2 w (w1.setRow w.heap.size es)) := fun u hu => (C u hu.1).mono (by
   rintro e w1 ⟨es, rfl, h1, h2⟩
   exact ⟨es, rfl, dU hb (h1.mono (fun i hi _ => by have := hu.2.size; simp at this; omega)) (hu.step h2)⟩)
  clear C
  go_enter Tryz.func272, Tryz.ntmps272
  go_wp2_with (first
   | (go_at_call 257; refine SK.mono ?_; rintro e w3 ⟨rfl, hs⟩; obtain rfl := hs.symm; clear hs)
   | (go_at_call 157; refine TK.mono ?_; rintro e w4 ⟨rfl, HS4⟩)
   | (go_at_call 281; refine (C' _ (HS4.out.alloc _)).mono ?_; rintro e w5 ⟨es, rfl, RS, HG, HZ, HF⟩)
   | (refine aD rfl 28 _ _ rfl _ _ _ rfl rfl RS.out ?_))
  exact bodyPost_ret (bP HG.out HZ.out rfl rfl) rfl ⟨_, rfl, HF.out.1, HF.out.2⟩
end
theorem aFz {W w : World} {b : Nat} {ts : List Tk.Tok} (hn : ts.length ≤ 256) (X : PR W b ts w) (C : ∀ ts' u, ts'.length ≤ ts.length → PR W b ts' u → Calls Tryz.prog 79 #[.pointer (some ⟨b, 0, none⟩)] u (PO W b u (PP 1 ts'))) :
  Calls Tryz.prog 282 #[.pointer (some ⟨b, 0, none⟩)] w (AO W b w (AA ts)) := by
 unfold AA
 by_cases h : bE ts = [41]
 ·rw [if_pos h]
  exact (aFs hn h X).mono (by rintro e w' ⟨rfl, hs⟩; exact ⟨none, 0, 0, rfl, rfl, .inl rfl, hs⟩)
 ·rw [if_neg h]
  have C0 := C ts w (Nat.le_refl _) X
  cases hP : PP 1 ts with
  | none =>
   rw [hP] at C0
   exact aC8 hn h X C0
  | some p =>
   rw [hP] at C0
   have hl := jP upF trF (by omega) _ p.1 p.2 hP
   exact aC9 hn h X hl C0 (fun ts' u h1 h2 => C ts' u (by omega) h2)
theorem aDk {b s : List UInt8} (h : Tk.okT gnF trB okN (Tk.Tok.word b s)) : jM s = true ∧ s.length ≤ 1000 := by
 have hg : ∀ s, gnF s = true → jM s = true ∧ s.length ≤ 1000 := fun s h => ⟨(eY h).2.1, by have := (eY h).1; omega⟩
 rcases h with ⟨_, h | h⟩ | ⟨_, h⟩
 ·exact hg s h
 ·obtain ⟨h1, h2⟩ := pF h
  refine ⟨?_, ?_⟩
  ·cases s with
   | nil => exact absurd rfl h1
   | cons c r => exact h2 c (by simp)
  ·rcases rG h with e | e
   ·have := congrArg List.length e; simp [szF] at this; omega
   ·have := congrArg List.length e; simp [szF] at this; omega
 ·exact hg s h
theorem aHt {W w : World} {b : Nat} {ts : List Tk.Tok} (hn : ts.length ≤ 256) (X : PR W b ts w) (C : ∀ ts' u, ts'.length < ts.length → PR W b ts' u → Calls Tryz.prog 79 #[.pointer (some ⟨b, 0, none⟩)] u (PO W b u (PP 1 ts'))) :
  Calls Tryz.prog 272 #[.pointer (some ⟨b, 0, none⟩)] w (PO W b w (PP 8 ts)) := by
 have e : PP 8 ts = iJ upF trF (PP 1) ts := aIT upF trF ts
 rw [e]
 have hb := X.lt
 cases ts with
 | nil => exact aHo X
 | cons t q =>
  have hok := X.ok t (by simp)
  have hq : q.length ≤ 256 := by simp at hn; omega
  by_cases h40 : bE (t :: q) = [40]
  ·cases t using Tk.Tok.cs with
   | op s =>
    have hs : s = [40] := h40
    have e2 : iJ upF trF (PP 1) (Tk.Tok.op s :: q) = (PP 1 q).bind fun p => if bE p.2 = [41] then some (p.1, p.2.tail) else none := by
     simp only [iJ]; rw [if_pos hs]
    rw [e2]
    have C1 := fun u hu => C q u (by simp) hu
    cases hP : PP 1 q with
    | none =>
     rw [hP] at C1
     exact aDj hn h40 X C1
    | some p =>
     obtain ⟨n, r⟩ := p
     rw [hP] at C1
     have hl := jP upF trF (by omega) _ n r hP
     simp only [Option.bind_some]
     by_cases h41 : bE r = [41]
     ·rw [if_pos h41]; exact aFx hn h40 (by omega) X C1 h41
     ·rw [if_neg h41]; exact wE hn h40 (by omega) X C1 h41
   | num n => cases h40
   | str n => cases h40
   | ref n => cases h40
   | word n m => cases h40
   | bad n => cases h40
  ·obtain ⟨SK, TK⟩ := aI5 hn h40 X
   have lf : ∀ {a : Lab} {f : Nat} {r : List Tk.Tok}, Calls Tryz.prog 272 #[.pointer (some ⟨b, 0, none⟩)] w (fun e w' => e = .returned (.agg (lcs a (.slice none 0 0))) ∧ Sp W b r w w') → Calls Tryz.prog 272 #[.pointer (some ⟨b, 0, none⟩)] w (PO W b w (some (tree a [], r))) := fun h => h.mono (by rintro e w' ⟨rfl, h⟩; exact ⟨_, rfl, NK.leaf, h⟩)
   cases t using Tk.Tok.cs with
   | op s =>
    have hs : s ≠ [40] := h40
    have e2 : iJ upF trF (PP 1) (Tk.Tok.op s :: q) = none := by simp only [iJ]; rw [if_neg hs]
    rw [e2]
    exact aHr SK TK
   | num n =>
    have hg : ofV n true = .agg #[.int .i64 1, .int .i64 n, .string noB] := by
     unfold ofV
     have hgd : gd n = true := by
      have h1 : okN n := hok.1
      unfold gd
      simp only [Bool.and_eq_true, decide_eq_true_eq]
      exact ⟨by have := h1.1; omega, h1.2⟩
     rw [hgd]; rfl
    have V := fun u => aED n true u
    rw [hg] at V
    exact lf (f := 0) (one_num hb SK TK V)
   | str s =>
    have hl : vI (ba s) = true := by
     have h1 : s.length ≤ 255 := hok.2
     rcases nZ (ba s) with ⟨_, h⟩ | ⟨h2, h⟩
     ·exact h
     ·rw [size_mk] at h2; omega
    have V := fun u => aHn (ba s) u
    rw [hl] at V
    exact lf (f := 0) (aHp hb SK TK V)
   | bad n =>
    have hg : qU (n : Int) = n := by
     have h1 : 1 ≤ n ∧ n ≤ 8 := hok.1
     unfold qU
     rw [if_pos (vL n h1.1 h1.2)]
    have V := fun u => mU (n : Int) u
    rw [hg] at V
    exact lf (f := 0) (aHq hb SK TK V)
   | ref x => exact aHs hb SK TK (fun u hu => aDd x hq hu)
   | word bk s =>
    obtain ⟨h1, h2⟩ := aDk hok.1
    have e2 : iJ upF trF (PP 1) (Tk.Tok.word bk s :: q) = aCb bk s q := by
     simp only [iJ, aCb]
     rw [aHm]
     split
     ·rfl
     ·cases trF s <;> rfl
    rw [e2]
    refine aFy hb SK TK (fun u hu => aFv bk s hq h1 h2 hu (fun v h40 hv => ?_))
    have hl := (bA (ts := q) h40 (by decide)).1
    exact aFz (by omega) hv (fun ts' u' h3 h4 => C ts' u' (by simp; omega) h4)
def fnN : Nat → Nat
 | 1 => 79
 | 2 => 122
 | 3 => 158
 | 4 => 201
 | 5 => 227
 | 6 => 240
 | 7 => 259
 | _ => 272
theorem aFA : ∀ (n lv : Nat) (ts : List Tk.Tok), 1 ≤ lv → lv ≤ 8 → need lv ts ≤ n → ts.length ≤ 256 → ∀ (W : World) (b : Nat) (w : World), PR W b ts w → Calls Tryz.prog (fnN lv) #[.pointer (some ⟨b, 0, none⟩)] w (PO W b w (PP lv ts))
 | 0, lv, ts, h1, h8, hn, _ => by unfold need at hn; omega
 | n + 1, lv, ts, h1, h8, hn, hl => by
  intro W b w X
  have IH := aFA n
  unfold need at hn
  have R : ∀ lv', 1 ≤ lv' → lv' ≤ 8 → lv < lv' → ∀ ts' u, ts'.length ≤ ts.length → PR W b ts' u → Calls Tryz.prog (fnN lv') #[.pointer (some ⟨b, 0, none⟩)] u (PO W b u (PP lv' ts')) := fun lv' a1 a2 a3 ts' u h2 h3 => IH lv' ts' a1 a2 (by unfold need; omega) (by omega) W b u h3
  have hc : lv = 1 ∨ lv = 2 ∨ lv = 3 ∨ lv = 4 ∨ lv = 5 ∨ lv = 6 ∨ lv = 7 ∨ lv = 8 := by omega
  rcases hc with rfl | rfl | rfl | rfl | rfl | rfl | rfl | rfl
  ·exact aHe hl (R 2 (by omega) (by omega) (by omega)) X
  ·exact aHf hl (R 3 (by omega) (by omega) (by omega)) X
  ·exact aHg hl (R 4 (by omega) (by omega) (by omega)) X
  ·exact aHh hl (R 5 (by omega) (by omega) (by omega)) X
  ·exact aHi hl (R 6 (by omega) (by omega) (by omega)) X
  ·refine aHj hl (fun u h hu => ?_) (fun u hu => R 7 (by omega) (by omega) (by omega) ts u (Nat.le_refl _) hu) X
   have := (bA (ts := ts) h (by decide)).1
   exact IH 6 ts.tail (by omega) (by omega) (by unfold need; omega) (by omega) W b u hu
  ·exact aHl hl (fun u hu => R 8 (by omega) (by omega) (by omega) ts u (Nat.le_refl _) hu) X
  ·exact aHt hl X (fun ts' u h2 hu => IH 1 ts' (by omega) (by omega) (by unfold need; omega) (by omega) W b u hu)
theorem wF {W w : World} {b : Nat} {ts : List Tk.Tok} (hn : ts.length ≤ 256) (X : PR W b ts w) : Calls Tryz.prog 79 #[.pointer (some ⟨b, 0, none⟩)] w (PO W b w (PP 1 ts)) :=
 aFA _ 1 ts (by omega) (by omega) (Nat.le_refl _) hn W b w X
end Go.Proofs.YtljmklbbngpllaaGreatDoor
