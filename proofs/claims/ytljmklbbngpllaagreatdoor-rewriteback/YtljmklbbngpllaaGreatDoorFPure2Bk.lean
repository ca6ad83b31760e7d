/- FOne, FAll, FPure2. -/
import Derived.Test.YtljmklbbngpllaaGreatDoorVGoodBk
set_option linter.unusedVariables false
set_option linter.unusedSimpArgs false
set_option maxHeartbeats 16000000
set_option maxRecDepth 100000
namespace Go.Proofs.YtljmklbbngpllaaGreatDoor
open Go.RowKit Go.Fm
section
variable {W w : World} {b : Nat}
abbrev w0 (w : World) : World := w.alloc (.cells nd0 28)
theorem aF5 {ts r : List Tk.Tok} {n : T} (hn : ts.length ≤ 256) (h : bG ts = [40]) (hr : r.length ≤ 256) (X : PR W b ts w) (C : ∀ u, PR W b ts.tail u → Calls Tryz.prog 79 #[.pointer (some ⟨b, 0, none⟩)] u (PO W b u (some (n, r)))) (h41 : bG r = [41]) :
  Calls Tryz.prog 272 #[.pointer (some ⟨b, 0, none⟩)] w (PO W b w (some (n, r.tail))) := by
 have hb := X.lt
 have X2 := X.alloc (.cells nd0 28)
 have SK : Calls Tryz.prog 257 #[.pointer (some ⟨b, 0, none⟩), .string ⟨#[40]⟩] (w0 w) fun e w' => e = .returned (.bool true) ∧ Hid (Sp W b ts.tail (w0 w) w') := dY X2 (by omega) [40] (by decide) h
 have C2 : ∀ u, Sp W b ts.tail (w0 w) u → Calls Tryz.prog 79 #[.pointer (some ⟨b, 0, none⟩)] u fun e w1 => ∃ es, e = .returned (.agg es) ∧ Hid ((Instr.storeAt 28 (.pointer (some ⟨w1.heap.size, 0, none⟩)) (.agg es)).run Tryz.prog (w1.alloc (.cells nd0 28)) = .ok () (w1.alloc (.cells es 28))) ∧ Hid (Sp W b r (w0 w) (w1.alloc (.cells es 28))) ∧
   Hid (∀ u, Sp W b r.tail (w1.alloc (.cells es 28)) u → (Instr.loadAt 28 (.pointer (some ⟨w1.heap.size, 0, none⟩))).run Tryz.prog u = .ok (.agg es) u ∧ Sp W b r.tail (w0 w) u ∧ NK (fun i => w.heap.size < i) u es n) := fun u hu => (C u hu.1).mono (by
  rintro e w1 ⟨es, rfl, h1, h2⟩
  have hS : Sp W b r (w0 w) (w1.alloc (.cells es 28)) := (hu.step h2).alloc _
  refine ⟨es, rfl, (mY w1 h1.nt).1, hS, fun v hv => ?_⟩
  have hz := hu.2.size
  have hzz := h2.2.size
  simp at hz
  refine ⟨h1.lod (hv.kept (heap_alloc_new w1 _) (by omega)), hS.step hv, ?_⟩
  exact ((h1.mono (K' := fun i => w.heap.size < i) (fun i hi _ => by omega)).below (aC (Below.refl _ _) (.cells es 28))).grown hv.2 (fun g e hk => by cases e; omega))
 have MU : ∀ u, PR W b r u → Calls Tryz.prog 277 #[.pointer (some ⟨b, 0, none⟩), .string ⟨#[41]⟩] u fun e w' => e = .returned (.tuple #[]) ∧ Sp W b r.tail u w' := fun u hu => aAq hu hr [41] (by decide) h41
 clear C X X2 h h41
 generalize ts.tail = L' at *
 generalize r.tail = r' at *
 obtain ⟨w2, hw2⟩ : ∃ w2, w0 w = w2 := ⟨_, rfl⟩
 have FIN : ∀ (u : World) (es : Array Value), Sp W b r' w2 u → NK (fun i => w.heap.size < i) u es n → _ := fun u es hu hN => by
  rw [← hw2] at hu
  exact eG hb hN hu
 rw [hw2] at SK
 simp only [hw2] at C2
 go_enter Tryz.func272, Tryz.ntmps272
 go_wp2_with (first
  | (go_at_call 257; refine SK.mono ?_; rintro e w3 ⟨rfl, HS⟩)
  | (go_at_call 79; refine (C2 _ HS.out).mono ?_; rintro e w4 ⟨es, rfl, RS0, HS4, HL4⟩)
  | (refine aB rfl 28 _ _ rfl _ _ _ rfl rfl RS0.out ?_; clear RS0)
  | (go_at_call 277; refine (MU _ HS4.out.1).mono ?_; rintro e w5 ⟨rfl, hs⟩; obtain ⟨rl5, hs5, hn5⟩ := HL4.out _ hs; have RL5 : Hid _ := rl5; obtain ⟨RS, HG, HZ, HF⟩ := FIN _ _ hs5 hn5; clear hs rl5 hs5 hn5)
  | (refine aA rfl 28 _ rfl _ _ rfl RL5.out ?_)
  | (refine aB rfl 28 _ _ rfl _ _ _ rfl rfl RS.out ?_))
 exact bodyPost_ret (bN HG.out HZ.out rfl rfl) rfl ⟨_, rfl, HF.out.1, HF.out.2⟩
theorem xC {ts r : List Tk.Tok} {n : T} (hn : ts.length ≤ 256) (h : bG ts = [40]) (hr : r.length ≤ 256) (X : PR W b ts w) (C : ∀ u, PR W b ts.tail u → Calls Tryz.prog 79 #[.pointer (some ⟨b, 0, none⟩)] u (PO W b u (some (n, r)))) (h41 : bG r ≠ [41]) :
  Calls Tryz.prog 272 #[.pointer (some ⟨b, 0, none⟩)] w fun e w' => e = .panicked bX ∧ w.grownBy w' (some b) := by
 have X2 := X.alloc (.cells nd0 28)
 have SK : Calls Tryz.prog 257 #[.pointer (some ⟨b, 0, none⟩), .string ⟨#[40]⟩] (w0 w) fun e w' => e = .returned (.bool true) ∧ Hid (Sp W b ts.tail (w0 w) w') := dY X2 (by omega) [40] (by decide) h
 have C2 : ∀ u, Sp W b ts.tail (w0 w) u → Calls Tryz.prog 79 #[.pointer (some ⟨b, 0, none⟩)] u fun e w1 => ∃ es, e = .returned (.agg es) ∧ Hid ((Instr.storeAt 28 (.pointer (some ⟨w1.heap.size, 0, none⟩)) (.agg es)).run Tryz.prog (w1.alloc (.cells nd0 28)) = .ok () (w1.alloc (.cells es 28))) ∧ Hid (Sp W b r (w0 w) (w1.alloc (.cells es 28))) := fun u hu => (C u hu.1).mono (by
  rintro e w1 ⟨es, rfl, h1, h2⟩
  exact ⟨es, rfl, (mY w1 h1.nt).1, (hu.step h2).alloc _⟩)
 have MU : ∀ u, PR W b r u → Calls Tryz.prog 277 #[.pointer (some ⟨b, 0, none⟩), .string ⟨#[41]⟩] u fun e w' => e = .panicked bX ∧ w' = u := fun u hu => aCI hu hr [41] h41
 have HG0 : Hid (w.grownBy (w0 w) (some b)) := World.grownBy_alloc _ _ _
 clear C X X2 h h41
 generalize ts.tail = L' at *
 obtain ⟨w2, hw2⟩ : ∃ w2, w0 w = w2 := ⟨_, rfl⟩
 rw [hw2] at SK HG0
 simp only [hw2] at C2
 go_enter Tryz.func272, Tryz.ntmps272
 go_wp2_with (first
  | (go_at_call 257; refine SK.mono ?_; rintro e w3 ⟨rfl, HS⟩)
  | (go_at_call 79; refine (C2 _ HS.out).mono ?_; rintro e w4 ⟨es, rfl, RS0, HS4⟩)
  | (refine aB rfl 28 _ _ rfl _ _ _ rfl rfl RS0.out ?_; clear RS0)
  | (go_at_call 277; refine (MU _ HS4.out.1).mono ?_; rintro e w5 ⟨rfl, hs⟩; obtain rfl := hs.symm; clear hs))
 exact ⟨rfl, rfl, aN HG0.out HS4.out.2⟩
theorem aDT {ts : List Tk.Tok} (hn : ts.length ≤ 256) (h : bG ts = [40]) (X : PR W b ts w) (C : ∀ u, PR W b ts.tail u → Calls Tryz.prog 79 #[.pointer (some ⟨b, 0, none⟩)] u fun e w' => e = .panicked bX ∧ u.grownBy w' (some b)) :
  Calls Tryz.prog 272 #[.pointer (some ⟨b, 0, none⟩)] w fun e w' => e = .panicked bX ∧ w.grownBy w' (some b) := by
 have X2 := X.alloc (.cells nd0 28)
 have SK : Calls Tryz.prog 257 #[.pointer (some ⟨b, 0, none⟩), .string ⟨#[40]⟩] (w0 w) fun e w' => e = .returned (.bool true) ∧ Hid (Sp W b ts.tail (w0 w) w') := dY X2 (by omega) [40] (by decide) h
 have HG0 : Hid (w.grownBy (w0 w) (some b)) := World.grownBy_alloc _ _ _
 clear X X2 h
 generalize ts.tail = L' at *
 obtain ⟨w2, hw2⟩ : ∃ w2, w0 w = w2 := ⟨_, rfl⟩
 rw [hw2] at SK HG0
 go_enter Tryz.func272, Tryz.ntmps272
 go_wp2_with (first
  | (go_at_call 257; refine SK.mono ?_; rintro e w3 ⟨rfl, HS⟩)
  | (go_at_call 79; refine (C _ HS.out.1).mono ?_; rintro e w4 ⟨rfl, hg⟩))
 exact ⟨rfl, rfl, aN HG0.out (aN HS.out.2 hg)⟩
theorem aH3 (X : PR W b [] w) : Calls Tryz.prog 272 #[.pointer (some ⟨b, 0, none⟩)] w fun e w' => e = .panicked bX ∧ w.grownBy w' (some b) := by
 have X2 := X.alloc (.cells nd0 28)
 have SK : Calls Tryz.prog 257 #[.pointer (some ⟨b, 0, none⟩), .string ⟨#[40]⟩] (w0 w) fun e w' => e = .returned (.bool false) ∧ w' = w0 w := fZ X2 (by simp) [40] (by decide)
 have TK := take_nil X2
 have HG0 : Hid (w.grownBy (w0 w) (some b)) := World.grownBy_alloc _ _ _
 clear X X2
 go_enter Tryz.func272, Tryz.ntmps272
 go_wp2_with (first
  | (go_at_call 257; refine SK.mono ?_; rintro e w3 ⟨rfl, hs⟩; obtain rfl := hs.symm; clear hs)
  | (go_at_call 157; refine TK.mono ?_; rintro e w4 ⟨rfl, hg⟩))
 exact ⟨rfl, rfl, aN HG0.out hg⟩
theorem aJV {t : Tk.Tok} {q : List Tk.Tok} (hn : (t :: q).length ≤ 256) (h : bG (t :: q) ≠ [40]) (X : PR W b (t :: q) w) :
  Calls Tryz.prog 257 #[.pointer (some ⟨b, 0, none⟩), .string ⟨#[40]⟩] (w0 w) (fun e w' => e = .returned (.bool false) ∧ w' = w0 w) ∧ Calls Tryz.prog 157 #[.pointer (some ⟨b, 0, none⟩)] (w0 w) (fun e w' => e = .returned (.agg (tcs (tk t).k (tk t).n (tk t).s (tk t).b (tk t).h (tk t).r (tk t).c (tk t).fr (tk t).fc)) ∧ Hid (Sp W b q (w0 w) w')) :=
 ⟨fZ (X.alloc (.cells nd0 28)) hn [40] h, take_cons (X.alloc (.cells nd0 28)) (by simp at hn; omega)⟩
theorem one_num {n : Int} {q : List Tk.Tok} (hb : b < w.heap.size) (SK : Calls Tryz.prog 257 #[.pointer (some ⟨b, 0, none⟩), .string ⟨#[40]⟩] (w0 w) fun e w' => e = .returned (.bool false) ∧ w' = w0 w)
  (TK : Calls Tryz.prog 157 #[.pointer (some ⟨b, 0, none⟩)] (w0 w) fun e w' => e = .returned (.agg (tcs 1 n noB noB noB 0 0 false false)) ∧ Hid (Sp W b q (w0 w) w')) (V : ∀ u, Calls Tryz.prog 223 #[.int .i64 n, .bool true] u fun e w' => e = .returned (.agg #[.int .i64 1, .int .i64 n, .string noB]) ∧ Below u.heap.size u w') :
  Calls Tryz.prog 272 #[.pointer (some ⟨b, 0, none⟩)] w fun e w' => e = .returned (.agg (lcs (iZ 1 n noB) (.slice none 0 0))) ∧ Sp W b q w w' := by
 have FIN := fun u (hu : Sp W b q (w0 w) u) => eG hb (NK.leaf (a := iZ 1 n noB)) hu
 go_enter Tryz.func272, Tryz.ntmps272
 go_wp2_with (first
  | (go_at_call 257; refine SK.mono ?_; rintro e w3 ⟨rfl, hs⟩; obtain rfl := hs.symm; clear hs)
  | (go_at_call 157; refine TK.mono ?_; rintro e w4 ⟨rfl, HS4⟩)
  | (go_at_call 223; refine (V _).mono ?_; rintro e w5 ⟨rfl, hs⟩; have HS5 : Hid (Sp W b q (w0 w) w5) := (HS4.out.alloc _).bel hs; clear hs)
  | (go_at_call 278; refine (jG 1 n noB _).mono ?_; rintro e w6 ⟨rfl, hs⟩; obtain ⟨RS, HG, HZ, HF⟩ := FIN _ (HS5.out.bel hs); clear hs)
  | (refine aB rfl 28 _ _ rfl _ _ _ rfl rfl RS.out ?_))
 exact bodyPost_ret (bN HG.out HZ.out rfl rfl) rfl ⟨rfl, HF.out.2⟩
theorem aH4 {S : ByteArray} {q : List Tk.Tok} (hb : b < w.heap.size) (SK : Calls Tryz.prog 257 #[.pointer (some ⟨b, 0, none⟩), .string ⟨#[40]⟩] (w0 w) fun e w' => e = .returned (.bool false) ∧ w' = w0 w)
  (TK : Calls Tryz.prog 157 #[.pointer (some ⟨b, 0, none⟩)] (w0 w) fun e w' => e = .returned (.agg (tcs 2 0 S noB noB 0 0 false false)) ∧ Hid (Sp W b q (w0 w) w')) (V : ∀ u, Calls Tryz.prog 279 #[.string S] u fun e w' => e = .returned (.agg #[.int .i64 2, .int .i64 0, .string S]) ∧ Below u.heap.size u w') :
  Calls Tryz.prog 272 #[.pointer (some ⟨b, 0, none⟩)] w fun e w' => e = .returned (.agg (lcs (iZ 2 0 S) (.slice none 0 0))) ∧ Sp W b q w w' := by
 have FIN := fun u (hu : Sp W b q (w0 w) u) => eG hb (NK.leaf (a := iZ 2 0 S)) hu
 go_enter Tryz.func272, Tryz.ntmps272
 go_wp2_with (first
  | (go_at_call 257; refine SK.mono ?_; rintro e w3 ⟨rfl, hs⟩; obtain rfl := hs.symm; clear hs)
  | (go_at_call 157; refine TK.mono ?_; rintro e w4 ⟨rfl, HS4⟩)
  | (go_at_call 279; refine (V _).mono ?_; rintro e w5 ⟨rfl, hs⟩; have HS5 : Hid (Sp W b q (w0 w) w5) := (HS4.out.alloc _).bel hs; clear hs)
  | (go_at_call 278; refine (jG 2 0 S _).mono ?_; rintro e w6 ⟨rfl, hs⟩; obtain ⟨RS, HG, HZ, HF⟩ := FIN _ (HS5.out.bel hs); clear hs)
  | (refine aB rfl 28 _ _ rfl _ _ _ rfl rfl RS.out ?_))
 exact bodyPost_ret (bN HG.out HZ.out rfl rfl) rfl ⟨rfl, HF.out.2⟩
theorem aH5 {n : Int} {q : List Tk.Tok} (hb : b < w.heap.size) (SK : Calls Tryz.prog 257 #[.pointer (some ⟨b, 0, none⟩), .string ⟨#[40]⟩] (w0 w) fun e w' => e = .returned (.bool false) ∧ w' = w0 w)
  (TK : Calls Tryz.prog 157 #[.pointer (some ⟨b, 0, none⟩)] (w0 w) fun e w' => e = .returned (.agg (tcs 6 n noB noB noB 0 0 false false)) ∧ Hid (Sp W b q (w0 w) w')) (V : ∀ u, Calls Tryz.prog 149 #[.int .i64 n] u fun e w' => e = .returned (.agg #[.int .i64 4, .int .i64 n, .string noB]) ∧ Below u.heap.size u w') :
  Calls Tryz.prog 272 #[.pointer (some ⟨b, 0, none⟩)] w fun e w' => e = .returned (.agg (lcs (iZ 4 n noB) (.slice none 0 0))) ∧ Sp W b q w w' := by
 have FIN := fun u (hu : Sp W b q (w0 w) u) => eG hb (NK.leaf (a := iZ 4 n noB)) hu
 go_enter Tryz.func272, Tryz.ntmps272
 go_wp2_with (first
  | (go_at_call 257; refine SK.mono ?_; rintro e w3 ⟨rfl, hs⟩; obtain rfl := hs.symm; clear hs)
  | (go_at_call 157; refine TK.mono ?_; rintro e w4 ⟨rfl, HS4⟩)
  | (go_at_call 149; refine (V _).mono ?_; rintro e w5 ⟨rfl, hs⟩; have HS5 : Hid (Sp W b q (w0 w) w5) := (HS4.out.alloc _).bel hs; clear hs)
  | (go_at_call 278; refine (jG 4 n noB _).mono ?_; rintro e w6 ⟨rfl, hs⟩; obtain ⟨RS, HG, HZ, HF⟩ := FIN _ (HS5.out.bel hs); clear hs)
  | (refine aB rfl 28 _ _ rfl _ _ _ rfl rfl RS.out ?_))
 exact bodyPost_ret (bN HG.out HZ.out rfl rfl) rfl ⟨rfl, HF.out.2⟩
theorem aH6 {S : ByteArray} {q : List Tk.Tok} (SK : Calls Tryz.prog 257 #[.pointer (some ⟨b, 0, none⟩), .string ⟨#[40]⟩] (w0 w) fun e w' => e = .returned (.bool false) ∧ w' = w0 w)
  (TK : Calls Tryz.prog 157 #[.pointer (some ⟨b, 0, none⟩)] (w0 w) fun e w' => e = .returned (.agg (tcs 5 0 S noB noB 0 0 false false)) ∧ Hid (Sp W b q (w0 w) w')) :
  Calls Tryz.prog 272 #[.pointer (some ⟨b, 0, none⟩)] w fun e w' => e = .panicked bX ∧ w.grownBy w' (some b) := by
 have HG0 : Hid (w.grownBy (w0 w) (some b)) := World.grownBy_alloc _ _ _
 go_enter Tryz.func272, Tryz.ntmps272
 go_wp2_with (first
  | (go_at_call 257; refine SK.mono ?_; rintro e w3 ⟨rfl, hs⟩; obtain rfl := hs.symm; clear hs)
  | (go_at_call 157; refine TK.mono ?_; rintro e w4 ⟨rfl, HS4⟩))
 exact ⟨rfl, rfl, aN HG0.out (HS4.out.alloc _).2⟩
theorem aH7 {B H : ByteArray} {r c : Int} {fr fc : Bool} {q : List Tk.Tok} {o : Option (T × List Tk.Tok)} (hb : b < w.heap.size) (SK : Calls Tryz.prog 257 #[.pointer (some ⟨b, 0, none⟩), .string ⟨#[40]⟩] (w0 w) fun e w' => e = .returned (.bool false) ∧ w' = w0 w)
  (TK : Calls Tryz.prog 157 #[.pointer (some ⟨b, 0, none⟩)] (w0 w) fun e w' => e = .returned (.agg (tcs 3 0 noB B H r c fr fc)) ∧ Hid (Sp W b q (w0 w) w')) (C : ∀ u, PR W b q u → Calls Tryz.prog 280 #[.pointer (some ⟨b, 0, none⟩), .agg #[.string B, .string H, .int .i64 r, .int .i64 c, .bool fr, .bool fc]] u (PO W b u o)) :
  Calls Tryz.prog 272 #[.pointer (some ⟨b, 0, none⟩)] w (PO W b w o) := by
 have HG0 : Hid (w.grownBy (w0 w) (some b)) := World.grownBy_alloc _ _ _
 cases o with
 | none =>
  have C' : ∀ u, PR W b q u → Calls Tryz.prog 280 #[.pointer (some ⟨b, 0, none⟩), .agg #[.string B, .string H, .int .i64 r, .int .i64 c, .bool fr, .bool fc]] u fun e w' => e = .panicked bX ∧ u.grownBy w' (some b) := C
  clear C
  go_enter Tryz.func272, Tryz.ntmps272
  go_wp2_with (first
   | (go_at_call 257; refine SK.mono ?_; rintro e w3 ⟨rfl, hs⟩; obtain rfl := hs.symm; clear hs)
   | (go_at_call 157; refine TK.mono ?_; rintro e w4 ⟨rfl, HS4⟩)
   | (go_at_call 280; refine (C' _ (HS4.out.alloc _).1).mono ?_; rintro e w5 ⟨rfl, hg⟩))
  exact ⟨rfl, rfl, aN HG0.out (aN (HS4.out.alloc _).2 hg)⟩
 | some p =>
  have C' : ∀ u, Sp W b q (w0 w) u → Calls Tryz.prog 280 #[.pointer (some ⟨b, 0, none⟩), .agg #[.string B, .string H, .int .i64 r, .int .i64 c, .bool fr, .bool fc]] u fun e w1 => ∃ es, e = .returned (.agg es) ∧ Hid ((Instr.storeAt 28 (.pointer (some ⟨w.heap.size, 0, none⟩)) (.agg es)).run Tryz.prog w1 = .ok () (w1.setRow w.heap.size es)) ∧ Hid (w1.heap[w.heap.size]? = some (.cells nd0 28)) ∧ Hid (es.size = 18) ∧
    Hid (NK (fun i => w.heap.size ≤ i) (w1.setRow w.heap.size es) es p.1 ∧ Sp W b p.2 w (w1.setRow w.heap.size es)) := fun u hu => (C u hu.1).mono (by
   rintro e w1 ⟨es, rfl, h1, h2⟩
   exact ⟨es, rfl, eG hb (h1.mono (fun i hi _ => by have := hu.2.size; simp at this; omega)) (hu.step h2)⟩)
  clear C
  go_enter Tryz.func272, Tryz.ntmps272
  go_wp2_with (first
   | (go_at_call 257; refine SK.mono ?_; rintro e w3 ⟨rfl, hs⟩; obtain rfl := hs.symm; clear hs)
   | (go_at_call 157; refine TK.mono ?_; rintro e w4 ⟨rfl, HS4⟩)
   | (go_at_call 280; refine (C' _ (HS4.out.alloc _)).mono ?_; rintro e w5 ⟨es, rfl, RS, HG, HZ, HF⟩)
   | (refine aB rfl 28 _ _ rfl _ _ _ rfl rfl RS.out ?_))
  exact bodyPost_ret (bN HG.out HZ.out rfl rfl) rfl ⟨_, rfl, HF.out.1, HF.out.2⟩
theorem aF6 {S B : ByteArray} {q : List Tk.Tok} {o : Option (T × List Tk.Tok)} (hb : b < w.heap.size) (SK : Calls Tryz.prog 257 #[.pointer (some ⟨b, 0, none⟩), .string ⟨#[40]⟩] (w0 w) fun e w' => e = .returned (.bool false) ∧ w' = w0 w)
  (TK : Calls Tryz.prog 157 #[.pointer (some ⟨b, 0, none⟩)] (w0 w) fun e w' => e = .returned (.agg (tcs 4 0 S B noB 0 0 false false)) ∧ Hid (Sp W b q (w0 w) w')) (C : ∀ u, PR W b q u → Calls Tryz.prog 281 #[.pointer (some ⟨b, 0, none⟩), .agg (tcs 4 0 S B noB 0 0 false false)] u (PO W b u o)) :
  Calls Tryz.prog 272 #[.pointer (some ⟨b, 0, none⟩)] w (PO W b w o) := by
 have HG0 : Hid (w.grownBy (w0 w) (some b)) := World.grownBy_alloc _ _ _
 cases o with
 | none =>
  have C' : ∀ u, PR W b q u → Calls Tryz.prog 281 #[.pointer (some ⟨b, 0, none⟩), .agg (tcs 4 0 S B noB 0 0 false false)] u fun e w' => e = .panicked bX ∧ u.grownBy w' (some b) := C
  clear C
  go_enter Tryz.func272, Tryz.ntmps272
  go_wp2_with (first
   | (go_at_call 257; refine SK.mono ?_; rintro e w3 ⟨rfl, hs⟩; obtain rfl := hs.symm; clear hs)
   | (go_at_call 157; refine TK.mono ?_; rintro e w4 ⟨rfl, HS4⟩)
   | (go_at_call 281; refine (C' _ (HS4.out.alloc _).1).mono ?_; rintro e w5 ⟨rfl, hg⟩))
  exact ⟨rfl, rfl, aN HG0.out (aN (HS4.out.alloc _).2 hg)⟩
 | some p =>
  have C' : ∀ u, Sp W b q (w0 w) u → Calls Tryz.prog 281 #[.pointer (some ⟨b, 0, none⟩), .agg (tcs 4 0 S B noB 0 0 false false)] u fun e w1 => ∃ es, e = .returned (.agg es) ∧ Hid ((Instr.storeAt 28 (.pointer (some ⟨w.heap.size, 0, none⟩)) (.agg es)).run Tryz.prog w1 = .ok () (w1.setRow w.heap.size es)) ∧ Hid (w1.heap[w.heap.size]? = some (.cells nd0 28)) ∧ Hid (es.size = 18) ∧
    Hid (NK (fun i => w.heap.size ≤ i) (w1.setRow w.heap.size es) es p.1 ∧ Sp W b p.2 w (w1.setRow w.heap.size es)) := fun u hu => (C u hu.1).mono (by
   rintro e w1 ⟨es, rfl, h1, h2⟩
   exact ⟨es, rfl, eG hb (h1.mono (fun i hi _ => by have := hu.2.size; simp at this; omega)) (hu.step h2)⟩)
  clear C
  go_enter Tryz.func272, Tryz.ntmps272
  go_wp2_with (first
   | (go_at_call 257; refine SK.mono ?_; rintro e w3 ⟨rfl, hs⟩; obtain rfl := hs.symm; clear hs)
   | (go_at_call 157; refine TK.mono ?_; rintro e w4 ⟨rfl, HS4⟩)
   | (go_at_call 281; refine (C' _ (HS4.out.alloc _)).mono ?_; rintro e w5 ⟨es, rfl, RS, HG, HZ, HF⟩)
   | (refine aB rfl 28 _ _ rfl _ _ _ rfl rfl RS.out ?_))
  exact bodyPost_ret (bN HG.out HZ.out rfl rfl) rfl ⟨_, rfl, HF.out.1, HF.out.2⟩
end
theorem aF7 {W w : World} {b : Nat} {ts : List Tk.Tok} (hn : ts.length ≤ 256) (X : PR W b ts w) (C : ∀ ts' u, ts'.length ≤ ts.length → PR W b ts' u → Calls Tryz.prog 79 #[.pointer (some ⟨b, 0, none⟩)] u (PO W b u (PP 1 ts'))) :
  Calls Tryz.prog 282 #[.pointer (some ⟨b, 0, none⟩)] w (AO W b w (AA ts)) := by
 unfold AA
 by_cases h : bG ts = [41]
 ·rw [if_pos h]
  exact (aF0 hn h X).mono (by rintro e w' ⟨rfl, hs⟩; exact ⟨none, 0, 0, rfl, rfl, .inl rfl, hs⟩)
 ·rw [if_neg h]
  have C0 := C ts w (Nat.le_refl _) X
  cases hP : PP 1 ts with
  | none =>
   rw [hP] at C0
   exact aDF hn h X C0
  | some p =>
   rw [hP] at C0
   have hl := kJ upF trF (by omega) _ p.1 p.2 hP
   exact aDG hn h X hl C0 (fun ts' u h1 h2 => C ts' u (by omega) h2)
theorem aDU {b s : List UInt8} (h : Tk.okT gnF trB okN (Tk.Tok.word b s)) : kH s = true ∧ s.length ≤ 1000 := by
 have hg : ∀ s, gnF s = true → kH s = true ∧ s.length ≤ 1000 := fun s h => ⟨(fG h).2.1, by have := (fG h).1; omega⟩
 rcases h with ⟨_, h | h⟩ | ⟨_, h⟩
 ·exact hg s h
 ·obtain ⟨h1, h2⟩ := qB h
  refine ⟨?_, ?_⟩
  ·cases s with
   | nil => exact absurd rfl h1
   | cons c r => exact h2 c (by simp)
  ·rcases rZ h with e | e
   ·have := congrArg List.length e; simp [szF] at this; omega
   ·have := congrArg List.length e; simp [szF] at this; omega
 ·exact hg s h
theorem aH8 {W w : World} {b : Nat} {ts : List Tk.Tok} (hn : ts.length ≤ 256) (X : PR W b ts w) (C : ∀ ts' u, ts'.length < ts.length → PR W b ts' u → Calls Tryz.prog 79 #[.pointer (some ⟨b, 0, none⟩)] u (PO W b u (PP 1 ts'))) :
  Calls Tryz.prog 272 #[.pointer (some ⟨b, 0, none⟩)] w (PO W b w (PP 8 ts)) := by
 have e : PP 8 ts = jB upF trF (PP 1) ts := aJJ upF trF ts
 rw [e]
 have hb := X.lt
 cases ts with
 | nil => exact aH3 X
 | cons t q =>
  have hok := X.ok t (by simp)
  have hq : q.length ≤ 256 := by simp at hn; omega
  by_cases h40 : bG (t :: q) = [40]
  ·cases t using Tk.Tok.cs with
   | op s =>
    have hs : s = [40] := h40
    have e2 : jB upF trF (PP 1) (Tk.Tok.op s :: q) = (PP 1 q).bind fun p => if bG p.2 = [41] then some (p.1, p.2.tail) else none := by
     simp only [jB]; rw [if_pos hs]
    rw [e2]
    have C1 := fun u hu => C q u (by simp) hu
    cases hP : PP 1 q with
    | none =>
     rw [hP] at C1
     exact aDT hn h40 X C1
    | some p =>
     obtain ⟨n, r⟩ := p
     rw [hP] at C1
     have hl := kJ upF trF (by omega) _ n r hP
     simp only [Option.bind_some]
     by_cases h41 : bG r = [41]
     ·rw [if_pos h41]; exact aF5 hn h40 (by omega) X C1 h41
     ·rw [if_neg h41]; exact xC hn h40 (by omega) X C1 h41
   | num n => cases h40
   | str n => cases h40
   | ref n => cases h40
   | word n m => cases h40
   | bad n => cases h40
  ·obtain ⟨SK, TK⟩ := aJV hn h40 X
   have lf : ∀ {a : Lab} {f : Nat} {r : List Tk.Tok}, Calls Tryz.prog 272 #[.pointer (some ⟨b, 0, none⟩)] w (fun e w' => e = .returned (.agg (lcs a (.slice none 0 0))) ∧ Sp W b r w w') → Calls Tryz.prog 272 #[.pointer (some ⟨b, 0, none⟩)] w (PO W b w (some (tree a [], r))) := fun h => h.mono (by rintro e w' ⟨rfl, h⟩; exact ⟨_, rfl, NK.leaf, h⟩)
   cases t using Tk.Tok.cs with
   | op s =>
    have hs : s ≠ [40] := h40
    have e2 : jB upF trF (PP 1) (Tk.Tok.op s :: q) = none := by simp only [jB]; rw [if_neg hs]
    rw [e2]
    exact aH6 SK TK
   | num n =>
    have hg : ofV n true = .agg #[.int .i64 1, .int .i64 n, .string noB] := by
     unfold ofV
     have hgd : gd n = true := by
      have h1 : okN n := hok.1
      unfold gd
      simp only [Bool.and_eq_true, decide_eq_true_eq]
      exact ⟨by have := h1.1; omega, h1.2⟩
     rw [hgd]; rfl
    have V := fun u => aE9 n true u
    rw [hg] at V
    exact lf (f := 0) (one_num hb SK TK V)
   | str s =>
    have hl : uF (ba s) = true := by
     have h1 : s.length ≤ 255 := hok.2
     rcases lJ (ba s) with ⟨_, h⟩ | ⟨h2, h⟩
     ·exact h
     ·rw [size_mk] at h2; omega
    have V := fun u => aH2 (ba s) u
    rw [hl] at V
    exact lf (f := 0) (aH4 hb SK TK V)
   | bad n =>
    have hg : rJ (n : Int) = n := by
     have h1 : 1 ≤ n ∧ n ≤ 8 := hok.1
     unfold rJ
     rw [if_pos (wH n h1.1 h1.2)]
    have V := fun u => nQ (n : Int) u
    rw [hg] at V
    exact lf (f := 0) (aH5 hb SK TK V)
   | ref x => exact aH7 hb SK TK (fun u hu => aDK x hq hu)
   | word bk s =>
    obtain ⟨h1, h2⟩ := aDU hok.1
    have e2 : jB upF trF (PP 1) (Tk.Tok.word bk s :: q) = aCK bk s q := by
     simp only [jB, aCK]
     rw [aH1]
     split
     ·rfl
     ·cases trF s <;> rfl
    rw [e2]
    refine aF6 hb SK TK (fun u hu => aF3 bk s hq h1 h2 hu (fun v h40 hv => ?_))
    have hl := (bC (ts := q) h40 (by decide)).1
    exact aF7 (by omega) hv (fun ts' u' h3 h4 => C ts' u' (by simp; omega) h4)
def fnN : Nat → Nat
 | 1 => 79
 | 2 => 122
 | 3 => 158
 | 4 => 201
 | 5 => 227
 | 6 => 240
 | 7 => 259
 | _ => 272
theorem aF8 : ∀ (n lv : Nat) (ts : List Tk.Tok), 1 ≤ lv → lv ≤ 8 → need lv ts ≤ n → ts.length ≤ 256 → ∀ (W : World) (b : Nat) (w : World), PR W b ts w → Calls Tryz.prog (fnN lv) #[.pointer (some ⟨b, 0, none⟩)] w (PO W b w (PP lv ts))
 | 0, lv, ts, h1, h8, hn, _ => by unfold need at hn; omega
 | n + 1, lv, ts, h1, h8, hn, hl => by
  intro W b w X
  have IH := aF8 n
  unfold need at hn
  have R : ∀ lv', 1 ≤ lv' → lv' ≤ 8 → lv < lv' → ∀ ts' u, ts'.length ≤ ts.length → PR W b ts' u → Calls Tryz.prog (fnN lv') #[.pointer (some ⟨b, 0, none⟩)] u (PO W b u (PP lv' ts')) := fun lv' a1 a2 a3 ts' u h2 h3 => IH lv' ts' a1 a2 (by unfold need; omega) (by omega) W b u h3
  have hc : lv = 1 ∨ lv = 2 ∨ lv = 3 ∨ lv = 4 ∨ lv = 5 ∨ lv = 6 ∨ lv = 7 ∨ lv = 8 := by omega
  rcases hc with rfl | rfl | rfl | rfl | rfl | rfl | rfl | rfl
  ·exact aHT hl (R 2 (by omega) (by omega) (by omega)) X
  ·exact aHU hl (R 3 (by omega) (by omega) (by omega)) X
  ·exact aHV hl (R 4 (by omega) (by omega) (by omega)) X
  ·exact aHW hl (R 5 (by omega) (by omega) (by omega)) X
  ·exact aHX hl (R 6 (by omega) (by omega) (by omega)) X
  ·refine aHY hl (fun u h hu => ?_) (fun u hu => R 7 (by omega) (by omega) (by omega) ts u (Nat.le_refl _) hu) X
   have := (bC (ts := ts) h (by decide)).1
   exact IH 6 ts.tail (by omega) (by omega) (by unfold need; omega) (by omega) W b u hu
  ·exact aH0 hl (fun u hu => R 8 (by omega) (by omega) (by omega) ts u (Nat.le_refl _) hu) X
  ·exact aH8 hl X (fun ts' u h2 hu => IH 1 ts' (by omega) (by omega) (by unfold need; omega) (by omega) W b u hu)
theorem xD {W w : World} {b : Nat} {ts : List Tk.Tok} (hn : ts.length ≤ 256) (X : PR W b ts w) : Calls Tryz.prog 79 #[.pointer (some ⟨b, 0, none⟩)] w (PO W b w (PP 1 ts)) :=
 aF8 _ 1 ts (by omega) (by omega) (Nat.le_refl _) hn W b w X
end Go.Proofs.YtljmklbbngpllaaGreatDoor
namespace Go.Fm
open Go.Ad Go.Tk
def Few (part : Part) : Prop := ∀ ts n r, part ts = some (n, r) → zT n + r.length ≤ ts.length
def pI (l : List T) : Nat := (l.map zT).sum
theorem lV (a : Lab) (l : List T) : zT (tree a l) = pI l + 1 := by
 unfold zT tree pI
 rw [gL, lS]
theorem aAv {part : Part} (hp : Few part) {lv : Nat} (hlv : lv ≠ 0) : ∀ (k : Nat) (n : T) (ts : List Tok) (m : T) (r : List Tok), dQ part lv k n ts = some (m, r) → zT m + r.length ≤ zT n + ts.length
 | 0, n, ts, m, r, h => by cases h; exact Nat.le_refl _
 | k + 1, n, ts, m, r, h => by
  unfold dQ at h
  split at h
  ·rename_i hs
   have h1 := (bC (ts := ts) rfl (lT (by omega))).1
   cases hq : part ts.tail with
   | none => rw [hq] at h; cases h
   | some p =>
    rw [hq] at h
    have h2 := hp _ p.1 p.2 hq
    have h3 := aAv hp hlv k _ _ _ _ h
    have h4 : zT (aAe (bG ts) n p.1) = zT n + zT p.1 + 1 := by unfold aAe; rw [lV]; simp [pI]
    omega
  ·cases h; exact Nat.le_refl _
theorem aCL : ∀ (k : Nat) (n : T) (ts : List Tok), zT (jA k n ts).1 + (jA k n ts).2.length ≤ zT n + ts.length
 | 0, n, ts => Nat.le_refl _
 | k + 1, n, ts => by
  unfold jA
  split
  ·rename_i hs
   have h1 := (bC (ts := ts) hs (by decide)).1
   have := aCL k (unT [37] n) ts.tail
   have h4 : zT (unT [37] n) = zT n + 1 := by unfold unT; rw [lV]; simp [pI]
   omega
  ·exact Nat.le_refl _
theorem aAw {part : Part} (hp : Few part) : ∀ (k : Nat) (acc : List T) (ts : List Tok) (m : List T) (r : List Tok), dH part k acc ts = some (m, r) → pI m + r.length ≤ pI acc + ts.length
 | 0, acc, ts, m, r, h => by cases h
 | k + 1, acc, ts, m, r, h => by
  unfold dH at h
  split at h
  ·rename_i hs
   have h1 := (bC (ts := ts) hs (by decide)).1
   cases h; omega
  ·split at h
   ·rename_i hs
    have h1 := (bC (ts := ts) hs (by decide)).1
    cases hq : part ts.tail with
    | none => rw [hq] at h; cases h
    | some p =>
     rw [hq] at h
     have h2 := hp _ p.1 p.2 hq
     have h3 := aAw hp k _ _ _ _ h
     have h4 : pI (acc ++ [p.1]) = pI acc + zT p.1 := by simp [pI]
     omega
   ·cases h
section
variable (up : List UInt8 → List UInt8) (tr : List UInt8 → Option Int)
theorem aF9 {part : Part} (hp : Few part) {s : List UInt8} {ts : List Tok} {m : T} {r : List Tok} (h : mO up part s ts = some (m, r)) : zT m + r.length ≤ ts.length + 1 := by
 unfold mO at h
 split at h
 ·rename_i hs
  have h1 := (bC (ts := ts) hs (by decide)).1
  cases h
  rw [lV]; simp [pI]; omega
 ·cases hq : part ts with
  | none => rw [hq] at h; cases h
  | some p =>
   rw [hq] at h
   have h2 := hp _ p.1 p.2 hq
   simp only [Option.bind_some] at h
   cases ha : dH part (ts.length + 1) [p.1] p.2 with
   | none => rw [ha] at h; cases h
   | some q =>
    rw [ha] at h
    simp only [Option.bind_some] at h
    have h3 := aAw hp _ _ _ q.1 q.2 ha
    have h4 : pI [p.1] = zT p.1 := by simp [pI]
    split at h
    ·cases h
     rw [lV]; omega
    ·cases h
theorem jU (a : Lab) : zT (tree a []) = 1 := by rw [lV]; rfl
theorem aH9 {part : Part} (hp : Few part) : Few (jB up tr part) := by
 intro ts m r h
 cases ts with
 | nil => cases h
 | cons t q =>
  simp only [List.length_cons]
  cases t using Tk.Tok.cs with
  | num n => cases h; rw [jU]; omega
  | str s => cases h; rw [jU]; omega
  | bad n => cases h; rw [jU]; omega
  | ref x =>
   simp only [jB] at h
   split at h
   ·rename_i hs
    have h1 := (bC (ts := q) hs (by decide)).1
    split at h
    ·rename_i y q' he
     rw [he] at h1
     simp only [List.length_cons] at h1
     split at h
     ·cases h; rw [jU]; omega
     ·cases h
    ·cases h
   ·cases h; rw [jU]; omega
  | word b s =>
   simp only [jB] at h
   split at h
   ·rename_i hs
    have h1 := (bC (ts := q) hs.2 (by decide)).1
    have := aF9 up hp h
    omega
   ·split at h
    ·cases h; rw [jU]; omega
    ·cases h; rw [jU]; omega
  | op s =>
   simp only [jB] at h
   split at h
   ·cases hq : part q with
    | none => rw [hq] at h; cases h
    | some p =>
     rw [hq] at h
     have h2 := hp _ p.1 p.2 hq
     simp only [Option.bind_some] at h
     split at h
     ·cases h
      have : p.2.tail.length ≤ p.2.length := by rw [List.length_tail]; omega
      omega
     ·cases h
   ·cases h
theorem jV : ∀ (f lv : Nat), 1 ≤ lv → Few (psN up tr f lv)
 | 0, lv, _ => fun ts n r h => by cases h
 | f + 1, lv, hlv => fun ts n r h => by
  unfold psN at h
  split at h
  ·cases hq : psN up tr f (lv + 1) ts with
   | none => rw [hq] at h; cases h
   | some p =>
    rw [hq] at h
    have h2 := jV f (lv + 1) (by omega) _ p.1 p.2 hq
    have h3 := aAv (jV f (lv + 1) (by omega)) (by omega) _ _ _ _ _ h
    omega
  ·split at h
   ·split at h
    ·rename_i hs
     have h1 := (bC (ts := ts) hs (by decide)).1
     cases hq : psN up tr f 6 ts.tail with
     | none => rw [hq] at h; cases h
     | some p =>
      rw [hq] at h
      have h2 := jV f 6 (by omega) _ p.1 p.2 hq
      cases h
      have h4 : zT (unT [45] p.1) = zT p.1 + 1 := by unfold unT; rw [lV]; simp [pI]
      omega
    ·exact jV f 7 (by omega) _ n r h
   ·split at h
    ·cases hq : psN up tr f 8 ts with
     | none => rw [hq] at h; cases h
     | some p =>
      rw [hq] at h
      have h2 := jV f 8 (by omega) _ p.1 p.2 hq
      have h3 := aCL ts.length p.1 p.2
      simp only [Option.map_some, Option.some.injEq] at h
      rw [h] at h3
      exact Nat.le_trans h3 h2
    ·exact aH9 up tr (jV f 1 (Nat.le_refl _)) _ n r h
theorem aJW {lv : Nat} (hlv : 1 ≤ lv) : Few (ps up tr lv) := fun ts n r h => jV up tr _ lv hlv ts n r h
end
end Go.Fm
