/- RPar9, RDepth, RQuo. -/
import Derived.Test.YtnibldnfbikipaaGreatDoorRPar3By
import Derived.Test.YtnibldnfbikipaaGreatDoorTLexBy
set_option linter.unusedVariables false
set_option linter.unusedSimpArgs false
set_option maxHeartbeats 16000000
set_option maxRecDepth 100000
namespace Go.Proofs.YtnibldnfbikipaaGreatDoor
open Go.RowKit Go.Fm
abbrev w1P (w : World) : World := w.alloc (.cells nd0 67)
theorem rone_nil {W w : World} {b : Nat} (X : QR W b [] w) : Calls Tryz.prog 201 #[.pointer (some ⟨b, 0, none⟩)] w (RO W b w none) := by
 have hb := X.lt
 have X1 := X.alloc (.cells nd0 67)
 obtain ⟨v, hv, hs⟩ := X1.blk
 obtain ⟨a, c, rfl⟩ := hs.slice
 obtain ⟨c0, c1, _⟩ := rp_facts hv
 have FA : Calls Tryz.prog 244 #[.pointer (some ⟨b, 0, none⟩)] (w1P w) fun e w3 => ∃ es, e = .returned (.agg es) ∧ Hid ((Instr.storeAt 67 (.pointer (some ⟨w.heap.size, 0, none⟩)) (.agg es)).run Tryz.prog w3 = .ok () (w3.setRow w.heap.size es)) ∧ Hid (w3.heap[w.heap.size]? = some (.cells nd0 67)) ∧ Hid (es.size = 18) ∧ Hid (NA es) ∧ Hid (RA W b w none es (w3.setRow w.heap.size es)) := (rfail_any X1.b).mono (by
  rintro e w3 ⟨rfl, h3⟩
  obtain ⟨a1, a2, a3, a4⟩ := RA.fin (o := none) hb NA.zero h3
  exact ⟨nd0, rfl, a1, a2, a3, NA.zero, a4⟩)
 clear X X1 hv hs
 go_enter Tryz.func201, Tryz.ntmps201
 go_wp2_with (first
  | (go_at_call 244; refine FA.mono ?_; rintro e w3 ⟨es, rfl, RS, HG, HZ, HNA, HF⟩)
  | (refine wpList_store_run rfl 67 _ _ rfl _ _ _ rfl rfl RS.out ?_; clear RS))
 exact bodyPost_ret (nd_res HG.out HZ.out rfl rfl) rfl ⟨_, rfl, HNA.out, HF.out⟩
theorem plain_base {W w : World} {b : Nat} {t : Tk.Tok} {q : List Tk.Tok} (X : QR W b (t :: q) w) : ∃ g o c A w3, (w1P w).cell? ⟨b, 0, none⟩ = some (.slice (some ⟨g, o, none⟩) (q.length + 1) c) ∧ (w1P w).cell? ⟨b, 1, none⟩ = some (.bool false) ∧ q.length + 1 ≤ c ∧ (if c = 1 then some (⟨g, o, none⟩ : Addr) else some ⟨g, o + 9, none⟩) = A ∧
  Hid ((Instr.loadAt 188 (.pointer (some ⟨g, o, none⟩))).run Tryz.prog (w1P w) = .ok (.agg (tk t).cs) (w1P w)) ∧ Hid ((Instr.storeAt 188 (.pointer (some ⟨w.heap.size + 1, 0, none⟩)) (.agg (tk t).cs)).run Tryz.prog ((w1P w).alloc (.cells tk0 188)) = .ok () ((w1P w).alloc (.cells (tk t).cs 188))) ∧
  ((w1P w).alloc (.cells (tk t).cs 188)).cell? ⟨b, 0, none⟩ = some (.slice (some ⟨g, o, none⟩) (q.length + 1) c) ∧ ((w1P w).alloc (.cells (tk t).cs 188)).frozen? ⟨b, 0, none⟩ = false ∧ ((w1P w).alloc (.cells (tk t).cs 188)).setCell ⟨b, 0, none⟩ (.slice A q.length (c - 1)) = w3 ∧
  Hid (Sq W b q (w1P w) w3) ∧ Hid (w3.heap[w.heap.size]? = some (.cells nd0 67)) ∧ Hid (w3.heap[w.heap.size + 1]? = some (.cells (tk t).cs 188)) ∧ w3.cell? ⟨w.heap.size + 1, 0, none⟩ = some (.int .i64 (tk t).k) ∧ w3.cell? ⟨w.heap.size + 1, 1, none⟩ = some (.int .i64 (tk t).n) ∧ w3.cell? ⟨w.heap.size + 1, 2, none⟩ = some (.string (tk t).s) := by
 have hb := X.lt
 have X1 := X.alloc (.cells nd0 67)
 have hz1 : (w1P w).heap.size = w.heap.size + 1 := by simp
 obtain ⟨g, o, c, hv, hlc, hcc, hts⟩ := X1.first
 have B2 : Below (w1P w).heap.size (w1P w) ((w1P w).alloc (.cells (tk t).cs 188)) := bel_alloc (Below.refl _ _) _
 have hv2 := (B2.block _ (lt_of hv)).trans hv
 have G3 := Lib.grownBy_setCell ((w1P w).alloc (.cells (tk t).cs 188)) b 0 (.slice (if c = 1 then some ⟨g, o, none⟩ else some ⟨g, o + 9, none⟩) q.length (c - 1))
 have e0 : ((w1P w).alloc (.cells (tk t).cs 188)).heap[w.heap.size]? = some (.cells nd0 67) := (Below.heap_alloc _ _ _ (by simp)).trans (heap_alloc_new w _)
 have e1 : ((w1P w).alloc (.cells (tk t).cs 188)).heap[w.heap.size + 1]? = some (.cells (tk t).cs 188) := by
  have := heap_alloc_new (w1P w) (.cells (tk t).cs 188)
  rw [hz1] at this; exact this
 have k0 := (G3.block _ (lt_of e0) (by intro e; have := Option.some.inj e; omega)).trans e0
 have k1 := (G3.block _ (lt_of e1) (by intro e; have := Option.some.inj e; omega)).trans e1
 have RS := run_storeAt_new (P := Tryz.prog) (w1P w) 188 tk0 (tk t).cs inf188 rfl (tcs_one _ _ _ _ _ _ _ _ _)
 rw [hz1] at RS
 exact ⟨g, o, c, _, _, (rp_facts hv).1, (rp_facts hv).2.1, hlc, rfl, run_loadAt_mid (P := Tryz.prog) _ g o 188 (tk t).cl _ (fun j x hx => hcc j x hx) Tryz.underlying188 rfl inf188, RS, (rp_facts hv2).1, (rp_facts hv2).2.2.1, rfl, X1.rest B2 hts, k0, k1, wbox k1 0 _ rfl, wbox k1 1 _ rfl, wbox k1 2 _ rfl⟩
theorem build_v1 (u : World) (n : Int) : (Instr.build 62 #[(0, .int .i64 1), (1, .int .i64 n)]).run Tryz.prog u = .ok (.agg #[.int .i64 1, .int .i64 n, .string noB]) u := by kernel_rfl
theorem build_v2 (u : World) (s : ByteArray) : (Instr.build 62 #[(0, .int .i64 2), (2, .string s)]).run Tryz.prog u = .ok (.agg #[.int .i64 2, .int .i64 0, .string s]) u := by kernel_rfl
theorem build_v4 (u : World) (n : Int) : (Instr.build 62 #[(0, .int .i64 4), (1, .int .i64 n)]).run Tryz.prog u = .ok (.agg #[.int .i64 4, .int .i64 n, .string noB]) u := by kernel_rfl
section
variable {W w : World} {b : Nat} {t : Tk.Tok} {q : List Tk.Tok}
theorem leafP {u : World} (hb : b < w.heap.size) (a : Lab) (h : Sq W b q (w1P w) u) : Hid ((Instr.storeAt 67 (.pointer (some ⟨w.heap.size, 0, none⟩)) (.agg (lcs a (.slice none 0 0)))).run Tryz.prog u = .ok () (u.setRow w.heap.size (lcs a (.slice none 0 0)))) ∧ Hid (RO W b w (some (tree a [], q)) (.returned (.agg (lcs a (.slice none 0 0)))) (u.setRow w.heap.size (lcs a (.slice none 0 0)))) := by
 obtain ⟨a1, a2, a3, a4⟩ := RA.fin hb (na_leaf a) (RA.leaf a h)
 exact ⟨a1, _, rfl, na_leaf a, a4.out⟩
theorem rone_num (X : QR W b (t :: q) w) (hq : q.length ≤ 255) (hk : (tk t).k = 1) : Calls Tryz.prog 201 #[.pointer (some ⟨b, 0, none⟩)] w (RO W b w (some (tree (labV 1 (tk t).n nb) [], q))) := by
 have hb := X.lt
 obtain ⟨g, o, c, A, w3, c0, c1, hlc, hA, RL, RS0, d0, f0, hw3, HS, HG, HB, k0, k1, k2⟩ := plain_base X
 obtain ⟨RS, HF⟩ := leafP hb (labV 1 (tk t).n nb) HS.out
 have B1 : Hid _ := build_v1 w3 (tk t).n
 have B2 : Hid _ := build_val w3 1 (tk t).n noB
 have hl : (((q.length : Int) + 1) == 0) = false := by simp; omega
 have hz : Hid ((lcs (labV 1 (tk t).n nb) (.slice none 0 0)).size = 18) := lcs_size _ _
 rw [hk] at k0
 clear X HS HB
 generalize lcs (labV 1 (tk t).n nb) (.slice none 0 0) = es at *
 generalize (tk t).cs = cs at *
 generalize (tk t).n = n at *
 generalize (tk t).s = s at *
 generalize q.length = m at *
 go_enter Tryz.func201, Tryz.ntmps201
 go_wp2_with (first
  | (refine wpList_load_run rfl 188 _ rfl _ _ rfl RL.out ?_; clear RL)
  | (refine wpList_store_run rfl 188 _ _ rfl _ _ _ rfl rfl RS0.out ?_; clear RS0)
  | (refine wpList_build_run rfl 62 _ rfl _ _ (by go_simp) B1.out ?_; clear B1)
  | (refine wpList_build_run rfl 67 _ rfl _ _ (by go_simp) B2.out ?_; clear B2)
  | (refine wpList_store_run rfl 67 _ _ rfl _ _ _ rfl rfl RS.out ?_; clear RS))
 exact bodyPost_ret (nd_res HG.out hz.out rfl rfl) rfl HF.out
theorem rone_str (X : QR W b (t :: q) w) (hq : q.length ≤ 255) (hk : (tk t).k = 2) : Calls Tryz.prog 201 #[.pointer (some ⟨b, 0, none⟩)] w (RO W b w (some (tree (labV 2 0 (tk t).s) [], q))) := by
 have hb := X.lt
 obtain ⟨g, o, c, A, w3, c0, c1, hlc, hA, RL, RS0, d0, f0, hw3, HS, HG, HB, k0, k1, k2⟩ := plain_base X
 obtain ⟨RS, HF⟩ := leafP hb (labV 2 0 (tk t).s) HS.out
 have B1 : Hid _ := build_v2 w3 (tk t).s
 have B2 : Hid _ := build_val w3 2 0 (tk t).s
 have hl : (((q.length : Int) + 1) == 0) = false := by simp; omega
 have hz : Hid ((lcs (labV 2 0 (tk t).s) (.slice none 0 0)).size = 18) := lcs_size _ _
 rw [hk] at k0
 clear X HS HB
 generalize lcs (labV 2 0 (tk t).s) (.slice none 0 0) = es at *
 generalize (tk t).cs = cs at *
 generalize (tk t).n = n at *
 generalize (tk t).s = s at *
 generalize q.length = m at *
 go_enter Tryz.func201, Tryz.ntmps201
 go_wp2_with (first
  | (refine wpList_load_run rfl 188 _ rfl _ _ rfl RL.out ?_; clear RL)
  | (refine wpList_store_run rfl 188 _ _ rfl _ _ _ rfl rfl RS0.out ?_; clear RS0)
  | (refine wpList_build_run rfl 62 _ rfl _ _ (by go_simp) B1.out ?_; clear B1)
  | (refine wpList_build_run rfl 67 _ rfl _ _ (by go_simp) B2.out ?_; clear B2)
  | (refine wpList_store_run rfl 67 _ _ rfl _ _ _ rfl rfl RS.out ?_; clear RS))
 exact bodyPost_ret (nd_res HG.out hz.out rfl rfl) rfl HF.out
theorem rone_bad (X : QR W b (t :: q) w) (hq : q.length ≤ 255) (hk : (tk t).k = 6) : Calls Tryz.prog 201 #[.pointer (some ⟨b, 0, none⟩)] w (RO W b w (some (tree (labV 4 (tk t).n nb) [], q))) := by
 have hb := X.lt
 obtain ⟨g, o, c, A, w3, c0, c1, hlc, hA, RL, RS0, d0, f0, hw3, HS, HG, HB, k0, k1, k2⟩ := plain_base X
 obtain ⟨RS, HF⟩ := leafP hb (labV 4 (tk t).n nb) HS.out
 have B1 : Hid _ := build_v4 w3 (tk t).n
 have B2 : Hid _ := build_val w3 4 (tk t).n noB
 have hl : (((q.length : Int) + 1) == 0) = false := by simp; omega
 have hz : Hid ((lcs (labV 4 (tk t).n nb) (.slice none 0 0)).size = 18) := lcs_size _ _
 rw [hk] at k0
 clear X HS HB
 generalize lcs (labV 4 (tk t).n nb) (.slice none 0 0) = es at *
 generalize (tk t).cs = cs at *
 generalize (tk t).n = n at *
 generalize (tk t).s = s at *
 generalize q.length = m at *
 go_enter Tryz.func201, Tryz.ntmps201
 go_wp2_with (first
  | (refine wpList_load_run rfl 188 _ rfl _ _ rfl RL.out ?_; clear RL)
  | (refine wpList_store_run rfl 188 _ _ rfl _ _ _ rfl rfl RS0.out ?_; clear RS0)
  | (refine wpList_build_run rfl 62 _ rfl _ _ (by go_simp) B1.out ?_; clear B1)
  | (refine wpList_build_run rfl 67 _ rfl _ _ (by go_simp) B2.out ?_; clear B2)
  | (refine wpList_store_run rfl 67 _ _ rfl _ _ _ rfl rfl RS.out ?_; clear RS))
 exact bodyPost_ret (nd_res HG.out hz.out rfl rfl) rfl HF.out
theorem passP {u : World} {f : Nat} {cs : Array Value} {o : Option (T × List Tk.Tok)} (hb : b < w.heap.size) (h : Sq W b q (w1P w) u) (C : Calls Tryz.prog f #[.pointer (some ⟨b, 0, none⟩), .agg cs] u (RO W b u o)) :
  Calls Tryz.prog f #[.pointer (some ⟨b, 0, none⟩), .agg cs] u fun e w3 => ∃ es, e = .returned (.agg es) ∧ Hid ((Instr.storeAt 67 (.pointer (some ⟨w.heap.size, 0, none⟩)) (.agg es)).run Tryz.prog w3 = .ok () (w3.setRow w.heap.size es)) ∧ Hid (w3.heap[w.heap.size]? = some (.cells nd0 67)) ∧ Hid (es.size = 18) ∧ Hid (RO W b w o (.returned (.agg es)) (w3.setRow w.heap.size es)) := C.mono (by
 rintro e w3 ⟨es, rfl, hn, h3⟩
 obtain ⟨a1, a2, a3, a4⟩ := RA.fin hb hn (h3.from h.2)
 exact ⟨es, rfl, a1, a2, a3, es, rfl, hn, a4.out⟩)
theorem box75 {u : World} {g : Nat} (h : u.heap[g]? = some (.cells (tk t).cs 188)) : (Instr.loadAt 188 (.pointer (some ⟨g, 0, none⟩))).run Tryz.prog u = .ok (.agg (tk t).cs) u := lod (z := (0, 0)) h rfl Tryz.underlying188 inf188
theorem rone_ref (X : QR W b (t :: q) w) (hq : q.length ≤ 255) (hk : (tk t).k = 3) {o' : Option (T × List Tk.Tok)} (C : ∀ u, QR W b q u → Calls Tryz.prog 245 #[.pointer (some ⟨b, 0, none⟩), .agg (tk t).cs] u (RO W b u o')) : Calls Tryz.prog 201 #[.pointer (some ⟨b, 0, none⟩)] w (RO W b w o') := by
 have hb := X.lt
 obtain ⟨g, o, c, A, w3, c0, c1, hlc, hA, RL, RS0, d0, f0, hw3, HS, HG, HB, k0, k1, k2⟩ := plain_base X
 have C1 := passP hb HS.out (C _ HS.out.1)
 have RL3 : Hid _ := box75 HB.out
 have hl : (((q.length : Int) + 1) == 0) = false := by simp; omega
 rw [hk] at k0
 clear X HS HB C HG
 generalize (tk t).cs = cs at *
 generalize (tk t).n = n at *
 generalize (tk t).s = s at *
 generalize q.length = m at *
 go_enter Tryz.func201, Tryz.ntmps201
 go_wp2_with (first
  | (refine wpList_load_run rfl 188 _ rfl _ _ rfl RL.out ?_; clear RL)
  | (refine wpList_store_run rfl 188 _ _ rfl _ _ _ rfl rfl RS0.out ?_; clear RS0)
  | (refine wpList_load_run rfl 188 _ rfl _ _ rfl RL3.out ?_; clear RL3)
  | (go_at_call 245; refine C1.mono ?_; rintro e w4 ⟨es, rfl, RS, HG, HZ, HF⟩)
  | (refine wpList_store_run rfl 67 _ _ rfl _ _ _ rfl rfl RS.out ?_; clear RS))
 exact bodyPost_ret (nd_res HG.out HZ.out rfl rfl) rfl HF.out
theorem rone_word (X : QR W b (t :: q) w) (hq : q.length ≤ 255) (hk : (tk t).k = 4) {o' : Option (T × List Tk.Tok)} (C : ∀ u, QR W b q u → Calls Tryz.prog 246 #[.pointer (some ⟨b, 0, none⟩), .agg (tk t).cs] u (RO W b u o')) : Calls Tryz.prog 201 #[.pointer (some ⟨b, 0, none⟩)] w (RO W b w o') := by
 have hb := X.lt
 obtain ⟨g, o, c, A, w3, c0, c1, hlc, hA, RL, RS0, d0, f0, hw3, HS, HG, HB, k0, k1, k2⟩ := plain_base X
 have C1 := passP hb HS.out (C _ HS.out.1)
 have RL3 : Hid _ := box75 HB.out
 have hl : (((q.length : Int) + 1) == 0) = false := by simp; omega
 rw [hk] at k0
 clear X HS HB C HG
 generalize (tk t).cs = cs at *
 generalize (tk t).n = n at *
 generalize (tk t).s = s at *
 generalize q.length = m at *
 go_enter Tryz.func201, Tryz.ntmps201
 go_wp2_with (first
  | (refine wpList_load_run rfl 188 _ rfl _ _ rfl RL.out ?_; clear RL)
  | (refine wpList_store_run rfl 188 _ _ rfl _ _ _ rfl rfl RS0.out ?_; clear RS0)
  | (refine wpList_load_run rfl 188 _ rfl _ _ rfl RL3.out ?_; clear RL3)
  | (go_at_call 246; refine C1.mono ?_; rintro e w4 ⟨es, rfl, RS, HG, HZ, HF⟩)
  | (refine wpList_store_run rfl 67 _ _ rfl _ _ _ rfl rfl RS.out ?_; clear RS))
 exact bodyPost_ret (nd_res HG.out HZ.out rfl rfl) rfl HF.out
theorem rone_op (X : QR W b (t :: q) w) (hq : q.length ≤ 255) (hk : (tk t).k = 5) (hs : ((tk t).s.toList == [40]) = false) : Calls Tryz.prog 201 #[.pointer (some ⟨b, 0, none⟩)] w (RO W b w none) := by
 have hb := X.lt
 obtain ⟨g, o, c, A, w3, c0, c1, hlc, hA, RL, RS0, d0, f0, hw3, HS, HG, HB, k0, k1, k2⟩ := plain_base X
 have FA : Calls Tryz.prog 244 #[.pointer (some ⟨b, 0, none⟩)] w3 fun e w4 => ∃ es, e = .returned (.agg es) ∧ Hid ((Instr.storeAt 67 (.pointer (some ⟨w.heap.size, 0, none⟩)) (.agg es)).run Tryz.prog w4 = .ok () (w4.setRow w.heap.size es)) ∧ Hid (w4.heap[w.heap.size]? = some (.cells nd0 67)) ∧ Hid (es.size = 18) ∧ Hid (RO W b w none (.returned (.agg es)) (w4.setRow w.heap.size es)) := (rfail_any HS.out.1.b).mono (by
  rintro e w4 ⟨rfl, h3⟩
  obtain ⟨a1, a2, a3, a4⟩ := RA.fin (o := none) hb NA.zero (HS.out.bad h3)
  exact ⟨nd0, rfl, a1, a2, a3, nd0, rfl, NA.zero, a4.out⟩)
 have hl : (((q.length : Int) + 1) == 0) = false := by simp; omega
 rw [hk] at k0
 clear X HS HB HG
 generalize (tk t).cs = cs at *
 generalize (tk t).n = n at *
 generalize (tk t).s = s at *
 generalize q.length = m at *
 go_enter Tryz.func201, Tryz.ntmps201
 go_wp2_with (first
  | (refine wpList_load_run rfl 188 _ rfl _ _ rfl RL.out ?_; clear RL)
  | (refine wpList_store_run rfl 188 _ _ rfl _ _ _ rfl rfl RS0.out ?_; clear RS0)
  | (go_at_call 244; refine FA.mono ?_; rintro e w4 ⟨es, rfl, RS, HG, HZ, HF⟩)
  | (refine wpList_store_run rfl 67 _ _ rfl _ _ _ rfl rfl RS.out ?_; clear RS))
 exact bodyPost_ret (nd_res HG.out HZ.out rfl rfl) rfl HF.out
def shutF (o : Option (T × List Tk.Tok)) : Option (T × List Tk.Tok) := o.bind fun p => if opOf p.2 = [41] then some (p.1, p.2.tail) else none
abbrev InO (W : World) (b : Nat) (w : World) (o : Option (T × List Tk.Tok)) (es : Array Value) (w4 : World) : Prop := Hid ((Instr.storeAt 67 (.pointer (some ⟨w4.heap.size, 0, none⟩)) (.agg es)).run Tryz.prog (w4.alloc (.cells nd0 67)) = .ok () (w4.alloc (.cells es 67))) ∧     Hid (Calls Tryz.prog 157 #[.pointer (some ⟨b, 0, none⟩), .string ⟨#[41]⟩] (w4.alloc (.cells es 67)) fun e w5 => e = .returned (.tuple #[]) ∧ Hid ((Instr.loadAt 67 (.pointer (some ⟨w4.heap.size, 0, none⟩))).run Tryz.prog w5 = .ok (.agg es) w5) ∧ Hid ((Instr.storeAt 67 (.pointer (some ⟨w.heap.size, 0, none⟩)) (.agg es)).run Tryz.prog w5 = .ok () (w5.setRow w.heap.size es)) ∧ Hid (w5.heap[w.heap.size]? = some (.cells nd0 67)) ∧ Hid (es.size = 18) ∧ Hid (RO W b w (shutF o) (.returned (.agg es)) (w5.setRow w.heap.size es)))
theorem inP {u w4 : World} {es : Array Value} {o : Option (T × List Tk.Tok)} (hb : b < w.heap.size) (h : Sq W b q (w1P w) u) (hn : NA es) (h4 : RA W b u o es w4) (hl : ∀ p, o = some p → p.2.length ≤ 256) :
  InO W b w o es w4 := by
 have hlt : b < u.heap.size := h.1.lt
 have hs4 := h4.grow.size
 refine ⟨run_storeAt_new w4 67 nd0 _ (by rw [hn.size]; exact inf67) (by rw [hn.size]; rfl) hn.one, ?_⟩
 have main : ∀ (o2 : Option (T × List Tk.Tok)) (w5 : World), (w4.alloc (.cells es 67)).grownBy w5 (some b) → RA W b (w1P w) o2 es w5 → Hid ((Instr.loadAt 67 (.pointer (some ⟨w4.heap.size, 0, none⟩))).run Tryz.prog w5 = .ok (.agg es) w5) ∧ Hid ((Instr.storeAt 67 (.pointer (some ⟨w.heap.size, 0, none⟩)) (.agg es)).run Tryz.prog w5 = .ok () (w5.setRow w.heap.size es)) ∧ Hid (w5.heap[w.heap.size]? = some (.cells nd0 67)) ∧ Hid (es.size = 18) ∧ Hid (RO W b w o2 (.returned (.agg es)) (w5.setRow w.heap.size es)) := fun o2 w5 hg h5 => by
  obtain ⟨a1, a2, a3, a4⟩ := RA.fin hb hn h5
  exact ⟨hn.lod ((hg.block _ (by simp) (by intro e; have := Option.some.inj e; omega)).trans (heap_alloc_new _ _)), a1, a2, a3, es, rfl, hn, a4.out⟩
 cases o with
 | none =>
  have h4' : Sw W b u w4 := h4
  refine (rtake_bad (s := [41]) (h4'.alloc (.cells es 67)).1 (by decide)).mono ?_
  rintro e w5 ⟨rfl, h5⟩
  exact ⟨rfl, main none w5 h5.2 (h.bad ((h4'.alloc (.cells es 67)).step h5))⟩
 | some p =>
  obtain ⟨n, r⟩ := p
  obtain ⟨h41, h42⟩ := h4
  have hr : r.length ≤ 256 := hl _ rfl
  have hS5 := h42.alloc (.cells es 67)
  by_cases hq : opOf r = [41]
  ·refine (rtake_yes (s := [41]) hS5.1 hr (by decide) hq).mono ?_
   rintro e w5 ⟨rfl, h5⟩
   have e2 : shutF (some (n, r)) = some (n, r.tail) := by unfold shutF; rw [Option.bind_some, if_pos hq]
   rw [e2]
   refine ⟨rfl, main (some (n, r.tail)) w5 h5.2 ⟨?_, h.step (hS5.step h5)⟩⟩
   have hlow := h.2.size
   exact ((h41.below (bel_alloc (Below.refl _ _) (.cells es 67))).grown h5.2 (fun g e hk => by cases e; have hk' : u.heap.size ≤ b := hk; omega)).mono (fun i hi _ => Nat.le_trans hlow hi)
  ·refine (rtake_no (s := [41]) hS5.1 hr hq).mono ?_
   rintro e w5 ⟨rfl, h5⟩
   have e2 : shutF (some (n, r)) = none := by unfold shutF; rw [Option.bind_some, if_neg hq]
   rw [e2]
   exact ⟨rfl, main none w5 h5.2 (h.bad (hS5.bad h5))⟩
theorem rone_open (X : QR W b (t :: q) w) (hq : q.length ≤ 255) (hk : (tk t).k = 5) (hs : ((tk t).s.toList == [40]) = true) (C : ∀ u, QR W b q u → Calls Tryz.prog 109 #[.pointer (some ⟨b, 0, none⟩), .int .i64 1] u (RO W b u (PP 1 q))) : Calls Tryz.prog 201 #[.pointer (some ⟨b, 0, none⟩)] w (RO W b w (shutF (PP 1 q))) := by
 have hb := X.lt
 obtain ⟨g, o, c, A, w3, c0, c1, hlc, hA, RL, RS0, d0, f0, hw3, HS, HG, HB, k0, k1, k2⟩ := plain_base X
 have hlen : ∀ p, PP 1 q = some p → p.2.length ≤ 256 := fun p hp => by have := ps_lt upF trF (by omega) _ p.1 p.2 hp; omega
 have C1 : Calls Tryz.prog 109 #[.pointer (some ⟨b, 0, none⟩), .int .i64 1] w3 fun e w4 => ∃ es, e = .returned (.agg es) ∧ InO W b w (PP 1 q) es w4 := (C _ HS.out.1).mono (by
  rintro e w4 ⟨es, rfl, hn, h4⟩
  exact ⟨es, rfl, inP hb HS.out hn h4 hlen⟩)
 have hl : (((q.length : Int) + 1) == 0) = false := by simp; omega
 rw [hk] at k0
 clear X HS HB HG C hlen
 generalize (tk t).cs = cs at *
 generalize (tk t).n = n at *
 generalize (tk t).s = s at *
 generalize q.length = m at *
 go_enter Tryz.func201, Tryz.ntmps201
 go_wp2_with (first
  | (refine wpList_load_run rfl 188 _ rfl _ _ rfl RL.out ?_; clear RL)
  | (refine wpList_store_run rfl 188 _ _ rfl _ _ _ rfl rfl RS0.out ?_; clear RS0)
  | (go_at_call 109; refine C1.mono ?_; rintro e w4 ⟨es, rfl, RS4, TK⟩)
  | (refine wpList_store_run rfl 67 _ _ rfl _ _ _ rfl rfl RS4.out ?_; clear RS4)
  | (go_at_call 157; refine TK.out.mono ?_; rintro e w5 ⟨rfl, RL5, RS, HG, HZ, HF⟩)
  | (refine wpList_load_run rfl 67 _ rfl _ _ rfl RL5.out ?_; clear RL5)
  | (refine wpList_store_run rfl 67 _ _ rfl _ _ _ rfl rfl RS.out ?_; clear RS))
 exact bodyPost_ret (nd_res HG.out HZ.out rfl rfl) rfl HF.out
end
theorem pone_any {W w : World} {b : Nat} {ts : List Tk.Tok} (hn : ts.length ≤ 256) (X : QR W b ts w) (C : ∀ ts' u, ts'.length < ts.length → QR W b ts' u → Calls Tryz.prog 109 #[.pointer (some ⟨b, 0, none⟩), .int .i64 1] u (RO W b u (PP 1 ts'))) :
  Calls Tryz.prog 201 #[.pointer (some ⟨b, 0, none⟩)] w (RO W b w (PP 8 ts)) := by
 have e : PP 8 ts = oneF upF trF (PP 1) ts := ps_one upF trF ts
 rw [e]
 cases ts with
 | nil => exact rone_nil X
 | cons t q =>
  have hok := X.ok t (by simp)
  have hq : q.length ≤ 255 := by simp at hn; omega
  cases t using Tk.Tok.cs with
  | num n => exact rone_num X hq rfl
  | str s => exact rone_str X hq rfl
  | bad n => exact rone_bad X hq rfl
  | ref x => exact rone_ref X hq rfl (fun u hu => rref_any x (by omega) hu)
  | word bk s =>
   have e2 : oneF upF trF (PP 1) (Tk.Tok.word bk s :: q) = wordF bk s q := by
    simp only [oneF, wordF]
    rw [call_eq]
    split
    ·rfl
    ·cases trF s <;> rfl
   rw [e2]
   refine rone_word X hq rfl (fun u hu => pword_any (by omega) (word_head hok.1).2 hu (fun ts' u' h1 h2 => C ts' u' ?_ h2))
   rw [List.length_tail] at h1
   simp; omega
  | op s =>
   by_cases hs : s = [40]
   ·have e2 : oneF upF trF (PP 1) (Tk.Tok.op s :: q) = shutF (PP 1 q) := by simp only [oneF]; rw [if_pos hs]; rfl
    rw [e2]
    exact rone_open X hq rfl (by show ((ba s).toList == [40]) = true; rw [hs, ByteArray.toList_eq]; rfl) (fun u hu => C q u (by simp) hu)
   ·have e2 : oneF upF trF (PP 1) (Tk.Tok.op s :: q) = none := by simp only [oneF]; rw [if_neg hs]
    rw [e2]
    exact rone_op X hq rfl (ne_list hs)
theorem rlv_all : ∀ (n : Nat), n ≤ 256 → ∀ (W : World) (b : Nat), (∀ lv, 1 ≤ lv → lv ≤ 6 → ∀ ts : List Tk.Tok, ts.length ≤ n → ∀ w, QR W b ts w → Calls Tryz.prog 109 #[.pointer (some ⟨b, 0, none⟩), .int .i64 ((lv : Nat) : Int)] w (RO W b w (PP lv ts))) ∧ (∀ ts : List Tk.Tok, ts.length ≤ n → ∀ w, QR W b ts w → Calls Tryz.prog 155 #[.pointer (some ⟨b, 0, none⟩)] w (RO W b w (PP 6 ts)))
 | n, hn, W, b => by
  have IH : ∀ ts' : List Tk.Tok, ts'.length < n → (∀ lv, 1 ≤ lv → lv ≤ 6 → ∀ w, QR W b ts' w → Calls Tryz.prog 109 #[.pointer (some ⟨b, 0, none⟩), .int .i64 ((lv : Nat) : Int)] w (RO W b w (PP lv ts'))) ∧ (∀ w, QR W b ts' w → Calls Tryz.prog 155 #[.pointer (some ⟨b, 0, none⟩)] w (RO W b w (PP 6 ts'))) := fun ts' hlt => by
   cases n with
   | zero => exact absurd hlt (Nat.not_lt_zero _)
   | succ m =>
    have := rlv_all m (by omega) W b
    exact ⟨fun lv h1 h6 => this.1 lv h1 h6 ts' (by omega), this.2 ts' (by omega)⟩
  have H89 : ∀ ts : List Tk.Tok, ts.length ≤ n → ∀ w, QR W b ts w → Calls Tryz.prog 201 #[.pointer (some ⟨b, 0, none⟩)] w (RO W b w (PP 8 ts)) := fun ts hl w X => pone_any (by omega) X (fun ts' u h1 h2 => (IH ts' (by omega)).1 1 (by omega) (by omega) u h2)
  have H45 : ∀ ts : List Tk.Tok, ts.length ≤ n → ∀ w, QR W b ts w → Calls Tryz.prog 155 #[.pointer (some ⟨b, 0, none⟩)] w (RO W b w (PP 6 ts)) := fun ts hl w X => run_any (by omega) (fun u h hu => (IH ts.tail (by have := (op_tail (ts := ts) h (by decide)).1; omega)).2 u hu) (H89 ts hl) X
  have H6 : ∀ ts : List Tk.Tok, ts.length ≤ n → ∀ w, QR W b ts w → Calls Tryz.prog 109 #[.pointer (some ⟨b, 0, none⟩), .int .i64 ((6 : Nat) : Int)] w (RO W b w (PP 6 ts)) := fun ts hl w X => rbin_six X.lt (H45 ts hl _ (X.alloc _))
  have step : ∀ lv, 1 ≤ lv → lv ≤ 5 → (∀ ts : List Tk.Tok, ts.length ≤ n → ∀ w, QR W b ts w → Calls Tryz.prog 109 #[.pointer (some ⟨b, 0, none⟩), .int .i64 ((lv + 1 : Nat) : Int)] w (RO W b w (PP (lv + 1) ts))) → ∀ ts : List Tk.Tok, ts.length ≤ n → ∀ w, QR W b ts w → Calls Tryz.prog 109 #[.pointer (some ⟨b, 0, none⟩), .int .i64 ((lv : Nat) : Int)] w (RO W b w (PP lv ts)) := fun lv h1 h5 hc ts hl w X =>
   rbin_any h1 h5 (by omega) (fun ts' u hl' hu => hc ts' (by omega) u hu) X
  have H5 := step 5 (by omega) (by omega) H6
  have H4 := step 4 (by omega) (by omega) H5
  have H3 := step 3 (by omega) (by omega) H4
  have H2 := step 2 (by omega) (by omega) H3
  have H1 := step 1 (by omega) (by omega) H2
  refine ⟨fun lv h1 h6 => ?_, H45⟩
  have hc : lv = 1 ∨ lv = 2 ∨ lv = 3 ∨ lv = 4 ∨ lv = 5 ∨ lv = 6 := by omega
  rcases hc with rfl | rfl | rfl | rfl | rfl | rfl
  ·exact H1
  ·exact H2
  ·exact H3
  ·exact H4
  ·exact H5
  ·exact H6
theorem rbinary_any {W w : World} {b : Nat} {ts : List Tk.Tok} (hn : ts.length ≤ 256) (X : QR W b ts w) : Calls Tryz.prog 109 #[.pointer (some ⟨b, 0, none⟩), .int .i64 1] w (RO W b w (PP 1 ts)) :=
 (rlv_all 256 (Nat.le_refl _) W b).1 1 (by omega) (by omega) ts hn w X
theorem rdepth_any : ∀ t : T, zT t ≤ 1000000 → ∀ (w : World) (es : Array Value), NT w es t → Calls Tryz.prog 45 #[.agg es] w fun e w' => e = .returned (.int .i64 (dT t : Nat)) ∧ Below w.heap.size w w' := by
 refine ind ?_
 intro t ih hz w es h
 obtain ⟨p, n, c, rfl, hs⟩ := h
 have HK : Hid (∀ s ∈ kids t.2, ∀ (w : World) (es : Array Value), NT w es s → Calls Tryz.prog 45 #[.agg es] w fun e w' => e = .returned (.int .i64 (dT s : Nat)) ∧ Below w.heap.size w w') := fun s hs => ih s hs (by have := zT_kid hs; omega)
 have HD : Hid (∀ s ∈ kids t.2, dT s ≤ 1000000) := fun s hs => by have := dT_le s; have := zT_kid hs; omega
 clear ih
 have hd1 : dT t ≤ 1000000 := by have := dT_le t; omega
 have hdd : dT t = depth t.2 + 1 := rfl
 have h17 := cell17 (u := w.alloc (.cells (lcs t.1 (.slice p n c)) 67)) (heap_alloc_new w _)
 have HB0 : Hid (Below w.heap.size w (w.alloc (.cells (lcs t.1 (.slice p n c)) 67))) := bel_alloc (Below.refl _ _) _
 have HS : Hid (SF w p n t.2) := hs
 have hn : n ≤ 1000000 := by
  have e := hs.1
  have : (kids t.2).length ≤ size t.2 := by
   rw [← pre_len, pre_kids]
   have : ∀ l : List T, l.length ≤ (l.flatMap preT).length := by
    intro l
    induction l with
    | nil => exact Nat.zero_le _
    | cons a l ih => rw [List.flatMap_cons, List.length_append, List.length_cons, preT, List.length_cons]; omega
   exact this _
  unfold zT at hz
  omega
 have HN : Hid (n = (kids t.2).length) := hs.1
 clear hs hz
 generalize lcs t.1 (.slice p n c) = bx at *
 go_enter Tryz.func45, Tryz.ntmps45
 go_wp2
 go_loopw [3, 10] (fun d i wr => ∃ k : Nat, k ≤ n ∧ i = .int .i64 (k : Nat) ∧ d = .int .i64 (dpK t.2 k : Nat) ∧ Hid (Below w.heap.size w wr)) (fun _ i _ => n - (intOf i).toNat)
 case atStart => exact ⟨0, Nat.zero_le _, rfl, rfl, HB0⟩
 case round =>
  obtain ⟨k, hk, rfl, rfl, HB⟩ := hrel
  have hle := dpK_le t.2 k
  by_cases hlt : k < n
  ·have hki : (k : Int) < n := by omega
   obtain ⟨a', es, s, rfl, RL, HI, RS, RL2, HNT, HM⟩ := HS.out.step HB.out hlt
   have C := HK.out s HM.out _ _ HNT.out
   have HDP : Hid (dpK t.2 (k + 1) = max (dpK t.2 k) (dT s)) := dpK_succ HI.out
   have hds := HD.out s HM.out
   generalize dpK t.2 k = D0 at *
   generalize dT s = E at *
   by_cases hgt : D0 < E
   ·have hgi : (D0 : Int) < (E : Int) := by omega
    have HX : Hid (dpK t.2 (k + 1) = E) := by show _ = _; rw [HDP.out]; omega
    go_wp2_with (first
     | (refine wpList_load_run rfl 67 _ rfl _ _ rfl RL.out ?_; clear RL)
     | (refine wpList_store_run rfl 67 _ _ rfl _ _ _ rfl rfl RS.out ?_; clear RS)
     | (refine wpList_load_run rfl 67 _ rfl _ _ rfl RL2.out ?_; clear RL2)
     | (go_at_call 45; refine C.mono ?_; rintro e w2 ⟨rfl, hs⟩; have HU2 : Hid (Below w.heap.size w w2) := bel_step (bel_alloc HB.out _) hs; clear hs))
    go_roundw
    case rel => exact ⟨k + 1, by omega, by go_num, by rw [HX.out], HU2⟩
    case measure => simp [intOf]; omega
   ·have hgi : ¬ (D0 : Int) < (E : Int) := by omega
    have HX : Hid (dpK t.2 (k + 1) = D0) := by show _ = _; rw [HDP.out]; omega
    go_wp2_with (first
     | (refine wpList_load_run rfl 67 _ rfl _ _ rfl RL.out ?_; clear RL)
     | (refine wpList_store_run rfl 67 _ _ rfl _ _ _ rfl rfl RS.out ?_; clear RS)
     | (refine wpList_load_run rfl 67 _ rfl _ _ rfl RL2.out ?_; clear RL2)
     | (go_at_call 45; refine C.mono ?_; rintro e w2 ⟨rfl, hs⟩; have HU2 : Hid (Below w.heap.size w w2) := bel_step (bel_alloc HB.out _) hs; clear hs))
    go_roundw
    case rel => exact ⟨k + 1, by omega, by go_num, by rw [HX.out], HU2⟩
    case measure => simp [intOf]; omega
  ·have hki : ¬ (k : Int) < n := by omega
   have HE : Hid (dpK t.2 k = depth t.2) := dpK_all _ (by have := HN.out; omega)
   go_wp2
   go_ret
   exact ⟨by rw [HE.out]; rfl, HB.out⟩
end Go.Proofs.YtnibldnfbikipaaGreatDoor
namespace Go.Proofs.YtnibldnfbikipaaGreatDoor
open Go.RowKit
abbrev tkR : Obj := .cells tk0 188
def AnsR (w : World) (l : List UInt8) (o : Option (Tk.Tok × List UInt8)) (e : Ending) (w' : World) : Prop :=
 Below w.heap.size w w' ∧ match o with
  | some (t, m) => e = .returned (.tuple #[.agg (tk t).cs, .int .i64 ((l.length - m.length : Nat) : Int)])
  | none => e = .returned (.tuple #[.agg tk0, .int .i64 0])
structure RZ (w u : World) : Prop where
 bel : Below w.heap.size w u
 z : u.heap[w.heap.size]? = some tkR
theorem RZ.begin (w : World) : RZ w (w.alloc tkR) := ⟨bel_alloc (Below.refl _ _) _, heap_alloc_new w _⟩
theorem RZ.below {w u u1 : World} (h : RZ w u) (hb : Below u.heap.size u u1) : RZ w u1 := ⟨bel_step h.bel hb, (hb.block _ (lt_of h.z)).trans h.z⟩
theorem RZ.alloc {w u : World} (h : RZ w u) (o : Obj) : RZ w (u.alloc o) := h.below (bel_alloc (Below.refl _ _) o)
theorem RZ.put {w u : World} (h : RZ w u) (k n : Int) (s b' h' : ByteArray) (r c : Int) (fr fc : Bool) :
  Hid ((Instr.storeAt 188 (.pointer (some ⟨w.heap.size, 0, none⟩)) (.agg (tcs k n s b' h' r c fr fc))).run Tryz.prog u = .ok () (u.setRow w.heap.size (tcs k n s b' h' r c fr fc))) :=
 sto h.z inf188 rfl (tcs_one k n s b' h' r c fr fc)
theorem RZ.ans {w u : World} (h : RZ w u) (es : Array Value) (he : es.size = 9) {fn : Func} {p q : Tmp} (hr : fn.results = #[.cell p 188, .tmp q]) {tmps : Array Value} {v2 : Value}
  (hp : tmps.getD p undef = .pointer (some ⟨w.heap.size, 0, none⟩)) (hv : tmps.getD q undef = v2) : (results fn tmps).run Tryz.prog (u.setRow w.heap.size es) = .ok (.tuple #[.agg es, v2]) (u.setRow w.heap.size es) :=
 results2_row hr hp (setRow_heap _ _ _ es _ _ h.z) rfl Tryz.underlying188 (by rw [he]; exact inf188) hv
theorem RZ.fin {w u : World} (h : RZ w u) (es : Array Value) : Below w.heap.size w (u.setRow w.heap.size es) :=
 h.bel.grown (setRow_grown _ _ _) h.bel.size (fun k hk => by cases hk; exact Nat.le_refl _)
theorem ret_new {w : World} (es : Array Value) (he : es.size = 9) {fn : Func} {p q : Tmp} (hr : fn.results = #[.cell p 188, .tmp q]) {tmps : Array Value} {v2 : Value}
  (hp : tmps.getD p undef = .pointer (some ⟨w.heap.size, 0, none⟩)) (hv : tmps.getD q undef = v2) : (results fn tmps).run Tryz.prog (w.alloc (.cells es 188)) = .ok (.tuple #[.agg es, v2]) (w.alloc (.cells es 188)) :=
 results2_row hr hp (heap_alloc_new w _) rfl Tryz.underlying188 (by rw [he]; exact inf188) hv
theorem drop_at (l : List UInt8) (k : Nat) (h : k < l.length) : l.drop k = l[k] :: l.drop (k + 1) := List.drop_eq_getElem_cons h
theorem ba_one (l : List UInt8) (k : Nat) (h : k < l.length) : (ba l).extract k (k + 1) = ba [l[k]] := by
 apply ByteArray.ext
 simp [ba]
 have := drop_at l k h
 rw [this]
 rfl
theorem ba_app (a b : List UInt8) : ba a ++ ba b = ba (a ++ b) := app_mk a b
theorem quoted_core (l : List UInt8) (S : ByteArray) (hs : S.size = l.length) (HG : Hid (∀ k (h : k < l.length) (h2 : k < S.size), S[k] = l[k])) (HE : Hid (∀ k (h : k < l.length), S.extract k (k + 1) = ba [l[k]]))
  (hl : l.length ≤ 255) (h1 : 1 ≤ l.length) (w : World) : Calls Tryz.prog 199 #[.string S] w (AnsR w l ((Tk.quoF (l.drop 1)).map fun p => (.str p.1, p.2))) := by
 generalize ho : (Tk.quoF (l.drop 1)).map (fun p => ((.str p.1, p.2) : Tk.Tok × List UInt8)) = o
 have HO : Hid ((Tk.quoF (l.drop 1)).map (fun p => ((.str p.1, p.2) : Tk.Tok × List UInt8)) = o) := ho
 clear ho
 go_enter Tryz.func199, Tryz.ntmps199
 go_wp2
 go_loop [4, 5] (fun t i => ∃ (k : Nat) (acc : List UInt8), 1 ≤ k ∧ k ≤ l.length ∧ i = .int .i64 (k : Nat) ∧ t = .string (ba acc) ∧ acc.length ≤ k ∧ Hid (Tk.quoF (l.drop 1) = (Tk.quoF (l.drop k)).map fun p => (acc ++ p.1, p.2))) (fun _ i => l.length - (intOf i).toNat)
 case atStart => exact ⟨1, [], Nat.le_refl _, h1, rfl, rfl, Nat.zero_le _, by show _ = _; cases Tk.quoF (l.drop 1) <;> rfl⟩
 case round =>
  obtain ⟨k, acc, hk1, hk, rfl, rfl, hacc, HQ⟩ := hrel
  have hsa : (ba acc).size = acc.length := size_mk acc
  by_cases hlt : k < l.length
  ·have hki : (k : Int) < l.length := by omega
   have hks : k < S.size := by rw [hs]; exact hlt
   have hg := HG.out k hlt hks
   have hd := drop_at l k hlt
   rcases ch_facts S[k] 34 with ⟨h3, h4⟩ | ⟨h3, h4⟩
   ·rw [hg] at h3
    rw [h3] at hd
    have h4' : ((S[k].toNat : Int) != 34) = false := by
     show (!((S[k].toNat : Int) == 34)) = false
     rw [show ((S[k].toNat : Int) == 34) = true from h4]; rfl
    by_cases h5 : k + 1 < l.length
    ·have h5i : (k : Int) + 1 < l.length := by omega
     have h5s : k + 1 < S.size := by rw [hs]; exact h5
     have hg2 := HG.out (k + 1) h5 h5s
     have hd2 := drop_at l (k + 1) h5
     rcases ch_facts S[k + 1] 34 with ⟨h6, h7⟩ | ⟨h6, h7⟩
     ·rw [hg2] at h6
      rw [h6] at hd2
      have HN : Hid (Tk.quoF (l.drop 1) = (Tk.quoF (l.drop (k + 2))).map fun p => ((acc ++ [34]) ++ p.1, p.2)) := by
       show _ = _
       rw [HQ.out, hd, hd2, quo_more]
       cases Tk.quoF (l.drop (k + 1 + 1)) <;> simp
      have hcc : ba acc ++ (⟨#[34]⟩ : ByteArray) = ba (acc ++ [34]) := ba_app acc [34]
      have hno : ¬ 9223372036854775807 < acc.length + 1 := by omega
      have h7' : ((S[k + 1].toNat : Int) == 34) = true := h7
      have hl2 : (acc ++ [34]).length ≤ k + 2 := by simp; omega
      clear h3 h4 h6 h7 hg hg2 hd hd2 HQ HO HG HE
      obtain ⟨C, hC⟩ : ∃ C, C = ba (acc ++ [34]) := ⟨_, rfl⟩
      rw [← hC] at hcc
      have HC : Hid (C = ba (acc ++ [34])) := hC
      clear hC
      generalize ba acc = B at *
      go_wp2
      go_round
      case rel => exact ⟨k + 2, acc ++ [34], by omega, by omega, by go_num, by rw [HC.out], hl2, HN⟩
      case measure => simp [intOf]; omega
     ·have HN : Hid (o = some (.str acc, l.drop (k + 1))) := by
       show _ = _
       rw [hg2] at h6
       rw [← HO.out, HQ.out, hd, hd2, quo_end (fun r e => h6 (List.cons.inj e).1)]
       simp
      have h7' : ((S[k + 1].toNat : Int) == 34) = false := h7
      have HL : Hid (((l.length - (l.drop (k + 1)).length : Nat) : Int) = (k : Int) + 1) := by show _ = _; simp; omega
      clear h3 h4 h6 h7 hg hg2 hd hd2 HQ HO HG HE
      obtain ⟨B, hB⟩ : ∃ B, B = ba acc := ⟨_, rfl⟩
      rw [← hB] at hsa ⊢
      have HB : Hid (B = ba acc) := hB
      clear hB
      go_wp2
      refine bodyPost_ret (v := .tuple #[.agg (tcs 2 0 B noB noB 0 0 false false), .int .i64 ((k : Int) + 1)]) (ret_new (tcs 2 0 B noB noB 0 0 false false) rfl rfl rfl rfl) rfl ?_
      rw [HN.out]
      exact ⟨bel_alloc (Below.refl _ _) _, by show _ = _; rw [HL.out, HB.out]; rfl⟩
    ·have h5i : ¬ (k : Int) + 1 < l.length := by omega
     have hnil : l.drop (k + 1) = [] := List.drop_eq_nil_of_le (by omega)
     have HN : Hid (o = some (.str acc, l.drop (k + 1))) := by
      show _ = _
      rw [← HO.out, HQ.out, hd, hnil, quo_end (fun r e => by cases e)]
      simp
     have HL : Hid (((l.length - (l.drop (k + 1)).length : Nat) : Int) = (k : Int) + 1) := by show _ = _; simp; omega
     clear h3 h4 hg hd HQ HO HG HE hnil
     obtain ⟨B, hB⟩ : ∃ B, B = ba acc := ⟨_, rfl⟩
     rw [← hB] at hsa ⊢
     have HB : Hid (B = ba acc) := hB
     clear hB
     go_wp2
     refine bodyPost_ret (v := .tuple #[.agg (tcs 2 0 B noB noB 0 0 false false), .int .i64 ((k : Int) + 1)]) (ret_new (tcs 2 0 B noB noB 0 0 false false) rfl rfl rfl rfl) rfl ?_
     rw [HN.out]
     exact ⟨bel_alloc (Below.refl _ _) _, by show _ = _; rw [HL.out, HB.out]; rfl⟩
   ·have h4' : ((S[k].toNat : Int) != 34) = true := by
     show (!((S[k].toNat : Int) == 34)) = true
     rw [show ((S[k].toNat : Int) == 34) = false from h4]; rfl
    rw [hg] at h3
    have hx := HE.out k hlt
    have hki2 : (k : Int) + 1 ≤ l.length := by omega
    have hki0 : (k : Int) ≤ (k : Int) + 1 := by omega
    have hq := quo_plain [l[k]] (l.drop (k + 1)) (fun x hx => by
     simp only [List.mem_singleton] at hx
     subst hx
     simpa [nq] using h3)
    have HN : Hid (Tk.quoF (l.drop 1) = (Tk.quoF (l.drop (k + 1))).map fun p => ((acc ++ [l[k]]) ++ p.1, p.2)) := by
     show _ = _
     rw [HQ.out, hd, show l[k] :: l.drop (k + 1) = [l[k]] ++ l.drop (k + 1) from rfl, hq]
     cases Tk.quoF (l.drop (k + 1)) <;> simp
    have hno : ¬ 9223372036854775807 < acc.length + 1 := by omega
    have hl2 : (acc ++ [l[k]]).length ≤ k + 1 := by simp; omega
    obtain ⟨C, hC⟩ : ∃ C, C = ba (acc ++ [l[k]]) := ⟨_, rfl⟩
    have hcc : ba acc ++ ba [l[k]] = C := by rw [hC]; exact ba_app acc [l[k]]
    have HC : Hid (C = ba (acc ++ [l[k]])) := hC
    have hD : (ba [l[k]]).size = 1 := size_mk _
    clear h3 h4 hg hd HQ HO HG HE hC hq
    generalize ba [l[k]] = D at *
    obtain ⟨B, hB⟩ : ∃ B, B = ba acc := ⟨_, rfl⟩
    rw [← hB] at hsa hcc ⊢
    clear hB
    go_wp2
    go_round
    case rel => exact ⟨k + 1, acc ++ [l[k]], by omega, by omega, by go_num, by rw [HC.out], hl2, HN⟩
    case measure => simp [intOf]; omega
  ·have hki : ¬ (k : Int) < l.length := by omega
   have HN : Hid (o = none) := by
    show _ = _
    rw [← HO.out, HQ.out, List.drop_eq_nil_of_le (by omega)]
    rfl
   clear HQ HO HG HE
   go_wp2
   refine bodyPost_ret (v := .tuple #[.agg tk0, .int .i64 0]) (ret_new tk0 rfl rfl rfl rfl) rfl ?_
   rw [HN.out]
   exact ⟨bel_alloc (Below.refl _ _) _, rfl⟩
theorem quoted_any (r : List UInt8) (hl : (34 :: r).length ≤ 255) (w : World) : Calls Tryz.prog 199 #[.string (ba (34 :: r))] w (AnsR w (34 :: r) ((Tk.quoF r).map fun p => (.str p.1, p.2))) :=
 quoted_core (34 :: r) (ba (34 :: r)) (size_mk _) (fun k h h2 => ba_get _ k h h2) (fun k h => ba_one _ k h) hl (by simp) w
end Go.Proofs.YtnibldnfbikipaaGreatDoor
