/- RPar8, RPar3a, RPar3. -/
import Derived.Test.YtnibldnfbikipaaGreatDoorRPar7By
set_option linter.unusedVariables false
set_option linter.unusedSimpArgs false
set_option maxHeartbeats 16000000
set_option maxRecDepth 100000
namespace Go.Proofs.YtnibldnfbikipaaGreatDoor
open Go.RowKit Go.Fm
theorem RA.from {W w u w' : World} {b : Nat} {o : Option (T × List Tk.Tok)} {es : Array Value} (hg : w.grownBy u (some b)) (h : RA W b u o es w') : RA W b w o es w' := by
 cases o with
 | none => exact ⟨h.1, grown_trans hg h.2⟩
 | some p => exact ⟨h.1.mono (fun i hi _ => Nat.le_trans hg.size hi), h.2.1, grown_trans hg h.2.2⟩
theorem tr_num (s : List UInt8) : (∃ n, trF s = some n ∧ truN (szF 97 65 s) = n ∧ 0 ≤ n) ∨ (trF s = none ∧ truN (szF 97 65 s) = -1) := by
 unfold trF truF
 rcases tru_cases (szF 97 65 (ba s).data.toList) with ⟨e, e2, e3⟩ | ⟨e, e2, e3⟩ | ⟨_, _, e2, e3⟩
 ·left; rw [e2]; exact ⟨1, rfl, e3, by decide⟩
 ·left; rw [e2]; exact ⟨0, rfl, e3, by decide⟩
 ·right; rw [e2]; exact ⟨rfl, e3⟩
theorem build_t (u : World) (n : Int) : (Instr.build 62 #[(0, .int .i64 3), (1, .int .i64 n)]).run Tryz.prog u = .ok (.agg #[.int .i64 3, .int .i64 n, .string noB]) u := by kernel_rfl
theorem build_n (u : World) (s bk h : ByteArray) (r c : Int) (fr fc : Bool) : (Instr.build 67 #[(0, .int .i64 4), (1, .string s), (3, refV bk h r c fr fc)]).run Tryz.prog u = .ok (.agg (lcs ⟨4, s, 0, 0, nb, bk, h, r, c, fr, fc, nb, nb, 0, 0, false, false⟩ (.slice none 0 0))) u := by kernel_rfl
section
variable {W w : World} {b : Nat} {s bk : List UInt8} {L : List Tk.Tok}
abbrev wcs (bk s : List UInt8) : Array Value := tcs 4 0 (ba s) (ba bk) noB 0 0 false false
theorem wbox {u : World} {g : Nat} {cs : Array Value} (h : u.heap[g]? = some (.cells cs 188)) (j : Nat) (v : Value) (hj : cs[j]? = some v) : u.cell? ⟨g, j, none⟩ = some v := by rw [cell_of_row u g j _ 188 (0, 0) h]; exact hj
theorem rword_call (hn : L.length ≤ 256) (hs : s.length ≤ 1000) (h40 : opOf L = [40]) (X : QR W b L w) {o : Option (T × List Tk.Tok)} (C : ∀ u, QR W b L u → Calls Tryz.prog 270 #[.pointer (some ⟨b, 0, none⟩), .string (ba (upF s))] u (RO W b u o)) :
  Calls Tryz.prog 246 #[.pointer (some ⟨b, 0, none⟩), .agg (wcs [] s)] w (RO W b w o) := by
 have hb := X.lt
 obtain ⟨f0, f1, f2, f3⟩ := rw2_facts (w := w) (cs := wcs [] s)
 have X2 := X.below f3
 have OP : Calls Tryz.prog 156 #[.pointer (some ⟨b, 0, none⟩)] (rw2 w (wcs [] s)) fun e w' => e = .returned (.string ⟨#[40]⟩) ∧ w' = rw2 w (wcs [] s) := by
  have := rop_any X2 hn
  rw [h40] at this
  exact this
 have c3 : (rw2 w (wcs [] s)).cell? ⟨w.heap.size, 3, none⟩ = some (.string ⟨#[]⟩) := wbox f0 3 _ rfl
 have c2 : (rw2 w (wcs [] s)).cell? ⟨w.heap.size, 2, none⟩ = some (.string (ba s)) := wbox f0 2 _ rfl
 have UP : Calls Tryz.prog 142 #[.string (ba s)] (rw2 w (wcs [] s)) fun e w' => e = .returned (.string (ba (upF s))) ∧ Below (rw2 w (wcs [] s)).heap.size (rw2 w (wcs [] s)) w' := rup_any (ba s) (by rw [size_mk]; omega) _
 have C1 : Hid (∀ u, Below (rw2 w (wcs [] s)).heap.size (rw2 w (wcs [] s)) u → Calls Tryz.prog 270 #[.pointer (some ⟨b, 0, none⟩), .string (ba (upF s))] u fun e w3 => ∃ es, e = .returned (.agg es) ∧ Hid ((Instr.storeAt 67 (.pointer (some ⟨w.heap.size + 1, 0, none⟩)) (.agg es)).run Tryz.prog w3 = .ok () (w3.setRow (w.heap.size + 1) es)) ∧ Hid (w3.heap[w.heap.size + 1]? = some (.cells nd0 67)) ∧ Hid (es.size = 18) ∧ Hid (NA es) ∧
  Hid (RA W b w o es (w3.setRow (w.heap.size + 1) es))) := fun u hu => (C u (X2.below hu)).mono (by
  rintro e w3 ⟨es, rfl, hn, h⟩
  exact ⟨es, rfl, RA.fin2 hb hn (h.from (grown_below hu))⟩)
 clear C X X2 f0 f1 f2 f3 h40
 generalize ba (upF s) = U at *
 generalize ba s = S at *
 generalize wcs [] s = cs at *
 go_enter Tryz.func246, Tryz.ntmps246
 go_wp2_with (first
  | (go_at_call 156; refine OP.mono ?_; rintro e w' ⟨rfl, hw⟩; obtain rfl := hw.symm; clear hw)
  | (go_at_call 142; refine UP.mono ?_; rintro e w1 ⟨rfl, hw⟩; have HU : Hid (Below (rw2 w cs).heap.size (rw2 w cs) w1) := hw; clear hw)
  | (go_at_call 270; refine (C1.out _ HU.out).mono ?_; rintro e w3 ⟨es, rfl, RS, HG, HZ, HNA, HF⟩)
  | (refine wpList_store_run rfl 67 _ _ rfl _ _ _ rfl rfl RS.out ?_; clear RS))
 exact bodyPost_ret (nd_res HG.out HZ.out rfl rfl) rfl ⟨_, rfl, HNA.out, HF.out⟩
theorem rword_rest (hn : L.length ≤ 256) (hs : s.length ≤ 1000) (h40 : ¬ (bk = [] ∧ opOf L = [40])) (X : QR W b L w) :
  Calls Tryz.prog 246 #[.pointer (some ⟨b, 0, none⟩), .agg (wcs bk s)] w (RO W b w (match trF s with
   | some n => some (tree (labV 3 n nb) [], L)
   | none => some (tree (labN bk s) [], L))) := by
 have hb := X.lt
 obtain ⟨f0, f1, f2, f3⟩ := rw2_facts (w := w) (cs := wcs bk s)
 have X2 := X.below f3
 have OP := rop_any X2 hn
 have c3 : (rw2 w (wcs bk s)).cell? ⟨w.heap.size, 3, none⟩ = some (.string (ba bk)) := wbox f0 3 _ rfl
 have c2 : (rw2 w (wcs bk s)).cell? ⟨w.heap.size, 2, none⟩ = some (.string (ba s)) := wbox f0 2 _ rfl
 have TR : Calls Tryz.prog 92 #[.string (ba s)] (rw2 w (wcs bk s)) fun e w' => e = .returned (.int .i64 (truN (szF 97 65 s))) ∧ Hid (Sq W b L (rw2 w (wcs bk s)) w') ∧ w'.cell? ⟨w.heap.size, 2, none⟩ = some (.string (ba s)) ∧ Hid ((Instr.loadAt 64 (.pointer (some ⟨w.heap.size, 3, none⟩))).run Tryz.prog w' = .ok (refV (ba bk) noB 0 0 false false) w') := (rtruth_any (ba s) (by rw [size_mk]; omega) _).mono (by
  rintro e w' ⟨rfl, h⟩
  have hk := (h.block _ (lt_of f0)).trans f0
  exact ⟨rfl, (Sq.refl X2).bel h, wbox hk 2 _ rfl, box_ref hk⟩)
 have hcond : ((ba (opOf L)).toList == [40]) = false ∨ (((ba (opOf L)).toList == [40]) = true ∧ (ba bk).toList.isEmpty = false) := by
  by_cases h : opOf L = [40]
  ·right
   refine ⟨by rw [h, ByteArray.toList_eq]; rfl, ?_⟩
   rw [ByteArray.toList_eq]
   show bk.isEmpty = false
   cases bk with
   | nil => exact absurd ⟨rfl, h⟩ h40
   | cons _ _ => rfl
  ·exact .inl (ne_list h)
 have FT : Hid (∀ (n : Int) u, Sq W b L (rw2 w (wcs bk s)) u → _) := fun n u hu => RA.fin2 hb (na_leaf (labV 3 n nb)) (RA.leaf (labV 3 n nb) hu)
 have FN : Hid (∀ u, Sq W b L (rw2 w (wcs bk s)) u → _) := fun u hu => RA.fin2 hb (na_leaf (labN bk s)) (RA.leaf (labN bk s) hu)
 have BT : Hid (∀ (n : Int) (u : World), _ ∧ _) := fun n u => ⟨build_t u n, build_val u 3 n noB⟩
 have BN : Hid (∀ u, (Instr.build 67 #[(0, .int .i64 4), (1, .string (ba s)), (3, refV (ba bk) noB 0 0 false false)]).run Tryz.prog u = .ok (.agg (lcs (labN bk s) (.slice none 0 0))) u) := fun u => build_n u (ba s) (ba bk) noB 0 0 false false
 clear X X2 f0 f1 f2 f3 h40
 rcases tr_num s with ⟨n, h1, h2, h3⟩ | ⟨h1, h2⟩
 ·rw [h1]
  rw [h2] at TR
  have FT' := fun u hu => FT.out n u hu
  have BT1 : Hid _ := fun u => (BT.out n u).1
  have BT2 : Hid _ := fun u => (BT.out n u).2
  clear FT FN BT BN h1 h2
  have hz := lcs_size (labV 3 n nb) (.slice none 0 0)
  generalize lcs (labV 3 n nb) (.slice none 0 0) = es at *
  generalize ba (opOf L) = A at *
  generalize ba s = S at *
  generalize ba bk = B at *
  generalize wcs bk s = cs at *
  have hge : ¬ n < 0 := by omega
  rcases hcond with hA | ⟨hA, hB⟩
  ·go_enter Tryz.func246, Tryz.ntmps246
   go_wp2_with (first
    | (go_at_call 156; refine OP.mono ?_; rintro e w' ⟨rfl, hw⟩; obtain rfl := hw.symm; clear hw)
    | (go_at_call 92; refine TR.mono ?_; rintro e w1 ⟨rfl, HS1, k2, RL1⟩; obtain ⟨RS, HG, HZ, HNA, HF⟩ := FT' _ HS1.out)
    | (refine wpList_build_run rfl 62 _ rfl _ _ (by go_simp) (BT1.out _) ?_)
    | (refine wpList_build_run rfl 67 _ rfl _ _ (by go_simp) (BT2.out _) ?_)
    | (refine wpList_store_run rfl 67 _ _ rfl _ _ _ rfl rfl RS.out ?_; clear RS))
   exact bodyPost_ret (nd_res HG.out HZ.out rfl rfl) rfl ⟨_, rfl, HNA.out, HF.out⟩
  ·go_enter Tryz.func246, Tryz.ntmps246
   go_wp2_with (first
    | (go_at_call 156; refine OP.mono ?_; rintro e w' ⟨rfl, hw⟩; obtain rfl := hw.symm; clear hw)
    | (go_at_call 92; refine TR.mono ?_; rintro e w1 ⟨rfl, HS1, k2, RL1⟩; obtain ⟨RS, HG, HZ, HNA, HF⟩ := FT' _ HS1.out)
    | (refine wpList_build_run rfl 62 _ rfl _ _ (by go_simp) (BT1.out _) ?_)
    | (refine wpList_build_run rfl 67 _ rfl _ _ (by go_simp) (BT2.out _) ?_)
    | (refine wpList_store_run rfl 67 _ _ rfl _ _ _ rfl rfl RS.out ?_; clear RS))
   exact bodyPost_ret (nd_res HG.out HZ.out rfl rfl) rfl ⟨_, rfl, HNA.out, HF.out⟩
 ·rw [h1]
  rw [h2] at TR
  have FN' := fun u hu => FN.out u hu
  clear FT FN BT h1 h2
  generalize lcs (labN bk s) (.slice none 0 0) = es at *
  generalize labN bk s = lb at *
  generalize ba (opOf L) = A at *
  generalize ba s = S at *
  generalize ba bk = B at *
  generalize wcs bk s = cs at *
  rcases hcond with hA | ⟨hA, hB⟩
  ·go_enter Tryz.func246, Tryz.ntmps246
   go_wp2_with (first
    | (go_at_call 156; refine OP.mono ?_; rintro e w' ⟨rfl, hw⟩; obtain rfl := hw.symm; clear hw)
    | (go_at_call 92; refine TR.mono ?_; rintro e w1 ⟨rfl, HS1, k2, RL1⟩; obtain ⟨RS, HG, HZ, HNA, HF⟩ := FN' _ HS1.out)
    | (refine wpList_load_run rfl 64 _ rfl _ _ rfl RL1.out ?_; clear RL1)
    | (refine wpList_build_run rfl 67 _ rfl _ _ (by go_simp) (BN.out _) ?_)
    | (refine wpList_store_run rfl 67 _ _ rfl _ _ _ rfl rfl RS.out ?_; clear RS))
   exact bodyPost_ret (nd_res HG.out HZ.out rfl rfl) rfl ⟨_, rfl, HNA.out, HF.out⟩
  ·go_enter Tryz.func246, Tryz.ntmps246
   go_wp2_with (first
    | (go_at_call 156; refine OP.mono ?_; rintro e w' ⟨rfl, hw⟩; obtain rfl := hw.symm; clear hw)
    | (go_at_call 92; refine TR.mono ?_; rintro e w1 ⟨rfl, HS1, k2, RL1⟩; obtain ⟨RS, HG, HZ, HNA, HF⟩ := FN' _ HS1.out)
    | (refine wpList_load_run rfl 64 _ rfl _ _ rfl RL1.out ?_; clear RL1)
    | (refine wpList_build_run rfl 67 _ rfl _ _ (by go_simp) (BN.out _) ?_)
    | (refine wpList_store_run rfl 67 _ _ rfl _ _ _ rfl rfl RS.out ?_; clear RS))
   exact bodyPost_ret (nd_res HG.out HZ.out rfl rfl) rfl ⟨_, rfl, HNA.out, HF.out⟩
end
theorem pword_any {W w : World} {b : Nat} {bk s : List UInt8} {L : List Tk.Tok} (hn : L.length ≤ 256) (hs : s.length ≤ 1000) (X : QR W b L w)
  (C : ∀ ts' u, ts'.length ≤ L.tail.length → QR W b ts' u → Calls Tryz.prog 109 #[.pointer (some ⟨b, 0, none⟩), .int .i64 1] u (RO W b u (PP 1 ts'))) :
  Calls Tryz.prog 246 #[.pointer (some ⟨b, 0, none⟩), .agg (tk (Tk.Tok.word bk s)).cs] w (RO W b w (wordF bk s L)) := by
 unfold wordF
 by_cases h : bk = [] ∧ opOf L = [40]
 ·rw [if_pos h]
  obtain ⟨rfl, h40⟩ := h
  exact rword_call hn hs h40 X (fun u hu => rcall_any hn h40 hu C)
 ·rw [if_neg h]
  exact rword_rest hn hs h X
theorem rstrength_any (s : List UInt8) (w : World) : Calls Tryz.prog 141 #[.string (ba s)] w fun e w' => e = .returned (.int .i64 (strn s : Nat)) ∧ w' = w := by
  rcases strn_cases s with h | ⟨h0, h1, h2, h3, h4, h5, h6, h7, h8, h9, h10, h11, h12⟩
  · rcases h with rfl | rfl | rfl | rfl | rfl | rfl | rfl | rfl | rfl | rfl | rfl | rfl <;>
      (go_enter Tryz.func141, Tryz.ntmps141
       go_wp2
       go_ret
       exact ⟨rfl, rfl⟩)
  · rw [h0]
    have k1 := ne_list h1
    have k2 := ne_list h2
    have k3 := ne_list h3
    have k4 := ne_list h4
    have k5 := ne_list h5
    have k6 := ne_list h6
    have k7 := ne_list h7
    have k8 := ne_list h8
    have k9 := ne_list h9
    have k10 := ne_list h10
    have k11 := ne_list h11
    have k12 := ne_list h12
    clear h0 h1 h2 h3 h4 h5 h6 h7 h8 h9 h10 h11 h12
    generalize ba s = S at *
    go_enter Tryz.func141, Tryz.ntmps141
    go_wp2
    go_ret
    exact ⟨rfl, rfl⟩
theorem wr1 : IntKind.i64.wrap (((1 : Nat) : Int) + 1) = ((1 + 1 : Nat) : Int) := by kernel_rfl
theorem wr2 : IntKind.i64.wrap (((2 : Nat) : Int) + 1) = ((2 + 1 : Nat) : Int) := by kernel_rfl
theorem wr3 : IntKind.i64.wrap (((3 : Nat) : Int) + 1) = ((3 + 1 : Nat) : Int) := by kernel_rfl
theorem wr4 : IntKind.i64.wrap (((4 : Nat) : Int) + 1) = ((4 + 1 : Nat) : Int) := by kernel_rfl
theorem wr5 : IntKind.i64.wrap (((5 : Nat) : Int) + 1) = ((5 + 1 : Nat) : Int) := by kernel_rfl
theorem rbin_any {W : World} {b : Nat} {lv : Nat} (h1 : 1 ≤ lv) (h5 : lv ≤ 5) {ts : List Tk.Tok} (hn : ts.length ≤ 256)
  (C : ∀ ts' u, ts'.length ≤ ts.length → QR W b ts' u → Calls Tryz.prog 109 #[.pointer (some ⟨b, 0, none⟩), .int .i64 ((lv + 1 : Nat) : Int)] u (RO W b u (PP (lv + 1) ts'))) {w : World} (X : QR W b ts w) :
  Calls Tryz.prog 109 #[.pointer (some ⟨b, 0, none⟩), .int .i64 ((lv : Nat) : Int)] w (RO W b w (PP lv ts)) := by
 have hb := X.lt
 have e : PP lv ts = (PP (lv + 1) ts).bind fun p => loopF (PP (lv + 1)) lv p.2.length p.1 p.2 := ps_row upF trF h1 h5 ts
 have hlen : ∀ p, PP (lv + 1) ts = some p → p.2.length ≤ ts.length := fun p hp => Nat.le_of_lt (ps_lt upF trF (by omega) _ p.1 p.2 hp)
 have C0 : Calls Tryz.prog 109 #[.pointer (some ⟨b, 0, none⟩), .int .i64 ((lv + 1 : Nat) : Int)] (w.alloc (.cells nd0 67)) fun e w1 => ∃ es, e = .returned (.agg es) ∧ Hid ((Instr.storeAt 67 (.pointer (some ⟨w1.heap.size, 0, none⟩)) (.agg es)).run Tryz.prog (w1.alloc (.cells nd0 67)) = .ok () (w1.alloc (.cells es 67))) ∧ Hid (BI W b w w1.heap.size (PP (lv + 1) ts) es (w1.alloc (.cells es 67))) ∧ Hid (w.heap.size < w1.heap.size) := (C ts _ (Nat.le_refl _) (X.alloc _)).mono (by
  rintro e w1 ⟨es, rfl, hn, h⟩
  exact ⟨es, rfl, BI.begin hb hn h⟩)
 generalize PP lv ts = o at e ⊢
 have HO : Hid (((PP (lv + 1) ts).bind fun p => loopF (PP (lv + 1)) lv p.2.length p.1 p.2) = o) := e.symm
 have HC : Hid (∀ ts' u, ts'.length ≤ ts.length → QR W b ts' u → Calls Tryz.prog 109 #[.pointer (some ⟨b, 0, none⟩), .int .i64 ((lv + 1 : Nat) : Int)] u (RO W b u (PP (lv + 1) ts'))) := C
 have HLE : Hid (∀ p, PP (lv + 1) ts = some p → p.2.length ≤ ts.length) := hlen
 have hi5 : ¬ (5 : Int) < ((lv : Nat) : Int) := by omega
 have hw1 : IntKind.i64.wrap (((lv : Nat) : Int) + 1) = ((lv + 1 : Nat) : Int) := by
  have : lv = 1 ∨ lv = 2 ∨ lv = 3 ∨ lv = 4 ∨ lv = 5 := by omega
  rcases this with rfl | rfl | rfl | rfl | rfl
  ·exact wr1
  ·exact wr2
  ·exact wr3
  ·exact wr4
  ·exact wr5
 have HLV : Hid (1 ≤ lv) := h1
 have HN256 : Hid (ts.length ≤ 256) := hn
 clear e C hlen X h5
 generalize PP (lv + 1) ts = o1 at C0 HO HLE
 obtain ⟨l1, hl1⟩ : ∃ l1 : Int, ((lv + 1 : Nat) : Int) = l1 := ⟨_, rfl⟩
 rw [hl1] at C0 HC hw1
 clear hl1
 obtain ⟨N, hN⟩ : ∃ N, ts.length = N := ⟨_, rfl⟩
 rw [hN] at HC HLE HN256
 clear hN hn h1
 go_enter Tryz.func109, Tryz.ntmps109
 go_wp2_with (first
  | (go_at_call 109; refine C0.mono ?_; rintro e w1 ⟨es0, rfl, RS0, HB0, HLT⟩)
  | (refine wpList_store_run rfl 67 _ _ rfl _ _ _ rfl rfl RS0.out ?_; clear RS0))
 clear C0
 try simp only [Act.put, List.setIfInBounds_toArray, List.set_cons_zero, List.set_cons_succ]
 generalize hg7 : w1.heap.size = g7 at *
 clear hg7
 go_loopw [6] (fun _ wr => ∃ (cur : Option (T × List Tk.Tok)) (es : Array Value), Hid ((cur.bind fun p => loopF (PP (lv + 1)) lv p.2.length p.1 p.2) = o) ∧ Hid (BI W b w g7 cur es wr) ∧ Hid (∀ p, cur = some p → p.2.length ≤ N)) (fun _ wr => leftP b wr)
 case atStart => exact ⟨o1, es0, HO, HB0, HLE⟩
 case round =>
  obtain ⟨cur, es, HL, HB, HR⟩ := hrel
  clear HO HB0 HLE
  cases cur with
  | none =>
   obtain ⟨RL, RS, HZ, HF⟩ := HB.out.fin hb
   have hyes : wr.cell? ⟨b, 1, none⟩ = some (.bool true) := (show Sw W b w wr from HB.out.st).1.yes
   have HQ : Hid (none = o) := HL.out
   have HNA : Hid (NA es) := HB.out.na
   have HG : Hid (wr.heap[w.heap.size]? = some (.cells nd0 67)) := HB.out.res
   clear HL HB HR
   go_wp2_with (first
    | (refine wpList_load_run rfl 67 _ rfl _ _ rfl RL.out ?_; clear RL)
    | (refine wpList_store_run rfl 67 _ _ rfl _ _ _ rfl rfl RS.out ?_; clear RS))
   refine bodyPost_ret (nd_res HG.out HZ.out rfl rfl) rfl ?_
   rw [← HQ.out]
   exact ⟨es, rfl, HNA.out, HF.out⟩
  | some p =>
   obtain ⟨n, r⟩ := p
   have hr : r.length ≤ N := HR.out _ rfl
   have hS : Sq W b r w wr := (HB.out.st).2
   have hnot : wr.cell? ⟨b, 1, none⟩ = some (.bool false) := hS.1.not
   have OP := rop_any hS.1 (by have := HN256.out; omega)
   have ST := fun u => rstrength_any (opOf r) u
   have hleft := hS.1.left
   by_cases hq : strn (opOf r) = lv
   ·have hlv := HLV.out
    have hne := strn_ne (s := opOf r) (by omega)
    obtain ⟨hrt, hrc⟩ := op_tail (ts := r) rfl hne
    have HQ : Hid (o = (PP (lv + 1) r.tail).bind fun p => loopF (PP (lv + 1)) lv p.2.length (binT (opOf r) n p.1) p.2) := by show _ = _; rw [← HL.out]; exact loop_yes hlv hq
    have TK : Calls Tryz.prog 157 #[.pointer (some ⟨b, 0, none⟩), .string (ba (opOf r))] wr fun e w' => e = .returned (.tuple #[]) ∧ Sq W b r.tail wr w' := rtake_yes hS.1 (by have := HN256.out; omega) hne rfl
    have hqi : (((strn (opOf r) : Nat) : Int) == ((lv : Nat) : Int)) = true := by simp [hq]
    have hltr : r.tail.length < r.length := by omega
    have HPL : Hid (∀ p, PP (lv + 1) r.tail = some p → p.2.length < r.tail.length) := fun p hp => ps_lt upF trF (by omega) _ p.1 p.2 hp
    have C1 : Hid (∀ u2, Sq W b r.tail wr u2 → Calls Tryz.prog 109 #[.pointer (some ⟨b, 0, none⟩), .int .i64 l1] u2 fun e w3 => ∃ es2, e = .returned (.agg es2) ∧ NA es2 ∧ RA W b u2 (PP (lv + 1) r.tail) es2 w3) := fun u2 h2 => HC.out r.tail u2 (by omega) h2.1
    clear HL hq hrc HC hS
    generalize hrr : r.tail = r' at *
    generalize strn (opOf r) = sv at *
    generalize hss : opOf r = sg at *
    clear hrr hss
    go_wp2_with (first
     | (go_at_call 156; refine OP.mono ?_; rintro e w' ⟨rfl, hw⟩; obtain rfl := hw.symm; clear hw)
     | (go_at_call 141; refine (ST _).mono ?_; rintro e w' ⟨rfl, hw⟩; obtain rfl := hw.symm; clear hw)
     | (go_at_call 157; refine TK.mono ?_; rintro e w2 ⟨rfl, hw⟩; have HS2 : Hid (Sq W b r' wr w2) := hw; clear hw TK)
     | (go_at_call 109; refine (C1.out _ HS2.out).mono ?_; rintro e w3 ⟨es2, rfl, hn2, h3⟩; obtain ⟨R1, R2, R3, w5, R4, R5, R6, HB6⟩ := BI.two (sg := sg) HB.out hb HLT.out HS2.out hn2 h3; clear hn2 h3)
     | (refine wpList_store_run rfl 67 _ _ rfl _ _ _ rfl rfl R1.out ?_; clear R1)
     | (refine wpList_load_run rfl 67 _ rfl _ _ rfl R2.out ?_; clear R2)
     | (refine wpList_load_run rfl 67 _ rfl _ _ rfl R3.out ?_; clear R3)
     | (refine wpList_bslice_run rfl 65 2 _ rfl _ _ _ (by go_simp) R4.out ?_; clear R4)
     | (refine wpList_build_run rfl 67 _ rfl _ _ (by go_simp) R5.out ?_; clear R5)
     | (refine wpList_store_run rfl 67 _ _ rfl _ _ _ rfl rfl R6.out ?_; clear R6))
    try simp only [Act.put, List.setIfInBounds_toArray, List.set_cons_zero, List.set_cons_succ]
    go_roundw
    case rel =>
     refine ⟨_, _, ?_, HB6, ?_⟩
     ·show _ = _
      rw [HQ.out]
      cases PP (lv + 1) r' <;> rfl
     ·show ∀ p, _ → _
      intro p hp
      cases hP : PP (lv + 1) r' with
      | none => rw [hP] at hp; cases hp
      | some q =>
       rw [hP] at hp
       cases hp
       have := HPL.out _ hP
       show q.2.length ≤ N
       omega
    case measure =>
     have hst := HB6.out.st
     cases hP : PP (lv + 1) r' with
     | none =>
      rw [hP] at hst
      rw [(show Sw W b w _ from hst).1.left, hleft]; omega
     | some q =>
      rw [hP] at hst
      have := HPL.out _ hP
      rw [(show _ ∧ Sq W b q.2 w _ from hst).2.1.left, hleft]; omega
   ·have HQ : Hid (o = some (n, r)) := by show _ = _; rw [← HL.out]; exact loop_no hq _
    have hqi : (((strn (opOf r) : Nat) : Int) == ((lv : Nat) : Int)) = false := by simp; omega
    obtain ⟨RL, RS, HZ, HF⟩ := HB.out.fin hb
    have HNA : Hid (NA es) := HB.out.na
    have HG : Hid (wr.heap[w.heap.size]? = some (.cells nd0 67)) := HB.out.res
    generalize strn (opOf r) = sv at *
    generalize ba (opOf r) = A at *
    clear hq HL hleft HB hS HC
    go_wp2_with (first
     | (go_at_call 156; refine OP.mono ?_; rintro e w' ⟨rfl, hw⟩; obtain rfl := hw.symm; clear hw)
     | (go_at_call 141; refine (ST _).mono ?_; rintro e w' ⟨rfl, hw⟩; obtain rfl := hw.symm; clear hw)
     | (refine wpList_load_run rfl 67 _ rfl _ _ rfl RL.out ?_; clear RL)
     | (refine wpList_store_run rfl 67 _ _ rfl _ _ _ rfl rfl RS.out ?_; clear RS))
    refine bodyPost_ret (nd_res HG.out HZ.out rfl rfl) rfl ?_
    rw [HQ.out]
    exact ⟨es, rfl, HNA.out, HF.out⟩
end Go.Proofs.YtnibldnfbikipaaGreatDoor
