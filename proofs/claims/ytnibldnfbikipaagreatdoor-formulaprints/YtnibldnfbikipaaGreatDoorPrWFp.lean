/- PrW. -/
import Derived.Test.YtnibldnfbikipaaGreatDoorPrW2Fp
set_option linter.unusedVariables false
set_option linter.unusedSimpArgs false
set_option maxHeartbeats 16000000
set_option maxRecDepth 100000
namespace Go.Proofs.YtnibldnfbikipaaGreatDoor
open Go.RowKit Go.Shelf Go.Fm
attribute [local go_sem] Oper.semAt_some
theorem exit_in {F : Fence} {n : Nat} {P : Program} {id : Nat} {R : Exit → Act → World → Prop} {a : Act} {W : World} (h : Exit.inBlock id R .normal a W) : (Code.exit id).wpIn F n P (Exit.inBlock id R) a W := wpIn_exit (by show (if id = id then R .normal a W else R (.exit id) a W); rw [if_pos rfl]; exact h)
theorem rangeR1 {F : Fence} {n : Nat} {P : Program} {α : Type} {g : Operand} {ps : Array Tmp} {assign body : Code} {Q : Exit → Act → World → Prop} {a : Act} {w : World} (hro : F.round = none) (h1 : 1 ≤ n) {gf : Nat} {lb : Array Value} (hg : a.eval g = .func (.func gf) #[] lb) (hFg : F.fn gf) (eg : ∀ args w, (callFunc gf args).run P w = .ok (.enter gf args) w)
  {encs : α → Array Value} {Rx : α → World → Prop} {K : α → World → World → Prop} {S Sp : List α → Prop} {N : Nat} {w0 : World} (hseq : SeqR F (n - 1) P gf lb encs Rx K S Sp N w0) (hb0 : Below w0.heap.size w0 w)
  (hKt : ∀ {x : α} {A B C : World}, K x A B → K x B C → K x A C) (hKo : ∀ (x : α) (W : World) (l : Nat) (o o' : Obj), w.heap.size ≤ l → W.heap[l]? = some o → o.isCells = false → o.isWalk = false → K x W (W.putObj l o'))
  (hRx : ∀ (x : α) (W : World) (l : Nat) (o o' : Obj), Rx x W → W.heap[l]? = some o → o.isCells = false → Rx x (W.putObj l o')) (hps : ∀ x, (encs x).size = ps.size)
  (I : List α → World → Prop) (Ix : Code → List α → World → Prop) (hI : OwnFrom w.heap.size I) (hIx : ∀ c, OwnFrom w.heap.size (Ix c)) (h0 : I [] w) (Ax : α → Act → World → Prop) (hAx : ∀ x a', OwnFrom w.heap.size (fun (_ : Unit) W => Ax x a' W))
  (id : Nat) (hex : ∀ a W, Q .normal a W → (Code.exit id).wpIn F n P Q a W) (hst : ∀ c pre W, Sp pre → Ix c pre W → c = .exit id ∧ I pre W)
  (hassign : ∀ (l : Nat) (pre : List α) (x : α) (W : World) (K' : Act → World → Prop), I pre W → Rx x W → (∀ a' W', KeepsFrom w.heap.size W W' → K x W W' → I pre W' → Rx x W' → Ax x a' W' → K' a' W') → assign.wpIn (F.inRound l) (n - 1 - 1) P (Exit.then K' (fun _ _ _ => False)) { tmps := (ps.zip (encs x)).foldl (fun t (p, v) => t.setIfInBounds p v) a.tmps, defers := [] } W)
  (hbody : ∀ (l : Nat) (pre : List α) (x : α) (a' : Act) (W : World), I pre W → Rx x W → Ax x a' W → pre.length < N → body.wpIn (F.inRound l) (n - 1 - 1) P (ownPostG w.heap.size (K x) I Ix (pre ++ [x]) W) a' W)
  (hdone : ∀ (D : Nat) (xs : List α) (W : World), w.heap.size ≤ D → I xs W → W.heap[D]? = some (.deferred (some [])) → Q .normal { a with defers := { target := .collected D, args := #[] } :: a.defers } W) :
  (Code.rangeFunc g ps assign body).wpIn F n P Q a w :=
 rangeR hro h1 hg hFg eg hseq hb0 hKt hKo hRx hps I Ix hI hIx h0 Ax hAx hassign hbody (fun D xs W a1 _ a3 a4 => hdone D xs W a1 a3 a4) (fun D c pre W a1 a2 a3 a4 => by
  obtain ⟨rfl, hi⟩ := hst c pre W a2 a3
  exact hex _ _ (hdone D pre W a1 hi a4))
theorem PY.pi {w w1 V : World} {es : Array Value} {t : T} {b3 g cq Bk B : Nat} {es' : Array Value} {L : List (Array Value × T)} {m : Nat} {q : List Ex} (h : PY w es t b3 g cq Bk es' L m w1) (hi : PI w w1 B q V) (hB : m ≤ B) : PY w es t b3 g cq Bk es' L m V :=
 have l := h.lt
 ⟨hi.kc.2 _ _ h.b rfl (by omega), hi.kc.2 _ _ h.r rfl (by omega), hi.kc.2 _ _ h.l3 rfl (by omega), h.row.kc hi.kc (by omega), fun x hx => (h.nk x hx).keep hB hi.kc, hi.kc.2 _ _ h.k rfl (by omega), h.kn.keep hB hi.kc, ⟨l.1, l.2.1, l.2.2.1, l.2.2.2.1, Nat.le_trans l.2.2.2.2 hi.kc.1⟩, hi.bel⟩
section
variable {t : T} {w : World} {es : Array Value}
theorem prints_small (hz : zT t < 400) (h : NT w es t) (Z : ZT t) (T : Tab9 w) : Calls Tryz.prog 7 #[.agg es] w fun e w' => e = .returned (.bool true) ∧ Below w.heap.size w w' := by
 have hN : Hid (NT w es t) := h
 have HB0 : Hid (Below w.heap.size w ((w.alloc (.cells es 67)).alloc (.cells #[.bool false] 4))) := bel_alloc (bel_alloc (Below.refl _ _) _) _
 have RL : Hid _ := (nbox_at h).2 ((Below.heap_alloc (w.alloc (.cells es 67)) (.cells #[.bool false] 4) _ (by simp)).trans (heap_alloc_new w (.cells es 67)))
 have B := big_any (h.below HB0.out) (b := 400) (by omega) (by omega)
 rw [decide_eq_false (by omega)] at B
 have HR0 : Hid (((w.alloc (.cells es 67)).alloc (.cells #[.bool false] 4)).heap[w.heap.size + 1]? = some (.cells #[.bool false] 4)) := by
  have := heap_alloc_new (w.alloc (.cells es 67)) (.cells #[.bool false] 4)
  show _ = _
  simpa using this
 have HR1 : Hid (((w.alloc (.cells es 67)).alloc (.cells #[.bool false] 4)).heap[w.heap.size]? = some (.cells es 67)) := (Below.heap_alloc (w.alloc (.cells es 67)) (.cells #[.bool false] 4) _ (by simp)).trans (heap_alloc_new w (.cells es 67))
 have CE : Hid (∀ u, Below w.heap.size w u → u.heap[w.heap.size]? = some (.cells es 67) → u.heap[w.heap.size + 1]? = some (.cells #[.bool false] 4) → w.heap.size + 2 ≤ u.heap.size → Calls Tryz.prog 38 #[.agg es] u fun e u1 => ∃ g cq L, e = .returned (.slice (some ⟨g, 0, none⟩) (zT t) cq) ∧ Hid ((Instr.loadAt 67 (.pointer (some ⟨w.heap.size, 0, none⟩))).run Tryz.prog (u1.alloc (.cells #[.slice (some ⟨g, 0, none⟩) (zT t) cq] 65)) = .ok (.agg es) (u1.alloc (.cells #[.slice (some ⟨g, 0, none⟩) (zT t) cq] 65))) ∧
   Hid (Calls Tryz.prog 39 #[.agg es] (u1.alloc (.cells #[.slice (some ⟨g, 0, none⟩) (zT t) cq] 65)) fun e u2 => ∃ Bk es', e = .returned (.func (.func 84) #[] #[.pointer (some ⟨Bk, 0, none⟩)]) ∧ L.map (·.2) = preT t ∧ Hid (PY w es t u1.heap.size g cq Bk es' L u2.heap.size u2))) := by
  intro u hu h0 h1 hs
  have hNu := (h.below hu).nk
  refine (rlist_any t (by omega) _ u es hNu (fun i hi => hi)).mono ?_
  rintro e u1 ⟨v, L, rfl, hO, hL, hLN, hb1⟩
  have hlen : L.length = zT t := by rw [← preT_len, ← hL, List.length_map]
  obtain ⟨g, cq, rfl, hg, hrow⟩ := list_row hO (by rw [hlen]; simp [zT]) (fun x hx => (hLN x hx).size)
  rw [hlen] at *
  have hb1' : Below u1.heap.size u1 (u1.alloc (.cells #[.slice (some ⟨g, 0, none⟩) (zT t) cq] 65)) := bel_alloc (Below.refl _ _) _
  have hb2 : Below u.heap.size u (u1.alloc (.cells #[.slice (some ⟨g, 0, none⟩) (zT t) cq] 65)) := bel_alloc hb1 _
  have hx0 : (u1.alloc (.cells #[.slice (some ⟨g, 0, none⟩) (zT t) cq] 65)).heap[w.heap.size]? = some (.cells es 67) := (hb2.block _ (lt_of h0)).trans h0
  have hx1 : (u1.alloc (.cells #[.slice (some ⟨g, 0, none⟩) (zT t) cq] 65)).heap[w.heap.size + 1]? = some (.cells #[.bool false] 4) := (hb2.block _ (lt_of h1)).trans h1
  have hs1 := hb1.size
  refine ⟨g, cq, L, rfl, (nbox_at h).2 hx0, (each_any t (by omega) _ _ es ((hNu.below hb2)) (fun i hi => by have := hb2.size; omega)).mono ?_⟩
  rintro e u2 ⟨Bk, es', rfl, hBk, hk, hkn, hb3⟩
  have hb4 : Below u1.heap.size u1 u2 := bel_step hb1' hb3
  have hs3 := hb3.size
  simp only [World.size_alloc] at hs3
  refine ⟨Bk, es', rfl, hL, (hb3.block _ (lt_of hx0)).trans hx0, (hb3.block _ (lt_of hx1)).trans hx1, ?_, ?_, fun x hx => ?_, hk, hkn.mono (fun i _ hl => hl), ⟨by omega, by omega, by omega, lt_of hk, Nat.le_refl _⟩, bel_step (bel_step hu hb2) hb3⟩
  ·exact (hb3.block _ (by simp)).trans (heap_alloc_new u1 _)
  ·exact hrow.grown (grown_below (row := none) hb4) (by simp)
  ·exact ((hLN x hx).below hb4).mono (fun i _ hl => hl)
 have C28 : Hid (∀ {b3 g cq Bk es' L m} (u : World), PY w es t b3 g cq Bk es' L m u → Calls Tryz.prog 40 #[.agg es] u fun e u' => e = .returned (.bool (gT okL 24 t)) ∧ Below u.heap.size u u') := fun u hu => good_tree (by omega) Z (h.below hu.bel) (T.below hu.bel).t.t
 have C29 : Hid (∀ {b3 g cq Bk es' L m} (u : World), PY w es t b3 g cq Bk es' L m u → Calls Tryz.prog 41 #[.agg es] u fun e u' => e = .returned (.bool (gT okL 24 t)) ∧ Below u.heap.size u u') := fun u hu => rgood_tree right_all (by omega) Z (h.below hu.bel) (T.below hu.bel)
 have C30 : Hid (∀ {b3 g cq Bk es' L m} (u : World), PY w es t b3 g cq Bk es' L m u → Calls Tryz.prog 42 #[.agg es] u fun e u' => e = .returned (.string (ba (printN t))) ∧ Below u.heap.size u u') := fun u hu => printF_any (by omega) Z (h.below hu.bel) (T.below hu.bel)
 have C31 : Hid (∀ {b3 g cq Bk es' L m} (u : World), PY w es t b3 g cq Bk es' L m u → Calls Tryz.prog 43 #[.agg es] u fun e u' => e = .returned (.string (ba (printN t))) ∧ Below u.heap.size u u') := fun u hu => rprintR_any right_all (by omega) Z (h.below hu.bel) (T.below hu.bel)
 have C32 : Hid (∀ {b3 g cq Bk es' L m} (u : World), PY w es t b3 g cq Bk es' L m u → Calls Tryz.prog 44 #[.agg es] u fun e u' => e = .returned (.int .i64 (dT t : Nat)) ∧ Below u.heap.size u u') := fun u hu => depth_any t (by omega) u es (h.below hu.bel)
 have C33 : Hid (∀ {b3 g cq Bk es' L m} (u : World), PY w es t b3 g cq Bk es' L m u → Calls Tryz.prog 45 #[.agg es] u fun e u' => e = .returned (.int .i64 (dT t : Nat)) ∧ Below u.heap.size u u') := fun u hu => rdepth_any t (by omega) u es (h.below hu.bel)
 have C34 : Hid (∀ {b3 g cq Bk es' L m} (u : World), PY w es t b3 g cq Bk es' L m u → Calls Tryz.prog 46 #[.agg es] u fun e u' => e = .returned (.int .i64 (zT t : Nat)) ∧ Below u.heap.size u u') := fun u hu => fsize_any t (by omega) u es (h.below hu.bel)
 have LV : Hid (∀ u, Below w.heap.size w u → Calls Tryz.prog 37 #[] u fun e u' => e = .returned (.bool true) ∧ Below u.heap.size u u') := fun u hu => lives_any u (T.below hu)
 have HZ : Hid (zT t < 400) := hz
 have B' : Calls Tryz.prog 36 #[.agg es, .int .i64 400] ((w.alloc (.cells es 67)).alloc (.cells #[.bool false] 4)) fun e u => e = .returned (.bool false) ∧ Hid ((Instr.loadAt 67 (.pointer (some ⟨w.heap.size, 0, none⟩))).run Tryz.prog u = .ok (.agg es) u) ∧ Hid (Below w.heap.size w u ∧ u.heap[w.heap.size]? = some (.cells es 67) ∧ u.heap[w.heap.size + 1]? = some (.cells #[.bool false] 4) ∧ w.heap.size + 2 ≤ u.heap.size) := B.mono (by
  rintro e u ⟨rfl, hu⟩
  have h1 := (hu.block _ (lt_of HR1.out)).trans HR1.out
  exact ⟨rfl, (nbox_at h).2 h1, bel_step HB0.out hu, h1, (hu.block _ (lt_of HR0.out)).trans HR0.out, by have := hu.size; simpa using this⟩)
 clear h Z T hz B HR0 HR1 HB0
 refine (callsIn_wide (n := 100)).1 (callsIn_of_wp_marks Tryz.func7 rfl trivial ?_ rfl)
 simp only [Tryz.ntmps7, List.size_toArray, List.length_cons, List.length_nil, Nat.reduceAdd, Nat.reduceSub, Array.replicate_succ, Array.replicate_zero, List.push_toArray, List.append_toArray, List.nil_append, List.cons_append]
 refine wpIn_wide.2 ?_
 go_wp2_with (first
  | (refine wpList_load_run rfl 67 _ rfl _ _ rfl RL.out ?_; clear RL)
  | (go_at_call 36; refine B'.mono ?_; rintro e u ⟨rfl, RL, HU⟩; clear B')
  | (go_at_call 38; refine (CE.out _ HU.out.1 HU.out.2.1 HU.out.2.2.1 HU.out.2.2.2).mono ?_; rintro e u1 ⟨g, cq, L, rfl, RL, C27⟩; clear CE HU)
  | (go_at_call 39; refine C27.out.mono ?_; rintro e u2 ⟨Bk, es', rfl, hL, HP⟩; clear C27))
 have HS : Hid (PY w es t u1.heap.size g cq Bk es' L u2.heap.size u2.drew) := HP.out.below ((Below.refl _ _).drew)
 clear HP
 generalize u2.heap.size = m at *
 generalize u1.heap.size = b3 at *
 refine wp_norm ?_
 ·refine wp_region_d (fun u => PY w es t b3 g cq Bk es' L m u) (fun _ => false) (by kernel_rfl) ?_
  refine wpAnyD_pured (i := 0) (v := .func (.func 84) #[] #[.pointer (some ⟨Bk, 0, none⟩)]) rfl rfl (by kernel_rfl) (by kernel_rfl) (by kernel_rfl) (fun _ _ _ h => absurd h.1 (by simp)) (by go_simp) (by intro u; go_simp) ?_
  try simp only [Act.put, List.setIfInBounds_toArray, List.set_cons_zero, List.set_cons_succ]
  refine wpAnyD_pured (i := 1) (v := .bool false) rfl rfl (by kernel_rfl) (by kernel_rfl) (by kernel_rfl) (fun _ _ _ h => absurd h.1 (by simp)) (by go_simp) (by intro u; go_simp; rw [nil46]; rfl) ?_
  try simp only [Act.put, List.setIfInBounds_toArray, List.set_cons_zero, List.set_cons_succ]
  refine wpAnyD_pured (i := 2) (v := .bool false) rfl rfl (by kernel_rfl) (by kernel_rfl) (by kernel_rfl) (fun _ _ _ h => absurd h.1 (by simp)) (by go_simp) (by intro u; go_simp) ?_
  try simp only [Act.put, List.setIfInBounds_toArray, List.set_cons_zero, List.set_cons_succ]
  refine wpAnyD_loadd (i := 3) (v := .agg es) rfl rfl (by kernel_rfl) (by kernel_rfl) (by kernel_rfl) (by kernel_rfl) (fun _ _ _ h => absurd h.1 (by simp)) (by go_simp) (fun u hSu => exec_load_run rfl rfl ((nbox_at hN.out).2 hSu.b)) HS.out ?_
  try simp only [Act.put, List.setIfInBounds_toArray, List.set_cons_zero, List.set_cons_succ]
  refine wpAnyD_loadd (i := 5) (v := .agg es) rfl rfl (by kernel_rfl) (by kernel_rfl) (by kernel_rfl) (by kernel_rfl) (fun _ _ _ h => absurd h.1 (by simp)) (by go_simp) (fun u hSu => exec_load_run rfl rfl ((nbox_at hN.out).2 hSu.b)) HS.out ?_
  try simp only [Act.put, List.setIfInBounds_toArray, List.set_cons_zero, List.set_cons_succ]
  refine wpAnyD_one (i := 4) (by kernel_rfl) rfl ?_
  intro K' hK'
  go_simp
  refine (C28.out _ HS.out).mono ?_
  rintro e v1 ⟨rfl, hb⟩
  have HS1 : Hid _ := HS.out.below hb
  refine hK' _ _ (.inr fun _ => HS1.out) ?_
  clear hK'
  try simp only [Act.put, List.setIfInBounds_toArray, List.set_cons_zero, List.set_cons_succ]
  refine wpAnyD_one (i := 6) (by kernel_rfl) rfl ?_
  intro K' hK'
  go_simp
  refine (C29.out _ HS1.out).mono ?_
  rintro e v2 ⟨rfl, hb⟩
  have HS2 : Hid _ := HS1.out.below hb
  refine hK' _ _ (.inr fun _ => HS2.out) ?_
  clear hK'
  try simp only [Act.put, List.setIfInBounds_toArray, List.set_cons_zero, List.set_cons_succ]
  refine wpAnyD_pured (i := 7) (v := .bool false) rfl rfl (by kernel_rfl) (by kernel_rfl) (by kernel_rfl) (fun _ _ _ h => absurd h.1 (by simp)) (by go_simp) (by intro u; go_simp) ?_
  try simp only [Act.put, List.setIfInBounds_toArray, List.set_cons_zero, List.set_cons_succ]
  refine wpAnyD_pured (i := 8) (v := .bool false) rfl rfl (by kernel_rfl) (by kernel_rfl) (by kernel_rfl) (fun _ _ _ h => absurd h.1 (by simp)) (by go_simp) (by intro u; go_simp) ?_
  try simp only [Act.put, List.setIfInBounds_toArray, List.set_cons_zero, List.set_cons_succ]
  refine wpAnyD_pured (i := 9) (v := .bool false) rfl rfl (by kernel_rfl) (by kernel_rfl) (by kernel_rfl) (fun _ _ _ h => absurd h.1 (by simp)) (by go_simp) (by intro u; go_simp) ?_
  try simp only [Act.put, List.setIfInBounds_toArray, List.set_cons_zero, List.set_cons_succ]
  refine wpAnyD_loadd (i := 10) (v := .agg es) rfl rfl (by kernel_rfl) (by kernel_rfl) (by kernel_rfl) (by kernel_rfl) (fun _ _ _ h => absurd h.1 (by simp)) (by go_simp) (fun u hSu => exec_load_run rfl rfl ((nbox_at hN.out).2 hSu.b)) HS2.out ?_
  try simp only [Act.put, List.setIfInBounds_toArray, List.set_cons_zero, List.set_cons_succ]
  refine wpAnyD_loadd (i := 12) (v := .agg es) rfl rfl (by kernel_rfl) (by kernel_rfl) (by kernel_rfl) (by kernel_rfl) (fun _ _ _ h => absurd h.1 (by simp)) (by go_simp) (fun u hSu => exec_load_run rfl rfl ((nbox_at hN.out).2 hSu.b)) HS2.out ?_
  try simp only [Act.put, List.setIfInBounds_toArray, List.set_cons_zero, List.set_cons_succ]
  refine wpAnyD_one (i := 11) (by kernel_rfl) rfl ?_
  intro K' hK'
  go_simp
  refine (C30.out _ HS2.out).mono ?_
  rintro e v3 ⟨rfl, hb⟩
  have HS3 : Hid _ := HS2.out.below hb
  refine hK' _ _ (.inr fun _ => HS3.out) ?_
  clear hK'
  try simp only [Act.put, List.setIfInBounds_toArray, List.set_cons_zero, List.set_cons_succ]
  refine wpAnyD_one (i := 13) (by kernel_rfl) rfl ?_
  intro K' hK'
  go_simp
  refine (C31.out _ HS3.out).mono ?_
  rintro e v4 ⟨rfl, hb⟩
  have HS4 : Hid _ := HS3.out.below hb
  refine hK' _ _ (.inr fun _ => HS4.out) ?_
  clear hK'
  try simp only [Act.put, List.setIfInBounds_toArray, List.set_cons_zero, List.set_cons_succ]
  refine wpAnyD_pured (i := 14) (v := .bool false) rfl rfl (by kernel_rfl) (by kernel_rfl) (by kernel_rfl) (fun _ _ _ h => absurd h.1 (by simp)) (by go_simp) (by intro u; go_simp) ?_
  try simp only [Act.put, List.setIfInBounds_toArray, List.set_cons_zero, List.set_cons_succ]
  refine wpAnyD_pured (i := 15) (v := .bool false) rfl rfl (by kernel_rfl) (by kernel_rfl) (by kernel_rfl) (fun _ _ _ h => absurd h.1 (by simp)) (by go_simp) (by intro u; go_simp) ?_
  try simp only [Act.put, List.setIfInBounds_toArray, List.set_cons_zero, List.set_cons_succ]
  refine wpAnyD_pured (i := 16) (v := .bool false) rfl rfl (by kernel_rfl) (by kernel_rfl) (by kernel_rfl) (fun _ _ _ h => absurd h.1 (by simp)) (by go_simp) (by intro u; go_simp) ?_
  try simp only [Act.put, List.setIfInBounds_toArray, List.set_cons_zero, List.set_cons_succ]
  refine wpAnyD_loadd (i := 17) (v := .agg es) rfl rfl (by kernel_rfl) (by kernel_rfl) (by kernel_rfl) (by kernel_rfl) (fun _ _ _ h => absurd h.1 (by simp)) (by go_simp) (fun u hSu => exec_load_run rfl rfl ((nbox_at hN.out).2 hSu.b)) HS4.out ?_
  try simp only [Act.put, List.setIfInBounds_toArray, List.set_cons_zero, List.set_cons_succ]
  refine wpAnyD_loadd (i := 19) (v := .agg es) rfl rfl (by kernel_rfl) (by kernel_rfl) (by kernel_rfl) (by kernel_rfl) (fun _ _ _ h => absurd h.1 (by simp)) (by go_simp) (fun u hSu => exec_load_run rfl rfl ((nbox_at hN.out).2 hSu.b)) HS4.out ?_
  try simp only [Act.put, List.setIfInBounds_toArray, List.set_cons_zero, List.set_cons_succ]
  refine wpAnyD_one (i := 18) (by kernel_rfl) rfl ?_
  intro K' hK'
  go_simp
  refine (C32.out _ HS4.out).mono ?_
  rintro e v5 ⟨rfl, hb⟩
  have HS5 : Hid _ := HS4.out.below hb
  refine hK' _ _ (.inr fun _ => HS5.out) ?_
  clear hK'
  try simp only [Act.put, List.setIfInBounds_toArray, List.set_cons_zero, List.set_cons_succ]
  refine wpAnyD_one (i := 20) (by kernel_rfl) rfl ?_
  intro K' hK'
  go_simp
  refine (C33.out _ HS5.out).mono ?_
  rintro e v6 ⟨rfl, hb⟩
  have HS6 : Hid _ := HS5.out.below hb
  refine hK' _ _ (.inr fun _ => HS6.out) ?_
  clear hK'
  try simp only [Act.put, List.setIfInBounds_toArray, List.set_cons_zero, List.set_cons_succ]
  refine wpAnyD_pured (i := 21) (v := .bool false) rfl rfl (by kernel_rfl) (by kernel_rfl) (by kernel_rfl) (fun _ _ _ h => absurd h.1 (by simp)) (by go_simp) (by intro u; go_simp) ?_
  try simp only [Act.put, List.setIfInBounds_toArray, List.set_cons_zero, List.set_cons_succ]
  refine wpAnyD_pured (i := 22) (v := .bool false) rfl rfl (by kernel_rfl) (by kernel_rfl) (by kernel_rfl) (fun _ _ _ h => absurd h.1 (by simp)) (by go_simp) (by intro u; go_simp) ?_
  try simp only [Act.put, List.setIfInBounds_toArray, List.set_cons_zero, List.set_cons_succ]
  refine wpAnyD_pured (i := 23) (v := .bool false) rfl rfl (by kernel_rfl) (by kernel_rfl) (by kernel_rfl) (fun _ _ _ h => absurd h.1 (by simp)) (by go_simp) (by intro u; go_simp) ?_
  try simp only [Act.put, List.setIfInBounds_toArray, List.set_cons_zero, List.set_cons_succ]
  refine wpAnyD_loadd (i := 24) (v := .agg es) rfl rfl (by kernel_rfl) (by kernel_rfl) (by kernel_rfl) (by kernel_rfl) (fun _ _ _ h => absurd h.1 (by simp)) (by go_simp) (fun u hSu => exec_load_run rfl rfl ((nbox_at hN.out).2 hSu.b)) HS6.out ?_
  try simp only [Act.put, List.setIfInBounds_toArray, List.set_cons_zero, List.set_cons_succ]
  refine wpAnyD_loadd (i := 26) (v := .slice (some ⟨g, 0, none⟩) (zT t) cq) rfl rfl (by kernel_rfl) (by kernel_rfl) (by kernel_rfl) (by kernel_rfl) (fun _ _ _ h => absurd h.1 (by simp)) (by go_simp) (fun u hSu => exec_load_run rfl rfl (ld3 hSu.l3)) HS6.out ?_
  try simp only [Act.put, List.setIfInBounds_toArray, List.set_cons_zero, List.set_cons_succ]
  refine wpAnyD_pured (i := 27) (v := .int .i64 (zT t : Nat)) rfl rfl (by kernel_rfl) (by kernel_rfl) (by kernel_rfl) (fun _ _ _ h => absurd h.1 (by simp)) (by go_simp) (by intro u; go_simp) ?_
  try simp only [Act.put, List.setIfInBounds_toArray, List.set_cons_zero, List.set_cons_succ]
  refine wpAnyD_one (i := 25) (by kernel_rfl) rfl ?_
  intro K' hK'
  go_simp
  refine (C34.out _ HS6.out).mono ?_
  rintro e v7 ⟨rfl, hb⟩
  have HS7 : Hid _ := HS6.out.below hb
  refine hK' _ _ (.inr fun _ => HS7.out) ?_
  clear hK'
  try simp only [Act.put, List.setIfInBounds_toArray, List.set_cons_zero, List.set_cons_succ]
  refine wpAnyD_pured (i := 28) (v := .bool false) rfl rfl (by kernel_rfl) (by kernel_rfl) (by kernel_rfl) (fun _ _ _ h => absurd h.1 (by simp)) (by go_simp) (by intro u; go_simp) ?_
  try simp only [Act.put, List.setIfInBounds_toArray, List.set_cons_zero, List.set_cons_succ]
  refine wpAnyD_pured (i := 29) (v := .bool false) rfl rfl (by kernel_rfl) (by kernel_rfl) (by kernel_rfl) (fun _ _ _ h => absurd h.1 (by simp)) (by go_simp) (by intro u; go_simp) ?_
  try simp only [Act.put, List.setIfInBounds_toArray, List.set_cons_zero, List.set_cons_succ]
  refine wpAnyD_done (by kernel_rfl) ?_ _
  refine ⟨rfl, ?_⟩
  clear C28 C29 C30 C31 C32 C33 C34
  have hPY := HS7.out
  have hm := hPY.lt
  go_wp2
  refine wp_loop_rounds 3 ?_
  rw [rounds_succ]
  go_wp2
  refine (wpIn_wide (n := 100)).1 ?_
  have HB1 : Below v7.heap.size v7 ((v7.alloc (.cells #[.int .i64 0] 3)).alloc (.cells #[.int .i64 0] 3)) := bel_alloc (bel_alloc (Below.refl _ _) _) _
  have hP1 := hPY.below HB1
  have hs1 : ((v7.alloc (.cells #[.int .i64 0] 3)).alloc (.cells #[.int .i64 0] 3)).heap.size = v7.heap.size + 2 := by simp
  have hc5 : ((v7.alloc (.cells #[.int .i64 0] 3)).alloc (.cells #[.int .i64 0] 3)).heap[v7.heap.size]? = some (.cells #[.int .i64 0] 3) := (Below.heap_alloc _ _ _ (by simp)).trans (heap_alloc_new v7 _)
  have hc6 : ((v7.alloc (.cells #[.int .i64 0] 3)).alloc (.cells #[.int .i64 0] 3)).heap[v7.heap.size + 1]? = some (.cells #[.int .i64 0] 3) := by
   have := heap_alloc_new (v7.alloc (.cells #[.int .i64 0] 3)) (.cells #[.int .i64 0] 3)
   simpa using this
  generalize ((v7.alloc (.cells #[.int .i64 0] 3)).alloc (.cells #[.int .i64 0] 3)) = w1 at *
  clear HB1 hPY
  generalize v7.heap.size = z1 at *
  have hsq := each1_seq 99 (by omega) Bk m (z1 + 1) (by omega) es' t (by have := HZ.out; omega) _ hP1.k hm.2.2.2.1 hP1.kn (by omega)
  refine rangeR1 rfl (by omega) (gf := 84) (lb := #[.pointer (some ⟨Bk, 0, none⟩)]) rfl trivial (enters_of Tryz.func84 (by kernel_rfl) rfl) hsq (Below.refl _ _) KU.trans (fun x => KU.put (w := w1)) ExR.put (fun _ => rfl)
   (PI w w1 (z1 + 1)) (PX' w w1 (z1 + 1) t true 2) (PI.own hP1.bel.size) (PX'.own hP1.bel.size) ⟨hc6, KC.refl _ _, KeepsFrom.refl _ _, hP1.bel⟩
   (fun x a' V => ∃ b, a' = { tmps := #[.agg es, .pointer (some ⟨w.heap.size, 0, none⟩), .pointer (some ⟨w.heap.size + 1, 0, none⟩), .pointer (some ⟨b3, 0, none⟩), Value.func (Fn.func 84) #[] #[Value.pointer (some ⟨Bk, 0, none⟩)], .pointer (some ⟨z1, 0, none⟩), .pointer (some ⟨z1 + 1, 0, none⟩), .pointer (some ⟨b, 0, none⟩), undef, .agg es, .bool false, undef, .agg es, .slice (some ⟨g, 0, none⟩) (zT t) cq, .agg es, Value.func (Fn.func 84) #[] #[Value.pointer (some ⟨Bk, 0, none⟩)], Value.func (Fn.func 84) #[] #[Value.pointer (some ⟨Bk, 0, none⟩)], .bool false, .bool false, .agg es, .bool (gT okL 24 t), .agg es, .bool (gT okL 24 t), .bool false, .bool false, .bool false, .agg es, .string (ba (printN t)), .agg es, .string (ba (printN t)), .bool false, .bool false, .bool false, .agg es, .int .i64 (dT t : Nat), .agg es, .int .i64 (dT t : Nat), .bool false, .bool false, .bool false, .agg es, .int .i64 (zT t : Nat), .slice (some ⟨g, 0, none⟩) (zT t) cq, .int .i64 (zT t : Nat), .bool false, .bool false, .int .i64 0, .bool true, undef, undef, Value.func (Fn.func 84) #[] #[Value.pointer (some ⟨Bk, 0, none⟩)], .agg x.1, undef, undef, undef, undef, undef, undef, undef, undef, undef, undef, undef, undef, undef, undef, undef, undef, undef, undef, undef, undef, undef, undef, undef, undef, undef, undef, undef, undef, undef, undef, undef, undef, undef, undef, undef, undef, undef, undef, undef, undef, undef, undef, undef], defers := [] } ∧ V.heap[b]? = some (.cells x.1 67) ∧ ∀ gg nn cc : Nat, x.1[17]? = some (.slice (some ⟨gg, 0, none⟩) nn cc) → nn = 0 ∨ gg ≠ b)
   (fun x a' _ A C row ⟨b, h1, h2, h3⟩ hg hr => ⟨b, h1, (hg.block b (lt_of h2) (fun e => by
    obtain ⟨_, o, ho, hf⟩ := hr b e.symm
    rw [h2] at ho; cases ho; cases hf)).trans h2, h3⟩) 2 ?hex ?hst ?assign ?body ?done
  case hex =>
   exact fun a W hQ => exit_in hQ
  case hst =>
   rintro c pre W hsp (⟨rfl, -, -, hi⟩ | ⟨rfl, hn⟩)
   ·exact ⟨rfl, hi⟩
   ·exact absurd hsp hn
  case assign =>
   rintro l2 q x V K hI hx hK
   have hbV : Below V.heap.size V (V.alloc (.cells x.1 67)) := bel_alloc (Below.refl _ _) _
   obtain ⟨bb1, -⟩ := nbox V hx.2.2.1.nt
   have RS : Hid _ := bb1
   have HK2 := hK { tmps := #[.agg es, .pointer (some ⟨w.heap.size, 0, none⟩), .pointer (some ⟨w.heap.size + 1, 0, none⟩), .pointer (some ⟨b3, 0, none⟩), Value.func (Fn.func 84) #[] #[Value.pointer (some ⟨Bk, 0, none⟩)], .pointer (some ⟨z1, 0, none⟩), .pointer (some ⟨z1 + 1, 0, none⟩), .pointer (some ⟨V.heap.size, 0, none⟩), undef, .agg es, .bool false, undef, .agg es, .slice (some ⟨g, 0, none⟩) (zT t) cq, .agg es, Value.func (Fn.func 84) #[] #[Value.pointer (some ⟨Bk, 0, none⟩)], Value.func (Fn.func 84) #[] #[Value.pointer (some ⟨Bk, 0, none⟩)], .bool false, .bool false, .agg es, .bool (gT okL 24 t), .agg es, .bool (gT okL 24 t), .bool false, .bool false, .bool false, .agg es, .string (ba (printN t)), .agg es, .string (ba (printN t)), .bool false, .bool false, .bool false, .agg es, .int .i64 (dT t : Nat), .agg es, .int .i64 (dT t : Nat), .bool false, .bool false, .bool false, .agg es, .int .i64 (zT t : Nat), .slice (some ⟨g, 0, none⟩) (zT t) cq, .int .i64 (zT t : Nat), .bool false, .bool false, .int .i64 0, .bool true, undef, undef, Value.func (Fn.func 84) #[] #[Value.pointer (some ⟨Bk, 0, none⟩)], .agg x.1, undef, undef, undef, undef, undef, undef, undef, undef, undef, undef, undef, undef, undef, undef, undef, undef, undef, undef, undef, undef, undef, undef, undef, undef, undef, undef, undef, undef, undef, undef, undef, undef, undef, undef, undef, undef, undef, undef, undef, undef, undef, undef, undef], defers := [] } (V.alloc (.cells x.1 67)) (keeps_below hbV) (KU.below hbV) (own_below (PI.own hP1.bel.size) hI hbV) (hx.below hbV) ⟨_, rfl, heap_alloc_new V _, hx.2.2.2.apart (Nat.le_refl _)⟩
   clear hK
   gi_wp2_with (refine wpListIn_store_run rfl 67 _ _ rfl _ _ _ rfl rfl RS.out ?_)
   exact HK2
  case body =>
   rintro l2 q x a' V hI hx ⟨b, rfl, hb, hap⟩ hql
   have hkc := hI.kc
   have hy0 : q.length < L.length := by
    have := congrArg List.length hL
    rw [List.length_map, preT_len] at this
    omega
   obtain ⟨y, hy⟩ : ∃ y, L[q.length]? = some y := ⟨_, List.getElem?_eq_getElem hy0⟩
   have hym := List.mem_of_getElem? hy
   have hyn : NK (fun i => i < m) V y.1 y.2 := (hP1.nk y hym).keep (B := z1 + 1) (by omega) hkc
   have h18 := hyn.size
   have hD : Below V.heap.size V V.drew := (Below.refl _ _).drew
   have HX0 : Hid (RXr w w1 (z1 + 1) b b3 g cq (zT t) t L q x V.drew) := RXr.below ⟨hI, hb, hkc.2 _ _ hP1.l3 rfl (by omega), hP1.row.kc hkc (by omega), hx⟩ hP1.bel.size hD
   have CS := rsame_any x.2.1 (by have := preT_le hx.2.1; have := HZ.out; omega) y.2 V.drew x.1 y.1 (HX0.out.ex.2.2.1.nt) ((hyn.below hD).nt)
   have hbb : Hid (∃ bb, sT x.2.1 y.2 = bb) := ⟨_, rfl⟩
   obtain ⟨bb, hbb⟩ := hbb.out
   rw [hbb] at CS
   have hge : ¬ ((zT t : Int) ≤ (q.length : Int)) := by omega
   have hlt2 : (q.length : Int) < (zT t : Int) := by omega
   gi_wp2
   refine wpIn_norm ?_
   refine region_round (fun u => RXr w w1 (z1 + 1) b b3 g cq (zT t) t L q x u) (fun _ => false) (by kernel_rfl) (by kernel_rfl) no_out ?_
   refine wpAnyD_loadd (i := 0) (v := .int .i64 (q.length : Nat)) rfl rfl (by kernel_rfl) (by kernel_rfl) (by kernel_rfl) (by kernel_rfl) (fun _ _ _ h => absurd h.1 (by simp)) (by go_simp) (fun u hSu => exec_load_run rfl rfl (ld1 hSu.pi.i)) HX0.out ?_
   try simp only [Act.put, List.setIfInBounds_toArray, List.set_cons_zero, List.set_cons_succ]
   refine wpAnyD_loadd (i := 1) (v := .slice (some ⟨g, 0, none⟩) (zT t) cq) rfl rfl (by kernel_rfl) (by kernel_rfl) (by kernel_rfl) (by kernel_rfl) (fun _ _ _ h => absurd h.1 (by simp)) (by go_simp) (fun u hSu => exec_load_run rfl rfl (ld3 hSu.l3)) HX0.out ?_
   try simp only [Act.put, List.setIfInBounds_toArray, List.set_cons_zero, List.set_cons_succ]
   refine wpAnyD_pured (i := 2) (v := .int .i64 (zT t : Nat)) rfl rfl (by kernel_rfl) (by kernel_rfl) (by kernel_rfl) (fun _ _ _ h => absurd h.1 (by simp)) (by go_simp) (by intro u; go_simp) ?_
   try simp only [Act.put, List.setIfInBounds_toArray, List.set_cons_zero, List.set_cons_succ]
   refine wpAnyD_pured (i := 3) (v := .bool false) rfl rfl (by kernel_rfl) (by kernel_rfl) (by kernel_rfl) (fun _ _ _ h => absurd h.1 (by simp)) (by go_simp) (by intro u; go_simp) ?_
   try simp only [Act.put, List.setIfInBounds_toArray, List.set_cons_zero, List.set_cons_succ]
   refine wpAnyD_pured (i := 4) (v := .bool false) rfl rfl (by kernel_rfl) (by kernel_rfl) (by kernel_rfl) (fun _ _ _ h => absurd h.1 (by simp)) (by go_simp) (by intro u; go_simp) ?_
   try simp only [Act.put, List.setIfInBounds_toArray, List.set_cons_zero, List.set_cons_succ]
   refine wpAnyD_loadd (i := 5) (v := .agg x.1) rfl rfl (by kernel_rfl) (by kernel_rfl) (by kernel_rfl) (by kernel_rfl) (fun _ _ _ h => absurd h.1 (by simp)) (by go_simp) (fun u hSu => exec_load_run rfl rfl ((nbox_at hSu.ex.2.2.1.nt).2 hSu.b)) HX0.out ?_
   try simp only [Act.put, List.setIfInBounds_toArray, List.set_cons_zero, List.set_cons_succ]
   refine wpAnyD_loadd (i := 6) (v := .slice (some ⟨g, 0, none⟩) (zT t) cq) rfl rfl (by kernel_rfl) (by kernel_rfl) (by kernel_rfl) (by kernel_rfl) (fun _ _ _ h => absurd h.1 (by simp)) (by go_simp) (fun u hSu => exec_load_run rfl rfl (ld3 hSu.l3)) HX0.out ?_
   try simp only [Act.put, List.setIfInBounds_toArray, List.set_cons_zero, List.set_cons_succ]
   refine wpAnyD_loadd (i := 7) (v := .int .i64 (q.length : Nat)) rfl rfl (by kernel_rfl) (by kernel_rfl) (by kernel_rfl) (by kernel_rfl) (fun _ _ _ h => absurd h.1 (by simp)) (by go_simp) (fun u hSu => exec_load_run rfl rfl (ld1 hSu.pi.i)) HX0.out ?_
   try simp only [Act.put, List.setIfInBounds_toArray, List.set_cons_zero, List.set_cons_succ]
   refine wpAnyD_pured (i := 8) (v := .pointer (some ⟨g, q.length * 18, none⟩)) rfl rfl (by kernel_rfl) (by kernel_rfl) (by kernel_rfl) (fun _ _ _ h => absurd h.1 (by simp)) (by go_simp) (by intro u; go_simp) ?_
   try simp only [Act.put, List.setIfInBounds_toArray, List.set_cons_zero, List.set_cons_succ]
   refine wpAnyD_loadd (i := 9) (v := .agg y.1) rfl rfl (by kernel_rfl) (by kernel_rfl) (by kernel_rfl) (by kernel_rfl) (fun _ _ _ h => absurd h.1 (by simp)) (by go_simp) (fun u hSu => exec_load_run rfl rfl (hSu.row.load hy h18)) HX0.out ?_
   try simp only [Act.put, List.setIfInBounds_toArray, List.set_cons_zero, List.set_cons_succ]
   refine wpAnyD_one (i := 10) (by kernel_rfl) rfl ?_
   intro K' hK'
   go_simp
   refine CS.mono ?_
   rintro e V1 ⟨rfl, hbs⟩
   have HX1 : Hid _ := HX0.out.below hP1.bel.size hbs
   refine hK' _ _ (.inr fun _ => HX1.out) ?_
   clear hK'
   try simp only [Act.put, List.setIfInBounds_toArray, List.set_cons_zero, List.set_cons_succ]
   refine wpAnyD_pured (i := 11) (v := .bool (!bb)) rfl rfl (by kernel_rfl) (by kernel_rfl) (by kernel_rfl) (fun _ _ _ h => absurd h.1 (by simp)) (by go_simp) (by intro u; go_simp) ?_
   try simp only [Act.put, List.setIfInBounds_toArray, List.set_cons_zero, List.set_cons_succ]
   refine wpAnyD_pured (i := 12) (v := .bool (!bb)) rfl rfl (by kernel_rfl) (by kernel_rfl) (by kernel_rfl) (fun _ _ _ h => absurd h.1 (by simp)) (by go_simp) (by intro u; go_simp) ?_
   try simp only [Act.put, List.setIfInBounds_toArray, List.set_cons_zero, List.set_cons_succ]
   refine wpAnyD_done (by kernel_rfl) ?_ _
   refine ⟨rfl, ?_⟩
   have hV1s := hbs.size
   have hkk : KeepsFrom w1.heap.size V V1 := (keeps_below hD).trans (keeps_below hbs)
   have hr1 := HX1.out.pi.kc.2 _ _ hP1.r rfl (by omega)
   cases bb
   ·have c2 : V1.cell? ⟨w.heap.size + 1, 0, none⟩ = some (.bool false) := by rw [cell_of_row V1 _ 0 _ 4 (0, 0) hr1]; rfl
    have f2 : V1.frozen? ⟨w.heap.size + 1, 0, none⟩ = false := by unfold World.frozen?; rw [hr1]; rfl
    have HN : Hid (¬ ((q ++ [x]).map (·.2.1) <+: preT t)) := not_pre hL hy hbb
    have HKk : Hid (KeepsFrom w1.heap.size V (V1.setCell ⟨w.heap.size + 1, 0, none⟩ (.bool false))) := hkk.trans ((KeepsOthers.setCell _ _ _).from _)
    clear hbb HX1 hr1 hyn CS hsq hI hx hkc HX0
    gi_wp2
    exact ⟨HKk.out, .inr ⟨rfl, HN.out⟩⟩
   ·obtain ⟨p, n, c, gg, hxe, hp, hgm, hgb, hn, HW0, hcu⟩ := HX1.out.ex.2.2.2.cu hap (lt_of HX1.out.b)
    have hn9 : n ≤ 900 := by have := kids_le x.2.1; have := preT_le hx.2.1; have := HZ.out; omega
    have c17 : V1.cell? ⟨b, 17, none⟩ = some (.slice p n c) := cell17 (by rw [← hxe]; exact HX1.out.b)
    have HW : Hid (WR gg n V1 V1 ∧ V1.grownBy V1 (some gg)) := ⟨HW0, World.grownBy.refl _ _⟩
    have hB5 : V1.heap[z1]? = some (.cells #[.int .i64 0] 3) := HX1.out.pi.kc.2 _ _ hc5 rfl (by omega)
    have hex := HX1.out.ex
    have hpiV := HX1.out.pi
    have HLF : Hid (∀ U, V1.grownBy U (some gg) → (KeepsFrom w1.heap.size V (U.setCell ⟨z1 + 1, 0, none⟩ (nxtI q)) ∧ KU (z1 + 1) x.2.2 V (U.setCell ⟨z1 + 1, 0, none⟩ (nxtI q)) ∧ PI w w1 (z1 + 1) (q ++ [x]) (U.setCell ⟨z1 + 1, 0, none⟩ (nxtI q))) ∧ U.heap[z1]? = some (.cells #[.int .i64 0] 3) ∧ U.heap[z1 + 1]? = some (.cells #[.int .i64 (q.length : Nat)] 3)) := fun U hU =>
     ⟨round_left hpiV hkk (bel_step hD hbs) hU hcu hex.1 hgm (by omega) (by have := hm.1; omega), (hU.block _ (lt_of hB5) (by simp; have := hex.1; omega)).trans hB5, (hU.block _ (lt_of hpiV.i) (by simp; have := hex.1; omega)).trans hpiV.i⟩
    have hqb : (q.length : Int) < 400 := by have := HZ.out; omega
    rw [hs1] at HLF
    clear CS hsq hyn HW0 hn
    gi_wp2
    gi_loopw [68] (fun i wr => ∃ k : Nat, k ≤ n ∧ i = .int .i64 (k : Nat) ∧ Hid (WR gg n V1 wr ∧ V1.grownBy wr (some gg))) (fun i _ => n - (intOf i).toNat)
    case atStart => exact ⟨0, Nat.zero_le _, rfl, HW⟩
    case round =>
     obtain ⟨k, hk, rfl, HWk⟩ := hrel
     by_cases hlt : k < n
     ·have hki : (k : Int) < n := by omega
      obtain rfl := hp (by omega)
      have c17' : wr.cell? ⟨b, 17, none⟩ = some (.slice (some ⟨gg, 0, none⟩) n c) := (World.cell?_of_block (HWk.out.1.other b (fun e => hgb e.symm) (lt_of HX1.out.b))).trans c17
      have RBn : Hid _ := build_nd wr
      obtain ⟨st, hW2⟩ := HWk.out.1.step hlt nd3_na
      have RSt : Hid _ := st
      have HW3 : Hid (WR gg n V1 (wr.setCells gg (k * 18) nd3.toList) ∧ V1.grownBy (wr.setCells gg (k * 18) nd3.toList) (some gg)) := ⟨hW2, HWk.out.2.trans (grown_setCells gg _ _ _)⟩
      generalize wr.setCells gg (k * 18) nd3.toList = wr2 at *
      generalize nd3 = nd at *
      clear st hW2
      gi_wp2_with (first
       | (refine wpListIn_build_run rfl 67 _ rfl _ _ (by go_simp) RBn.out ?_; clear RBn)
       | (refine wpListIn_store_run rfl 67 _ _ rfl _ _ _ rfl rfl RSt.out ?_; clear RSt))
      go_roundw
      case rel => exact ⟨k + 1, by omega, by omega⟩
      case measure => simp [intOf]; omega
     ·have hki : ¬ (k : Int) < n := by omega
      obtain ⟨hrl, hU5, hU6⟩ := HLF.out wr HWk.out.2
      have HRL : Hid _ := hrl
      have e5 : wr.cell? ⟨z1, 0, none⟩ = some (.int .i64 0) := by rw [cell_of_row wr _ 0 _ 3 (0, 0) hU5]; rfl
      have e6 : wr.cell? ⟨z1 + 1, 0, none⟩ = some (.int .i64 (q.length : Nat)) := by rw [cell_of_row wr _ 0 _ 3 (0, 0) hU6]; rfl
      have f6 : wr.frozen? ⟨z1 + 1, 0, none⟩ = false := by unfold World.frozen?; rw [hU6]; rfl
      clear hrl hU5 hU6 HLF HWk
      by_cases hq2 : q.length = 1
      ·have hq3 : (((q.length : Int) + 1) == 2) = true := by simp; omega
       have HQ2 : Hid ((q ++ [x]).length = 2) := by show _ = _; simp [hq2]
       clear hq2
       gi_wp2
       exact ⟨HRL.out.1, .inl ⟨rfl, rfl, HQ2.out, HRL.out.2.2⟩⟩
      ·have hq3 : (((q.length : Int) + 1) == 2) = false := by simp; omega
       gi_wp2
       exact ⟨HRL.out.1, HRL.out.2.1, HRL.out.2.2⟩
  case done =>
   rintro D q V hD hI hK
   have hk5 : V.heap[z1]? = some (.cells #[.int .i64 0] 3) := hI.kc.2 _ _ hc5 rfl (by omega)
   have e5 : V.cell? ⟨z1, 0, none⟩ = some (.int .i64 0) := by rw [cell_of_row V _ 0 _ 3 (0, 0) hk5]; rfl
   have hPV := hP1.pi hI (by omega)
   have hDV := lt_of hK
   have hDw : w.heap.size + 1 < D := by omega
   clear hI hsq hc5 hc6 hP1 hk5
   go_wp2
   rw [rounds_succ]
   go_wp2
   refine (wpIn_wide (n := 100)).1 ?_
   have HB2 : Below V.heap.size V ((V.alloc (.cells #[.int .i64 1] 3)).alloc (.cells #[.int .i64 0] 3)) := bel_alloc (bel_alloc (Below.refl _ _) _) _
   have hP2 := hPV.below HB2
   have hs2 : ((V.alloc (.cells #[.int .i64 1] 3)).alloc (.cells #[.int .i64 0] 3)).heap.size = V.heap.size + 2 := by simp
   have hc5 : ((V.alloc (.cells #[.int .i64 1] 3)).alloc (.cells #[.int .i64 0] 3)).heap[V.heap.size]? = some (.cells #[.int .i64 1] 3) := (Below.heap_alloc _ _ _ (by simp)).trans (heap_alloc_new V _)
   have hc6 : ((V.alloc (.cells #[.int .i64 1] 3)).alloc (.cells #[.int .i64 0] 3)).heap[V.heap.size + 1]? = some (.cells #[.int .i64 0] 3) := by
    have := heap_alloc_new (V.alloc (.cells #[.int .i64 1] 3)) (.cells #[.int .i64 0] 3)
    simpa using this
   have hK2 : ((V.alloc (.cells #[.int .i64 1] 3)).alloc (.cells #[.int .i64 0] 3)).heap[D]? = some (.deferred (some [])) := (HB2.block _ hDV).trans hK
   have hmV := hPV.lt
   generalize ((V.alloc (.cells #[.int .i64 1] 3)).alloc (.cells #[.int .i64 0] 3)) = w2 at *
   clear HB2 hPV e5 hK
   generalize V.heap.size = z2 at *
   clear hm
   have hm := hmV
   have hsq := each1_seq 99 (by omega) Bk m (z2 + 1) (by omega) es' t (by have := HZ.out; omega) _ hP2.k hm.2.2.2.1 hP2.kn (by omega)
   refine rangeR rfl (by omega) (gf := 84) (lb := #[.pointer (some ⟨Bk, 0, none⟩)]) rfl trivial (enters_of Tryz.func84 (by kernel_rfl) rfl) hsq (Below.refl _ _) KU.trans (fun x => KU.put (w := w2)) ExR.put (fun _ => rfl)
    (PI w w2 (z2 + 1)) (PX' w w2 (z2 + 1) t false 2) (PI.own hP2.bel.size) (PX'.own hP2.bel.size) ⟨hc6, KC.refl _ _, KeepsFrom.refl _ _, hP2.bel⟩
    (fun x a' V => ∃ b, a' = { tmps := #[.agg es, .pointer (some ⟨w.heap.size, 0, none⟩), .pointer (some ⟨w.heap.size + 1, 0, none⟩), .pointer (some ⟨b3, 0, none⟩), Value.func (Fn.func 84) #[] #[Value.pointer (some ⟨Bk, 0, none⟩)], .pointer (some ⟨z2, 0, none⟩), .pointer (some ⟨z2 + 1, 0, none⟩), .pointer (some ⟨b, 0, none⟩), undef, .agg es, .bool false, undef, .agg es, .slice (some ⟨g, 0, none⟩) (zT t) cq, .agg es, Value.func (Fn.func 84) #[] #[Value.pointer (some ⟨Bk, 0, none⟩)], Value.func (Fn.func 84) #[] #[Value.pointer (some ⟨Bk, 0, none⟩)], .bool false, .bool false, .agg es, .bool (gT okL 24 t), .agg es, .bool (gT okL 24 t), .bool false, .bool false, .bool false, .agg es, .string (ba (printN t)), .agg es, .string (ba (printN t)), .bool false, .bool false, .bool false, .agg es, .int .i64 (dT t : Nat), .agg es, .int .i64 (dT t : Nat), .bool false, .bool false, .bool false, .agg es, .int .i64 (zT t : Nat), .slice (some ⟨g, 0, none⟩) (zT t) cq, .int .i64 (zT t : Nat), .bool false, .bool false, .int .i64 1, .bool true, .int .i64 0, .int .i64 1, Value.func (Fn.func 84) #[] #[Value.pointer (some ⟨Bk, 0, none⟩)], .agg x.1, undef, undef, undef, undef, undef, undef, undef, undef, undef, undef, undef, undef, undef, undef, undef, undef, undef, undef, undef, undef, undef, undef, undef, undef, undef, undef, undef, undef, undef, undef, undef, undef, undef, .int .i64 0, .bool false, .bool false, undef, undef, undef, undef, .bool false, .int .i64 0, undef], defers := [] } ∧ V.heap[b]? = some (.cells x.1 67) ∧ ∀ gg nn cc : Nat, x.1[17]? = some (.slice (some ⟨gg, 0, none⟩) nn cc) → nn = 0 ∨ gg ≠ b)
    (fun x a' _ A C row ⟨b, h1, h2, h3⟩ hg hr => ⟨b, h1, (hg.block b (lt_of h2) (fun e => by
     obtain ⟨_, o, ho, hf⟩ := hr b e.symm
     rw [h2] at ho; cases ho; cases hf)).trans h2, h3⟩) ?assign ?body ?done ?stop
   case assign =>
    rintro l2 q x V K hI hx hK
    have hbV : Below V.heap.size V (V.alloc (.cells x.1 67)) := bel_alloc (Below.refl _ _) _
    obtain ⟨bb1, -⟩ := nbox V hx.2.2.1.nt
    have RS : Hid _ := bb1
    have HK2 := hK { tmps := #[.agg es, .pointer (some ⟨w.heap.size, 0, none⟩), .pointer (some ⟨w.heap.size + 1, 0, none⟩), .pointer (some ⟨b3, 0, none⟩), Value.func (Fn.func 84) #[] #[Value.pointer (some ⟨Bk, 0, none⟩)], .pointer (some ⟨z2, 0, none⟩), .pointer (some ⟨z2 + 1, 0, none⟩), .pointer (some ⟨V.heap.size, 0, none⟩), undef, .agg es, .bool false, undef, .agg es, .slice (some ⟨g, 0, none⟩) (zT t) cq, .agg es, Value.func (Fn.func 84) #[] #[Value.pointer (some ⟨Bk, 0, none⟩)], Value.func (Fn.func 84) #[] #[Value.pointer (some ⟨Bk, 0, none⟩)], .bool false, .bool false, .agg es, .bool (gT okL 24 t), .agg es, .bool (gT okL 24 t), .bool false, .bool false, .bool false, .agg es, .string (ba (printN t)), .agg es, .string (ba (printN t)), .bool false, .bool false, .bool false, .agg es, .int .i64 (dT t : Nat), .agg es, .int .i64 (dT t : Nat), .bool false, .bool false, .bool false, .agg es, .int .i64 (zT t : Nat), .slice (some ⟨g, 0, none⟩) (zT t) cq, .int .i64 (zT t : Nat), .bool false, .bool false, .int .i64 1, .bool true, .int .i64 0, .int .i64 1, Value.func (Fn.func 84) #[] #[Value.pointer (some ⟨Bk, 0, none⟩)], .agg x.1, undef, undef, undef, undef, undef, undef, undef, undef, undef, undef, undef, undef, undef, undef, undef, undef, undef, undef, undef, undef, undef, undef, undef, undef, undef, undef, undef, undef, undef, undef, undef, undef, undef, .int .i64 0, .bool false, .bool false, undef, undef, undef, undef, .bool false, .int .i64 0, undef], defers := [] } (V.alloc (.cells x.1 67)) (keeps_below hbV) (KU.below hbV) (own_below (PI.own hP2.bel.size) hI hbV) (hx.below hbV) ⟨_, rfl, heap_alloc_new V _, hx.2.2.2.apart (Nat.le_refl _)⟩
    clear hK
    gi_wp2_with (refine wpListIn_store_run rfl 67 _ _ rfl _ _ _ rfl rfl RS.out ?_)
    exact HK2
   case body =>
    rintro l2 q x a' V hI hx ⟨b, rfl, hb, hap⟩ hql
    have hkc := hI.kc
    have hy0 : q.length < L.length := by
     have := congrArg List.length hL
     rw [List.length_map, preT_len] at this
     omega
    obtain ⟨y, hy⟩ : ∃ y, L[q.length]? = some y := ⟨_, List.getElem?_eq_getElem hy0⟩
    have hym := List.mem_of_getElem? hy
    have hyn : NK (fun i => i < m) V y.1 y.2 := (hP2.nk y hym).keep (B := z2 + 1) (by omega) hkc
    have h18 := hyn.size
    have hD : Below V.heap.size V V.drew := (Below.refl _ _).drew
    have HX0 : Hid (RXr w w2 (z2 + 1) b b3 g cq (zT t) t L q x V.drew) := RXr.below ⟨hI, hb, hkc.2 _ _ hP2.l3 rfl (by omega), hP2.row.kc hkc (by omega), hx⟩ hP2.bel.size hD
    have CS := rsame_any x.2.1 (by have := preT_le hx.2.1; have := HZ.out; omega) y.2 V.drew x.1 y.1 (HX0.out.ex.2.2.1.nt) ((hyn.below hD).nt)
    have hbb : Hid (∃ bb, sT x.2.1 y.2 = bb) := ⟨_, rfl⟩
    obtain ⟨bb, hbb⟩ := hbb.out
    rw [hbb] at CS
    have hge : ¬ ((zT t : Int) ≤ (q.length : Int)) := by omega
    have hlt2 : (q.length : Int) < (zT t : Int) := by omega
    gi_wp2
    refine wpIn_norm ?_
    refine region_round (fun u => RXr w w2 (z2 + 1) b b3 g cq (zT t) t L q x u) (fun _ => false) (by kernel_rfl) (by kernel_rfl) no_out ?_
    refine wpAnyD_loadd (i := 0) (v := .int .i64 (q.length : Nat)) rfl rfl (by kernel_rfl) (by kernel_rfl) (by kernel_rfl) (by kernel_rfl) (fun _ _ _ h => absurd h.1 (by simp)) (by go_simp) (fun u hSu => exec_load_run rfl rfl (ld1 hSu.pi.i)) HX0.out ?_
    try simp only [Act.put, List.setIfInBounds_toArray, List.set_cons_zero, List.set_cons_succ]
    refine wpAnyD_loadd (i := 1) (v := .slice (some ⟨g, 0, none⟩) (zT t) cq) rfl rfl (by kernel_rfl) (by kernel_rfl) (by kernel_rfl) (by kernel_rfl) (fun _ _ _ h => absurd h.1 (by simp)) (by go_simp) (fun u hSu => exec_load_run rfl rfl (ld3 hSu.l3)) HX0.out ?_
    try simp only [Act.put, List.setIfInBounds_toArray, List.set_cons_zero, List.set_cons_succ]
    refine wpAnyD_pured (i := 2) (v := .int .i64 (zT t : Nat)) rfl rfl (by kernel_rfl) (by kernel_rfl) (by kernel_rfl) (fun _ _ _ h => absurd h.1 (by simp)) (by go_simp) (by intro u; go_simp) ?_
    try simp only [Act.put, List.setIfInBounds_toArray, List.set_cons_zero, List.set_cons_succ]
    refine wpAnyD_pured (i := 3) (v := .bool false) rfl rfl (by kernel_rfl) (by kernel_rfl) (by kernel_rfl) (fun _ _ _ h => absurd h.1 (by simp)) (by go_simp) (by intro u; go_simp) ?_
    try simp only [Act.put, List.setIfInBounds_toArray, List.set_cons_zero, List.set_cons_succ]
    refine wpAnyD_pured (i := 4) (v := .bool false) rfl rfl (by kernel_rfl) (by kernel_rfl) (by kernel_rfl) (fun _ _ _ h => absurd h.1 (by simp)) (by go_simp) (by intro u; go_simp) ?_
    try simp only [Act.put, List.setIfInBounds_toArray, List.set_cons_zero, List.set_cons_succ]
    refine wpAnyD_loadd (i := 5) (v := .agg x.1) rfl rfl (by kernel_rfl) (by kernel_rfl) (by kernel_rfl) (by kernel_rfl) (fun _ _ _ h => absurd h.1 (by simp)) (by go_simp) (fun u hSu => exec_load_run rfl rfl ((nbox_at hSu.ex.2.2.1.nt).2 hSu.b)) HX0.out ?_
    try simp only [Act.put, List.setIfInBounds_toArray, List.set_cons_zero, List.set_cons_succ]
    refine wpAnyD_loadd (i := 6) (v := .slice (some ⟨g, 0, none⟩) (zT t) cq) rfl rfl (by kernel_rfl) (by kernel_rfl) (by kernel_rfl) (by kernel_rfl) (fun _ _ _ h => absurd h.1 (by simp)) (by go_simp) (fun u hSu => exec_load_run rfl rfl (ld3 hSu.l3)) HX0.out ?_
    try simp only [Act.put, List.setIfInBounds_toArray, List.set_cons_zero, List.set_cons_succ]
    refine wpAnyD_loadd (i := 7) (v := .int .i64 (q.length : Nat)) rfl rfl (by kernel_rfl) (by kernel_rfl) (by kernel_rfl) (by kernel_rfl) (fun _ _ _ h => absurd h.1 (by simp)) (by go_simp) (fun u hSu => exec_load_run rfl rfl (ld1 hSu.pi.i)) HX0.out ?_
    try simp only [Act.put, List.setIfInBounds_toArray, List.set_cons_zero, List.set_cons_succ]
    refine wpAnyD_pured (i := 8) (v := .pointer (some ⟨g, q.length * 18, none⟩)) rfl rfl (by kernel_rfl) (by kernel_rfl) (by kernel_rfl) (fun _ _ _ h => absurd h.1 (by simp)) (by go_simp) (by intro u; go_simp) ?_
    try simp only [Act.put, List.setIfInBounds_toArray, List.set_cons_zero, List.set_cons_succ]
    refine wpAnyD_loadd (i := 9) (v := .agg y.1) rfl rfl (by kernel_rfl) (by kernel_rfl) (by kernel_rfl) (by kernel_rfl) (fun _ _ _ h => absurd h.1 (by simp)) (by go_simp) (fun u hSu => exec_load_run rfl rfl (hSu.row.load hy h18)) HX0.out ?_
    try simp only [Act.put, List.setIfInBounds_toArray, List.set_cons_zero, List.set_cons_succ]
    refine wpAnyD_one (i := 10) (by kernel_rfl) rfl ?_
    intro K' hK'
    go_simp
    refine CS.mono ?_
    rintro e V1 ⟨rfl, hbs⟩
    have HX1 : Hid _ := HX0.out.below hP2.bel.size hbs
    refine hK' _ _ (.inr fun _ => HX1.out) ?_
    clear hK'
    try simp only [Act.put, List.setIfInBounds_toArray, List.set_cons_zero, List.set_cons_succ]
    refine wpAnyD_pured (i := 11) (v := .bool (!bb)) rfl rfl (by kernel_rfl) (by kernel_rfl) (by kernel_rfl) (fun _ _ _ h => absurd h.1 (by simp)) (by go_simp) (by intro u; go_simp) ?_
    try simp only [Act.put, List.setIfInBounds_toArray, List.set_cons_zero, List.set_cons_succ]
    refine wpAnyD_pured (i := 12) (v := .bool (!bb)) rfl rfl (by kernel_rfl) (by kernel_rfl) (by kernel_rfl) (fun _ _ _ h => absurd h.1 (by simp)) (by go_simp) (by intro u; go_simp) ?_
    try simp only [Act.put, List.setIfInBounds_toArray, List.set_cons_zero, List.set_cons_succ]
    refine wpAnyD_done (by kernel_rfl) ?_ _
    refine ⟨rfl, ?_⟩
    have hV1s := hbs.size
    have hkk : KeepsFrom w2.heap.size V V1 := (keeps_below hD).trans (keeps_below hbs)
    have hr1 := HX1.out.pi.kc.2 _ _ hP2.r rfl (by omega)
    cases bb
    ·have c2 : V1.cell? ⟨w.heap.size + 1, 0, none⟩ = some (.bool false) := by rw [cell_of_row V1 _ 0 _ 4 (0, 0) hr1]; rfl
     have f2 : V1.frozen? ⟨w.heap.size + 1, 0, none⟩ = false := by unfold World.frozen?; rw [hr1]; rfl
     have HN : Hid (¬ ((q ++ [x]).map (·.2.1) <+: preT t)) := not_pre hL hy hbb
     have HKk : Hid (KeepsFrom w2.heap.size V (V1.setCell ⟨w.heap.size + 1, 0, none⟩ (.bool false))) := hkk.trans ((KeepsOthers.setCell _ _ _).from _)
     clear hbb HX1 hr1 hyn CS hsq hI hx hkc HX0
     gi_wp2
     exact ⟨HKk.out, .inr ⟨rfl, HN.out⟩⟩
    ·obtain ⟨p, n, c, gg, hxe, hp, hgm, hgb, hn, HW0, hcu⟩ := HX1.out.ex.2.2.2.cu hap (lt_of HX1.out.b)
     have hn9 : n ≤ 900 := by have := kids_le x.2.1; have := preT_le hx.2.1; have := HZ.out; omega
     have c17 : V1.cell? ⟨b, 17, none⟩ = some (.slice p n c) := cell17 (by rw [← hxe]; exact HX1.out.b)
     have HW : Hid (WR gg n V1 V1 ∧ V1.grownBy V1 (some gg)) := ⟨HW0, World.grownBy.refl _ _⟩
     have hB5 : V1.heap[z2]? = some (.cells #[.int .i64 1] 3) := HX1.out.pi.kc.2 _ _ hc5 rfl (by omega)
     have hex := HX1.out.ex
     have hpiV := HX1.out.pi
     have HLF : Hid (∀ U, V1.grownBy U (some gg) → (KeepsFrom w2.heap.size V (U.setCell ⟨z2 + 1, 0, none⟩ (nxtI q)) ∧ KU (z2 + 1) x.2.2 V (U.setCell ⟨z2 + 1, 0, none⟩ (nxtI q)) ∧ PI w w2 (z2 + 1) (q ++ [x]) (U.setCell ⟨z2 + 1, 0, none⟩ (nxtI q))) ∧ U.heap[z2]? = some (.cells #[.int .i64 1] 3) ∧ U.heap[z2 + 1]? = some (.cells #[.int .i64 (q.length : Nat)] 3)) := fun U hU =>
      ⟨round_left hpiV hkk (bel_step hD hbs) hU hcu hex.1 hgm (by omega) (by have := hm.1; omega), (hU.block _ (lt_of hB5) (by simp; have := hex.1; omega)).trans hB5, (hU.block _ (lt_of hpiV.i) (by simp; have := hex.1; omega)).trans hpiV.i⟩
     have hqb : (q.length : Int) < 400 := by have := HZ.out; omega
     rw [hs2] at HLF
     clear CS hsq hyn HW0 hn
     gi_wp2
     gi_loopw [68] (fun i wr => ∃ k : Nat, k ≤ n ∧ i = .int .i64 (k : Nat) ∧ Hid (WR gg n V1 wr ∧ V1.grownBy wr (some gg))) (fun i _ => n - (intOf i).toNat)
     case atStart => exact ⟨0, Nat.zero_le _, rfl, HW⟩
     case round =>
      obtain ⟨k, hk, rfl, HWk⟩ := hrel
      by_cases hlt : k < n
      ·have hki : (k : Int) < n := by omega
       obtain rfl := hp (by omega)
       have c17' : wr.cell? ⟨b, 17, none⟩ = some (.slice (some ⟨gg, 0, none⟩) n c) := (World.cell?_of_block (HWk.out.1.other b (fun e => hgb e.symm) (lt_of HX1.out.b))).trans c17
       have RBn : Hid _ := build_nd wr
       obtain ⟨st, hW2⟩ := HWk.out.1.step hlt nd3_na
       have RSt : Hid _ := st
       have HW3 : Hid (WR gg n V1 (wr.setCells gg (k * 18) nd3.toList) ∧ V1.grownBy (wr.setCells gg (k * 18) nd3.toList) (some gg)) := ⟨hW2, HWk.out.2.trans (grown_setCells gg _ _ _)⟩
       generalize wr.setCells gg (k * 18) nd3.toList = wr2 at *
       generalize nd3 = nd at *
       clear st hW2
       gi_wp2_with (first
        | (refine wpListIn_build_run rfl 67 _ rfl _ _ (by go_simp) RBn.out ?_; clear RBn)
        | (refine wpListIn_store_run rfl 67 _ _ rfl _ _ _ rfl rfl RSt.out ?_; clear RSt))
       go_roundw
       case rel => exact ⟨k + 1, by omega, by omega⟩
       case measure => simp [intOf]; omega
      ·have hki : ¬ (k : Int) < n := by omega
       obtain ⟨hrl, hU5, hU6⟩ := HLF.out wr HWk.out.2
       have HRL : Hid _ := hrl
       have e5 : wr.cell? ⟨z2, 0, none⟩ = some (.int .i64 1) := by rw [cell_of_row wr _ 0 _ 3 (0, 0) hU5]; rfl
       have e6 : wr.cell? ⟨z2 + 1, 0, none⟩ = some (.int .i64 (q.length : Nat)) := by rw [cell_of_row wr _ 0 _ 3 (0, 0) hU6]; rfl
       have f6 : wr.frozen? ⟨z2 + 1, 0, none⟩ = false := by unfold World.frozen?; rw [hU6]; rfl
       clear hrl hU5 hU6 HLF HWk
       gi_wp2
       exact ⟨HRL.out.1, HRL.out.2.1, HRL.out.2.2⟩
   case done =>
    rintro D2 q2 V2 hD2 hq2 hI2 hK3
    have hlen : q2.length = zT t := by have := congrArg List.length hq2; rw [List.length_map, preT_len] at this; exact this
    have hI6 := hI2.i
    rw [hlen] at hI6
    have hPV2 := hP2.pi hI2 (by omega)
    have hk5 : V2.heap[z2]? = some (.cells #[.int .i64 1] 3) := hI2.kc.2 _ _ hc5 rfl (by omega)
    have e5 : V2.cell? ⟨z2, 0, none⟩ = some (.int .i64 1) := by rw [cell_of_row V2 _ 0 _ 3 (0, 0) hk5]; rfl
    have e6 : V2.cell? ⟨z2 + 1, 0, none⟩ = some (.int .i64 (zT t : Nat)) := by rw [cell_of_row V2 _ 0 _ 3 (0, 0) hI6]; rfl
    have e3 : V2.cell? ⟨b3, 0, none⟩ = some (.slice (some ⟨g, 0, none⟩) (zT t) cq) := by rw [cell_of_row V2 _ 0 _ 65 (0, 0) hPV2.l3]; rfl
    have hK4 : V2.heap[D]? = some (.deferred (some [])) := hI2.kf.same D _ (Nat.zero_le _) hK2 rfl
    have HBv : Below w.heap.size w (V2.alloc (.cells #[.int .i64 2] 3)) := bel_alloc hPV2.bel _
    have hV2 : Below V2.heap.size V2 (V2.alloc (.cells #[.int .i64 2] 3)) := bel_alloc (Below.refl _ _) _
    have HLV : Hid (Calls Tryz.prog 37 #[] (V2.alloc (.cells #[.int .i64 2] 3)) fun e V3 => e = .returned (.bool true) ∧ V3.cell? ⟨w.heap.size + 1, 0, none⟩ = some (.bool false) ∧ V3.frozen? ⟨w.heap.size + 1, 0, none⟩ = false ∧ Hid (Below w.heap.size w V3 ∧ V3.heap[D]? = some (.deferred (some [])) ∧ V3.heap[D2]? = some (.deferred (some [])))) := (LV.out _ HBv).mono (by
     rintro e V3 ⟨rfl, hb3⟩
     have h3 := bel_step hV2 hb3
     have hr := (h3.block _ (lt_of hPV2.r)).trans hPV2.r
     refine ⟨rfl, ?_, ?_, bel_step HBv hb3, (h3.block _ (lt_of hK4)).trans hK4, (h3.block _ (lt_of hK3)).trans hK3⟩
     ·rw [cell_of_row V3 _ 0 _ 4 (0, 0) hr]; rfl
     ·unfold World.frozen?; rw [hr]; rfl)
    clear hI2 hsq hc5 hc6 hP2 hk5 hI6 hPV2 HBv hV2 hq2 hlen hK2 hK3 hK4
    go_wp2
    rw [rounds_succ]
    go_wp2_with (go_at_call 37; refine HLV.out.mono ?_; rintro e V3 ⟨rfl, c2, f2, HB⟩; clear HLV)
    obtain ⟨hBw, hKD, hKD2⟩ := HB.out
    have hw1 := hBw.size
    have hne1 : D2 ≠ w.heap.size + 1 := by omega
    have hne2 : D ≠ w.heap.size + 1 := by omega
    have hne3 : D2 ≠ D := by omega
    have hst : ∀ i, i ≠ w.heap.size + 1 → (V3.setCell ⟨w.heap.size + 1, 0, none⟩ (.bool true)).heap[i]? = V3.heap[i]? := fun i hi => by simp [World.setCell, Array.getElem?_modify, Ne.symm hi]
    have hcs : (V3.setCell ⟨w.heap.size + 1, 0, none⟩ (.bool true)).cell? ⟨w.heap.size + 1, 0, none⟩ = some (.bool true) := World.cell?_setCell_same' _ _ _ (by rw [c2]; rfl)
    have hbs : Below w.heap.size w (V3.setCell ⟨w.heap.size + 1, 0, none⟩ (.bool true)) := hBw.setCell (p := ⟨w.heap.size + 1, 0, none⟩) (by simp) _
    refine ⟨by simp, .inl ⟨_, _, rfl, run_takeDeferred ((hst D2 hne1).trans hKD2), ?_⟩⟩
    refine ⟨by simp, .inl ⟨_, _, rfl, run_takeDeferred ((World.putObj_heap_other (Ne.symm hne3)).trans ((hst D hne2).trans hKD)), ?_⟩⟩
    refine ⟨_, res4 (g := w.heap.size + 1) rfl rfl ((World.cell?_of_block (World.putObj_heap_other (Ne.symm hne2))).trans ((World.cell?_of_block (World.putObj_heap_other (Ne.symm hne1))).trans hcs)), rfl, ?_⟩
    have g1 := hbs.grown (grownBy_putObj' (V3.setCell ⟨w.heap.size + 1, 0, none⟩ (.bool true)) D2 (.deferred none)) hbs.size (fun j e => by cases e; omega)
    exact g1.grown (grownBy_putObj' _ D (.deferred none)) g1.size (fun j e => by cases e; omega)
   case stop =>
    rintro D2 c pre V2 hD2 hsp (⟨_, h, _, _⟩ | ⟨rfl, hn⟩) hK3
    ·cases h
    ·exact absurd hsp hn
theorem prints_any (h : NT w es t) (Z : ZT t) (T : Tab9 w) : Calls Tryz.prog 7 #[.agg es] w fun e w' => e = .returned (.bool true) ∧ Below w.heap.size w w' := by
 by_cases hz : zT t < 400
 ·exact prints_small hz h Z T
 ·exact prints_big (by omega) h T
end
end Go.Proofs.YtnibldnfbikipaaGreatDoor
