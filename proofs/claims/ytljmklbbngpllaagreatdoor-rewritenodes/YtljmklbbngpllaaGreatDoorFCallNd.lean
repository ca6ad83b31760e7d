/- FUn, FBin, FCall. -/
import Derived.Test.YtljmklbbngpllaaGreatDoorFHoldNd
set_option linter.unusedVariables false
set_option linter.unusedSimpArgs false
set_option maxHeartbeats 16000000
set_option maxRecDepth 100000
namespace Go.Proofs.YtljmklbbngpllaaGreatDoor
open Go.RowKit Go.Fm
theorem aJm (n : Int) (s : ByteArray) (w : World) : Calls Tryz.prog 83 #[val 1 n s] w fun e w' => e = .returned (.agg (tcs 1 n noB noB noB 0 0 false false)) ∧ Below w.heap.size w w' := by
 obtain ⟨h1, hb, h0⟩ := nQ (w := w) (o := .cells #[.int .i64 1, .int .i64 n, .string s] 23) (es := tcs 1 n noB noB noB 0 0 false false)
 have RS : Hid _ := sto (t := 123) (es := tcs 1 n noB noB noB 0 0 false false) h1 dI rfl (fF _ _ _ _ _ _ _ _ _)
 have HF : Hid _ := hb
 have HG : Hid _ := h1
 clear h1 hb h0
 go_enter Tryz.func83, Tryz.ntmps83
 go_wp2_with (refine aD rfl 123 _ _ rfl _ _ _ rfl rfl RS.out ?_)
 exact bodyPost_ret (mG HG.out rfl rfl rfl) rfl ⟨rfl, HF.out⟩
theorem aJn (n : Int) (s : ByteArray) (w : World) : Calls Tryz.prog 83 #[val 2 n s] w fun e w' => e = .returned (.agg (tcs 2 0 s noB noB 0 0 false false)) ∧ Below w.heap.size w w' := by
 obtain ⟨h1, hb, h0⟩ := nQ (w := w) (o := .cells #[.int .i64 2, .int .i64 n, .string s] 23) (es := tcs 2 0 s noB noB 0 0 false false)
 have RS : Hid _ := sto (t := 123) (es := tcs 2 0 s noB noB 0 0 false false) h1 dI rfl (fF _ _ _ _ _ _ _ _ _)
 have HF : Hid _ := hb
 have HG : Hid _ := h1
 clear h1 hb h0
 go_enter Tryz.func83, Tryz.ntmps83
 go_wp2_with (refine aD rfl 123 _ _ rfl _ _ _ rfl rfl RS.out ?_)
 exact bodyPost_ret (mG HG.out rfl rfl rfl) rfl ⟨rfl, HF.out⟩
theorem aJo (k n : Int) (s : ByteArray) (h1 : (k == 1) = false) (h2 : (k == 2) = false) (h3 : (k == 3) = false) (w : World) : Calls Tryz.prog 83 #[val k n s] w fun e w' => e = .returned (.agg (tcs 6 n noB noB noB 0 0 false false)) ∧ Below w.heap.size w w' := by
 obtain ⟨h1, hb, h0⟩ := nQ (w := w) (o := .cells #[.int .i64 k, .int .i64 n, .string s] 23) (es := tcs 6 n noB noB noB 0 0 false false)
 have RS : Hid _ := sto (t := 123) (es := tcs 6 n noB noB noB 0 0 false false) h1 dI rfl (fF _ _ _ _ _ _ _ _ _)
 have HF : Hid _ := hb
 have HG : Hid _ := h1
 clear h1 hb h0
 go_enter Tryz.func83, Tryz.ntmps83
 go_wp2_with (refine aD rfl 123 _ _ rfl _ _ _ rfl rfl RS.out ?_)
 exact bodyPost_ret (mG HG.out rfl rfl rfl) rfl ⟨rfl, HF.out⟩
theorem aJp (n : Int) (s : ByteArray) (hn : In64 n) (w : World) (T : eD w) : Calls Tryz.prog 83 #[val 3 n s] w fun e w' => e = .returned (.agg (tcs 4 0 (jW 3 n s) noB noB 0 0 false false)) ∧ Below w.heap.size w w' := by
 obtain ⟨w2, hw2⟩ : ∃ w2, (w.alloc (.cells #[.int .i64 3, .int .i64 n, .string s] 23)).alloc (.cells tk0 123) = w2 := ⟨_, rfl⟩
 obtain ⟨h1, _, h0⟩ := nQ (w := w) (o := .cells #[.int .i64 3, .int .i64 n, .string s] 23) (es := tk0)
 rw [hw2] at h1 h0
 have hb : Below w.heap.size w w2 := by rw [← hw2]; exact aA (aA (Below.refl _ _) _) _
 have RL : Hid _ := lod (z := (0, 0)) h0 rfl Tryz.underlying23 (by kernel_rfl)
 have c0 : w2.cell? ⟨w.heap.size, 0, none⟩ = some (.int .i64 3) := by rw [cell_of_row w2 _ 0 _ _ _ h0]; rfl
 have TX := tZ 3 n s hn w2 (T.below hb)
 generalize jW 3 n s = tx at *
 have FIN : ∀ u : World, Below w2.heap.size w2 u → Hid ((Instr.storeAt 123 (.pointer (some ⟨w.heap.size + 1, 0, none⟩)) (.agg (tcs 4 0 tx noB noB 0 0 false false))).run Tryz.prog u = .ok () (u.setRow (w.heap.size + 1) (tcs 4 0 tx noB noB 0 0 false false))) ∧ Hid (u.heap[w.heap.size + 1]? = some (.cells tk0 123)) ∧ Hid (Below w.heap.size w (u.setRow (w.heap.size + 1) (tcs 4 0 tx noB noB 0 0 false false))) := fun u hu => by
  have hg : u.heap[w.heap.size + 1]? = some (.cells tk0 123) := (hu.block _ (aS h1)).trans h1
  have hb2 := aG hb hu
  exact ⟨sto (t := 123) hg dI rfl (fF _ _ _ _ _ _ _ _ _), hg, hb2.grown (aC _ _ _) hb2.size (fun j e => by cases e; omega)⟩
 clear h1 h0 hb T
 go_enter Tryz.func83, Tryz.ntmps83
 go_wp2_with (first
  | (refine aB rfl 23 _ rfl _ _ rfl RL.out ?_)
  | (go_at_call 125; refine TX.mono ?_; rintro e w3 ⟨rfl, hb3⟩)
  | (go_at_call 86; refine (kH _ _ _).mono ?_; rintro e w4 ⟨rfl, hb4⟩; obtain ⟨RS, HG, HF⟩ := FIN w4 (aG hb3 hb4); clear hb3 hb4)
  | (refine aD rfl 123 _ _ rfl _ _ _ rfl rfl RS.out ?_))
 exact bodyPost_ret (mG HG.out rfl rfl rfl) rfl ⟨rfl, HF.out⟩
theorem aGh (k n : Int) (s : ByteArray) (h3 : k = 3 → In64 n) (h0 : k ≠ 1 → k ≠ 2 → k ≠ 3 → 0 ≤ n) (w : World) (T : eD w) : Calls Tryz.prog 83 #[val k n s] w fun e w' => e = .returned (.agg (tk (kG k n s)).cs) ∧ Below w.heap.size w w' := by
 unfold kG
 by_cases e1 : k = 1
 ·rw [if_pos e1]; subst e1; exact aJm n s w
 rw [if_neg e1]
 by_cases e2 : k = 2
 ·rw [if_pos e2]; subst e2
  have := aJn n s w
  have e : ba s.toList = s := by rw [ByteArray.toList_eq]
  show Calls _ _ _ _ fun e w' => e = .returned (.agg (tcs 2 0 (ba s.toList) noB noB 0 0 false false)) ∧ _
  rw [e]; exact this
 rw [if_neg e2]
 by_cases e3 : k = 3
 ·rw [if_pos e3]; subst e3
  have := aJp n s (h3 rfl) w T
  have e : ba (jW 3 n s).toList = jW 3 n s := by rw [ByteArray.toList_eq]
  show Calls _ _ _ _ fun e w' => e = .returned (.agg (tcs 4 0 (ba (jW 3 n s).toList) (ba []) noB 0 0 false false)) ∧ _
  rw [e]; exact this
 ·rw [if_neg e3]
  have := aJo k n s (by simpa using e1) (by simpa using e2) (by simpa using e3) w
  have e : ((n.toNat : Nat) : Int) = n := by have := h0 e1 e2 e3; omega
  show Calls _ _ _ _ fun e w' => e = .returned (.agg (tcs 6 ((n.toNat : Nat) : Int) noB noB noB 0 0 false false)) ∧ _
  rw [e]; exact this
theorem InF.aK4 : ∀ {f : F} {w : World} {a : Addr}, InF w a f → ∀ (k : Nat) (hk : k < (kids f).length), ∃ es, (∀ u, Below w.heap.size w u → Hid ((Instr.loadAt 28 (.pointer (some (a.add (k * 18))))).run Tryz.prog u = .ok (.agg es) u)) ∧ NT w es (kids f)[k] := by
 intro f
 induction f with
 | nil => intro w a _ k hk; simp [kids] at hk
 | node b o l f r ihf ihr =>
  intro w a h k hk
  obtain ⟨⟨p, n, c, h1, h2, h3⟩, h4⟩ := h
  cases k with
  | zero =>
   refine ⟨lcs l (.slice p n c), fun u hu => ?_, p, n, c, rfl, h2, h3⟩
   have : a.add (0 * 18) = a.add 0 := by simp
   show _ = _
   rw [this]
   refine bW u (a.add 0) 28 (lcl l (.slice p n c)) _ (fun j v hj => ?_) Tryz.underlying28 rfl (by rw [iB]; exact bS)
   rw [Go.Deep.add_add, Nat.zero_add]
   exact bM hu (h1 j v hj)
  | succ k =>
   obtain ⟨es, e1, e2⟩ := ihr h4 k (by simpa [kids] using hk)
   refine ⟨es, fun u hu => ?_, e2⟩
   have := (e1 u hu).out
   rw [Go.Deep.add_add] at this
   show _ = _
   rw [show (k + 1) * 18 = 18 + k * 18 by omega]
   exact this
theorem SF.kid {W : World} {p : Option Addr} {n : Nat} {f : F} (h : SF W p n f) (k : Nat) (hk : k < n) : ∃ a es s, p = some a ∧ (∀ u, Below W.heap.size W u → Hid ((Instr.loadAt 28 (.pointer (some (a.add (k * 18))))).run Tryz.prog u = .ok (.agg es) u)) ∧ (kids f)[k]? = some s ∧ NT W es s := by
 obtain ⟨h1, h2⟩ := h
 rcases h2 with rfl | ⟨a, rfl, hi⟩
 ·simp [kids] at h1; omega
 ·obtain ⟨es, e1, e2⟩ := hi.aK4 k (by omega)
  exact ⟨a, es, _, rfl, e1, List.getElem?_eq_getElem (by omega), e2⟩
section
variable {W u : World} {g : Nat} {L : List TT} {a : Lab} {ad : Addr} {n c : Nat} {es : Array Value} {s : T} {K : List Tk.Tok}
theorem ZZ.cel {cur : World} {sl : Value} (h : ZZ W g L u (lcs a sl) cur) : cur.cell? ⟨u.heap.size, 1, none⟩ = some (.string a.s) ∧ cur.cell? ⟨u.heap.size, 17, none⟩ = some sl := ⟨(aN h.b).2.1, aY h.b⟩
theorem aGi (X : WX W g L u) (h1 : (a.s.toList == [45]) = true) (R : ∀ u, Below W.heap.size W u → Hid ((Instr.loadAt 28 (.pointer (some (ad.add (0 * 18))))).run Tryz.prog u = .ok (.agg es) u)) (hs : NT W es s)
  (hn : L.length + K.length + 4 ≤ 1000000) {m : Nat} (hm : L.length + 2 ≤ m) (C : NC W g es (K.map tk) m) :
  Calls Tryz.prog 87 #[.pointer (some ⟨g, 0, none⟩), .agg (lcs a (.slice (some ad) 1 c))] u fun e u' => e = .returned (.tuple #[]) ∧ WS W g (L ++ [tOp ⟨#[45]⟩] ++ (dD (bT s.1, K) 6).map tk) u u' := by
 have Zc : Hid (ZZ W g L u (lcs a (.slice (some ad) 1 c)) (u.alloc (.cells (lcs a (.slice (some ad) 1 c)) 28))) := ZZ.begin X _
 obtain ⟨c1, c17⟩ := Zc.out.cel
 have ZC : ∀ (L : List TT) (cur : World), ZZ W g L u (lcs a (.slice (some ad) 1 c)) cur → cur.cell? ⟨u.heap.size, 17, none⟩ = some (.slice (some ad) 1 c) := fun L cur h => h.cel.2
 have N1 : Hid (L.length + 1 ≤ 1000000) := by show _ ≤ _; omega
 have HO := fun (u' : World) (Z : ZZ W g (L ++ [tOp ⟨#[45]⟩]) u (lcs a (.slice (some ad) 1 c)) u') => iD (K := K) Z.w.1 hs (m := m) (by simp; omega) (by simp; omega) C 6
 clear X hn hm C
 generalize lcs a (.slice (some ad) 1 c) = bx at *
 generalize (dD (bT s.1, K) 6).map tk = M at *
 go_enter Tryz.func87, Tryz.ntmps87
 go_wp2_with (first
  | (go_at_call 85; refine (fD _ _).mono ?_; rintro e w1 ⟨rfl, hb⟩; have Zc1 := Zc.out.bel hb; clear hb Zc c17 c1; have Zc : Hid _ := Zc1; clear Zc1)
  | (refine aT rfl 95 1 _ rfl _ _ _ (by go_simp) (lF _ _) ?_)
  | (go_at_call 82; refine (Zc.out.put (M := [tOp ⟨#[45]⟩]) rfl (by decide) N1.out).mono ?_; rintro e w1 ⟨rfl, Zc1⟩; clear Zc; have c17 := ZC _ _ Zc1; have Zc : Hid _ := Zc1; clear Zc1; have RL := R _ Zc.out.w.1.bel)
  | (refine aB rfl 28 _ rfl _ _ rfl RL.out ?_)
  | (go_at_call 126; refine (HO _ Zc.out).mono ?_; rintro e w1 ⟨rfl, hs1⟩; have Zf := Zc.out.w.step hs1; clear hs1))
 refine bodyPost_ret (results_none rfl _ _ _) rfl ?_
 exact ⟨rfl, Zf⟩
end
section
variable {W u : World} {g : Nat} {L : List TT} {a : Lab} {ad : Addr} {n c : Nat} {es es1 : Array Value} {s s1 : T} {K K1 : List Tk.Tok}
theorem aJq (X : WX W g L u) (h1 : (a.s.toList == [45]) = false) (R : ∀ u, Below W.heap.size W u → Hid ((Instr.loadAt 28 (.pointer (some (ad.add (0 * 18))))).run Tryz.prog u = .ok (.agg es) u)) (hs : NT W es s)
  (hn : L.length + K.length + 4 ≤ 1000000) {m : Nat} (hm : L.length + 2 ≤ m) (C : NC W g es (K.map tk) m) :
  Calls Tryz.prog 87 #[.pointer (some ⟨g, 0, none⟩), .agg (lcs a (.slice (some ad) 1 c))] u fun e u' => e = .returned (.tuple #[]) ∧ WS W g (L ++ (dD (bT s.1, K) 7).map tk ++ [tOp ⟨#[37]⟩]) u u' := by
 have Zc : Hid (ZZ W g L u (lcs a (.slice (some ad) 1 c)) (u.alloc (.cells (lcs a (.slice (some ad) 1 c)) 28))) := ZZ.begin X _
 obtain ⟨c1, c17⟩ := Zc.out.cel
 have RL := R _ Zc.out.w.1.bel
 have hw := nP (bT s.1, K) 7
 have N1 : Hid ((L ++ (dD (bT s.1, K) 7).map tk).length + 1 ≤ 1000000) := by show _ ≤ _; simp at hw ⊢; omega
 have HO := fun (u' : World) (Z : ZZ W g L u (lcs a (.slice (some ad) 1 c)) u') => iD (K := K) Z.w.1 hs (m := m) (by omega) (by omega) C 7
 clear X hn hm C hw
 generalize lcs a (.slice (some ad) 1 c) = bx at *
 generalize (dD (bT s.1, K) 7).map tk = M at *
 go_enter Tryz.func87, Tryz.ntmps87
 go_wp2_with (first
  | (refine aB rfl 28 _ rfl _ _ rfl RL.out ?_)
  | (go_at_call 126; refine (HO _ Zc.out).mono ?_; rintro e w1 ⟨rfl, hs1⟩; have Zc1 := Zc.out.ws hs1; clear hs1 Zc c1 c17; have Zc : Hid _ := Zc1; clear Zc1)
  | (go_at_call 85; refine (fD _ _).mono ?_; rintro e w1 ⟨rfl, hb⟩; have Zc1 := Zc.out.bel hb; clear hb Zc; have Zc : Hid _ := Zc1; clear Zc1)
  | (refine aT rfl 95 1 _ rfl _ _ _ (by go_simp) (lF _ _) ?_)
  | (go_at_call 82; refine (Zc.out.put (M := [tOp ⟨#[37]⟩]) rfl (by simp) N1.out).mono ?_; rintro e w1 ⟨rfl, Zc1⟩; clear Zc; have Zc : Hid _ := Zc1; clear Zc1))
 go_end0
 exact ⟨rfl, Zc.out.w⟩
theorem aB2 (l : List UInt8) : bY l ≤ 7 := by
 unfold bY
 repeat' split
 all_goals omega
theorem aH4 (X : WX W g L u) (R0 : ∀ u, Below W.heap.size W u → Hid ((Instr.loadAt 28 (.pointer (some (ad.add (0 * 18))))).run Tryz.prog u = .ok (.agg es) u)) (hs : NT W es s)
  (R1 : ∀ u, Below W.heap.size W u → Hid ((Instr.loadAt 28 (.pointer (some (ad.add (1 * 18))))).run Tryz.prog u = .ok (.agg es1) u)) (hs1 : NT W es1 s1)
  (hn : L.length + K.length + K1.length + 6 ≤ 1000000) {m m1 : Nat} (hm : L.length + 2 ≤ m) (hm1 : L.length + K.length + 5 ≤ m1) (C : NC W g es (K.map tk) m) (C1 : NC W g es1 (K1.map tk) m1) :
  Calls Tryz.prog 88 #[.pointer (some ⟨g, 0, none⟩), .agg (lcs a (.slice (some ad) 2 c))] u fun e u' => e = .returned (.tuple #[]) ∧ WS W g (L ++ (dD (bT s.1, K) (bY a.s.toList)).map tk ++ [tOp a.s] ++ (dD (bT s1.1, K1) (bY a.s.toList + 1)).map tk) u u' := by
 have Zc : Hid (ZZ W g L u (lcs a (.slice (some ad) 2 c)) (u.alloc (.cells (lcs a (.slice (some ad) 2 c)) 28))) := ZZ.begin X _
 obtain ⟨c1, c17⟩ := Zc.out.cel
 have ZC : ∀ (L : List TT) (cur : World), ZZ W g L u (lcs a (.slice (some ad) 2 c)) cur → cur.cell? ⟨u.heap.size, 1, none⟩ = some (.string a.s) ∧ cur.cell? ⟨u.heap.size, 17, none⟩ = some (.slice (some ad) 2 c) := fun L cur h => h.cel
 have ST := fun w => lZ a.s w
 have hN := aB2 a.s.toList
 have hwr : IntKind.i64.wrap ((bY a.s.toList : Int) + 1) = (bY a.s.toList : Int) + 1 := by simp [IntKind.wrap, IntKind.bits, IntKind.signed]; omega
 have RL := R0 _ Zc.out.w.1.bel
 have hw := nP (bT s.1, K) (bY a.s.toList)
 have N1 : Hid ((L ++ (dD (bT s.1, K) (bY a.s.toList)).map tk).length + 1 ≤ 1000000) := by show _ ≤ _; simp at hw ⊢; omega
 have HO := fun (u' : World) (Z : ZZ W g L u (lcs a (.slice (some ad) 2 c)) u') => iD (K := K) Z.w.1 hs (m := m) (by omega) (by omega) C (bY a.s.toList)
 have HO1 := fun (u' : World) (Z : ZZ W g (L ++ (dD (bT s.1, K) (bY a.s.toList)).map tk ++ [tOp a.s]) u (lcs a (.slice (some ad) 2 c)) u') => iD (K := K1) Z.w.1 hs1 (m := m1) (by simp at hw ⊢; omega) (by simp at hw ⊢; omega) C1 (bY a.s.toList + 1)
 have aK5 : ∀ (u' : World) (Z : ZZ W g (L ++ (dD (bT s.1, K) (bY a.s.toList)).map tk ++ [tOp a.s]) u (lcs a (.slice (some ad) 2 c)) u'), Calls Tryz.prog 126 #[.pointer (some ⟨g, 0, none⟩), .agg es1, .int .i64 ((bY a.s.toList : Int) + 1)] u' fun e u'' => e = .returned (.tuple #[]) ∧ WS W g (L ++ (dD (bT s.1, K) (bY a.s.toList)).map tk ++ [tOp a.s] ++ (dD (bT s1.1, K1) (bY a.s.toList + 1)).map tk) u' u'' := fun u' Z => by
  have := HO1 u' Z
  simpa using this
 clear X hn hm hm1 C C1 hw HO1 hN
 generalize lcs a (.slice (some ad) 2 c) = bx at *
 generalize (dD (bT s.1, K) (bY a.s.toList)).map tk = M at *
 generalize (dD (bT s1.1, K1) (bY a.s.toList + 1)).map tk = M1 at *
 generalize bY a.s.toList = N at *
 go_enter Tryz.func88, Tryz.ntmps88
 go_wp2_with (first
  | (go_at_call 127; refine (ST _).mono ?_; rintro e w1 ⟨rfl, hw⟩; obtain rfl := hw.symm; clear hw)
  | (refine aB rfl 28 _ rfl _ _ rfl RL.out ?_; clear RL)
  | (go_at_call 126; refine (HO _ Zc.out).mono ?_; rintro e w1 ⟨rfl, hs1⟩; have Zc1 := Zc.out.ws hs1; clear hs1 Zc c1 c17 HO; obtain ⟨c1, c17⟩ := ZC _ _ Zc1; have Zc : Hid _ := Zc1; clear Zc1)
  | (go_at_call 85; refine (fD _ _).mono ?_; rintro e w1 ⟨rfl, hb⟩; have Zc1 := Zc.out.bel hb; clear hb Zc c1 c17; have Zc : Hid _ := Zc1; clear Zc1)
  | (refine aT rfl 95 1 _ rfl _ _ _ (by go_simp) (lF _ _) ?_)
  | (go_at_call 82; refine (Zc.out.put (M := [tOp a.s]) rfl (by simp) N1.out).mono ?_; rintro e w1 ⟨rfl, Zc1⟩; clear Zc; obtain ⟨c1, c17⟩ := ZC _ _ Zc1; have Zc : Hid _ := Zc1; clear Zc1; have RL := R1 _ Zc.out.w.1.bel)
  | (go_at_call 126; go_loud (refine (aK5 _ Zc.out).mono ?_; rintro e w1 ⟨rfl, hs1⟩; have Zf := Zc.out.w.step hs1; clear hs1)))
 go_end0
 exact ⟨rfl, Zf⟩
end
theorem sP : ∀ (l : List (List Tk.Tok)) (x : List Tk.Tok), l ≠ [] → dK (l ++ [x]) = dK l ++ Tk.Tok.op [44] :: x
 | [], x, h => absurd rfl h
 | [y], x, _ => by simp [dK]
 | y :: z :: r, x, _ => by
  have := sP (z :: r) x (by simp)
  simp only [List.cons_append] at this ⊢
  rw [dK, this, dK]
  simp
def dW (l : List T) (k : Nat) : List Tk.Tok := dK ((l.take k).map tkT)
theorem aDK (l : List T) (k : Nat) (hk : k < l.length) : (dW l k).length + 10 * zT l[k] ≤ 10 * (l.map zT).sum := by
 unfold dW
 have h1 := lD ((l.take k).map tkT)
 have key : ∀ l : List T, ((l.map tkT).map fun x => x.length + 1).sum ≤ 10 * (l.map zT).sum := by
  intro l
  induction l with
  | nil => simp
  | cons a l ih =>
   have := oQ a
   simp only [List.map_cons, List.sum_cons] at ih ⊢
   omega
 have h2 := key (l.take k)
 have h3 : (l.map zT).sum = ((l.take k).map zT).sum + ((l.drop k).map zT).sum := by rw [← List.sum_append, ← List.map_append, List.take_append_drop]
 have h4 : zT l[k] ≤ ((l.drop k).map zT).sum := by
  rw [List.drop_eq_getElem_cons hk, List.map_cons, List.sum_cons]; omega
 omega
theorem aBz (l : List T) (k : Nat) (hk : k < l.length) (h0 : k ≠ 0) : dW l (k + 1) = dW l k ++ Tk.Tok.op [44] :: tkT l[k] := by
 unfold dW
 rw [List.take_succ_eq_append_getElem hk, List.map_append]
 refine sP _ _ ?_
 intro e
 have := congrArg List.length e
 rw [List.length_map, List.length_take, List.length_nil] at this
 omega
theorem aDL (l : List T) (hk : 0 < l.length) : dW l 1 = tkT l[0] := by
 unfold dW
 have := List.take_succ_eq_append_getElem hk
 rw [this]; simp [dK]
section
variable {W u : World} {g : Nat} {L : List TT} {t : T} {p : Option Addr} {n c : Nat}
theorem aK6 {cur : World} {es ks : Array Value} {j : Nat} (h : ZZ W g L u es cur) (hj : cur.heap[j]? = some (.cells ks 28)) {t : TT} (hn : L.length + 1 ≤ 1000000) :
  Calls Tryz.prog 82 #[.pointer (some ⟨g, 0, none⟩), .slice (some ⟨cur.heap.size, 0, none⟩) 1 1] (cur.alloc (.cells ([t].flatMap TT.cl).toArray 123)) fun e u' => e = .returned (.tuple #[]) ∧ ZZ W g (L ++ [t]) u es u' ∧ u'.heap[j]? = some (.cells ks 28) := by
 have hb := aA (Below.refl cur.heap.size cur) (.cells ([t].flatMap TT.cl).toArray 123)
 have h2 := h.bel hb
 exact (aCo (M := [t]) h2.w.1 (heap_alloc_new _ _) hn (Nat.le_refl _)).mono (by rintro e u' ⟨rfl, hs⟩; exact ⟨rfl, h2.ws hs, hs.2.2 _ _ ((hb.block _ (aS hj)).trans hj)⟩)
theorem aDM (X : WX W g L u) (hs : SF W p n t.2) (hn : n ≤ 100000) (hz : L.length + 10 * zT t ≤ 1000000)
  (IH : ∀ s ∈ kids t.2, ∀ es, NT W es s → NC W g es ((tkT s).map tk) (1000000 - 10 * zT s)) :
  Calls Tryz.prog 89 #[.pointer (some ⟨g, 0, none⟩), .agg (lcs t.1 (.slice p n c))] u fun e u' => e = .returned (.tuple #[]) ∧ WS W g (L ++ [tWd noB t.1.s, tOp ⟨#[40]⟩] ++ (dW (kids t.2) n).map tk ++ [tOp ⟨#[41]⟩]) u u' := by
 have hzT : zT t = ((kids t.2).map zT).sum + 1 := by unfold zT; rw [fT]; rfl
 have Zc : Hid (ZZ W g L u (lcs t.1 (.slice p n c)) (u.alloc (.cells (lcs t.1 (.slice p n c)) 28))) := ZZ.begin X _
 obtain ⟨c1, c17⟩ := Zc.out.cel
 have ZC : ∀ (L : List TT) (cur : World), ZZ W g L u (lcs t.1 (.slice p n c)) cur → cur.cell? ⟨u.heap.size, 17, none⟩ = some (.slice p n c) := fun L cur h => h.cel.2
 have N1 : Hid (L.length + 2 ≤ 1000000) := by show _ ≤ _; omega
 have hnl : n = (kids t.2).length := hs.1
 have HS : Hid (SF W p n t.2) := hs
 have NK1 : Hid (∀ k s, (kids t.2)[k]? = some s → (dW (kids t.2) k).length + 10 * zT s + L.length + 10 ≤ 1000000) := fun k s hk => by
  obtain ⟨hk', rfl⟩ := List.getElem?_eq_some_iff.1 hk
  have := aDK (kids t.2) k hk'; omega
 have NK2 : Hid ((dW (kids t.2) n).length + L.length + 3 ≤ 1000000) := by
  show _ ≤ _
  rw [hnl]
  unfold dW
  rw [List.take_of_length_le (Nat.le_refl _)]
  have h1 := lD ((kids t.2).map tkT)
  have key : ∀ l : List T, ((l.map tkT).map fun x => x.length + 1).sum ≤ 10 * (l.map zT).sum := by
   intro l
   induction l with
   | nil => simp
   | cons a l ih =>
    have := oQ a
    simp only [List.map_cons, List.sum_cons] at ih ⊢
    omega
  have := key (kids t.2)
  omega
 have HI : Hid (∀ s ∈ kids t.2, ∀ es, NT W es s → NC W g es ((tkT s).map tk) (1000000 - 10 * zT s)) := IH
 clear X hz hzT IH hs
 have HL : Hid (n = (kids t.2).length) := hnl
 clear hnl
 generalize lcs t.1 (.slice p n c) = bx at *
 generalize t.1.s = S at *
 go_enter Tryz.func89, Tryz.ntmps89
 go_wp2_with (first
  | (go_at_call 86; refine (kH _ _ _).mono ?_; rintro e w1 ⟨rfl, hb⟩; have Zc1 := Zc.out.bel hb; clear hb Zc c1 c17; have Zc : Hid _ := Zc1; clear Zc1)
  | (go_at_call 85; refine (fD _ _).mono ?_; rintro e w1 ⟨rfl, hb⟩; have Zc1 := Zc.out.bel hb; clear hb Zc; have Zc : Hid _ := Zc1; clear Zc1)
  | (refine aT rfl 95 2 _ rfl _ _ _ (by go_simp) (aH1 _ _ _) ?_)
  | (go_at_call 82; refine (Zc.out.put (M := [tWd noB S, tOp ⟨#[40]⟩]) rfl (by simp) N1.out).mono ?_; rintro e w1 ⟨rfl, Zc1⟩; clear Zc; have c17 := ZC _ _ Zc1; have Zc : Hid _ := Zc1; clear Zc1))
 go_loopw [16] (fun i wr => ∃ k : Nat, k ≤ n ∧ i = .int .i64 (k : Nat) ∧ Hid (ZZ W g (L ++ [tWd noB S, tOp ⟨#[40]⟩] ++ (dW (kids t.2) k).map tk) u bx wr)) (fun i _ => n - (intOf i).toNat)
 case atStart => exact ⟨0, Nat.zero_le _, rfl, by show ZZ _ _ _ _ _ _; simpa [dW, dK] using Zc.out⟩
 case round =>
  obtain ⟨k, hk, rfl, HZ⟩ := hrel
  clear Zc c17 ZC
  by_cases hlt : k < n
  ·have hki : (k : Int) < n := by omega
   obtain ⟨a', es, s, rfl, RU, hks, hNT⟩ := HS.out.kid k hlt
   have hkl : k < (kids t.2).length := by have := HL.out; omega
   have hse : s = (kids t.2)[k] := by rw [List.getElem?_eq_getElem hkl] at hks; exact (Option.some.inj hks).symm
   have RL := RU wr HZ.out.w.1.bel
   obtain ⟨rs, rl2⟩ := kC wr (hNT.below HZ.out.w.1.bel)
   have RS : Hid _ := rs
   have Zc : Hid (ZZ W g (L ++ [tWd noB S, tOp ⟨#[40]⟩] ++ (dW (kids t.2) k).map tk) u bx (wr.alloc (.cells es 28))) := HZ.out.bel (aA (Below.refl _ _) _)
   have H5 : Hid ((wr.alloc (.cells es 28)).heap[wr.heap.size]? = some (.cells es 28)) := heap_alloc_new _ _
   have RL2 : Hid (∀ u : World, u.heap[wr.heap.size]? = some (.cells es 28) → (Instr.loadAt 28 (.pointer (some ⟨wr.heap.size, 0, none⟩))).run Tryz.prog u = .ok (.agg es) u) := rl2
   have hroom := NK1.out k s hks
   have CK := HI.out s (List.mem_of_getElem? hks) es hNT
   have aK7 : Hid (k = 0 → dW (kids t.2) (k + 1) = dW (kids t.2) k ++ tkT s) := fun e => by
    subst e; rw [aDL _ hkl, hse]; simp [dW, dK]
   have aK8 : Hid (k ≠ 0 → dW (kids t.2) (k + 1) = dW (kids t.2) k ++ Tk.Tok.op [44] :: tkT s) := fun e => by rw [aBz _ _ hkl e, hse]
   clear rs rl2 hks hNT hse HI RU
   generalize dW (kids t.2) k = A at *
   generalize tkT s = KS at *
   generalize zT s = zs at *
   by_cases hk0 : k = 0
   ·have hn0 : ¬ (0 : Int) < (k : Int) := by omega
    have HK0 : Hid (k = 0) := hk0
    clear hk0
    have aGj : Hid _ := RL2.out _ H5.out
    have CK2 := CK (L ++ [tWd noB S, tOp ⟨#[40]⟩] ++ A.map tk) (wr.alloc (.cells es 28)) (by simp; omega) Zc.out.w.1
    go_wp2_with (first
     | (refine aB rfl 28 _ rfl _ _ rfl RL.out ?_; clear RL)
     | (refine aD rfl 28 _ _ rfl _ _ _ rfl rfl RS.out ?_; clear RS)
     | (refine aB rfl 28 _ rfl _ _ rfl aGj.out ?_; clear aGj)
     | (go_at_call 59; refine CK2.mono ?_; rintro e w3 ⟨rfl, hs⟩; have Zn : Hid _ := Zc.out.ws hs; clear hs))
    go_roundw
    case rel => exact ⟨k + 1, by omega, by go_num, by show ZZ _ _ _ _ _ _; rw [aK7.out HK0.out]; simpa using Zn.out⟩
    case measure => simp [intOf]; omega
   ·have hn0 : (0 : Int) < (k : Int) := by omega
    have HK0 : Hid (k ≠ 0) := hk0
    clear hk0
    have N5 : Hid ((L ++ [tWd noB S, tOp ⟨#[40]⟩] ++ A.map tk).length + 1 ≤ 1000000) := by show _ ≤ _; simp; omega
    have CK2 := fun u' (Z : WX W g (L ++ [tWd noB S, tOp ⟨#[40]⟩] ++ A.map tk ++ [tOp ⟨#[44]⟩]) u') => CK (L ++ [tWd noB S, tOp ⟨#[40]⟩] ++ A.map tk ++ [tOp ⟨#[44]⟩]) u' (by simp; omega) Z
    go_wp2_with (first
     | (refine aB rfl 28 _ rfl _ _ rfl RL.out ?_; clear RL)
     | (refine aD rfl 28 _ _ rfl _ _ _ rfl rfl RS.out ?_; clear RS)
     | (go_at_call 85; refine (fD _ _).mono ?_; rintro e w1 ⟨rfl, hb⟩; have H6 : Hid _ := (hb.block _ (aS H5.out)).trans H5.out; have Zc1 := Zc.out.bel hb; clear hb Zc H5; have Zc : Hid _ := Zc1; have H5 : Hid _ := H6.out; clear Zc1 H6)
     | (refine aT rfl 95 1 _ rfl _ _ _ (by go_simp) (lF _ _) ?_)
     | (go_at_call 82; refine (aK6 Zc.out H5.out (t := tOp ⟨#[44]⟩) N5.out).mono ?_; rintro e w1 ⟨rfl, Zc1, h6⟩; clear Zc; have Zc : Hid _ := Zc1; have aGj : Hid _ := RL2.out _ h6; clear Zc1 h6)
     | (refine aB rfl 28 _ rfl _ _ rfl aGj.out ?_; clear aGj)
     | (go_at_call 59; refine (CK2 _ Zc.out.w.1).mono ?_; rintro e w3 ⟨rfl, hs⟩; have Zn : Hid _ := Zc.out.ws hs; clear hs))
    go_roundw
    case rel => exact ⟨k + 1, by omega, by go_num, by
     show ZZ _ _ _ _ _ _
     rw [aK8.out HK0.out]
     have e : L ++ [tWd noB S, tOp ⟨#[40]⟩] ++ List.map tk (A ++ Tk.Tok.op [44] :: KS) = L ++ [tWd noB S, tOp ⟨#[40]⟩] ++ A.map tk ++ [tOp ⟨#[44]⟩] ++ KS.map tk := by
      simp only [List.map_append, List.map_cons, List.append_assoc, List.cons_append, List.nil_append]
      rfl
     rw [e]; exact Zn.out⟩
    case measure => simp [intOf]; omega
  ·have hki : ¬ (k : Int) < n := by omega
   have hkn : k = n := by omega
   subst hkn
   have N6 : Hid ((L ++ [tWd noB S, tOp ⟨#[40]⟩] ++ (dW (kids t.2) k).map tk).length + 1 ≤ 1000000) := by have := NK2.out; show _ ≤ _; simp; omega
   have Zc : Hid _ := HZ.out
   go_wp2_with (first
    | (go_at_call 85; refine (fD _ _).mono ?_; rintro e w1 ⟨rfl, hb⟩; have Zc1 := Zc.out.bel hb; clear hb Zc; have Zc : Hid _ := Zc1; clear Zc1)
    | (refine aT rfl 95 1 _ rfl _ _ _ (by go_simp) (lF _ _) ?_)
    | (go_at_call 82; refine (Zc.out.put (M := [tOp ⟨#[41]⟩]) rfl (by simp) N6.out).mono ?_; rintro e w1 ⟨rfl, Zc1⟩; clear Zc; have Zc : Hid _ := Zc1; clear Zc1))
   go_end0
   exact ⟨rfl, Zc.out.w⟩
end
end Go.Proofs.YtljmklbbngpllaaGreatDoor
