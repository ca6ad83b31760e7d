/- FCall, FNode, FWrite. -/
import Derived.Test.YtljfkkpkcjigpaaGreatDoorFUnq
import Derived.Test.YtljfkkpkcjigpaaGreatDoorFBinq
import Derived.Test.YtljfkkpkcjigpaaGreatDoorTNextq
set_option linter.unusedVariables false
set_option linter.unusedSimpArgs false
namespace Go.Proofs.YtljfkkpkcjigpaaGreatDoor
open Go.RowKit Go.Fm
set_option maxRecDepth 100000
theorem comma_snoc : ∀ (l : List (List Tk.Tok)) (x : List Tk.Tok), l ≠ [] → commaK (l ++ [x]) = commaK l ++ Tk.Tok.op [44] :: x
  | [], x, h => absurd rfl h
  | [y], x, _ => by simp [commaK]
  | y :: z :: r, x, _ => by
    have := comma_snoc (z :: r) x (by simp)
    simp only [List.cons_append] at this ⊢
    rw [commaK, this, commaK]
    simp
def argsK (l : List T) (k : Nat) : List Tk.Tok := commaK ((l.take k).map tkT)
theorem argsK_len (l : List T) (k : Nat) (hk : k < l.length) : (argsK l k).length + 10 * zT l[k] ≤ 10 * (l.map zT).sum := by
  unfold argsK
  have h1 := comma_len ((l.take k).map tkT)
  have key : ∀ l : List T, ((l.map tkT).map fun x => x.length + 1).sum ≤ 10 * (l.map zT).sum := by
    intro l
    induction l with
    | nil => simp
    | cons a l ih =>
      have := tk_len a
      simp only [List.map_cons, List.sum_cons] at ih ⊢
      omega
  have h2 := key (l.take k)
  have h3 : (l.map zT).sum = ((l.take k).map zT).sum + ((l.drop k).map zT).sum := by rw [← List.sum_append, ← List.map_append, List.take_append_drop]
  have h4 : zT l[k] ≤ ((l.drop k).map zT).sum := by
    rw [List.drop_eq_getElem_cons hk, List.map_cons, List.sum_cons]; omega
  omega
theorem argsK_succ (l : List T) (k : Nat) (hk : k < l.length) (h0 : k ≠ 0) : argsK l (k + 1) = argsK l k ++ Tk.Tok.op [44] :: tkT l[k] := by
  unfold argsK
  rw [List.take_succ_eq_append_getElem hk, List.map_append]
  refine comma_snoc _ _ ?_
  intro e
  have := congrArg List.length e
  rw [List.length_map, List.length_take, List.length_nil] at this
  omega
theorem argsK_one (l : List T) (hk : 0 < l.length) : argsK l 1 = tkT l[0] := by
  unfold argsK
  have := List.take_succ_eq_append_getElem hk
  rw [this]; simp [commaK]
section
variable {W u : World} {g : Nat} {L : List TT} {t : T} {p : Option Addr} {n c : Nat}
theorem put1 {cur : World} {es ks : Array Value} {j : Nat} (h : ZZ W g L u es cur) (hj : cur.heap[j]? = some (.cells ks 28)) {t : TT} (hn : L.length + 1 ≤ 1000000) :
    Calls Tryz.prog 55 #[.pointer (some ⟨g, 0, none⟩), .slice (some ⟨cur.heap.size, 0, none⟩) 1 1] (cur.alloc (.cells ([t].flatMap TT.cl).toArray 70)) fun e u' => e = .returned (.tuple #[]) ∧ ZZ W g (L ++ [t]) u es u' ∧ u'.heap[j]? = some (.cells ks 28) := by
  have hb := bel_alloc (Below.refl cur.heap.size cur) (.cells ([t].flatMap TT.cl).toArray 70)
  have h2 := h.bel hb
  exact (put_any (M := [t]) h2.w.1 (heap_alloc_new _ _) hn (Nat.le_refl _)).mono (by rintro e u' ⟨rfl, hs⟩; exact ⟨rfl, h2.ws hs, hs.2.2 _ _ ((hb.block _ (lt_of hj)).trans hj)⟩)
set_option maxHeartbeats 8000000 in
theorem call_any' (X : WX W g L u) (hs : SF W p n t.2) (hn : n ≤ 100000) (hz : L.length + 10 * zT t ≤ 1000000)
    (IH : ∀ s ∈ kids t.2, ∀ es, NT W es s → NC W g es ((tkT s).map tk) (1000000 - 10 * zT s)) :
    Calls Tryz.prog 62 #[.pointer (some ⟨g, 0, none⟩), .agg (lcs t.1 (.slice p n c))] u fun e u' => e = .returned (.tuple #[]) ∧ WS W g (L ++ [tWd noB t.1.s, tOp ⟨#[40]⟩] ++ (argsK (kids t.2) n).map tk ++ [tOp ⟨#[41]⟩]) u u' := by
  have hzT : zT t = ((kids t.2).map zT).sum + 1 := by unfold zT; rw [size_kids]; rfl
  have Zc : Hid (ZZ W g L u (lcs t.1 (.slice p n c)) (u.alloc (.cells (lcs t.1 (.slice p n c)) 28))) := ZZ.begin X _
  obtain ⟨c1, c17⟩ := Zc.out.cel
  have ZC : ∀ (L : List TT) (cur : World), ZZ W g L u (lcs t.1 (.slice p n c)) cur → cur.cell? ⟨u.heap.size, 17, none⟩ = some (.slice p n c) := fun L cur h => h.cel.2
  have N1 : Hid (L.length + 2 ≤ 1000000) := by show _ ≤ _; omega
  have hnl : n = (kids t.2).length := hs.1
  have HS : Hid (SF W p n t.2) := hs
  have NK1 : Hid (∀ k s, (kids t.2)[k]? = some s → (argsK (kids t.2) k).length + 10 * zT s + L.length + 10 ≤ 1000000) := fun k s hk => by
    obtain ⟨hk', rfl⟩ := List.getElem?_eq_some_iff.1 hk
    have := argsK_len (kids t.2) k hk'; omega
  have NK2 : Hid ((argsK (kids t.2) n).length + L.length + 3 ≤ 1000000) := by
    show _ ≤ _
    rw [hnl]
    unfold argsK
    rw [List.take_of_length_le (Nat.le_refl _)]
    have h1 := comma_len ((kids t.2).map tkT)
    have key : ∀ l : List T, ((l.map tkT).map fun x => x.length + 1).sum ≤ 10 * (l.map zT).sum := by
      intro l
      induction l with
      | nil => simp
      | cons a l ih =>
        have := tk_len a
        simp only [List.map_cons, List.sum_cons] at ih ⊢
        omega
    have := key (kids t.2)
    omega
  have HI : Hid (∀ s ∈ kids t.2, ∀ es, NT W es s → NC W g es ((tkT s).map tk) (1000000 - 10 * zT s)) := IH
  clear X hz hzT IH hs
  have HL : Hid (n = (kids t.2).length) := hnl
  clear hnl
  generalize lcs t.1 (.slice p n c) = bx at *
  generalize t.1.s = S at *
  go_enter Tryz.func62, Tryz.ntmps62
  go_wp2_with (first
    | (go_at_call 59; refine (wordtok_any _ _ _).mono ?_; rintro e w1 ⟨rfl, hb⟩; have Zc1 := Zc.out.bel hb; clear hb Zc c1 c17; have Zc : Hid _ := Zc1; clear Zc1)
    | (go_at_call 58; refine (optok_any _ _).mono ?_; rintro e w1 ⟨rfl, hb⟩; have Zc1 := Zc.out.bel hb; clear hb Zc; have Zc : Hid _ := Zc1; clear Zc1)
    | (refine wpList_bslice_run rfl 46 2 _ rfl _ _ _ (by go_simp) (tcl_two _ _ _) ?_)
    | (go_at_call 55; refine (Zc.out.put (M := [tWd noB S, tOp ⟨#[40]⟩]) rfl (by simp) N1.out).mono ?_; rintro e w1 ⟨rfl, Zc1⟩; clear Zc; have c17 := ZC _ _ Zc1; have Zc : Hid _ := Zc1; clear Zc1))
  go_loopw [16] (fun i wr => ∃ k : Nat, k ≤ n ∧ i = .int .i64 (k : Nat) ∧ Hid (ZZ W g (L ++ [tWd noB S, tOp ⟨#[40]⟩] ++ (argsK (kids t.2) k).map tk) u bx wr)) (fun i _ => n - (intOf i).toNat)
  case atStart => exact ⟨0, Nat.zero_le _, rfl, by show ZZ _ _ _ _ _ _; simpa [argsK, commaK] using Zc.out⟩
  case round =>
    obtain ⟨k, hk, rfl, HZ⟩ := hrel
    clear Zc c17 ZC
    by_cases hlt : k < n
    · have hki : (k : Int) < n := by omega
      obtain ⟨a', es, s, rfl, RU, hks, hNT⟩ := HS.out.kid k hlt
      have hkl : k < (kids t.2).length := by have := HL.out; omega
      have hse : s = (kids t.2)[k] := by rw [List.getElem?_eq_getElem hkl] at hks; exact (Option.some.inj hks).symm
      have RL := RU wr HZ.out.w.1.bel
      obtain ⟨rs, rl2⟩ := nbox wr (hNT.below HZ.out.w.1.bel)
      have RS : Hid _ := rs
      have Zc : Hid (ZZ W g (L ++ [tWd noB S, tOp ⟨#[40]⟩] ++ (argsK (kids t.2) k).map tk) u bx (wr.alloc (.cells es 28))) := HZ.out.bel (bel_alloc (Below.refl _ _) _)
      have H5 : Hid ((wr.alloc (.cells es 28)).heap[wr.heap.size]? = some (.cells es 28)) := heap_alloc_new _ _
      have RL2 : Hid (∀ u : World, u.heap[wr.heap.size]? = some (.cells es 28) → (Instr.loadAt 28 (.pointer (some ⟨wr.heap.size, 0, none⟩))).run Tryz.prog u = .ok (.agg es) u) := rl2
      have hroom := NK1.out k s hks
      have CK := HI.out s (List.mem_of_getElem? hks) es hNT
      have HNX0 : Hid (k = 0 → argsK (kids t.2) (k + 1) = argsK (kids t.2) k ++ tkT s) := fun e => by
        subst e; rw [argsK_one _ hkl, hse]; simp [argsK, commaK]
      have HNX1 : Hid (k ≠ 0 → argsK (kids t.2) (k + 1) = argsK (kids t.2) k ++ Tk.Tok.op [44] :: tkT s) := fun e => by rw [argsK_succ _ _ hkl e, hse]
      clear rs rl2 hks hNT hse HI RU
      generalize argsK (kids t.2) k = A at *
      generalize tkT s = KS at *
      generalize zT s = zs at *
      by_cases hk0 : k = 0
      · have hn0 : ¬ (0 : Int) < (k : Int) := by omega
        have HK0 : Hid (k = 0) := hk0
        clear hk0
        have RL2c : Hid _ := RL2.out _ H5.out
        have CK2 := CK (L ++ [tWd noB S, tOp ⟨#[40]⟩] ++ A.map tk) (wr.alloc (.cells es 28)) (by simp; omega) Zc.out.w.1
        go_wp2_with (first
          | (refine wpList_load_run rfl 28 _ rfl _ _ rfl RL.out ?_; clear RL)
          | (refine wpList_store_run rfl 28 _ _ rfl _ _ _ rfl rfl RS.out ?_; clear RS)
          | (refine wpList_load_run rfl 28 _ rfl _ _ rfl RL2c.out ?_; clear RL2c)
          | (go_at_call 36; refine CK2.mono ?_; rintro e w3 ⟨rfl, hs⟩; have Zn : Hid _ := Zc.out.ws hs; clear hs))
        go_roundw
        case rel => exact ⟨k + 1, by omega, by go_num, by show ZZ _ _ _ _ _ _; rw [HNX0.out HK0.out]; simpa using Zn.out⟩
        case measure => simp [intOf]; omega
      · have hn0 : (0 : Int) < (k : Int) := by omega
        have HK0 : Hid (k ≠ 0) := hk0
        clear hk0
        have N5 : Hid ((L ++ [tWd noB S, tOp ⟨#[40]⟩] ++ A.map tk).length + 1 ≤ 1000000) := by show _ ≤ _; simp; omega
        have CK2 := fun u' (Z : WX W g (L ++ [tWd noB S, tOp ⟨#[40]⟩] ++ A.map tk ++ [tOp ⟨#[44]⟩]) u') => CK (L ++ [tWd noB S, tOp ⟨#[40]⟩] ++ A.map tk ++ [tOp ⟨#[44]⟩]) u' (by simp; omega) Z
        go_wp2_with (first
          | (refine wpList_load_run rfl 28 _ rfl _ _ rfl RL.out ?_; clear RL)
          | (refine wpList_store_run rfl 28 _ _ rfl _ _ _ rfl rfl RS.out ?_; clear RS)
          | (go_at_call 58; refine (optok_any _ _).mono ?_; rintro e w1 ⟨rfl, hb⟩; have H6 : Hid _ := (hb.block _ (lt_of H5.out)).trans H5.out; have Zc1 := Zc.out.bel hb; clear hb Zc H5; have Zc : Hid _ := Zc1; have H5 : Hid _ := H6.out; clear Zc1 H6)
          | (refine wpList_bslice_run rfl 46 1 _ rfl _ _ _ (by go_simp) (top_one _ _) ?_)
          | (go_at_call 55; refine (put1 Zc.out H5.out (t := tOp ⟨#[44]⟩) N5.out).mono ?_; rintro e w1 ⟨rfl, Zc1, h6⟩; clear Zc; have Zc : Hid _ := Zc1; have RL2c : Hid _ := RL2.out _ h6; clear Zc1 h6)
          | (refine wpList_load_run rfl 28 _ rfl _ _ rfl RL2c.out ?_; clear RL2c)
          | (go_at_call 36; refine (CK2 _ Zc.out.w.1).mono ?_; rintro e w3 ⟨rfl, hs⟩; have Zn : Hid _ := Zc.out.ws hs; clear hs))
        go_roundw
        case rel => exact ⟨k + 1, by omega, by go_num, by
          show ZZ _ _ _ _ _ _
          rw [HNX1.out HK0.out]
          have e : L ++ [tWd noB S, tOp ⟨#[40]⟩] ++ List.map tk (A ++ Tk.Tok.op [44] :: KS) = L ++ [tWd noB S, tOp ⟨#[40]⟩] ++ A.map tk ++ [tOp ⟨#[44]⟩] ++ KS.map tk := by
            simp only [List.map_append, List.map_cons, List.append_assoc, List.cons_append, List.nil_append]
            rfl
          rw [e]; exact Zn.out⟩
        case measure => simp [intOf]; omega
    · have hki : ¬ (k : Int) < n := by omega
      have hkn : k = n := by omega
      subst hkn
      have N6 : Hid ((L ++ [tWd noB S, tOp ⟨#[40]⟩] ++ (argsK (kids t.2) k).map tk).length + 1 ≤ 1000000) := by have := NK2.out; show _ ≤ _; simp; omega
      have Zc : Hid _ := HZ.out
      go_wp2_with (first
        | (go_at_call 58; refine (optok_any _ _).mono ?_; rintro e w1 ⟨rfl, hb⟩; have Zc1 := Zc.out.bel hb; clear hb Zc; have Zc : Hid _ := Zc1; clear Zc1)
        | (refine wpList_bslice_run rfl 46 1 _ rfl _ _ _ (by go_simp) (top_one _ _) ?_)
        | (go_at_call 55; refine (Zc.out.put (M := [tOp ⟨#[41]⟩]) rfl (by simp) N6.out).mono ?_; rintro e w1 ⟨rfl, Zc1⟩; clear Zc; have Zc : Hid _ := Zc1; clear Zc1))
      go_end0
      exact ⟨rfl, Zc.out.w⟩
end
end Go.Proofs.YtljfkkpkcjigpaaGreatDoor

namespace Go.Proofs.YtljfkkpkcjigpaaGreatDoor
open Go.RowKit Go.Fm
set_option maxRecDepth 100000
section
variable {W u : World} {g : Nat} {L : List TT} {a : Lab} {p : Option Addr} {n c : Nat}
set_option maxHeartbeats 4000000 in
theorem node_1 (X : WX W g L u) (hk : a.k = 1) (hn : L.length + 1 ≤ 1000000) (h3 : a.vk = 3 → In64 a.vn) (h0 : a.vk ≠ 1 → a.vk ≠ 2 → a.vk ≠ 3 → 0 ≤ a.vn) (T : Tabs W) :
    Calls Tryz.prog 36 #[.pointer (some ⟨g, 0, none⟩), .agg (lcs a (.slice p n c))] u fun e u' => e = .returned (.tuple #[]) ∧ WS W g (L ++ [tk (constT a.vk a.vn a.vs)]) u u' := by
  have Zc : Hid (ZZ W g L u (lcs a (.slice p n c)) (u.alloc (.cells (lcs a (.slice p n c)) 28))) := ZZ.begin X _
  have RL : Hid _ := Zc.out.load (lcs_size _ _)
  obtain ⟨c0, c1, l2, l3, l4⟩ := box_all Zc.out.b
  have c5 := cell5 Zc.out.b
  have L2 : Hid _ := l2
  have L3 : Hid _ := l3
  have L4 : Hid _ := l4
  rw [hk] at c0
  have CT := fun (u' : World) (Z : WX W g L u') => ctok_any a.vk a.vn a.vs h3 h0 u' (T.below Z.bel)
  have N1 : Hid (L.length + 1 ≤ 1000000) := hn
  generalize tk (constT a.vk a.vn a.vs) = tt at *
  clear X l2 l3 l4
  generalize lcs a (.slice p n c) = bx at *
  go_enter Tryz.func36, Tryz.ntmps36
  go_wp2_with (first
    | (refine wpList_load_run rfl 23 _ rfl _ _ rfl L2.out ?_)
    | (go_at_call 56; refine (CT _ Zc.out.w.1).mono ?_; rintro e w1 ⟨rfl, hb⟩; have Zc1 := Zc.out.bel hb; clear hb Zc; have Zc : Hid _ := Zc1; clear Zc1)
    | (refine wpList_bslice_run rfl 46 1 _ rfl _ _ _ (by go_simp) (tok_one tt _) ?_)
    | (go_at_call 55; refine (Zc.out.put (M := [tt]) rfl (by simp) N1.out).mono ?_; rintro e w1 ⟨rfl, Zc1⟩; clear Zc; have Zc : Hid _ := Zc1; clear Zc1))
  go_end0
  exact ⟨rfl, Zc.out.w⟩
set_option maxHeartbeats 4000000 in
theorem node_2 (X : WX W g L u) (hk : a.k = 2) (hn : L.length + 1 ≤ 1000000) :
    Calls Tryz.prog 36 #[.pointer (some ⟨g, 0, none⟩), .agg (lcs a (.slice p n c))] u fun e u' => e = .returned (.tuple #[]) ∧ WS W g (L ++ [tRf a.b1 a.h1 a.r1 a.c1 a.fr1 a.fc1]) u u' := by
  have Zc : Hid (ZZ W g L u (lcs a (.slice p n c)) (u.alloc (.cells (lcs a (.slice p n c)) 28))) := ZZ.begin X _
  have RL : Hid _ := Zc.out.load (lcs_size _ _)
  obtain ⟨c0, c1, l2, l3, l4⟩ := box_all Zc.out.b
  have c5 := cell5 Zc.out.b
  have L2 : Hid _ := l2
  have L3 : Hid _ := l3
  have L4 : Hid _ := l4
  rw [hk] at c0
  have N1 : Hid (L.length + 1 ≤ 1000000) := hn
  clear X l2 l3 l4
  generalize lcs a (.slice p n c) = bx at *
  go_enter Tryz.func36, Tryz.ntmps36
  go_wp2_with (first
    | (refine wpList_load_run rfl 25 _ rfl _ _ rfl L3.out ?_)
    | (go_at_call 57; refine (reftok_any _ _ _ _ _ _ _).mono ?_; rintro e w1 ⟨rfl, hb⟩; have Zc1 := Zc.out.bel hb; clear hb Zc; have Zc : Hid _ := Zc1; clear Zc1)
    | (refine wpList_bslice_run rfl 46 1 _ rfl _ _ _ (by go_simp) (trf_one _ _ _ _ _ _ _) ?_)
    | (go_at_call 55; refine (Zc.out.put (M := [tRf a.b1 a.h1 a.r1 a.c1 a.fr1 a.fc1]) rfl (by simp) N1.out).mono ?_; rintro e w1 ⟨rfl, Zc1⟩; clear Zc; have Zc : Hid _ := Zc1; clear Zc1))
  go_end0
  exact ⟨rfl, Zc.out.w⟩
set_option maxHeartbeats 4000000 in
theorem node_4 (X : WX W g L u) (hk : a.k = 4) (hn : L.length + 1 ≤ 1000000) :
    Calls Tryz.prog 36 #[.pointer (some ⟨g, 0, none⟩), .agg (lcs a (.slice p n c))] u fun e u' => e = .returned (.tuple #[]) ∧ WS W g (L ++ [tWd a.b1 a.s]) u u' := by
  have Zc : Hid (ZZ W g L u (lcs a (.slice p n c)) (u.alloc (.cells (lcs a (.slice p n c)) 28))) := ZZ.begin X _
  have RL : Hid _ := Zc.out.load (lcs_size _ _)
  obtain ⟨c0, c1, l2, l3, l4⟩ := box_all Zc.out.b
  have c5 := cell5 Zc.out.b
  have L2 : Hid _ := l2
  have L3 : Hid _ := l3
  have L4 : Hid _ := l4
  rw [hk] at c0
  have N1 : Hid (L.length + 1 ≤ 1000000) := hn
  clear X l2 l3 l4
  generalize lcs a (.slice p n c) = bx at *
  go_enter Tryz.func36, Tryz.ntmps36
  go_wp2_with (first
    | (go_at_call 59; refine (wordtok_any _ _ _).mono ?_; rintro e w1 ⟨rfl, hb⟩; have Zc1 := Zc.out.bel hb; clear hb Zc; have Zc : Hid _ := Zc1; clear Zc1)
    | (refine wpList_bslice_run rfl 46 1 _ rfl _ _ _ (by go_simp) (twd_one _ _ _) ?_)
    | (go_at_call 55; refine (Zc.out.put (M := [tWd a.b1 a.s]) rfl (by simp) N1.out).mono ?_; rintro e w1 ⟨rfl, Zc1⟩; clear Zc; have Zc : Hid _ := Zc1; clear Zc1))
  go_end0
  exact ⟨rfl, Zc.out.w⟩
set_option maxHeartbeats 4000000 in
theorem node_5 {M : List TT} (X : WX W g L u) (hk : a.k = 5) (C : ∀ u', WX W g L u' → Calls Tryz.prog 60 #[.pointer (some ⟨g, 0, none⟩), .agg (lcs a (.slice p n c))] u' fun e u'' => e = .returned (.tuple #[]) ∧ WS W g (L ++ M) u' u'') :
    Calls Tryz.prog 36 #[.pointer (some ⟨g, 0, none⟩), .agg (lcs a (.slice p n c))] u fun e u' => e = .returned (.tuple #[]) ∧ WS W g (L ++ M) u u' := by
  have Zc : Hid (ZZ W g L u (lcs a (.slice p n c)) (u.alloc (.cells (lcs a (.slice p n c)) 28))) := ZZ.begin X _
  have RL : Hid _ := Zc.out.load (lcs_size _ _)
  obtain ⟨c0, c1, l2, l3, l4⟩ := box_all Zc.out.b
  have c5 := cell5 Zc.out.b
  have L2 : Hid _ := l2
  have L3 : Hid _ := l3
  have L4 : Hid _ := l4
  rw [hk] at c0
  clear X l2 l3 l4
  generalize lcs a (.slice p n c) = bx at *
  go_enter Tryz.func36, Tryz.ntmps36
  go_wp2_with (first
    | (refine wpList_load_run rfl 28 _ rfl _ _ rfl RL.out ?_)
    | (go_at_call 60; refine (C _ Zc.out.w.1).mono ?_; rintro e w1 ⟨rfl, hs⟩; have Zf : Hid _ := Zc.out.w.step hs; clear hs))
  go_end0
  exact ⟨rfl, Zf.out⟩
set_option maxHeartbeats 4000000 in
theorem node_6 {M : List TT} (X : WX W g L u) (hk : a.k = 6) (C : ∀ u', WX W g L u' → Calls Tryz.prog 61 #[.pointer (some ⟨g, 0, none⟩), .agg (lcs a (.slice p n c))] u' fun e u'' => e = .returned (.tuple #[]) ∧ WS W g (L ++ M) u' u'') :
    Calls Tryz.prog 36 #[.pointer (some ⟨g, 0, none⟩), .agg (lcs a (.slice p n c))] u fun e u' => e = .returned (.tuple #[]) ∧ WS W g (L ++ M) u u' := by
  have Zc : Hid (ZZ W g L u (lcs a (.slice p n c)) (u.alloc (.cells (lcs a (.slice p n c)) 28))) := ZZ.begin X _
  have RL : Hid _ := Zc.out.load (lcs_size _ _)
  obtain ⟨c0, c1, l2, l3, l4⟩ := box_all Zc.out.b
  have c5 := cell5 Zc.out.b
  have L2 : Hid _ := l2
  have L3 : Hid _ := l3
  have L4 : Hid _ := l4
  rw [hk] at c0
  clear X l2 l3 l4
  generalize lcs a (.slice p n c) = bx at *
  go_enter Tryz.func36, Tryz.ntmps36
  go_wp2_with (first
    | (refine wpList_load_run rfl 28 _ rfl _ _ rfl RL.out ?_)
    | (go_at_call 61; refine (C _ Zc.out.w.1).mono ?_; rintro e w1 ⟨rfl, hs⟩; have Zf : Hid _ := Zc.out.w.step hs; clear hs))
  go_end0
  exact ⟨rfl, Zf.out⟩
set_option maxHeartbeats 4000000 in
theorem node_7 {M : List TT} (X : WX W g L u) (hk : a.k = 7) (C : ∀ u', WX W g L u' → Calls Tryz.prog 62 #[.pointer (some ⟨g, 0, none⟩), .agg (lcs a (.slice p n c))] u' fun e u'' => e = .returned (.tuple #[]) ∧ WS W g (L ++ M) u' u'') :
    Calls Tryz.prog 36 #[.pointer (some ⟨g, 0, none⟩), .agg (lcs a (.slice p n c))] u fun e u' => e = .returned (.tuple #[]) ∧ WS W g (L ++ M) u u' := by
  have Zc : Hid (ZZ W g L u (lcs a (.slice p n c)) (u.alloc (.cells (lcs a (.slice p n c)) 28))) := ZZ.begin X _
  have RL : Hid _ := Zc.out.load (lcs_size _ _)
  obtain ⟨c0, c1, l2, l3, l4⟩ := box_all Zc.out.b
  have c5 := cell5 Zc.out.b
  have L2 : Hid _ := l2
  have L3 : Hid _ := l3
  have L4 : Hid _ := l4
  rw [hk] at c0
  clear X l2 l3 l4
  generalize lcs a (.slice p n c) = bx at *
  go_enter Tryz.func36, Tryz.ntmps36
  go_wp2_with (first
    | (refine wpList_load_run rfl 28 _ rfl _ _ rfl RL.out ?_)
    | (go_at_call 62; refine (C _ Zc.out.w.1).mono ?_; rintro e w1 ⟨rfl, hs⟩; have Zf : Hid _ := Zc.out.w.step hs; clear hs))
  go_end0
  exact ⟨rfl, Zf.out⟩
theorem area_three (b h b' h' : ByteArray) (r c r' c' : Int) (fr fc fr' fc' : Bool) (s : ByteArray) (w : World) : (Instr.buildSlice 46 3 #[(0, .agg (tcs 3 0 noB b h r c fr fc)), (1, .agg (tcs 5 0 s noB noB 0 0 false false)), (2, .agg (tcs 3 0 noB b' h' r' c' fr' fc'))]).run Tryz.prog w = .ok (.slice (some ⟨w.heap.size, 0, none⟩) 3 3) (w.alloc (.cells ([tRf b h r c fr fc, tOp s, tRf b' h' r' c' fr' fc'].flatMap TT.cl).toArray 70)) := by kernel_rfl
set_option maxHeartbeats 8000000 in
theorem node_3 (X : WX W g L u) (hk : a.k = 3) (hn : L.length + 3 ≤ 1000000) :
    Calls Tryz.prog 36 #[.pointer (some ⟨g, 0, none⟩), .agg (lcs a (.slice p n c))] u fun e u' => e = .returned (.tuple #[]) ∧ WS W g (L ++ [tRf a.b1 a.h1 a.r1 a.c1 a.fr1 a.fc1, tOp ⟨#[58]⟩, tRf a.b2 a.h2 a.r2 a.c2 a.fr2 a.fc2]) u u' := by
  have Zc : Hid (ZZ W g L u (lcs a (.slice p n c)) (u.alloc (.cells (lcs a (.slice p n c)) 28))) := ZZ.begin X _
  have RL : Hid _ := Zc.out.load (lcs_size _ _)
  obtain ⟨c0, c1, l2, l3, l4⟩ := box_all Zc.out.b
  have c5 := cell5 Zc.out.b
  have L2 : Hid _ := l2
  have L3 : Hid _ := l3
  have L4 : Hid _ := l4
  rw [hk] at c0
  have N1 : Hid (L.length + 3 ≤ 1000000) := hn
  have LD : Hid (∀ (M : List TT) (cur : World), ZZ W g M u (lcs a (.slice p n c)) cur → (Instr.loadAt 25 (.pointer (some ⟨u.heap.size, 5, none⟩))).run Tryz.prog cur = .ok (refV a.b1 a.h1 a.r1 a.c1 a.fr1 a.fc1) cur ∧ (Instr.loadAt 25 (.pointer (some ⟨u.heap.size, 11, none⟩))).run Tryz.prog cur = .ok (refV a.b2 a.h2 a.r2 a.c2 a.fr2 a.fc2) cur) := fun M cur h => ⟨(box_all h.b).2.2.2.1, (box_all h.b).2.2.2.2⟩
  clear X l2 l3 l4
  generalize lcs a (.slice p n c) = bx at *
  go_enter Tryz.func36, Tryz.ntmps36
  go_wp2
  refine wp_region_d (fun cur => (Instr.loadAt 25 (.pointer (some ⟨u.heap.size, 5, none⟩))).run Tryz.prog cur = .ok (refV a.b1 a.h1 a.r1 a.c1 a.fr1 a.fc1) cur ∧ (Instr.loadAt 25 (.pointer (some ⟨u.heap.size, 11, none⟩))).run Tryz.prog cur = .ok (refV a.b2 a.h2 a.r2 a.c2 a.fr2 a.fc2) cur) (fun _ => false) (by kernel_rfl) ?_
  have Z1 := Zc.out.bel (Below.refl _ _).drew
  clear Zc
  have Zc : Hid _ := Z1
  clear Z1
  refine wpAnyD_pured (i := 0) (v := .pointer (some ⟨g, 0, none⟩)) rfl rfl (by kernel_rfl) (by kernel_rfl) (by kernel_rfl) (fun _ _ _ h => h) (by go_simp) (by intro u; go_simp) ?_
  try simp only [Act.put, List.setIfInBounds_toArray, List.set_cons_zero, List.set_cons_succ]
  refine wpAnyD_pured (i := 1) (v := .pointer (some ⟨u.heap.size, 5, none⟩)) rfl rfl (by kernel_rfl) (by kernel_rfl) (by kernel_rfl) (fun _ _ _ h => h) (by go_simp) (by intro u; go_simp) ?_
  try simp only [Act.put, List.setIfInBounds_toArray, List.set_cons_zero, List.set_cons_succ]
  refine wpAnyD_loadd (i := 2) (v := refV a.b1 a.h1 a.r1 a.c1 a.fr1 a.fc1) rfl rfl (by kernel_rfl) (by kernel_rfl) (by kernel_rfl) (by kernel_rfl) (fun _ _ _ h => h) (by go_simp) (fun u hSu => exec_load_run rfl rfl hSu.1) (LD.out _ _ Zc.out) ?_
  try simp only [Act.put, List.setIfInBounds_toArray, List.set_cons_zero, List.set_cons_succ]
  refine wpAnyD_pured (i := 5) (v := .pointer (some ⟨u.heap.size, 11, none⟩)) rfl rfl (by kernel_rfl) (by kernel_rfl) (by kernel_rfl) (fun _ _ _ h => h) (by go_simp) (by intro u; go_simp) ?_
  try simp only [Act.put, List.setIfInBounds_toArray, List.set_cons_zero, List.set_cons_succ]
  refine wpAnyD_loadd (i := 6) (v := refV a.b2 a.h2 a.r2 a.c2 a.fr2 a.fc2) rfl rfl (by kernel_rfl) (by kernel_rfl) (by kernel_rfl) (by kernel_rfl) (fun _ _ _ h => h) (by go_simp) (fun u hSu => exec_load_run rfl rfl hSu.2) (LD.out _ _ Zc.out) ?_
  try simp only [Act.put, List.setIfInBounds_toArray, List.set_cons_zero, List.set_cons_succ]
  refine wpAnyD_one (i := 3) (by kernel_rfl) rfl ?_
  intro K hK
  go_simp
  refine (reftok_any _ _ _ _ _ _ _).mono ?_
  rintro e w1 ⟨rfl, hb⟩
  have Zc1 := Zc.out.bel hb
  clear hb Zc
  have Zc : Hid _ := Zc1
  clear Zc1
  refine hK _ _ (.inr fun _ => LD.out _ _ Zc.out) ?_
  clear hK
  try simp only [Act.put, List.setIfInBounds_toArray, List.set_cons_zero, List.set_cons_succ]
  refine wpAnyD_one (i := 4) (by kernel_rfl) rfl ?_
  intro K hK
  go_simp
  refine (optok_any _ _).mono ?_
  rintro e w2 ⟨rfl, hb⟩
  have Zc1 := Zc.out.bel hb
  clear hb Zc
  have Zc : Hid _ := Zc1
  clear Zc1
  refine hK _ _ (.inr fun _ => LD.out _ _ Zc.out) ?_
  clear hK
  try simp only [Act.put, List.setIfInBounds_toArray, List.set_cons_zero, List.set_cons_succ]
  refine wpAnyD_one (i := 7) (by kernel_rfl) rfl ?_
  intro K hK
  go_simp
  refine (reftok_any _ _ _ _ _ _ _).mono ?_
  rintro e w3 ⟨rfl, hb⟩
  have Zc1 := Zc.out.bel hb
  clear hb Zc
  have Zc : Hid _ := Zc1
  clear Zc1
  refine hK _ _ (.inr fun _ => LD.out _ _ Zc.out) ?_
  clear hK
  try simp only [Act.put, List.setIfInBounds_toArray, List.set_cons_zero, List.set_cons_succ]
  refine wpAnyD_one (i := 8) (by kernel_rfl) rfl ?_
  intro K hK
  rw [if_pos (by go_simp)]
  refine wp_bslice_run (some 32) rfl 46 3 _ rfl _ _ (by go_simp) (area_three a.b1 a.h1 a.b2 a.h2 a.r1 a.c1 a.r2 a.c2 a.fr1 a.fc1 a.fr2 a.fc2 ⟨#[58]⟩ _) (hK _ _ (.inr fun _ => LD.out _ _ (Zc.out.bel (bel_alloc (Below.refl _ _) _))) ?_)
  clear hK
  try simp only [Act.put, List.setIfInBounds_toArray, List.set_cons_zero, List.set_cons_succ]
  refine wpAnyD_one (i := 9) (by kernel_rfl) rfl ?_
  intro K hK
  go_simp
  refine (Zc.out.put (M := [tRf a.b1 a.h1 a.r1 a.c1 a.fr1 a.fc1, tOp ⟨#[58]⟩, tRf a.b2 a.h2 a.r2 a.c2 a.fr2 a.fc2]) rfl (by simp) N1.out).mono ?_
  rintro e w4 ⟨rfl, Zc1⟩
  clear Zc
  have Zc : Hid _ := Zc1
  clear Zc1
  refine hK _ _ (.inr fun _ => LD.out _ _ Zc.out) ?_
  clear hK
  try simp only [Act.put, List.setIfInBounds_toArray, List.set_cons_zero, List.set_cons_succ]
  refine wpAnyD_done (by kernel_rfl) ?_ _
  go_wp2
  go_end0
  exact ⟨rfl, Zc.out.w⟩
end
end Go.Proofs.YtljfkkpkcjigpaaGreatDoor

namespace Go.Proofs.YtljfkkpkcjigpaaGreatDoor
open Go.RowKit Go.Fm
set_option maxRecDepth 100000
theorem ok_cases {a : Lab} {n : Nat} (h : okL a n = true) : (a.k = 1 ∧ gcB a.vk a.vn a.vs = true) ∨ (a.k = 2 ∧ goodB a.b1 a.h1 a.r1 a.c1 = true) ∨ (a.k = 3 ∧ goodB a.b1 a.h1 a.r1 a.c1 = true ∧ goodB a.b2 a.h2 a.r2 a.c2 = true ∧ a.h2.toList = []) ∨
    (a.k = 4 ∧ gnF a.s.data.toList = true ∧ (a.b1.toList = [] ∨ gnF a.b1.data.toList = true)) ∨ (a.k = 5 ∧ n = 1 ∧ (a.s.toList = [45] ∨ a.s.toList = [37])) ∨ (a.k = 6 ∧ n = 2 ∧ strn a.s.toList ≠ 0) ∨ (a.k = 7 ∧ n ≤ 16 ∧ gfB a.s = true) := by
  unfold okL at h
  rw [Bool.and_eq_true] at h
  have h2 := h.2
  clear h
  unfold partsB at h2
  split at h2
  · rename_i e; exact .inl ⟨e, h2⟩
  split at h2
  · rename_i e; exact .inr (.inl ⟨e, h2⟩)
  split at h2
  · rename_i e
    refine .inr (.inr (.inl ⟨e, ?_⟩))
    unfold paB at h2
    split at h2
    · rename_i hh; exact hh
    · rw [ByteArray.toList_eq] at h2
      exact absurd h2 (by decide)
  split at h2
  · rename_i e
    rw [Bool.and_eq_true, Bool.or_eq_true] at h2
    exact .inr (.inr (.inr (.inl ⟨e, h2.1, h2.2.imp (fun h => by simpa using h) id⟩)))
  split at h2
  · rename_i e
    rw [Bool.and_eq_true, Bool.or_eq_true] at h2
    exact .inr (.inr (.inr (.inr (.inl ⟨e, by have := h2.1; simp at this; omega, h2.2.imp (fun h => by simpa using h) (fun h => by simpa using h)⟩))))
  split at h2
  · rename_i e
    rw [Bool.and_eq_true] at h2
    exact .inr (.inr (.inr (.inr (.inr (.inl ⟨e, by have := h2.1; simp at this; omega, by have := h2.2; simp at this; omega⟩)))))
  split at h2
  · rename_i e
    rw [Bool.and_eq_true] at h2
    exact .inr (.inr (.inr (.inr (.inr (.inr ⟨e, by simpa using h2.1, h2.2⟩)))))
  · cases h2
theorem rf_tk {b h : ByteArray} {r c : Int} {fr fc : Bool} (hg : goodB b h r c = true) : tRf b h r c fr fc = tk (refK b h r c fr fc) := by
  obtain ⟨R, C, rfl, rfl, _⟩ := good_yes hg
  unfold refK
  show _ = (⟨3, 0, noB, ba b.toList, ba h.toList, ((R : Int).toNat : Int), ((C : Int).toNat : Int), fr, fc⟩ : TT)
  rw [show ba b.toList = b by rw [ByteArray.toList_eq], show ba h.toList = h by rw [ByteArray.toList_eq]]
  rfl
theorem gc_facts {k n : Int} {s : ByteArray} (h : gcB k n s = true) : (k = 1 ∧ 0 ≤ n ∧ n ≤ 100000000000) ∨ (k = 2 ∧ s.size ≤ 255) ∨ (k = 3 ∧ (n = 0 ∨ n = 1)) ∨ (k = 4 ∧ 1 ≤ n ∧ n ≤ 8) := by
  unfold gcB at h
  split at h
  · cases h
  rename_i k0
  split at h
  · rename_i e
    subst e
    simp [goodF, gd] at h
    exact .inl ⟨rfl, h.1, h.2.2.2⟩
  rename_i k1
  unfold goodF at h
  rw [if_neg k0, if_neg k1] at h
  split at h
  · rename_i e
    simp [lenB] at h
    exact .inr (.inl ⟨e, h.2⟩)
  split at h
  · rename_i e
    simp at h
    exact .inr (.inr (.inl ⟨e, h.2⟩))
  split at h
  · rename_i e
    simp [knB] at h
    exact .inr (.inr (.inr ⟨e, h.2⟩))
  · cases h
theorem good_split {d : Nat} {t : T} (h : gT okL d t = true) : okL t.1 (kids t.2).length = true ∧ ∀ s ∈ kids t.2, gT okL (d - 1) s = true := by
  rw [gT_eq, Bool.and_eq_true, Bool.and_eq_true] at h
  exact ⟨h.1.2, fun s hs => List.all_eq_true.1 h.2 s hs⟩
theorem zT_two {t : T} {a b : T} (h : kids t.2 = [a, b]) : zT t = zT a + zT b + 1 := by
  have hz : zT t = ((kids t.2).map zT).sum + 1 := by unfold zT; rw [size_kids]; rfl
  rw [hz, h]; simp
theorem zT_one {t : T} {a : T} (h : kids t.2 = [a]) : zT t = zT a + 1 := by
  have hz : zT t = ((kids t.2).map zT).sum + 1 := by unfold zT; rw [size_kids]; rfl
  rw [hz, h]; simp
theorem tkT_eq (t : T) : tkT t = nodeK t.1 (tksF t.2) := rfl
theorem args_all (l : List T) : argsK l l.length = commaK (l.map tkT) := by unfold argsK; rw [List.take_of_length_le (Nat.le_refl _)]
set_option maxHeartbeats 2000000 in
theorem node_any : ∀ t : T, ∀ d, gT okL d t = true → ∀ (W : World) (g : Nat) (es : Array Value) (L : List TT) (u : World), NT W es t → WX W g L u → Tabs W → L.length + 10 * zT t ≤ 1000000 →
    Calls Tryz.prog 36 #[.pointer (some ⟨g, 0, none⟩), .agg es] u fun e u' => e = .returned (.tuple #[]) ∧ WS W g (L ++ (tkT t).map tk) u u' := by
  refine ind ?_
  intro t ih d hg W g es L u hN X T hz
  obtain ⟨p, n, c, rfl, hs⟩ := hN
  obtain ⟨hok, hkid⟩ := good_split hg
  have hn := hs.1
  rw [← hn] at hok
  have IH : ∀ s ∈ kids t.2, ∀ es, NT W es s → NC W g es ((tkT s).map tk) (1000000 - 10 * zT s) := fun s hs es he L u hL hX => by
    have := zT_kid hs
    exact ih s hs _ (hkid s hs) W g es L u he hX T (by omega)
  have hz1 : 1 ≤ zT t := by unfold zT; omega
  rcases ok_cases hok with ⟨hk, h1⟩ | ⟨hk, h1⟩ | ⟨hk, h1, h2, h3⟩ | ⟨hk, h1, h2⟩ | ⟨hk, h1, h2⟩ | ⟨hk, h1, h2⟩ | ⟨hk, h1, h2⟩
  · have e : tkT t = [constT t.1.vk t.1.vn t.1.vs] := by rw [tkT_eq t]; unfold nodeK; rw [if_pos hk]
    rw [e]
    have hf := gc_facts h1
    exact node_1 X hk (by omega) (fun e3 => by
      rcases hf with h | h | h | h
      · omega
      · omega
      · rcases h.2 with h | h <;> rw [h] <;> exact ⟨by omega, by omega⟩
      · omega) (fun a b c => by omega) T
  · have e : tkT t = [refK t.1.b1 t.1.h1 t.1.r1 t.1.c1 t.1.fr1 t.1.fc1] := by rw [tkT_eq t]; unfold nodeK; rw [if_neg (by omega), if_pos hk]
    rw [e]
    have := node_2 (p := p) (n := n) (c := c) X hk (by omega)
    rw [rf_tk h1] at this
    exact this
  · have e : tkT t = [refK t.1.b1 t.1.h1 t.1.r1 t.1.c1 t.1.fr1 t.1.fc1, Tk.Tok.op [58], refK t.1.b2 t.1.h2 t.1.r2 t.1.c2 t.1.fr2 t.1.fc2] := by rw [tkT_eq t]; unfold nodeK; rw [if_neg (by omega), if_neg (by omega), if_pos hk]
    rw [e]
    have := node_3 (p := p) (n := n) (c := c) X hk (by omega)
    rw [rf_tk h1, rf_tk h2] at this
    exact this
  · have e : tkT t = [Tk.Tok.word t.1.b1.toList t.1.s.toList] := by rw [tkT_eq t]; unfold nodeK; rw [if_neg (by omega), if_neg (by omega), if_neg (by omega), if_pos hk]
    rw [e]
    have := node_4 (p := p) (n := n) (c := c) X hk (by omega)
    rw [show [tWd t.1.b1 t.1.s] = [Tk.Tok.word t.1.b1.toList t.1.s.toList].map tk by
      show _ = [(⟨4, 0, ba t.1.s.toList, ba t.1.b1.toList, noB, 0, 0, false, false⟩ : TT)]
      rw [show ba t.1.b1.toList = t.1.b1 by rw [ByteArray.toList_eq], show ba t.1.s.toList = t.1.s by rw [ByteArray.toList_eq]]] at this
    exact this
  · subst h1
    obtain ⟨a, es, s, rfl, R, hks, hNs⟩ := hs.kid 0 (by omega)
    have hkids : kids t.2 = [s] := by
      match hq : kids t.2, hn, hks with
      | [x], _, hks => simp at hks; rw [hks]
    have hzs := zT_one hkids
    have hm : s ∈ kids t.2 := by rw [hkids]; simp
    have htl := tk_len s
    have harg : argK (tksF t.2) 0 = (holdN s.1, tkT s) := by unfold argK; rw [tks_kids, hkids]; rfl
    refine node_5 X hk fun u' X' => ?_
    by_cases hm1 : t.1.s.toList = [45]
    · have e : (tkT t).map tk = [tOp ⟨#[45]⟩] ++ (wrapK (holdN s.1, tkT s) 6).map tk := by
        rw [tkT_eq t]; unfold nodeK; rw [if_neg (by omega), if_neg (by omega), if_neg (by omega), if_neg (by omega), if_pos hk, if_pos hm1, harg]; rfl
      rw [e, ← List.append_assoc]
      exact un_minus X' (by simpa using hm1) R hNs (by omega) (m := 1000000 - 10 * zT s) (by omega) (IH s hm es hNs)
    · have e : (tkT t).map tk = (wrapK (holdN s.1, tkT s) 7).map tk ++ [tOp ⟨#[37]⟩] := by
        rw [tkT_eq t]; unfold nodeK; rw [if_neg (by omega), if_neg (by omega), if_neg (by omega), if_neg (by omega), if_pos hk, if_neg hm1, harg, List.map_append]; rfl
      rw [e, ← List.append_assoc]
      exact un_pct X' (by simpa using hm1) R hNs (by omega) (m := 1000000 - 10 * zT s) (by omega) (IH s hm es hNs)
  · subst h1
    obtain ⟨a, es, s, rfl, R, hks, hNs⟩ := hs.kid 0 (by omega)
    obtain ⟨a', es1, s1, e', R1, hks1, hNs1⟩ := hs.kid 1 (by omega)
    cases e'
    have hkids : kids t.2 = [s, s1] := by
      match hq : kids t.2, hn, hks, hks1 with
      | [x, y], _, hks, hks1 => simp at hks hks1; rw [hks, hks1]
    have hzs := zT_two hkids
    have hm : s ∈ kids t.2 := by rw [hkids]; simp
    have hm1 : s1 ∈ kids t.2 := by rw [hkids]; simp
    have htl := tk_len s
    have htl1 := tk_len s1
    have harg : argK (tksF t.2) 0 = (holdN s.1, tkT s) := by unfold argK; rw [tks_kids, hkids]; rfl
    have harg1 : argK (tksF t.2) 1 = (holdN s1.1, tkT s1) := by unfold argK; rw [tks_kids, hkids]; rfl
    refine node_6 X hk fun u' X' => ?_
    have e : (tkT t).map tk = (wrapK (holdN s.1, tkT s) (strn t.1.s.toList)).map tk ++ [tOp t.1.s] ++ (wrapK (holdN s1.1, tkT s1) (strn t.1.s.toList + 1)).map tk := by
      rw [tkT_eq t]
      unfold nodeK
      rw [if_neg (by omega), if_neg (by omega), if_neg (by omega), if_neg (by omega), if_neg (by omega), if_pos hk, harg, harg1, List.map_append, List.map_cons]
      rw [show tk (Tk.Tok.op t.1.s.toList) = tOp t.1.s by
        show (⟨5, 0, ba t.1.s.toList, noB, noB, 0, 0, false, false⟩ : TT) = _
        rw [show ba t.1.s.toList = t.1.s by rw [ByteArray.toList_eq]]]
      simp
    rw [e, ← List.append_assoc, ← List.append_assoc]
    exact bin_any X' R hNs R1 hNs1 (by omega) (m := 1000000 - 10 * zT s) (m1 := 1000000 - 10 * zT s1) (by omega) (by omega) (IH s hm es hNs) (IH s1 hm1 es1 hNs1)
  · refine node_7 X hk fun u' X' => ?_
    have e : (tkT t).map tk = [tWd noB t.1.s, tOp ⟨#[40]⟩] ++ (argsK (kids t.2) n).map tk ++ [tOp ⟨#[41]⟩] := by
      rw [tkT_eq t]
      unfold nodeK
      rw [if_neg (by omega), if_neg (by omega), if_neg (by omega), if_neg (by omega), if_neg (by omega), if_neg (by omega), if_pos hk, hn, args_all, tks_kids, List.map_map]
      rw [List.map_cons, List.map_cons, List.map_append]
      rw [show tk (Tk.Tok.word [] t.1.s.toList) = tWd noB t.1.s by
        show (⟨4, 0, ba t.1.s.toList, ba [], noB, 0, 0, false, false⟩ : TT) = _
        rw [show ba t.1.s.toList = t.1.s by rw [ByteArray.toList_eq]]]
      rw [show ((fun x : Nat × List Tk.Tok => x.2) ∘ fun t : Lab × F => (holdN t.1, tkT t)) = tkT from rfl]
      generalize commaK ((kids t.2).map tkT) = A
      simp only [List.cons_append, List.nil_append, List.append_assoc, List.map_cons, List.map_nil]
      rfl
    rw [e, ← List.append_assoc, ← List.append_assoc]
    exact call_any' X' hs (by omega) hz IH
end Go.Proofs.YtljfkkpkcjigpaaGreatDoor
