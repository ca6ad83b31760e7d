/- RQuo, RNmP, RNmQ, RNmB. -/
import Derived.Test.YtlndkjcincflpaaGreatDoorPTokenX
set_option linter.unusedVariables false
set_option linter.unusedSimpArgs false
namespace Go.Proofs.YtlndkjcincflpaaGreatDoor
open Go.RowKit
set_option maxRecDepth 100000
abbrev tkR : Obj := .cells tk0 138
def AnsR (w : World) (l : List UInt8) (o : Option (Tk.Tok × List UInt8)) (e : Ending) (w' : World) : Prop :=
  Below w.heap.size w w' ∧ match o with
    | some (t, m) => e = .returned (.tuple #[.agg (tk t).cs, .int .i64 ((l.length - m.length : Nat) : Int)])
    | none => e = .returned (.tuple #[.agg tk0, .int .i64 0])
structure RZ (w u : World) : Prop where
  bel : Below w.heap.size w u
  z : u.heap[w.heap.size]? = some tkR
theorem RZ.begin (w : World) : RZ w (w.alloc tkR) := ⟨bel_alloc (Below.refl _ _) _, heap_alloc_new w _⟩
theorem RZ.below {w u u1 : World} (h : RZ w u) (hb : Below u.heap.size u u1) : RZ w u1 := ⟨bel_step h.bel hb, (hb.block _ (lt_of h.z)).trans h.z⟩
theorem RZ.alloc {w u : World} (h : RZ w u) (o : Obj) : RZ w (u.alloc o) := h.below (bel_alloc (Below.refl _ _) o)
theorem RZ.put {w u : World} (h : RZ w u) (k n : Int) (s b' h' : ByteArray) (r c : Int) (fr fc : Bool) :
    Hid ((Instr.storeAt 138 (.pointer (some ⟨w.heap.size, 0, none⟩)) (.agg (tcs k n s b' h' r c fr fc))).run Tryz.prog u = .ok () (u.setRow w.heap.size (tcs k n s b' h' r c fr fc))) :=
  sto h.z inf138 rfl (tcs_one k n s b' h' r c fr fc)
theorem RZ.ans {w u : World} (h : RZ w u) (es : Array Value) (he : es.size = 9) {fn : Func} {p q : Tmp} (hr : fn.results = #[.cell p 138, .tmp q]) {tmps : Array Value} {v2 : Value}
    (hp : tmps.getD p undef = .pointer (some ⟨w.heap.size, 0, none⟩)) (hv : tmps.getD q undef = v2) : (results fn tmps).run Tryz.prog (u.setRow w.heap.size es) = .ok (.tuple #[.agg es, v2]) (u.setRow w.heap.size es) :=
  results2_row hr hp (setRow_heap _ _ _ es _ _ h.z) rfl Tryz.underlying138 (by rw [he]; exact inf138) hv
theorem RZ.fin {w u : World} (h : RZ w u) (es : Array Value) : Below w.heap.size w (u.setRow w.heap.size es) :=
  h.bel.grown (setRow_grown _ _ _) h.bel.size (fun k hk => by cases hk; exact Nat.le_refl _)
theorem ret_new {w : World} (es : Array Value) (he : es.size = 9) {fn : Func} {p q : Tmp} (hr : fn.results = #[.cell p 138, .tmp q]) {tmps : Array Value} {v2 : Value}
    (hp : tmps.getD p undef = .pointer (some ⟨w.heap.size, 0, none⟩)) (hv : tmps.getD q undef = v2) : (results fn tmps).run Tryz.prog (w.alloc (.cells es 138)) = .ok (.tuple #[.agg es, v2]) (w.alloc (.cells es 138)) :=
  results2_row hr hp (heap_alloc_new w _) rfl Tryz.underlying138 (by rw [he]; exact inf138) hv
theorem drop_at (l : List UInt8) (k : Nat) (h : k < l.length) : l.drop k = l[k] :: l.drop (k + 1) := List.drop_eq_getElem_cons h
theorem ba_one (l : List UInt8) (k : Nat) (h : k < l.length) : (ba l).extract k (k + 1) = ba [l[k]] := by
  apply ByteArray.ext
  simp [ba]
  have := drop_at l k h
  rw [this]
  rfl
theorem ba_app (a b : List UInt8) : ba a ++ ba b = ba (a ++ b) := app_mk a b
set_option maxHeartbeats 4000000 in
theorem quoted_core (l : List UInt8) (S : ByteArray) (hs : S.size = l.length) (HG : Hid (∀ k (h : k < l.length) (h2 : k < S.size), S[k] = l[k])) (HE : Hid (∀ k (h : k < l.length), S.extract k (k + 1) = ba [l[k]]))
    (hl : l.length ≤ 255) (h1 : 1 ≤ l.length) (w : World) : Calls Tryz.prog 165 #[.string S] w (AnsR w l ((Tk.quoF (l.drop 1)).map fun p => (.str p.1, p.2))) := by
  generalize ho : (Tk.quoF (l.drop 1)).map (fun p => ((.str p.1, p.2) : Tk.Tok × List UInt8)) = o
  have HO : Hid ((Tk.quoF (l.drop 1)).map (fun p => ((.str p.1, p.2) : Tk.Tok × List UInt8)) = o) := ho
  clear ho
  go_enter Tryz.func165, Tryz.ntmps165
  go_wp2
  go_loop [4, 5] (fun t i => ∃ (k : Nat) (acc : List UInt8), 1 ≤ k ∧ k ≤ l.length ∧ i = .int .i64 (k : Nat) ∧ t = .string (ba acc) ∧ acc.length ≤ k ∧ Hid (Tk.quoF (l.drop 1) = (Tk.quoF (l.drop k)).map fun p => (acc ++ p.1, p.2))) (fun _ i => l.length - (intOf i).toNat)
  case atStart => exact ⟨1, [], Nat.le_refl _, h1, rfl, rfl, Nat.zero_le _, by show _ = _; cases Tk.quoF (l.drop 1) <;> rfl⟩
  case round =>
    obtain ⟨k, acc, hk1, hk, rfl, rfl, hacc, HQ⟩ := hrel
    have hsa : (ba acc).size = acc.length := size_mk acc
    by_cases hlt : k < l.length
    · have hki : (k : Int) < l.length := by omega
      have hks : k < S.size := by rw [hs]; exact hlt
      have hg := HG.out k hlt hks
      have hd := drop_at l k hlt
      rcases ch_facts S[k] 34 with ⟨h3, h4⟩ | ⟨h3, h4⟩
      · rw [hg] at h3
        rw [h3] at hd
        have h4' : ((S[k].toNat : Int) != 34) = false := by
          show (!((S[k].toNat : Int) == 34)) = false
          rw [show ((S[k].toNat : Int) == 34) = true from h4]; rfl
        by_cases h5 : k + 1 < l.length
        · have h5i : (k : Int) + 1 < l.length := by omega
          have h5s : k + 1 < S.size := by rw [hs]; exact h5
          have hg2 := HG.out (k + 1) h5 h5s
          have hd2 := drop_at l (k + 1) h5
          rcases ch_facts S[k + 1] 34 with ⟨h6, h7⟩ | ⟨h6, h7⟩
          · rw [hg2] at h6
            rw [h6] at hd2
            have HN : Hid (Tk.quoF (l.drop 1) = (Tk.quoF (l.drop (k + 2))).map fun p => ((acc ++ [34]) ++ p.1, p.2)) := by
              show _ = _
              rw [HQ.out, hd, hd2, quo_more]
              cases Tk.quoF (l.drop (k + 1 + 1)) <;> simp
            have hcc : ba acc ++ (⟨#[34]⟩ : ByteArray) = ba (acc ++ [34]) := ba_app acc [34]
            have hno : ¬ 9223372036854775807 < acc.length + 1 := by omega
            have h7' : ((S[k + 1].toNat : Int) == 34) = true := h7
            have hl2 : (acc ++ [34]).length ≤ k + 2 := by simp; omega
            clear h3 h4 h6 h7 hg hg2 hd hd2 HQ HO HG HE
            obtain ⟨C, hC⟩ : ∃ C, C = ba (acc ++ [34]) := ⟨_, rfl⟩
            rw [← hC] at hcc
            have HC : Hid (C = ba (acc ++ [34])) := hC
            clear hC
            generalize ba acc = B at *
            go_wp2
            go_round
            case rel => exact ⟨k + 2, acc ++ [34], by omega, by omega, by go_num, by rw [HC.out], hl2, HN⟩
            case measure => simp [intOf]; omega
          · have HN : Hid (o = some (.str acc, l.drop (k + 1))) := by
              show _ = _
              rw [hg2] at h6
              rw [← HO.out, HQ.out, hd, hd2, quo_end (fun r e => h6 (List.cons.inj e).1)]
              simp
            have h7' : ((S[k + 1].toNat : Int) == 34) = false := h7
            have HL : Hid (((l.length - (l.drop (k + 1)).length : Nat) : Int) = (k : Int) + 1) := by show _ = _; simp; omega
            clear h3 h4 h6 h7 hg hg2 hd hd2 HQ HO HG HE
            obtain ⟨B, hB⟩ : ∃ B, B = ba acc := ⟨_, rfl⟩
            rw [← hB] at hsa ⊢
            have HB : Hid (B = ba acc) := hB
            clear hB
            go_wp2
            refine bodyPost_ret (v := .tuple #[.agg (tcs 2 0 B noB noB 0 0 false false), .int .i64 ((k : Int) + 1)]) (ret_new (tcs 2 0 B noB noB 0 0 false false) rfl rfl rfl rfl) rfl ?_
            rw [HN.out]
            exact ⟨bel_alloc (Below.refl _ _) _, by show _ = _; rw [HL.out, HB.out]; rfl⟩
        · have h5i : ¬ (k : Int) + 1 < l.length := by omega
          have hnil : l.drop (k + 1) = [] := List.drop_eq_nil_of_le (by omega)
          have HN : Hid (o = some (.str acc, l.drop (k + 1))) := by
            show _ = _
            rw [← HO.out, HQ.out, hd, hnil, quo_end (fun r e => by cases e)]
            simp
          have HL : Hid (((l.length - (l.drop (k + 1)).length : Nat) : Int) = (k : Int) + 1) := by show _ = _; simp; omega
          clear h3 h4 hg hd HQ HO HG HE hnil
          obtain ⟨B, hB⟩ : ∃ B, B = ba acc := ⟨_, rfl⟩
          rw [← hB] at hsa ⊢
          have HB : Hid (B = ba acc) := hB
          clear hB
          go_wp2
          refine bodyPost_ret (v := .tuple #[.agg (tcs 2 0 B noB noB 0 0 false false), .int .i64 ((k : Int) + 1)]) (ret_new (tcs 2 0 B noB noB 0 0 false false) rfl rfl rfl rfl) rfl ?_
          rw [HN.out]
          exact ⟨bel_alloc (Below.refl _ _) _, by show _ = _; rw [HL.out, HB.out]; rfl⟩
      · have h4' : ((S[k].toNat : Int) != 34) = true := by
          show (!((S[k].toNat : Int) == 34)) = true
          rw [show ((S[k].toNat : Int) == 34) = false from h4]; rfl
        rw [hg] at h3
        have hx := HE.out k hlt
        have hki2 : (k : Int) + 1 ≤ l.length := by omega
        have hki0 : (k : Int) ≤ (k : Int) + 1 := by omega
        have hq := quo_plain [l[k]] (l.drop (k + 1)) (fun x hx => by
          simp only [List.mem_singleton] at hx
          subst hx
          simpa [nq] using h3)
        have HN : Hid (Tk.quoF (l.drop 1) = (Tk.quoF (l.drop (k + 1))).map fun p => ((acc ++ [l[k]]) ++ p.1, p.2)) := by
          show _ = _
          rw [HQ.out, hd, show l[k] :: l.drop (k + 1) = [l[k]] ++ l.drop (k + 1) from rfl, hq]
          cases Tk.quoF (l.drop (k + 1)) <;> simp
        have hno : ¬ 9223372036854775807 < acc.length + 1 := by omega
        have hl2 : (acc ++ [l[k]]).length ≤ k + 1 := by simp; omega
        obtain ⟨C, hC⟩ : ∃ C, C = ba (acc ++ [l[k]]) := ⟨_, rfl⟩
        have hcc : ba acc ++ ba [l[k]] = C := by rw [hC]; exact ba_app acc [l[k]]
        have HC : Hid (C = ba (acc ++ [l[k]])) := hC
        have hD : (ba [l[k]]).size = 1 := size_mk _
        clear h3 h4 hg hd HQ HO HG HE hC hq
        generalize ba [l[k]] = D at *
        obtain ⟨B, hB⟩ : ∃ B, B = ba acc := ⟨_, rfl⟩
        rw [← hB] at hsa hcc ⊢
        clear hB
        go_wp2
        go_round
        case rel => exact ⟨k + 1, acc ++ [l[k]], by omega, by omega, by go_num, by rw [HC.out], hl2, HN⟩
        case measure => simp [intOf]; omega
    · have hki : ¬ (k : Int) < l.length := by omega
      have HN : Hid (o = none) := by
        show _ = _
        rw [← HO.out, HQ.out, List.drop_eq_nil_of_le (by omega)]
        rfl
      clear HQ HO HG HE
      go_wp2
      refine bodyPost_ret (v := .tuple #[.agg tk0, .int .i64 0]) (ret_new tk0 rfl rfl rfl rfl) rfl ?_
      rw [HN.out]
      exact ⟨bel_alloc (Below.refl _ _) _, rfl⟩
theorem quoted_any (r : List UInt8) (hl : (34 :: r).length ≤ 255) (w : World) : Calls Tryz.prog 165 #[.string (ba (34 :: r))] w (AnsR w (34 :: r) ((Tk.quoF r).map fun p => (.str p.1, p.2))) :=
  quoted_core (34 :: r) (ba (34 :: r)) (size_mk _) (fun k h h2 => ba_get _ k h h2) (fun k h => ba_one _ k h) hl (by simp) w
end Go.Proofs.YtlndkjcincflpaaGreatDoor

namespace Go.Proofs.YtlndkjcincflpaaGreatDoor
open Go.RowKit
set_option maxRecDepth 100000
section
variable {w : World} {n p q1 n1 q2 n2 : Nat} {S A1 A2 D Wd K B H : ByteArray} {r c : Int} {fr fc : Bool}
set_option maxHeartbeats 4000000 in
theorem nmP_sheet_no (hs : S.size = n)
    (hn : n ≤ 255)
    (h0 : 0 < S.size)
    (h91 : ((S[0].toNat : Int) == 91) = false)
    (hA1 : S.extract 0 n = S)
    (RN1 : ∀ u, Calls Tryz.prog 202 #[.string S] u fun e w' => e = .returned (.int .i64 (n1 : Nat)) ∧ w' = u)
    (hle : n1 ≤ n)
    (hlt : n1 < S.size)
    (h33 : ((S[n1].toNat : Int) == 33) = true)
    (hA2 : S.extract (n1 + 1) n = A2)
    (RN2 : ∀ u, Calls Tryz.prog 202 #[.string A2] u fun e w' => e = .returned (.int .i64 (q2 : Nat)) ∧ w' = u)
    (hn2 : (n1 : Int) + (1 + (q2 : Int)) = (n2 : Nat))
    (hn2n : n2 ≤ n)
    (hD : S.extract 0 n2 = D)
    (PR : ∀ u, Calls Tryz.prog 203 #[.string D] u fun e w' => e = .returned (.tuple #[refV B H r c fr fc, .bool false]) ∧ Below u.heap.size u w') :
    Calls Tryz.prog 166 #[.string S] w fun e w' => e = .returned (.tuple #[.agg (tk0), .int .i64 0]) ∧ Below w.heap.size w w' := by
  have HZ0 : Hid (RZ w (w.alloc tkR)) := RZ.begin w
  have i0 : (n1 : Int) ≤ n := by omega
  have i1 : (n1 : Int) < n := by omega
  have i2 : (n1 : Int) + 1 ≤ n := by omega
  have i3 : (n2 : Int) ≤ n := by omega
  go_enter Tryz.func166, Tryz.ntmps166
  go_wp2_with (first
    | (go_at_call 202; refine (RN1 _).mono ?_; rintro e w' ⟨rfl, hw⟩; obtain rfl := hw.symm; clear hw RN1)
    | (go_at_call 202; refine (RN2 _).mono ?_; rintro e w' ⟨rfl, hw⟩; obtain rfl := hw.symm; clear hw RN2)
    | (go_at_call 203; refine (PR _).mono ?_; rintro e w5 ⟨rfl, hs5⟩; have HZ6 : Hid (RZ w (w5.alloc (refO B H r c fr fc))) := (HZ0.out.below hs5).alloc _; have RR := HZ6.out.put 0 0 noB noB noB 0 0 false false; clear hs5 HZ0)
    | (refine wpList_store_run rfl 138 _ _ rfl _ _ _ rfl rfl RR.out ?_))
  exact bodyPost_ret (v := .tuple #[.agg (tk0), .int .i64 0]) (HZ6.out.ans (tk0) rfl rfl rfl rfl) rfl ⟨rfl, HZ6.out.fin _⟩
set_option maxHeartbeats 4000000 in
theorem nmP_sheet_yes (hs : S.size = n)
    (hn : n ≤ 255)
    (h0 : 0 < S.size)
    (h91 : ((S[0].toNat : Int) == 91) = false)
    (hA1 : S.extract 0 n = S)
    (RN1 : ∀ u, Calls Tryz.prog 202 #[.string S] u fun e w' => e = .returned (.int .i64 (n1 : Nat)) ∧ w' = u)
    (hle : n1 ≤ n)
    (hlt : n1 < S.size)
    (h33 : ((S[n1].toNat : Int) == 33) = true)
    (hA2 : S.extract (n1 + 1) n = A2)
    (RN2 : ∀ u, Calls Tryz.prog 202 #[.string A2] u fun e w' => e = .returned (.int .i64 (q2 : Nat)) ∧ w' = u)
    (hn2 : (n1 : Int) + (1 + (q2 : Int)) = (n2 : Nat))
    (hn2n : n2 ≤ n)
    (hD : S.extract 0 n2 = D)
    (PR : ∀ u, Calls Tryz.prog 203 #[.string D] u fun e w' => e = .returned (.tuple #[refV B H r c fr fc, .bool true]) ∧ Below u.heap.size u w') :
    Calls Tryz.prog 166 #[.string S] w fun e w' => e = .returned (.tuple #[.agg (tcs 3 0 noB B H r c fr fc), .int .i64 (n2 : Int)]) ∧ Below w.heap.size w w' := by
  have HZ0 : Hid (RZ w (w.alloc tkR)) := RZ.begin w
  have i0 : (n1 : Int) ≤ n := by omega
  have i1 : (n1 : Int) < n := by omega
  have i2 : (n1 : Int) + 1 ≤ n := by omega
  have i3 : (n2 : Int) ≤ n := by omega
  go_enter Tryz.func166, Tryz.ntmps166
  go_wp2_with (first
    | (go_at_call 202; refine (RN1 _).mono ?_; rintro e w' ⟨rfl, hw⟩; obtain rfl := hw.symm; clear hw RN1)
    | (go_at_call 202; refine (RN2 _).mono ?_; rintro e w' ⟨rfl, hw⟩; obtain rfl := hw.symm; clear hw RN2)
    | (go_at_call 203; refine (PR _).mono ?_; rintro e w5 ⟨rfl, hs5⟩; have HZ6 : Hid (RZ w (w5.alloc (refO B H r c fr fc))) := (HZ0.out.below hs5).alloc _; have RR := HZ6.out.put 3 0 noB B H r c fr fc; clear hs5 HZ0)
    | (refine wpList_store_run rfl 138 _ _ rfl _ _ _ rfl rfl RR.out ?_))
  exact bodyPost_ret (v := .tuple #[.agg (tcs 3 0 noB B H r c fr fc), .int .i64 (n2 : Int)]) (HZ6.out.ans (tcs 3 0 noB B H r c fr fc) rfl rfl rfl rfl) rfl ⟨rfl, HZ6.out.fin _⟩
set_option maxHeartbeats 4000000 in
theorem nmP_cell_end (hs : S.size = n)
    (hn : n ≤ 255)
    (h0 : 0 < S.size)
    (h91 : ((S[0].toNat : Int) == 91) = false)
    (hA1 : S.extract 0 n = S)
    (RN1 : ∀ u, Calls Tryz.prog 202 #[.string S] u fun e w' => e = .returned (.int .i64 (n1 : Nat)) ∧ w' = u)
    (hle : n1 ≤ n)
    (hlt : ¬ n1 < n)
    (hW : S.extract 0 n1 = Wd)
    (CE : ∀ u, Calls Tryz.prog 204 #[.string Wd] u fun e w' => e = .returned (.tuple #[refV B H r c fr fc, .bool true]) ∧ Below u.heap.size u w') :
    Calls Tryz.prog 166 #[.string S] w fun e w' => e = .returned (.tuple #[.agg (tcs 3 0 noB B H r c fr fc), .int .i64 (n1 : Int)]) ∧ Below w.heap.size w w' := by
  have HZ0 : Hid (RZ w (w.alloc tkR)) := RZ.begin w
  have i0 : (n1 : Int) ≤ n := by omega
  have i1 : ¬ (n1 : Int) < n := by omega
  go_enter Tryz.func166, Tryz.ntmps166
  go_wp2_with (first
    | (go_at_call 202; refine (RN1 _).mono ?_; rintro e w' ⟨rfl, hw⟩; obtain rfl := hw.symm; clear hw RN1)
    | (go_at_call 204; refine (CE _).mono ?_; rintro e w5 ⟨rfl, hs5⟩; have HZ6 : Hid (RZ w (w5.alloc (refO B H r c fr fc))) := (HZ0.out.below hs5).alloc _; have RR := HZ6.out.put 3 0 noB B H r c fr fc; clear hs5 HZ0)
    | (refine wpList_store_run rfl 138 _ _ rfl _ _ _ rfl rfl RR.out ?_))
  exact bodyPost_ret (v := .tuple #[.agg (tcs 3 0 noB B H r c fr fc), .int .i64 (n1 : Int)]) (HZ6.out.ans (tcs 3 0 noB B H r c fr fc) rfl rfl rfl rfl) rfl ⟨rfl, HZ6.out.fin _⟩
set_option maxHeartbeats 4000000 in
theorem nmP_cell_sign (hs : S.size = n)
    (hn : n ≤ 255)
    (h0 : 0 < S.size)
    (h91 : ((S[0].toNat : Int) == 91) = false)
    (hA1 : S.extract 0 n = S)
    (RN1 : ∀ u, Calls Tryz.prog 202 #[.string S] u fun e w' => e = .returned (.int .i64 (n1 : Nat)) ∧ w' = u)
    (hle : n1 ≤ n)
    (hlt : n1 < S.size)
    (h33 : ((S[n1].toNat : Int) == 33) = false)
    (hW : S.extract 0 n1 = Wd)
    (CE : ∀ u, Calls Tryz.prog 204 #[.string Wd] u fun e w' => e = .returned (.tuple #[refV B H r c fr fc, .bool true]) ∧ Below u.heap.size u w') :
    Calls Tryz.prog 166 #[.string S] w fun e w' => e = .returned (.tuple #[.agg (tcs 3 0 noB B H r c fr fc), .int .i64 (n1 : Int)]) ∧ Below w.heap.size w w' := by
  have HZ0 : Hid (RZ w (w.alloc tkR)) := RZ.begin w
  have i0 : (n1 : Int) ≤ n := by omega
  have i1 : (n1 : Int) < n := by omega
  go_enter Tryz.func166, Tryz.ntmps166
  go_wp2_with (first
    | (go_at_call 202; refine (RN1 _).mono ?_; rintro e w' ⟨rfl, hw⟩; obtain rfl := hw.symm; clear hw RN1)
    | (go_at_call 204; refine (CE _).mono ?_; rintro e w5 ⟨rfl, hs5⟩; have HZ6 : Hid (RZ w (w5.alloc (refO B H r c fr fc))) := (HZ0.out.below hs5).alloc _; have RR := HZ6.out.put 3 0 noB B H r c fr fc; clear hs5 HZ0)
    | (refine wpList_store_run rfl 138 _ _ rfl _ _ _ rfl rfl RR.out ?_))
  exact bodyPost_ret (v := .tuple #[.agg (tcs 3 0 noB B H r c fr fc), .int .i64 (n1 : Int)]) (HZ6.out.ans (tcs 3 0 noB B H r c fr fc) rfl rfl rfl rfl) rfl ⟨rfl, HZ6.out.fin _⟩
end
end Go.Proofs.YtlndkjcincflpaaGreatDoor

namespace Go.Proofs.YtlndkjcincflpaaGreatDoor
open Go.RowKit
set_option maxRecDepth 100000
section
variable {w : World} {n p q1 n1 q2 n2 : Nat} {S A1 A2 D Wd K B H : ByteArray} {r c : Int} {fr fc : Bool}
set_option maxHeartbeats 4000000 in
theorem nmP_word_no_end (hs : S.size = n)
    (hn : n ≤ 255)
    (h0 : 0 < S.size)
    (h91 : ((S[0].toNat : Int) == 91) = false)
    (hA1 : S.extract 0 n = S)
    (RN1 : ∀ u, Calls Tryz.prog 202 #[.string S] u fun e w' => e = .returned (.int .i64 (n1 : Nat)) ∧ w' = u)
    (hle : n1 ≤ n)
    (hlt : ¬ n1 < n)
    (hW : S.extract 0 n1 = Wd)
    (CE : ∀ u, Calls Tryz.prog 204 #[.string Wd] u fun e w' => e = .returned (.tuple #[refV B H r c fr fc, .bool false]) ∧ Below u.heap.size u w')
    (WD : ∀ u, Calls Tryz.prog 205 #[.string Wd, .bool false] u fun e w' => e = .returned (.bool false) ∧ Below u.heap.size u w') :
    Calls Tryz.prog 166 #[.string S] w fun e w' => e = .returned (.tuple #[.agg (tk0), .int .i64 0]) ∧ Below w.heap.size w w' := by
  have HZ0 : Hid (RZ w (w.alloc tkR)) := RZ.begin w
  have i0 : (n1 : Int) ≤ n := by omega
  have i1 : ¬ (n1 : Int) < n := by omega
  go_enter Tryz.func166, Tryz.ntmps166
  go_wp2_with (first
    | (go_at_call 202; refine (RN1 _).mono ?_; rintro e w' ⟨rfl, hw⟩; obtain rfl := hw.symm; clear hw RN1)
    | (go_at_call 204; refine (CE _).mono ?_; rintro e w5 ⟨rfl, hs5⟩; have HZ6 : Hid (RZ w (w5.alloc (refO B H r c fr fc))) := (HZ0.out.below hs5).alloc _; clear hs5 HZ0)
    | (go_at_call 205; refine (WD _).mono ?_; rintro e w7 ⟨rfl, hs7⟩; have HZ7 : Hid (RZ w w7) := HZ6.out.below hs7; have RR := HZ7.out.put 0 0 noB noB noB 0 0 false false; clear hs7 HZ6)
    | (refine wpList_store_run rfl 138 _ _ rfl _ _ _ rfl rfl RR.out ?_))
  exact bodyPost_ret (v := .tuple #[.agg (tk0), .int .i64 0]) (HZ7.out.ans (tk0) rfl rfl rfl rfl) rfl ⟨rfl, HZ7.out.fin _⟩
set_option maxHeartbeats 4000000 in
theorem nmP_word_no_sign (hs : S.size = n)
    (hn : n ≤ 255)
    (h0 : 0 < S.size)
    (h91 : ((S[0].toNat : Int) == 91) = false)
    (hA1 : S.extract 0 n = S)
    (RN1 : ∀ u, Calls Tryz.prog 202 #[.string S] u fun e w' => e = .returned (.int .i64 (n1 : Nat)) ∧ w' = u)
    (hle : n1 ≤ n)
    (hlt : n1 < S.size)
    (h33 : ((S[n1].toNat : Int) == 33) = false)
    (hW : S.extract 0 n1 = Wd)
    (CE : ∀ u, Calls Tryz.prog 204 #[.string Wd] u fun e w' => e = .returned (.tuple #[refV B H r c fr fc, .bool false]) ∧ Below u.heap.size u w')
    (WD : ∀ u, Calls Tryz.prog 205 #[.string Wd, .bool false] u fun e w' => e = .returned (.bool false) ∧ Below u.heap.size u w') :
    Calls Tryz.prog 166 #[.string S] w fun e w' => e = .returned (.tuple #[.agg (tk0), .int .i64 0]) ∧ Below w.heap.size w w' := by
  have HZ0 : Hid (RZ w (w.alloc tkR)) := RZ.begin w
  have i0 : (n1 : Int) ≤ n := by omega
  have i1 : (n1 : Int) < n := by omega
  go_enter Tryz.func166, Tryz.ntmps166
  go_wp2_with (first
    | (go_at_call 202; refine (RN1 _).mono ?_; rintro e w' ⟨rfl, hw⟩; obtain rfl := hw.symm; clear hw RN1)
    | (go_at_call 204; refine (CE _).mono ?_; rintro e w5 ⟨rfl, hs5⟩; have HZ6 : Hid (RZ w (w5.alloc (refO B H r c fr fc))) := (HZ0.out.below hs5).alloc _; clear hs5 HZ0)
    | (go_at_call 205; refine (WD _).mono ?_; rintro e w7 ⟨rfl, hs7⟩; have HZ7 : Hid (RZ w w7) := HZ6.out.below hs7; have RR := HZ7.out.put 0 0 noB noB noB 0 0 false false; clear hs7 HZ6)
    | (refine wpList_store_run rfl 138 _ _ rfl _ _ _ rfl rfl RR.out ?_))
  exact bodyPost_ret (v := .tuple #[.agg (tk0), .int .i64 0]) (HZ7.out.ans (tk0) rfl rfl rfl rfl) rfl ⟨rfl, HZ7.out.fin _⟩
set_option maxHeartbeats 4000000 in
theorem nmP_word_yes_end (hs : S.size = n)
    (hn : n ≤ 255)
    (h0 : 0 < S.size)
    (h91 : ((S[0].toNat : Int) == 91) = false)
    (hA1 : S.extract 0 n = S)
    (RN1 : ∀ u, Calls Tryz.prog 202 #[.string S] u fun e w' => e = .returned (.int .i64 (n1 : Nat)) ∧ w' = u)
    (hle : n1 ≤ n)
    (hlt : ¬ n1 < n)
    (hW : S.extract 0 n1 = Wd)
    (CE : ∀ u, Calls Tryz.prog 204 #[.string Wd] u fun e w' => e = .returned (.tuple #[refV B H r c fr fc, .bool false]) ∧ Below u.heap.size u w')
    (WD : ∀ u, Calls Tryz.prog 205 #[.string Wd, .bool false] u fun e w' => e = .returned (.bool true) ∧ Below u.heap.size u w') :
    Calls Tryz.prog 166 #[.string S] w fun e w' => e = .returned (.tuple #[.agg (tcs 4 0 Wd noB noB 0 0 false false), .int .i64 (n1 : Int)]) ∧ Below w.heap.size w w' := by
  have HZ0 : Hid (RZ w (w.alloc tkR)) := RZ.begin w
  have i0 : (n1 : Int) ≤ n := by omega
  have i1 : ¬ (n1 : Int) < n := by omega
  go_enter Tryz.func166, Tryz.ntmps166
  go_wp2_with (first
    | (go_at_call 202; refine (RN1 _).mono ?_; rintro e w' ⟨rfl, hw⟩; obtain rfl := hw.symm; clear hw RN1)
    | (go_at_call 204; refine (CE _).mono ?_; rintro e w5 ⟨rfl, hs5⟩; have HZ6 : Hid (RZ w (w5.alloc (refO B H r c fr fc))) := (HZ0.out.below hs5).alloc _; clear hs5 HZ0)
    | (go_at_call 205; refine (WD _).mono ?_; rintro e w7 ⟨rfl, hs7⟩; have HZ7 : Hid (RZ w w7) := HZ6.out.below hs7; have RR := HZ7.out.put 4 0 Wd noB noB 0 0 false false; clear hs7 HZ6)
    | (refine wpList_store_run rfl 138 _ _ rfl _ _ _ rfl rfl RR.out ?_))
  exact bodyPost_ret (v := .tuple #[.agg (tcs 4 0 Wd noB noB 0 0 false false), .int .i64 (n1 : Int)]) (HZ7.out.ans (tcs 4 0 Wd noB noB 0 0 false false) rfl rfl rfl rfl) rfl ⟨rfl, HZ7.out.fin _⟩
set_option maxHeartbeats 4000000 in
theorem nmP_word_yes_sign (hs : S.size = n)
    (hn : n ≤ 255)
    (h0 : 0 < S.size)
    (h91 : ((S[0].toNat : Int) == 91) = false)
    (hA1 : S.extract 0 n = S)
    (RN1 : ∀ u, Calls Tryz.prog 202 #[.string S] u fun e w' => e = .returned (.int .i64 (n1 : Nat)) ∧ w' = u)
    (hle : n1 ≤ n)
    (hlt : n1 < S.size)
    (h33 : ((S[n1].toNat : Int) == 33) = false)
    (hW : S.extract 0 n1 = Wd)
    (CE : ∀ u, Calls Tryz.prog 204 #[.string Wd] u fun e w' => e = .returned (.tuple #[refV B H r c fr fc, .bool false]) ∧ Below u.heap.size u w')
    (WD : ∀ u, Calls Tryz.prog 205 #[.string Wd, .bool false] u fun e w' => e = .returned (.bool true) ∧ Below u.heap.size u w') :
    Calls Tryz.prog 166 #[.string S] w fun e w' => e = .returned (.tuple #[.agg (tcs 4 0 Wd noB noB 0 0 false false), .int .i64 (n1 : Int)]) ∧ Below w.heap.size w w' := by
  have HZ0 : Hid (RZ w (w.alloc tkR)) := RZ.begin w
  have i0 : (n1 : Int) ≤ n := by omega
  have i1 : (n1 : Int) < n := by omega
  go_enter Tryz.func166, Tryz.ntmps166
  go_wp2_with (first
    | (go_at_call 202; refine (RN1 _).mono ?_; rintro e w' ⟨rfl, hw⟩; obtain rfl := hw.symm; clear hw RN1)
    | (go_at_call 204; refine (CE _).mono ?_; rintro e w5 ⟨rfl, hs5⟩; have HZ6 : Hid (RZ w (w5.alloc (refO B H r c fr fc))) := (HZ0.out.below hs5).alloc _; clear hs5 HZ0)
    | (go_at_call 205; refine (WD _).mono ?_; rintro e w7 ⟨rfl, hs7⟩; have HZ7 : Hid (RZ w w7) := HZ6.out.below hs7; have RR := HZ7.out.put 4 0 Wd noB noB 0 0 false false; clear hs7 HZ6)
    | (refine wpList_store_run rfl 138 _ _ rfl _ _ _ rfl rfl RR.out ?_))
  exact bodyPost_ret (v := .tuple #[.agg (tcs 4 0 Wd noB noB 0 0 false false), .int .i64 (n1 : Int)]) (HZ7.out.ans (tcs 4 0 Wd noB noB 0 0 false false) rfl rfl rfl rfl) rfl ⟨rfl, HZ7.out.fin _⟩
end
end Go.Proofs.YtlndkjcincflpaaGreatDoor

namespace Go.Proofs.YtlndkjcincflpaaGreatDoor
open Go.RowKit
set_option maxRecDepth 100000
section
variable {w : World} {n p q1 n1 q2 n2 : Nat} {S A1 A2 D Wd K B H : ByteArray} {r c : Int} {fr fc : Bool}
set_option maxHeartbeats 4000000 in
theorem nmB_sheet_no (hs : S.size = n)
    (hn : n ≤ 255)
    (h0 : 0 < S.size)
    (h91 : ((S[0].toNat : Int) == 91) = true)
    {k0 : Nat}
    (k1 : 1 ≤ k0)
    (k2 : k0 < S.size)
    (hk : Hid (∀ k, 1 ≤ k → k < k0 → ∀ h : k < S.size, ((S[k].toNat : Int) != 93) = true))
    (hk0 : ((S[k0].toNat : Int) != 93) = false)
    (hK : S.extract 1 k0 = K)
    (hKe : (K.toList == []) = false)
    (RG : ∀ u, Calls Tryz.prog 55 #[.string K] u fun e w' => e = .returned (.bool true) ∧ Below u.heap.size u w')
    (hp : (k0 : Int) + 1 = (p : Nat))
    (hpn : p ≤ n)
    (hA1 : S.extract p n = A1)
    (RN1 : ∀ u, Calls Tryz.prog 202 #[.string A1] u fun e w' => e = .returned (.int .i64 (q1 : Nat)) ∧ w' = u)
    (hn1 : (p : Int) + (q1 : Int) = (n1 : Nat))
    (hle : n1 ≤ n)
    (hlt : n1 < S.size)
    (h33 : ((S[n1].toNat : Int) == 33) = true)
    (hA2 : S.extract (n1 + 1) n = A2)
    (RN2 : ∀ u, Calls Tryz.prog 202 #[.string A2] u fun e w' => e = .returned (.int .i64 (q2 : Nat)) ∧ w' = u)
    (hn2 : (n1 : Int) + (1 + (q2 : Int)) = (n2 : Nat))
    (hn2n : n2 ≤ n)
    (hD : S.extract 0 n2 = D)
    (PR : ∀ u, Calls Tryz.prog 203 #[.string D] u fun e w' => e = .returned (.tuple #[refV B H r c fr fc, .bool false]) ∧ Below u.heap.size u w') :
    Calls Tryz.prog 166 #[.string S] w fun e w' => e = .returned (.tuple #[.agg (tk0), .int .i64 0]) ∧ Below w.heap.size w w' := by
  have HZ0 : Hid (RZ w (w.alloc tkR)) := RZ.begin w
  have i0 : (n1 : Int) ≤ n := by omega
  have i1 : (n1 : Int) < n := by omega
  have i2 : (n1 : Int) + 1 ≤ n := by omega
  have i3 : (n2 : Int) ≤ n := by omega
  have i4 : (p : Int) ≤ n := by omega
  have j1 : (k0 : Int) < n := by omega
  have j2 : ((k0 : Int) == (n : Int)) = false := by simp; omega
  have j3 : (1 : Int) ≤ k0 := by omega
  have j4 : (k0 : Int) ≤ n := by omega
  go_enter Tryz.func166, Tryz.ntmps166
  go_wp2
  go_loop [6] (fun i => ∃ k : Nat, 1 ≤ k ∧ k ≤ k0 ∧ i = .int .i64 (k : Nat)) (fun i => k0 - (intOf i).toNat)
  case atStart => exact ⟨1, Nat.le_refl _, k1, rfl⟩
  case round =>
    obtain ⟨k, hk1, hk2, rfl⟩ := hrel
    by_cases hlk : k < k0
    · have g1 : (k : Int) < n := by omega
      have g2 : k < S.size := by omega
      have g3 := hk.out k hk1 hlk g2
      clear hk RN1 RG
      go_wp2
      go_round
      case rel => exact ⟨k + 1, by omega, by omega, by go_num⟩
      case measure => simp [intOf]; omega
    · obtain rfl : k = k0 := by omega
      clear hk hlk
      go_wp2_with (first
        | (go_at_call 55; refine (RG _).mono ?_; rintro e w4 ⟨rfl, hs4⟩; have HZ4 : Hid (RZ w w4) := HZ0.out.below hs4; clear hs4 HZ0 RG)
        | (go_at_call 202; refine (RN1 _).mono ?_; rintro e w' ⟨rfl, hw⟩; obtain rfl := hw.symm; clear hw RN1)
        | (go_at_call 202; refine (RN2 _).mono ?_; rintro e w' ⟨rfl, hw⟩; obtain rfl := hw.symm; clear hw RN2)
        | (go_at_call 203; refine (PR _).mono ?_; rintro e w5 ⟨rfl, hs5⟩; have HZ6 : Hid (RZ w (w5.alloc (refO B H r c fr fc))) := (HZ4.out.below hs5).alloc _; have RR := HZ6.out.put 0 0 noB noB noB 0 0 false false; clear hs5 HZ4)
        | (refine wpList_store_run rfl 138 _ _ rfl _ _ _ rfl rfl RR.out ?_))
      exact bodyPost_ret (v := .tuple #[.agg (tk0), .int .i64 0]) (HZ6.out.ans (tk0) rfl rfl rfl rfl) rfl ⟨rfl, HZ6.out.fin _⟩
set_option maxHeartbeats 4000000 in
theorem nmB_sheet_yes (hs : S.size = n)
    (hn : n ≤ 255)
    (h0 : 0 < S.size)
    (h91 : ((S[0].toNat : Int) == 91) = true)
    {k0 : Nat}
    (k1 : 1 ≤ k0)
    (k2 : k0 < S.size)
    (hk : Hid (∀ k, 1 ≤ k → k < k0 → ∀ h : k < S.size, ((S[k].toNat : Int) != 93) = true))
    (hk0 : ((S[k0].toNat : Int) != 93) = false)
    (hK : S.extract 1 k0 = K)
    (hKe : (K.toList == []) = false)
    (RG : ∀ u, Calls Tryz.prog 55 #[.string K] u fun e w' => e = .returned (.bool true) ∧ Below u.heap.size u w')
    (hp : (k0 : Int) + 1 = (p : Nat))
    (hpn : p ≤ n)
    (hA1 : S.extract p n = A1)
    (RN1 : ∀ u, Calls Tryz.prog 202 #[.string A1] u fun e w' => e = .returned (.int .i64 (q1 : Nat)) ∧ w' = u)
    (hn1 : (p : Int) + (q1 : Int) = (n1 : Nat))
    (hle : n1 ≤ n)
    (hlt : n1 < S.size)
    (h33 : ((S[n1].toNat : Int) == 33) = true)
    (hA2 : S.extract (n1 + 1) n = A2)
    (RN2 : ∀ u, Calls Tryz.prog 202 #[.string A2] u fun e w' => e = .returned (.int .i64 (q2 : Nat)) ∧ w' = u)
    (hn2 : (n1 : Int) + (1 + (q2 : Int)) = (n2 : Nat))
    (hn2n : n2 ≤ n)
    (hD : S.extract 0 n2 = D)
    (PR : ∀ u, Calls Tryz.prog 203 #[.string D] u fun e w' => e = .returned (.tuple #[refV B H r c fr fc, .bool true]) ∧ Below u.heap.size u w') :
    Calls Tryz.prog 166 #[.string S] w fun e w' => e = .returned (.tuple #[.agg (tcs 3 0 noB B H r c fr fc), .int .i64 (n2 : Int)]) ∧ Below w.heap.size w w' := by
  have HZ0 : Hid (RZ w (w.alloc tkR)) := RZ.begin w
  have i0 : (n1 : Int) ≤ n := by omega
  have i1 : (n1 : Int) < n := by omega
  have i2 : (n1 : Int) + 1 ≤ n := by omega
  have i3 : (n2 : Int) ≤ n := by omega
  have i4 : (p : Int) ≤ n := by omega
  have j1 : (k0 : Int) < n := by omega
  have j2 : ((k0 : Int) == (n : Int)) = false := by simp; omega
  have j3 : (1 : Int) ≤ k0 := by omega
  have j4 : (k0 : Int) ≤ n := by omega
  go_enter Tryz.func166, Tryz.ntmps166
  go_wp2
  go_loop [6] (fun i => ∃ k : Nat, 1 ≤ k ∧ k ≤ k0 ∧ i = .int .i64 (k : Nat)) (fun i => k0 - (intOf i).toNat)
  case atStart => exact ⟨1, Nat.le_refl _, k1, rfl⟩
  case round =>
    obtain ⟨k, hk1, hk2, rfl⟩ := hrel
    by_cases hlk : k < k0
    · have g1 : (k : Int) < n := by omega
      have g2 : k < S.size := by omega
      have g3 := hk.out k hk1 hlk g2
      clear hk RN1 RG
      go_wp2
      go_round
      case rel => exact ⟨k + 1, by omega, by omega, by go_num⟩
      case measure => simp [intOf]; omega
    · obtain rfl : k = k0 := by omega
      clear hk hlk
      go_wp2_with (first
        | (go_at_call 55; refine (RG _).mono ?_; rintro e w4 ⟨rfl, hs4⟩; have HZ4 : Hid (RZ w w4) := HZ0.out.below hs4; clear hs4 HZ0 RG)
        | (go_at_call 202; refine (RN1 _).mono ?_; rintro e w' ⟨rfl, hw⟩; obtain rfl := hw.symm; clear hw RN1)
        | (go_at_call 202; refine (RN2 _).mono ?_; rintro e w' ⟨rfl, hw⟩; obtain rfl := hw.symm; clear hw RN2)
        | (go_at_call 203; refine (PR _).mono ?_; rintro e w5 ⟨rfl, hs5⟩; have HZ6 : Hid (RZ w (w5.alloc (refO B H r c fr fc))) := (HZ4.out.below hs5).alloc _; have RR := HZ6.out.put 3 0 noB B H r c fr fc; clear hs5 HZ4)
        | (refine wpList_store_run rfl 138 _ _ rfl _ _ _ rfl rfl RR.out ?_))
      exact bodyPost_ret (v := .tuple #[.agg (tcs 3 0 noB B H r c fr fc), .int .i64 (n2 : Int)]) (HZ6.out.ans (tcs 3 0 noB B H r c fr fc) rfl rfl rfl rfl) rfl ⟨rfl, HZ6.out.fin _⟩
end
end Go.Proofs.YtlndkjcincflpaaGreatDoor
