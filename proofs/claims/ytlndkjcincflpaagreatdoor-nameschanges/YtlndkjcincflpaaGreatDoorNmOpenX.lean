/- NmRem, NmChk, NmLives, NmOpen. -/
import Derived.Test.YtlndkjcincflpaaGreatDoorNmDef2X
import Derived.ChangeArms
import Derived.ChangeOld
import Derived.WideShapes
set_option linter.unusedVariables false
set_option linter.unusedSimpArgs false
namespace Go.Proofs.YtlndkjcincflpaaGreatDoor
open Go.RowKit Go.Nm
set_option maxRecDepth 100000
theorem rem_pack (u : World) {p1 p3 : Option Addr} {n1 c1 n3 c3 : Nat} {L1 L3 : List NM} (h1 : Slc u p1 n1 c1 L1) (h3 : Slc u p3 n3 c3 L3) (hn : L1.length + L3.length ≤ 1000) :
    ∃ (v2 : Value) (w4 : World), Hid ((Instr.buildSlice 77 2 #[(0, .slice p1 n1 c1), (1, .slice p3 n3 c3)]).run Tryz.prog u = .ok v2 w4) ∧
      Calls Tryz.prog 38 #[v2] w4 fun e w' => ∃ v, e = .returned v ∧ Hid (OwnM u.heap.size w' v (L1 ++ L3)) ∧ Hid (Below u.heap.size u w') := by
  refine ⟨_, _, nslice2 _ _ _ _ _ _ _, (concat2 u h1 h3 hn).mono ?_⟩
  rintro e w' ⟨v, rfl, hO, hb⟩
  exact ⟨v, rfl, hO, hb⟩
section
variable {s nm : ByteArray} {w : World} {p : Option Addr} {n c k : Nat} {L : List NM}
set_option maxHeartbeats 8000000 in
theorem rem_none (C2 : ∀ u, Below w.heap.size w u → Calls Tryz.prog 37 #[.slice p n c, nmV ⟨s, nm, ⟨#[]⟩⟩, cmpV] u fun e w' => e = .returned (.tuple #[.int .i64 (k : Nat), .bool false]) ∧ Below u.heap.size u w') :
    Calls Tryz.prog 12 #[.slice p n c, .string s, .string nm] w fun e w' => OutM w.heap.size w' e [] 6 ∧ Below w.heap.size w w' := by
  have RB : Hid _ := nbuild2 w s nm
  have C := C2 w (Below.refl _ _)
  clear C2
  go_enter Tryz.func12, Tryz.ntmps12
  go_wp2_with (first
    | (refine nl_build rfl 24 _ rfl _ _ (by go_simp) RB.out ?_; clear RB)
    | (go_at_call 37; refine C.mono ?_; rintro e w1 ⟨rfl, hb⟩; have HB1 : Hid _ := hb; clear hb))
  go_ret2
  exact ⟨⟨_, rfl, OwnM.nil _ _⟩, HB1.out⟩
set_option maxHeartbeats 8000000 in
theorem rem_there (h : Slc w p n c L) (hm : L.length ≤ 900) (hk : k < L.length) (C2 : ∀ u, Below w.heap.size w u → Calls Tryz.prog 37 #[.slice p n c, nmV ⟨s, nm, ⟨#[]⟩⟩, cmpV] u fun e w' => e = .returned (.tuple #[.int .i64 (k : Nat), .bool true]) ∧ Below u.heap.size u w') :
    Calls Tryz.prog 12 #[.slice p n c, .string s, .string nm] w fun e w' => OutM w.heap.size w' e (L.take k ++ L.drop (k + 1)) 0 ∧ Below w.heap.size w w' := by
  have RB : Hid _ := nbuild2 w s nm
  have C := C2 w (Below.refl _ _)
  obtain ⟨j, hj⟩ : ∃ j, k + 1 = j := ⟨_, rfl⟩
  have hji : (k : Int) + 1 = (j : Int) := by omega
  have hjw : IntKind.i64.wrap (j : Int) = (j : Int) := by rw [IntKind.wrap_i64]; omega
  have hnl := h.r.1
  obtain ⟨p1, R1', S1⟩ := cut_pre (k := k) h (by omega)
  obtain ⟨p3, R3, S3⟩ := cut_suf (k := j) h (by omega)
  rw [hj]
  have R3h : Hid _ := R3
  have R1 : Hid _ := R1'
  have HS3 : Hid _ := S3
  have HS1 : Hid _ := S1
  have HSL : Hid _ := h
  have HL : Hid (L.length ≤ 900) := hm
  clear C2 R3 R1' S1 S3 h hj hk hm hnl
  generalize n - j = n3 at *
  generalize c - j = c3 at *
  go_enter Tryz.func12, Tryz.ntmps12
  go_wp2_with (first
    | (refine nl_build rfl 24 _ rfl _ _ (by go_simp) RB.out ?_; clear RB)
    | (go_at_call 37; refine C.mono ?_; rintro e w1 ⟨rfl, hb⟩; have HB1 : Hid _ := hb; clear hb))
  have HBd : Hid (Below w.heap.size w w1.drew) := HB1.out.drew
  clear C HB1
  refine wp_region_d (fun _ => True) (fun _ => true) (by kernel_rfl) ?_
  generalize w1.drew = u0 at *
  obtain ⟨v2, w4, RB2, CC⟩ := rem_pack u0 (HS1.out _ (HSL.out.below HBd.out)) (HS3.out _ (HSL.out.below HBd.out)) (by have := HL.out; simp; omega)
  clear HS1 HS3 HSL HL
  refine wpAnyD_pured (i := 0) (v := .slice p n c) rfl rfl (by kernel_rfl) (by kernel_rfl) (by kernel_rfl) (fun _ _ _ h => h) (by go_simp) (by intro u; go_simp) ?_
  try simp only [Act.put, List.setIfInBounds_toArray, List.set_cons_zero, List.set_cons_succ]
  refine wpAnyD_pured (i := 1) (v := .int .i64 (k : Int)) rfl rfl (by kernel_rfl) (by kernel_rfl) (by kernel_rfl) (fun _ _ _ h => h) (by go_simp) (by intro u; go_simp) ?_
  try simp only [Act.put, List.setIfInBounds_toArray, List.set_cons_zero, List.set_cons_succ]
  refine wpAnyD_pured (i := 2) (v := .slice p1 k c) rfl rfl (by kernel_rfl) (by kernel_rfl) (by kernel_rfl) (fun _ _ _ h => h) (by go_simp) (fun u => nexec_slice rfl rfl rfl rfl rfl (R1.out u)) ?_
  try simp only [Act.put, List.setIfInBounds_toArray, List.set_cons_zero, List.set_cons_succ]
  refine wpAnyD_pured (i := 3) (v := .slice p n c) rfl rfl (by kernel_rfl) (by kernel_rfl) (by kernel_rfl) (fun _ _ _ h => h) (by go_simp) (by intro u; go_simp) ?_
  try simp only [Act.put, List.setIfInBounds_toArray, List.set_cons_zero, List.set_cons_succ]
  refine wpAnyD_pured (i := 4) (v := .int .i64 (k : Int)) rfl rfl (by kernel_rfl) (by kernel_rfl) (by kernel_rfl) (fun _ _ _ h => h) (by go_simp) (by intro u; go_simp) ?_
  try simp only [Act.put, List.setIfInBounds_toArray, List.set_cons_zero, List.set_cons_succ]
  refine wpAnyD_pured (i := 5) (v := .int .i64 (j : Int)) rfl rfl (by kernel_rfl) (by kernel_rfl) (by kernel_rfl) (fun _ _ _ h => h) (by go_simp) (by intro u; go_simp) ?_
  try simp only [Act.put, List.setIfInBounds_toArray, List.set_cons_zero, List.set_cons_succ]
  refine wpAnyD_pured (i := 6) (v := .slice p3 n3 c3) rfl rfl (by kernel_rfl) (by kernel_rfl) (by kernel_rfl) (fun _ _ _ h => h) (by go_simp) (fun u => nexec_slice rfl rfl rfl rfl rfl (R3h.out u)) ?_
  try simp only [Act.put, List.setIfInBounds_toArray, List.set_cons_zero, List.set_cons_succ]
  refine wpAnyD_one (i := 7) (by kernel_rfl) rfl ?_
  intro K' hK'
  rw [if_pos (by go_simp)]
  refine nwp_bslice (some 27) rfl 77 2 _ rfl _ _ (by go_simp) RB2.out (hK' _ _ (.inl rfl) ?_)
  clear hK'
  try simp only [Act.put, List.setIfInBounds_toArray, List.set_cons_zero, List.set_cons_succ]
  refine wpAnyD_one (i := 8) (by kernel_rfl) rfl ?_
  intro K' hK'
  go_simp
  refine CC.mono ?_
  rintro e w5 ⟨v, rfl, HO5, HB5⟩
  refine hK' _ _ (.inl rfl) ?_
  clear hK' CC
  try simp only [Act.put, List.setIfInBounds_toArray, List.set_cons_zero, List.set_cons_succ]
  refine wpAnyD_pured (i := 9) (v := v) rfl rfl (by kernel_rfl) (by kernel_rfl) (by kernel_rfl) (fun _ _ _ h => h) (by go_simp) (by intro u; go_simp) ?_
  try simp only [Act.put, List.setIfInBounds_toArray, List.set_cons_zero, List.set_cons_succ]
  refine wpAnyD_pured (i := 10) (v := .int .i64 0) rfl rfl (by kernel_rfl) (by kernel_rfl) (by kernel_rfl) (fun _ _ _ h => h) (by go_simp) (by intro u; go_simp) ?_
  try simp only [Act.put, List.setIfInBounds_toArray, List.set_cons_zero, List.set_cons_succ]
  refine wpAnyD_done (by kernel_rfl) ?_ _
  go_wp2
  go_ret2
  exact ⟨⟨_, rfl, HO5.out.base HBd.out.size⟩, bel_step HBd.out HB5.out⟩
end
def RemR (L : List NM) (x : NM) (er : Int) (M : List NM) : Prop := ∃ k b, PlaceR L x k b ∧ ((b = false ∧ er = 6 ∧ M = []) ∨ (b = true ∧ er = 0 ∧ M = remP L k))
theorem remove_any (L : List NM) (s nm : ByteArray) (w : World) (p : Option Addr) (n c : Nat) (h : Slc w p n c L) (hn : L.length ≤ 900) :
    ∃ er M, RemR L ⟨s, nm, ⟨#[]⟩⟩ er M ∧ Calls Tryz.prog 12 #[.slice p n c, .string s, .string nm] w fun e w' => OutM w.heap.size w' e M er ∧ Below w.heap.size w w' := by
  obtain ⟨k, b, hP, hk⟩ := place_ex L ⟨s, nm, ⟨#[]⟩⟩
  have C2 : ∀ u, Below w.heap.size w u → Calls Tryz.prog 37 #[.slice p n c, nmV ⟨s, nm, ⟨#[]⟩⟩, cmpV] u fun e w' => e = .returned (.tuple #[.int .i64 (k : Nat), .bool b]) ∧ Below u.heap.size u w' := fun u hu => place_det hP (by omega) u p n c (h.r.below hu)
  cases b with
  | true => exact ⟨0, remP L k, ⟨k, true, hP, .inr ⟨rfl, rfl, rfl⟩⟩, rem_there h hn (place_lt hP) C2⟩
  | false => exact ⟨6, [], ⟨k, false, hP, .inl ⟨rfl, rfl, rfl⟩⟩, rem_none C2⟩
end Go.Proofs.YtlndkjcincflpaaGreatDoor

namespace Go.Proofs.YtlndkjcincflpaaGreatDoor
open Go.RowKit Go.Nm
set_option maxRecDepth 100000
def wrA : List NM → Int
  | [] => 0
  | x :: l => if wrN x ≠ 0 then wrN x else wrA l
def chkN (b : Bool) (L : List NM) : Int := if wrA L ≠ 0 then wrA L else if 32 < L.length ∨ b = false then 9 else 0
theorem wrA_zero : ∀ {L : List NM}, (∀ z ∈ L, wrN z = 0) → wrA L = 0
  | [], _ => rfl
  | x :: l, h => by
    unfold wrA
    rw [if_neg (by simpa using h x (by simp))]
    exact wrA_zero fun z hz => h z (by simp [hz])
theorem wrA_of : ∀ {L : List NM}, wrA L = 0 → ∀ z ∈ L, wrN z = 0
  | [], _, z, hz => by cases hz
  | x :: l, h, z, hz => by
    unfold wrA at h
    by_cases hx : wrN x = 0
    · rw [if_neg (by simpa using hx)] at h
      rcases List.mem_cons.1 hz with rfl | hz
      · exact hx
      · exact wrA_of h z hz
    · rw [if_pos hx] at h
      exact absurd h hx
theorem wrA_first {y : NM} {q : List NM} : ∀ {p : List NM}, (∀ z ∈ p, wrN z = 0) → wrN y ≠ 0 → wrA (p ++ y :: q) = wrN y
  | [], _, hy => by rw [List.nil_append]; unfold wrA; rw [if_pos hy]
  | z :: p, h, hy => by
    rw [List.cons_append]
    unfold wrA
    rw [if_neg (by simpa using h z (by simp))]
    exact wrA_first (fun z hz => h z (by simp [hz])) hy
theorem chk_first {b : Bool} {L : List NM} {k : Nat} (h : ∀ z ∈ L.take k, wrN z = 0) (hk : k < L.length) (hy : wrN L[k] ≠ 0) : chkN b L = wrN L[k] := by
  have e : L = L.take k ++ L[k] :: L.drop (k + 1) := by rw [← List.drop_eq_getElem_cons hk, List.take_append_drop]
  have : wrA L = wrN L[k] := by conv => lhs; rw [e]
                                exact wrA_first h hy
  unfold chkN
  rw [this, if_pos hy]
theorem chk_last {b : Bool} {L : List NM} (h : ∀ z ∈ L, wrN z = 0) : chkN b L = if 32 < L.length ∨ b = false then 9 else 0 := by
  unfold chkN
  rw [wrA_zero h, if_neg (by simp)]
set_option maxHeartbeats 8000000 in
theorem check_any (L : List NM) (hn : L.length ≤ 900) (hz : ∀ z ∈ L, ZN z) (b : Bool) (hb : b = true ↔ Rise L) (w : World) (T : Tab9 w) (p : Option Addr) (m c : Nat) (h : Rds w p m L) :
    Calls Tryz.prog 21 #[.slice p m c] w fun e w' => e = .returned (.int .i64 (chkN b L)) ∧ Below w.heap.size w w' := by
  have HR : Hid (Rds w p m L) := h
  have HN : Hid (m = L.length) := h.1
  have hn2 : m ≤ 900 := by rw [h.1]; exact hn
  have HZ : Hid (∀ z ∈ L, ZN z) := hz
  have HT : Hid (Tab9 w) := T
  have Hb : Hid (b = true ↔ Rise L) := hb
  have HRI : Hid (∀ u, Below w.heap.size w u → Calls Tryz.prog 40 #[.slice p m c] u fun e w' => e = .returned (.bool b) ∧ Below u.heap.size u w') := fun u hu => rises_any L (by omega) b hb u p m c (h.below hu)
  clear h hn hb hz T
  go_enter Tryz.func21, Tryz.ntmps21
  go_wp2
  go_loopw [8] (fun i wr => ∃ (k : Nat), k ≤ m ∧ i = .int .i64 (k : Nat) ∧ Hid (∀ z ∈ L.take k, wrN z = 0) ∧ Hid (Below w.heap.size w wr)) (fun i _ => m - (intOf i).toNat)
  case atStart => exact ⟨0, Nat.zero_le _, rfl, fun z hz => by simp at hz, Below.refl _ _⟩
  case round =>
    obtain ⟨k, hk, rfl, HA, HB⟩ := hrel
    by_cases hlt : k < m
    · have hki : (k : Int) < m := by omega
      have hkL : k < L.length := by rw [← HN.out]; exact hlt
      obtain ⟨a', rfl, RL⟩ := (HR.out.below HB.out).load hkL
      have RLh : Hid _ := RL
      have RS : Hid _ := mbox wr L[k]
      have RL2 : Hid _ := nload (heap_alloc_new wr (nmO L[k]))
      have HBa : Hid (Below w.heap.size w (wr.alloc (nmO L[k]))) := bel_alloc HB.out _
      have C := wrong_any L[k] (HZ.out _ (List.getElem_mem hkL)) (wr.alloc (nmO L[k])) (HT.out.below HBa.out)
      have HF : Hid (wrN L[k] ≠ 0 → chkN b L = wrN L[k]) := fun e => chk_first HA.out hkL e
      have HG : Hid (wrN L[k] = 0 → ∀ z ∈ L.take (k + 1), wrN z = 0) := fun e z hz => by
        rcases take_succ_mem hkL hz with hz | rfl
        · exact HA.out z hz
        · exact e
      clear RL HA
      generalize L[k] = y at *
      generalize wrN y = er at *
      by_cases he : er = 0
      · have HG2 : Hid _ := HG.out he
        subst he
        clear HF HG
        go_wp2_with (first
          | (refine nl_load rfl 24 _ rfl _ _ rfl RLh.out ?_; clear RLh)
          | (refine nl_store rfl 24 _ _ rfl _ _ _ rfl rfl RS.out ?_; clear RS)
          | (refine nl_load rfl 24 _ rfl _ _ rfl RL2.out ?_; clear RL2)
          | (go_at_call 36; refine C.mono ?_; rintro e w1 ⟨rfl, hb⟩; have HB1 : Hid (Below w.heap.size w w1) := bel_step HBa.out hb; clear hb))
        go_roundw
        case rel => exact ⟨k + 1, by omega, by go_num, HG2, HB1⟩
        case measure => simp [intOf]; omega
      · have HF2 : Hid _ := HF.out he
        have heb : (er != 0) = true := by simpa using he
        clear HF HG he
        go_wp2_with (first
          | (refine nl_load rfl 24 _ rfl _ _ rfl RLh.out ?_; clear RLh)
          | (refine nl_store rfl 24 _ _ rfl _ _ _ rfl rfl RS.out ?_; clear RS)
          | (refine nl_load rfl 24 _ rfl _ _ rfl RL2.out ?_; clear RL2)
          | (go_at_call 36; refine C.mono ?_; rintro e w1 ⟨rfl, hb⟩; have HB1 : Hid (Below w.heap.size w w1) := bel_step HBa.out hb; clear hb))
        go_ret
        exact ⟨by rw [HF2.out]; rfl, HB1.out⟩
    · have hki : ¬ (k : Int) < m := by omega
      have HA2 : Hid (∀ z ∈ L, wrN z = 0) := by have := HA.out; rw [List.take_of_length_le (by rw [← HN.out]; omega)] at this; exact this
      have HC : Hid (chkN b L = if 32 < m ∨ b = false then 9 else 0) := by show _ = _; rw [chk_last HA2.out, HN.out]
      clear HA
      by_cases hm : 32 < m
      · have hmi : (32 : Int) < m := by omega
        have hR : Hid (chkN _ L = 9) := (show chkN _ L = 9 from by rw [HC.out, if_pos (.inl hm)])
        clear HC
        go_wp2
        go_ret
        exact ⟨by rw [hR.out]; rfl, HB.out⟩
      · have hmi : ¬ (32 : Int) < m := by omega
        have C := HRI.out _ HB.out
        cases b with
        | true =>
          have hR : Hid (chkN _ L = 0) := (show chkN _ L = 0 from by rw [HC.out, if_neg (by simp [hm])])
          clear HC
          go_wp2_with (go_at_call 40; refine C.mono ?_; rintro e w1 ⟨rfl, hb⟩; have HB1 : Hid (Below w.heap.size w w1) := bel_step HB.out hb; clear hb)
          go_ret
          exact ⟨by rw [hR.out]; rfl, HB1.out⟩
        | false =>
          have hR : Hid (chkN _ L = 9) := (show chkN _ L = 9 from by rw [HC.out, if_pos (.inr rfl)])
          clear HC
          go_wp2_with (go_at_call 40; refine C.mono ?_; rintro e w1 ⟨rfl, hb⟩; have HB1 : Hid (Below w.heap.size w w1) := bel_step HB.out hb; clear hb)
          go_ret
          exact ⟨by rw [hR.out]; rfl, HB1.out⟩
end Go.Proofs.YtlndkjcincflpaaGreatDoor

namespace Go.Proofs.YtlndkjcincflpaaGreatDoor
open Go.RowKit Go.Nm Go.Fm
set_option maxRecDepth 100000
abbrev ex1 : NM := ⟨⟨#[]⟩, ⟨#[116, 97, 120]⟩, ⟨#[49, 47, 53]⟩⟩
abbrev ex2 : NM := ⟨⟨#[74, 97, 110]⟩, ⟨#[116, 97, 120]⟩, ⟨#[49, 47, 52]⟩⟩
abbrev ex3 : NM := ⟨⟨#[]⟩, ⟨#[65, 49]⟩, ⟨#[49]⟩⟩
theorem nwr1 : wrN ex1 = 0 := by kernel_rfl
theorem nwr2 : wrN ex2 = 0 := by kernel_rfl
theorem nwr3 : wrN ex3 = 8 := by kernel_rfl
theorem bld1 (w : World) : (Instr.build 24 #[(1, .string ⟨#[116, 97, 120]⟩), (2, .string ⟨#[49, 47, 53]⟩)]).run Tryz.prog w = .ok (nmV ex1) w := by kernel_rfl
theorem bld2 (w : World) : (Instr.build 24 #[(0, .string ⟨#[74, 97, 110]⟩), (1, .string ⟨#[116, 97, 120]⟩), (2, .string ⟨#[49, 47, 52]⟩)]).run Tryz.prog w = .ok (nmV ex2) w := by kernel_rfl
theorem bld3 (w : World) : (Instr.build 24 #[(1, .string ⟨#[65, 49]⟩), (2, .string ⟨#[49]⟩)]).run Tryz.prog w = .ok (nmV ex3) w := by kernel_rfl
theorem slc_nil (w : World) : Slc w none 0 0 [] := ⟨Rds.nil _ _, Nat.le_refl _, fun _ => rfl⟩
theorem find_kn (s n t : ByteArray) (L : List NM) : findK ⟨s, n, ⟨#[]⟩⟩ L = findK ⟨s, n, t⟩ L := by
  induction L with
  | nil => rfl
  | cons y L ih => unfold findK; rw [ih]; rfl
theorem def_rise {L : List NM} {x : NM} {er : Int} {M : List NM} (hr : Rise L) (h : DefR L x er M) :
    (er = 0 ∧ wrN x = 0 ∧ M = insR x L false ∧ Rise M ∧ findK x M = some x ∧ (∀ z ∈ M, z = x ∨ z ∈ L) ∧ ((findK x L).isSome = true ∨ L.length < 32) ∧ M.length ≤ L.length + 1) ∨ (er ≠ 0 ∧ M = [] ∧ ((wrN x ≠ 0 ∧ er = wrN x) ∨ (wrN x = 0 ∧ findK x L = none ∧ 32 ≤ L.length ∧ er = 9))) := by
  rcases h with ⟨hw, rfl, rfl⟩ | ⟨hw, k, b, hP, h⟩
  · exact .inr ⟨hw, rfl, .inl ⟨hw, rfl⟩⟩
  · rcases h with ⟨rfl, hm, rfl, rfl⟩ | ⟨hb, rfl, rfl⟩
    · refine .inr ⟨by decide, rfl, .inr ⟨hw, ?_, hm, rfl⟩⟩
      rcases find_place hP with ⟨_, e⟩ | ⟨y, e, _⟩
      · exact e
      · cases e
    · obtain ⟨h1, h2, h3, h4⟩ := ins_same hr hP
      refine .inl ⟨rfl, hw, h1, h2, h3, h4, ?_, ?_⟩
      · rcases hb with rfl | hb
        · rcases find_place hP with ⟨e, _⟩ | ⟨y, _, _, e⟩
          · cases e
          · rw [e]; exact .inl rfl
        · exact .inr hb
      · unfold insP
        simp only [List.length_append, List.length_cons, List.length_take, List.length_drop]
        omega
theorem def_exact (w : World) {L : List NM} {x : NM} {p : Option Addr} {n c : Nat} {er : Int} {M : List NM} {e : Ending} {w' : World} (h : OutM w.heap.size w' e M er) : ∃ q d, e = .returned (.tuple #[.slice q M.length d, .int .i64 er]) ∧ Slc w' q M.length d M := by
  obtain ⟨v, rfl, ho⟩ := h
  obtain ⟨q, d, rfl, hs⟩ := ho.slc
  exact ⟨q, d, rfl, hs⟩
set_option maxHeartbeats 8000000 in
theorem nlives_any (w : World) (T : Tab9 w) : Calls Tryz.prog 8 #[] w fun e w' => e = .returned (.bool true) ∧ Below w.heap.size w w' := by
  have z1 : ZN ex1 := ⟨by decide, by decide⟩
  have z2 : ZN ex2 := ⟨by decide, by decide⟩
  have z3 : ZN ex3 := ⟨by decide, by decide⟩
  have C1 : Calls Tryz.prog 10 #[.slice none 0 0, nmV ex1] w fun e w' => ∃ q d, e = .returned (.tuple #[.slice q 1 d, .int .i64 0]) ∧ Hid (Slc w' q 1 d [ex1] ∧ Below w.heap.size w w') := by
    obtain ⟨er, M, hD, C⟩ := define_any [] ex1 z1 w T none 0 0 (slc_nil w) (by simp)
    have hr : Rise [] := List.Pairwise.nil
    rcases def_rise hr hD with ⟨rfl, _, hM, _⟩ | ⟨_, _, ⟨h, _⟩ | ⟨_, _, h, _⟩⟩
    · have hM1 : M = [ex1] := hM
      subst hM1
      refine C.mono ?_
      rintro e w' ⟨ho, hb⟩
      obtain ⟨q, d, rfl, hs⟩ := def_exact (L := []) (x := ex1) (p := none) (n := 0) (c := 0) w ho
      exact ⟨q, d, rfl, hs, hb⟩
    · exact absurd nwr1 h
    · simp at h
  have C2 : ∀ u q d, Slc u q 1 d [ex1] → Below w.heap.size w u → Calls Tryz.prog 10 #[.slice q 1 d, nmV ex2] u fun e w' => ∃ q2 d2 n2, e = .returned (.tuple #[.slice q2 n2 d2, .int .i64 0]) ∧ Hid (∃ M, Slc w' q2 n2 d2 M ∧ M.length ≤ 900 ∧ findK ex2 M = some ex2 ∧ Below w.heap.size w w') := fun u q d hs hu => by
    obtain ⟨er, M, hD, C⟩ := define_any [ex1] ex2 z2 u (T.below hu) q 1 d hs (by simp)
    have hr : Rise [ex1] := List.pairwise_singleton _ _
    rcases def_rise hr hD with ⟨rfl, _, _, _, hf, _, _, hl⟩ | ⟨_, _, ⟨h, _⟩ | ⟨_, _, h, _⟩⟩
    · refine C.mono ?_
      rintro e w' ⟨ho, hb⟩
      obtain ⟨q2, d2, rfl, hs2⟩ := def_exact (L := []) (x := ex1) (p := none) (n := 0) (c := 0) u ho
      simp only [List.length_cons, List.length_nil] at hl
      exact ⟨q2, d2, M.length, rfl, M, hs2, by omega, hf, bel_step hu hb⟩
    · exact absurd nwr2 h
    · simp at h
  have C3 : ∀ u q n c M, Slc u q n c M → M.length ≤ 900 → findK ex2 M = some ex2 → Calls Tryz.prog 19 #[.slice q n c, .string ⟨#[74, 97, 110]⟩, .string ⟨#[116, 97, 120]⟩] u fun e w' => e = .returned (.tuple #[nmV ex2, .bool true]) ∧ Below u.heap.size u w' := fun u q n c M hs hl hf => by
    have := resolve_any M ⟨#[74, 97, 110]⟩ ⟨#[116, 97, 120]⟩ (by omega) u q n c hs.r
    unfold resK at this
    rw [find_kn _ _ ⟨#[49, 47, 52]⟩, hf] at this
    exact this
  have C4 : ∀ u, Below w.heap.size w u → Calls Tryz.prog 10 #[.slice none 0 0, nmV ex3] u fun e w' => e = .returned (.tuple #[.slice none 0 0, .int .i64 8]) ∧ Below u.heap.size u w' := fun u hu => by
    have hw : wrN ex3 ≠ 0 := by rw [nwr3]; decide
    have HB0 : Below u.heap.size u (u.alloc (nmO ex3)) := bel_alloc (Below.refl _ _) _
    have C := wrong_any ex3 z3 _ ((T.below hu).below HB0)
    rw [nwr3] at C
    have RX : Hid _ := nload (heap_alloc_new u (nmO ex3))
    have HBh : Hid _ := HB0
    clear HB0
    go_enter Tryz.func10, Tryz.ntmps10
    go_wp2_with (first
      | (refine nl_load rfl 24 _ rfl _ _ rfl RX.out ?_; clear RX)
      | (go_at_call 36; refine C.mono ?_; rintro e w1 ⟨rfl, hb⟩; have HB1 : Hid _ := bel_step HBh.out hb; clear hb))
    go_ret2
    exact ⟨rfl, HB1.out⟩
  have HC2 : Hid _ := C2
  have HC3 : Hid _ := C3
  have HC4 : Hid _ := C4
  clear C2 C3 C4 T z1 z2 z3
  have R1 : Hid _ := bld1 w
  go_enter Tryz.func8, Tryz.ntmps8
  go_wp2_with (first
    | (refine nl_build rfl 24 _ rfl _ _ (by go_simp) R1.out ?_; clear R1)
    | (go_at_call 10; refine C1.mono ?_; rintro e w1 ⟨q, d, rfl, H1⟩; clear C1; have R2 : Hid _ := bld2 w1)
    | (refine nl_build rfl 24 _ rfl _ _ (by go_simp) R2.out ?_; clear R2)
    | (go_at_call 10; refine (HC2.out _ _ _ H1.out.1 H1.out.2).mono ?_; clear HC2 H1; rintro e w2 ⟨q2, d2, n2, rfl, H2⟩; obtain ⟨M, hs2, hl2, hf2, hb2⟩ := H2.out; have C3' := HC3.out _ _ _ _ _ hs2 hl2 hf2; have HB2 : Hid _ := hb2; clear hs2 hl2 hf2 hb2 HC3)
    | (go_at_call 19; refine C3'.mono ?_; clear C3'; rintro e w3 ⟨rfl, hb⟩; have RS : Hid _ := mbox w3 ex2; have HX : Hid _ := heap_alloc_new w3 (nmO ex2); have HB3 : Hid (Below w.heap.size w (w3.alloc (nmO ex2))) := bel_alloc (bel_step HB2.out hb) _; have R3 : Hid _ := bld3 (w3.alloc (nmO ex2)); clear hb)
    | (refine nl_store rfl 24 _ _ rfl _ _ _ rfl rfl RS.out ?_; clear RS)
    | (refine nl_build rfl 24 _ rfl _ _ (by go_simp) R3.out ?_; clear R3)
    | (go_at_call 10; refine (HC4.out _ HB3.out).mono ?_; clear HC4; rintro e w4 ⟨rfl, hb⟩; have hcc := n_cells ((hb.block _ (lt_of HX.out)).trans HX.out); have HB4 : Hid _ := bel_step HB3.out hb; clear hb))
  go_ret
  exact ⟨rfl, HB4.out⟩
end Go.Proofs.YtlndkjcincflpaaGreatDoor

namespace Go.Proofs.YtlndkjcincflpaaGreatDoor
open Go.ChangeShapes Go.WideShapes Go.RowKit Go.Nm
set_option maxRecDepth 100000
theorem wideN : Tryz.prog.cellsOf 9 = 1 ∧ Tryz.prog.cellsOf 22 = 1 ∧ Tryz.prog.cellsOf 24 = 3 := by
  refine ⟨?_, ?_, ?_⟩ <;> kernel_rfl
theorem list3 {α : Type} {l : List α} (h : l.length = 3) : ∃ c0 c1 c2, l = [c0, c1, c2] := by
  match l, h with
  | [c0, c1, c2], _ => exact ⟨c0, c1, c2, rfl⟩
section
variable {H : Type} {enc : TypeId × Value → H} {w : World} {base : Nat} {spare : Nat → Bool} {held : Bool}
theorem open_namec {n : Nat} {cs : List Value} {x : DataW H × List MemPlace} (h : DataW.trod enc Tryz.prog w base spare held n 24 cs = some x) : ∃ y : NM, cs = ncl y ∧ ZN y := by
  obtain ⟨f9, f22, f24⟩ := wideN
  obtain ⟨xs, n, _, _, hl, hlen, hfld⟩ := DataW.trod_struct Tryz.underlying24 h
  obtain ⟨c0, c1, c2, rfl⟩ := list3 (hl.trans f24)
  have get : ∀ (i : Nat) (f : Field), _ → i < 3 → ∃ y, DataW.trod enc Tryz.prog w base spare held n f.type (([c0, c1, c2].drop f.offset).take (Tryz.prog.cellsOf f.type)) = some y :=
    fun i f hf hi => ⟨_, (hfld i f hf).trans (List.getElem?_eq_getElem (by rw [hlen]; exact hi))⟩
  obtain ⟨y0, h0⟩ := get 0 _ rfl (by decide)
  obtain ⟨y1, h1⟩ := get 1 _ rfl (by decide)
  obtain ⟨y2, h2⟩ := get 2 _ rfl (by decide)
  obtain ⟨s, e0, _, z0⟩ := DataW.trod_string Tryz.underlying9 h0
  obtain ⟨m, e1, _, z1⟩ := DataW.trod_string Tryz.underlying9 h1
  obtain ⟨t, e2, _, z2⟩ := DataW.trod_string Tryz.underlying9 h2
  simp [f9] at e0 e1 e2
  subst e0 e1 e2
  simp only [maxLen] at z0 z1
  exact ⟨⟨s, m, t⟩, rfl, by show s.size ≤ _; omega, by show m.size ≤ _; omega⟩
theorem open_name {r : Reach} {b0 : Nat} {v : Value} {d : DataW H} {p : List MemPlace} (hv : Value.okWide Tryz.prog w r b0 24 v) (h : DataW.Trod enc Tryz.prog w base spare held 24 v d p) : ∃ x : NM, v = nmV x ∧ ZN x := by
  obtain ⟨cs, rfl, hsz⟩ := okWide_struct Tryz.underlying24 hv
  obtain ⟨fuel, hf⟩ := h
  obtain ⟨y, e, hz⟩ := open_namec hf
  refine ⟨y, ?_, hz⟩
  have : cs.toList = ncl y := by simpa [Value.cells] using e
  have h2 : cs = (ncl y).toArray := by rw [← this, Array.toArray_toList]
  rw [h2]
theorem rowsN {w : World} : ∀ (len : Nat) (a : Addr), (∀ i, i < len → ∃ y : NM, (∀ j v, (ncl y)[j]? = some v → w.cell? ((a.add (i * 3)).add j) = some v) ∧ ZN y) → ∃ L : List NM, L.length = len ∧ (∀ j u, (L.flatMap ncl)[j]? = some u → w.cell? (a.add j) = some u) ∧ ∀ z ∈ L, ZN z
  | 0, a, _ => ⟨[], rfl, fun j u h => by simp at h, fun t h => by cases h⟩
  | len + 1, a, h => by
    obtain ⟨y, h1, h3⟩ := h 0 (by omega)
    obtain ⟨L, e1, e2, e3⟩ := rowsN len (a.add 3) fun i hi => by
      obtain ⟨z, h1, h3⟩ := h (i + 1) (by omega)
      refine ⟨z, fun j v hj => ?_, h3⟩
      have := h1 j v hj
      rw [Go.Deep.add_add] at this ⊢
      rw [Go.Deep.add_add]
      rw [show 3 + (i * 3 + j) = (i + 1) * 3 + j by omega]
      exact this
    refine ⟨y :: L, by rw [List.length_cons, e1], fun j u hj => ?_, fun x hx => ?_⟩
    · rw [List.flatMap_cons] at hj
      by_cases hjl : j < 3
      · rw [List.getElem?_append_left (by simpa using hjl)] at hj
        have := h1 j u hj
        rw [Go.Deep.add_add] at this
        simpa using this
      · rw [List.getElem?_append_right (by simp; omega)] at hj
        have := e2 _ u hj
        rw [Go.Deep.add_add] at this
        rw [show 3 + (j - (ncl y).length) = j by simp; omega] at this
        exact this
    · rcases List.mem_cons.1 hx with rfl | hx
      · exact h3
      · exact e3 x hx
theorem open_names {r : Reach} {b0 : Nat} {v : Value} {d : DataW H} {p : List MemPlace} (hv : Value.okWide Tryz.prog w r b0 22 v) (h : DataW.Trod enc Tryz.prog w base spare held 22 v d p) : ∃ (q : Option Addr) (n c : Nat) (L : List NM), v = .slice q n c ∧ Slc w q n c L ∧ ∀ z ∈ L, ZN z := by
  obtain ⟨f9, f22, f24⟩ := wideN
  obtain ⟨fuel, hf⟩ := h
  have one : v.cells.toList = [v] → (∃ (q : Option Addr) (n c : Nat) (L : List NM), v = .slice q n c ∧ Slc w q n c L ∧ ∀ z ∈ L, ZN z) := fun e1 => by
    rw [e1] at hf
    rcases DataW.trod_slice Tryz.underlying22 hf with ⟨e5, _⟩ | ⟨a, len, cap, elems, rest, m, hm, e5, _, _, hlc, _, hel, hget, _, _⟩
    · have e6 : v = .slice none 0 0 := by simpa using e5
      exact ⟨none, 0, 0, [], e6, slc_nil w, fun z hz => by cases hz⟩
    · have e6 : v = .slice (some a) len cap := by simpa using e5
      obtain ⟨L, t1, t2, t3⟩ := rowsN len a fun i hi => by
        have hg := hget i hi
        rw [f24, List.getElem?_eq_getElem (by omega)] at hg
        obtain ⟨cs, hc, ht⟩ := Option.bind_eq_some_iff.1 hg
        obtain ⟨y, rfl, hz⟩ := open_namec ht
        refine ⟨y, fun j v hj => ?_, hz⟩
        obtain ⟨_, hcl, hcc⟩ := World.cells?_some hc
        rw [hcc j (by have := (List.getElem?_eq_some_iff.1 hj).1; omega)]
        exact hj
      exact ⟨some a, len, cap, L, e6, ⟨⟨t1.symm, .inr ⟨a, rfl, t2⟩⟩, hlc, fun e => by cases e⟩, t3⟩
  have hcell : v.cells.toList = [v] := by
    obtain ⟨q, n, c, rfl, _⟩ := okWide_slice Tryz.underlying22 hv
    rfl
  exact one hcell
end
end Go.Proofs.YtlndkjcincflpaaGreatDoor
