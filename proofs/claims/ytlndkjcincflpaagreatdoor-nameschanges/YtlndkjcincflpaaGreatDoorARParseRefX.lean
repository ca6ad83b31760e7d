/- ARefP, ARIndex, AParseRef, ARParseRef. -/
import Derived.Test.YtlndkjcincflpaaGreatDoorARParse2X
set_option linter.unusedVariables false
set_option linter.unusedSimpArgs false
namespace Go.Proofs.YtlndkjcincflpaaGreatDoor
open Go.RowKit
set_option maxRecDepth 100000
def refR (o : Option Ad.Ref) : Value := match o with
  | none => ref0
  | some r => refV ⟨r.book.toArray⟩ ⟨r.sheet.toArray⟩ r.cell.row r.cell.col r.cell.fr r.cell.fc
def nmsF (l : List UInt8) : List UInt8 × List UInt8 × Bool :=
  if (Ad.strip 91 l).1 = true then ((cutF 93 (Ad.strip 91 l).2).1, (cutF 93 (Ad.strip 91 l).2).2.1, gnF (cutF 93 (Ad.strip 91 l).2).1 && gnF (cutF 93 (Ad.strip 91 l).2).2.1) else ([], l, gnF l)
def progP (l : List UInt8) : Option Ad.Ref := match Ad.at_ 33 l with
  | none => (Ad.cellP l).map fun c => ⟨[], [], c⟩
  | some p => if (nmsF p.1).2.2 = true then (Ad.cellP p.2).map fun c => ⟨(nmsF p.1).1, (nmsF p.1).2.1, c⟩ else none
theorem gn_nil : gnF [] = false := rfl
theorem gn_no33 {l : List UInt8} (h : 33 ∈ l) : gnF l = false := by
  cases hg : gnF l
  · rfl
  · exact absurd rfl ((gn_names l hg).2 33 h).1
theorem cell_br (m : List UInt8) : Ad.cellP (91 :: m) = none := rfl
theorem at_cons_ne {c x : UInt8} {r : List UInt8} (h : x ≠ c) : Ad.at_ c (x :: r) = (Ad.at_ c r).map fun p => (x :: p.1, p.2) := by
  rw [Ad.at_, if_neg h]
theorem at_long {c : UInt8} : ∀ {l m : List UInt8}, (∀ x ∈ l, x ≠ c) → Ad.at_ c (l ++ m) = (Ad.at_ c m).map fun p => (l ++ p.1, p.2)
  | [], m, _ => by rw [List.nil_append]; cases Ad.at_ c m <;> rfl
  | x :: l, m, h => by
    rw [List.cons_append, at_cons_ne (h x (List.mem_cons_self ..)), at_long (l := l) (m := m) fun y hy => h y (List.mem_cons_of_mem _ hy)]
    cases Ad.at_ c m <;> rfl
theorem prog_eq (l : List UInt8) : progP l = Ad.refP gnF l := by
  cases l with
  | nil => rfl
  | cons x m =>
    by_cases hx : x = 91
    · subst hx
      have e1 : Ad.refP gnF (91 :: m) = match Ad.at_ 93 m with
        | none => none
        | some (a, r) => if gnF a = true ∧ (Ad.at_ 33 r).isSome = true then Ad.sheetP gnF a r else none := rfl
      rw [e1]
      unfold progP
      rw [at_cons_ne (show (91 : UInt8) ≠ 33 by decide)]
      cases h3 : Ad.at_ 33 m with
      | none =>
        simp only [Option.map_none]
        rw [cell_br]
        cases h9 : Ad.at_ 93 m with
        | none => rfl
        | some p =>
          obtain ⟨a, r⟩ := p
          have e2 := (Ad.at_some h9).1
          have : Ad.at_ 33 r = none := by
            by_cases ha : 33 ∈ a
            · exfalso
              rw [e2] at h3
              have key : ∀ l : List UInt8, (33 : UInt8) ∈ l → Ad.at_ 33 l ≠ none := by
                intro l
                induction l with
                | nil => intro h; cases h
                | cons y q ih =>
                  intro h e
                  unfold Ad.at_ at e
                  by_cases hy : y = 33
                  · rw [if_pos hy] at e; cases e
                  · rw [if_neg hy] at e
                    rcases List.mem_cons.1 h with h | h
                    · exact hy h.symm
                    · cases hq : Ad.at_ 33 q with
                      | none => exact ih h hq
                      | some z => rw [hq] at e; cases e
              exact key _ (List.mem_append_left _ ha) h3
            · rw [e2, at_long (c := 33) (l := a) (fun y hy e => ha (by rw [← e]; exact hy)), at_cons_ne (show (93 : UInt8) ≠ 33 by decide)] at h3
              cases hr : Ad.at_ 33 r with
              | none => rfl
              | some z => rw [hr] at h3; cases h3
          simp only [this]
          rw [if_neg (by simp)]
          rfl
      | some p =>
        obtain ⟨a', rest⟩ := p
        obtain ⟨e2, n2⟩ := Ad.at_some h3
        simp only [Option.map_some]
        have es : Ad.strip 91 (91 :: a') = (true, a') := Ad.strip_yes 91 a'
        unfold nmsF
        rw [es]
        simp only [if_true]
        cases h9 : Ad.at_ 93 a' with
        | none =>
          rw [cutF_none h9]
          simp only [gn_nil, Bool.and_false, Bool.false_eq_true, if_false]
          cases hm : Ad.at_ 93 m with
          | none => rfl
          | some q =>
            obtain ⟨a, r⟩ := q
            have h33 : 33 ∈ a := by
              rw [e2] at hm
              have nA : ∀ x ∈ a', x ≠ 93 := by
                intro x hx e
                subst e
                have key : ∀ l : List UInt8, (93 : UInt8) ∈ l → Ad.at_ 93 l ≠ none := by
                  intro l
                  induction l with
                  | nil => intro h; cases h
                  | cons y q ih =>
                    intro h e
                    unfold Ad.at_ at e
                    by_cases hy : y = 93
                    · rw [if_pos hy] at e; cases e
                    · rw [if_neg hy] at e
                      rcases List.mem_cons.1 h with h | h
                      · exact hy h.symm
                      · cases hq : Ad.at_ 93 q with
                        | none => exact ih h hq
                        | some z => rw [hq] at e; cases e
                exact key _ hx h9
              rw [at_long nA, at_cons_ne (show (33 : UInt8) ≠ 93 by decide)] at hm
              cases hr : Ad.at_ 93 rest with
              | none => rw [hr] at hm; cases hm
              | some z =>
                rw [hr] at hm
                simp only [Option.map_some, Option.some.injEq, Prod.mk.injEq] at hm
                rw [← hm.1]
                exact List.mem_append_right _ (List.mem_cons_self ..)
            simp only [gn_no33 h33, Bool.false_eq_true, false_and, if_false]
        | some q =>
          obtain ⟨b, s'⟩ := q
          obtain ⟨e3, n3⟩ := Ad.at_some h9
          rw [cutF_some h9]
          have hm : Ad.at_ 93 m = some (b, s' ++ 33 :: rest) := by
            rw [e2, e3, List.append_assoc, List.cons_append]
            exact Ad.at_app _ n3
          have hs : Ad.at_ 33 (s' ++ 33 :: rest) = some (s', rest) := Ad.at_app _ fun y hy => n2 y (by rw [e3]; exact List.mem_append_right _ (List.mem_cons_of_mem _ hy))
          rw [hm]
          simp only [hs]
          unfold Ad.sheetP
          simp only [hs]
          cases gnF b <;> cases gnF s' <;> simp
    · rw [Ad.refP_plain (by simpa using hx)]
      unfold progP Ad.sheetP
      cases h3 : Ad.at_ 33 (x :: m) with
      | none => rfl
      | some p =>
        obtain ⟨a, r⟩ := p
        obtain ⟨e2, n2⟩ := Ad.at_some h3
        have es : nmsF a = ([], a, gnF a) := by
          unfold nmsF
          have : (Ad.strip 91 a).1 = false := by
            cases a with
            | nil => rfl
            | cons y q =>
              simp only [List.cons_append, List.cons.injEq] at e2
              rw [Ad.strip_cons, if_neg (by rw [← e2.1]; exact hx)]
          rw [this]
          rfl
        simp only [es]
theorem at_some_len {c : UInt8} {l a b : List UInt8} (h : Ad.at_ c l = some (a, b)) : a.length + b.length + 1 = l.length := by
  rw [(Ad.at_some h).1]
  simp
  omega
end Go.Proofs.YtlndkjcincflpaaGreatDoor

namespace Go.Proofs.YtlndkjcincflpaaGreatDoor
open Go.RowKit
set_option maxRecDepth 100000
def idxF (c : UInt8) (l : List UInt8) : Int := match Ad.at_ c l with
  | none => -1
  | some p => (p.1.length : Nat)
theorem idx_yes {c : UInt8} (s : ByteArray) (k : Nat) (h : k < s.size) (hc : s[k] = c) (hn : ∀ x ∈ s.data.toList.take k, x ≠ c) : idxF c s.data.toList = k := by
  have hl := size_list s
  have e : s.data.toList = s.data.toList.take k ++ c :: s.data.toList.drop (k + 1) := by
    rw [← hc, byte_at s k h (by omega)]
    have := List.take_append_drop k s.data.toList
    conv => lhs; rw [← this, List.drop_eq_getElem_cons (by omega)]
  unfold idxF
  rw [e, Ad.at_app _ hn]
  simp
  omega
theorem idx_no {c : UInt8} {l : List UInt8} (hn : ∀ x ∈ l, x ≠ c) : idxF c l = -1 := by
  unfold idxF
  rw [Ad.at_none hn]
set_option maxHeartbeats 2000000 in
theorem ridx_any (s : ByteArray) (c : UInt8) (hs : s.size ≤ 9223372036854775807) (w : World) :
    Calls Tryz.prog 223 #[.string s, .int .u8 (c.toNat : Nat)] w fun e w' => e = .returned (.int .i64 (idxF c s.data.toList)) ∧ w' = w := by
  have hl := size_list s
  generalize hr : idxF c s.data.toList = r
  have HR : Hid (idxF c s.data.toList = r) := hr
  clear hr
  go_enter Tryz.func223, Tryz.ntmps223
  go_wp2
  go_loop [5] (fun i => ∃ k : Nat, k ≤ s.size ∧ i = .int .i64 k ∧ Hid (∀ x ∈ s.data.toList.take k, x ≠ c)) (fun i => s.size - (intOf i).toNat)
  case atStart => exact ⟨0, Nat.zero_le _, rfl, by intro x hx; simp at hx⟩
  case round =>
    obtain ⟨k, hk, rfl, ha⟩ := hrel
    by_cases hlt : k < s.size
    · rcases ch_facts s[k] c with ⟨h3, h4⟩ | ⟨h3, h4⟩
      · have HE : Hid (r = k) := by
          show _ = _
          rw [← HR.out]
          exact idx_yes s k hlt h3 ha.out
        clear h3
        go_wp2
        go_ret
        exact ⟨by rw [HE.out]; rfl, rfl⟩
      · have HA : Hid (∀ x ∈ s.data.toList.take (k + 1), x ≠ c) := by
          intro x hx
          rw [take_snoc _ _ (by omega)] at hx
          rcases List.mem_append.1 hx with hx | hx
          · exact ha.out x hx
          · simp only [List.mem_singleton] at hx
            rw [hx, ← byte_at s k hlt (by omega)]
            exact h3
        clear h3
        go_wp2
        go_round
        case rel => exact ⟨k + 1, by omega, by go_num, HA.out⟩
        case measure => simp [intOf]; omega
    · have HE : Hid (r = -1) := by
        show _ = _
        have hh := ha.out
        rw [List.take_of_length_le (by omega)] at hh
        rw [← HR.out]
        exact idx_no hh
      go_wp2
      go_ret
      exact ⟨by rw [HE.out]; rfl, rfl⟩
end Go.Proofs.YtlndkjcincflpaaGreatDoor

namespace Go.Proofs.YtlndkjcincflpaaGreatDoor
open Go.RowKit
set_option maxRecDepth 100000
set_option maxHeartbeats 2000000 in
theorem pn_plain {A A1 : ByteArray} {g : Bool} {w : World} (CP : ∀ u, Calls Tryz.prog 156 #[.string A, .string ⟨#[91]⟩] u fun e w' => e = .returned (.tuple #[.string A1, .bool false]) ∧ w' = u) (GN : RC w 53 #[.string A] (.bool g)) :
    Calls Tryz.prog 209 #[.string A] w fun e w' => e = .returned (.tuple #[.string ⟨#[]⟩, .string A, .bool g]) ∧ Below w.heap.size w w' := by
  have HB0 : Hid (Below w.heap.size w w) := Below.refl _ _
  go_enter Tryz.func209, Tryz.ntmps209
  go_wp2_with (first | (go_at_call 156; refine (CP _).mono ?_; rintro e w' ⟨rfl, hw⟩; obtain rfl := hw.symm; clear hw) | (go_at_call 53; refine (GN _ HB0.out).mono ?_; rintro e w1 ⟨rfl, hb⟩; have HB1 : Hid (Below w.heap.size w w1) := hb; clear hb))
  go_ret3
  exact ⟨rfl, HB1.out⟩
set_option maxHeartbeats 2000000 in
theorem pn_book {A A1 B S : ByteArray} {x g h : Bool} {w : World} (CP : ∀ u, Calls Tryz.prog 156 #[.string A, .string ⟨#[91]⟩] u fun e w' => e = .returned (.tuple #[.string A1, .bool true]) ∧ w' = u)
    (CU : RC w 194 #[.string A1, .string ⟨#[93]⟩] (.tuple #[.string B, .string S, .bool x])) (GB : RC w 53 #[.string B] (.bool g)) (GS : RC w 53 #[.string S] (.bool h)) :
    Calls Tryz.prog 209 #[.string A] w fun e w' => e = .returned (.tuple #[.string B, .string S, .bool (g && h)]) ∧ Below w.heap.size w w' := by
  have HB0 : Hid (Below w.heap.size w w) := Below.refl _ _
  cases g
  · go_enter Tryz.func209, Tryz.ntmps209
    go_wp2_with (first | (go_at_call 156; refine (CP _).mono ?_; rintro e w' ⟨rfl, hw⟩; obtain rfl := hw.symm; clear hw) | (go_at_call 194; refine (CU _ HB0.out).mono ?_; rintro e w1 ⟨rfl, hb⟩; have HB1 : Hid (Below w.heap.size w w1) := hb; clear hb) | (go_at_call_of 53 B; refine (GB _ HB1.out).mono ?_; rintro e w2 ⟨rfl, hb⟩; have HB2 : Hid (Below w.heap.size w w2) := hb; clear hb))
    go_ret3
    exact ⟨rfl, HB2.out⟩
  · go_enter Tryz.func209, Tryz.ntmps209
    go_wp2_with (first | (go_at_call 156; refine (CP _).mono ?_; rintro e w' ⟨rfl, hw⟩; obtain rfl := hw.symm; clear hw) | (go_at_call 194; refine (CU _ HB0.out).mono ?_; rintro e w1 ⟨rfl, hb⟩; have HB1 : Hid (Below w.heap.size w w1) := hb; clear hb) | (go_at_call_of 53 B; refine (GB _ HB1.out).mono ?_; rintro e w2 ⟨rfl, hb⟩; have HB2 : Hid (Below w.heap.size w w2) := hb; clear hb) | (go_at_call_of 53 S; refine (GS _ HB2.out).mono ?_; rintro e w3 ⟨rfl, hb⟩; have HB3 : Hid (Below w.heap.size w w3) := hb; clear hb))
    go_ret3
    exact ⟨rfl, HB3.out⟩
theorem gname_list (l : List UInt8) (hl : l.length ≤ 140737488355328) (w : World) (T : Tab8 w) : RC w 53 #[.string ⟨l.toArray⟩] (.bool (gnF l)) :=
  RC.of fun u hu => goodname_any ⟨l.toArray⟩ (by rw [size_mk]; omega) u (T.t.below hu)
theorem cutF_len (c : UInt8) (l : List UInt8) : (cutF c l).1.length ≤ l.length ∧ (cutF c l).2.1.length ≤ l.length := by
  cases h : Ad.at_ c l with
  | none => rw [cutF_none h]; simp
  | some p =>
    obtain ⟨a, b⟩ := p
    have := at_some_len h
    rw [cutF_some h]
    simp only
    omega
theorem names_any8 (l : List UInt8) (hl : l.length ≤ 140737488355328) (w : World) (T : Tab8 w) :
    Calls Tryz.prog 209 #[.string ⟨l.toArray⟩] w fun e w' => e = .returned (.tuple #[.string ⟨(nmsF l).1.toArray⟩, .string ⟨(nmsF l).2.1.toArray⟩, .bool (nmsF l).2.2]) ∧ Below w.heap.size w w' := by
  have CP := fun u => strip_any 91 l u
  have hs := Ad.strip_len 91 l
  unfold nmsF
  cases hx : (Ad.strip 91 l).1
  · rw [hx] at CP
    exact pn_plain CP (gname_list l hl w T)
  · rw [hx] at CP hs
    rw [if_pos rfl]
    have hl2 := cutF_len 93 (Ad.strip 91 l).2
    have g1 := gname_list (cutF 93 (Ad.strip 91 l).2).1 (by omega) w T
    have g2 := gname_list (cutF 93 (Ad.strip 91 l).2).2.1 (by omega) w T
    exact pn_book CP (RC.of fun u hu => cutc_any 93 (Ad.strip 91 l).2 u (by omega)) g1 g2
set_option maxHeartbeats 4000000 in
theorem pr_plain {A N X : ByteArray} {o : Option Ad.Cell} {w : World} (CU : RC (w.alloc ref0O) 194 #[.string A, .string ⟨#[33]⟩] (.tuple #[.string N, .string X, .bool false]))
    (PC : ∀ u, Below w.heap.size w u → Calls Tryz.prog 174 #[.string A] u fun e w' => e = .returned (.tuple #[cellR o, .bool o.isSome]) ∧ Below u.heap.size u w') :
    Calls Tryz.prog 173 #[.string A] w fun e w' => e = .returned (.tuple #[cellR o, .bool o.isSome]) ∧ Below w.heap.size w w' := by
  have HB0 : Hid (Below (w.alloc ref0O).heap.size (w.alloc ref0O) (w.alloc ref0O)) := Below.refl _ _
  cases o with
  | none =>
    go_enter Tryz.func173, Tryz.ntmps173
    go_wp2_with (go_at_call 194; refine (CU _ HB0.out).mono ?_; rintro e w1 ⟨rfl, hb⟩; have HB1 : Hid (Below (w.alloc ref0O).heap.size (w.alloc ref0O) w1) := hb; clear hb)
    refine (PC _ (bel1 HB1.out)).mono ?_
    rintro e w2 ⟨rfl, hb⟩
    have z1 := (hb.block _ (lt_of (new1 HB1.out))).trans (new1 HB1.out)
    have Z1 : Hid (w2.heap[w.heap.size]? = some ref0O) := z1
    have HB2 : Hid (Below w.heap.size w w2) := bel_step (bel1 HB1.out) hb
    obtain ⟨d0, d1, d2, d3, d4, d5⟩ := r_cells z1
    obtain ⟨e0, e1, e2, e3, e4, e5⟩ := r_free z1
    clear z1 hb
    unfold cellR
    go_wp2
    exact bodyPost_ret (res_ref rfl rfl (set6 Z1.out) rfl) rfl ⟨rfl, bel_set6 HB2.out (Nat.le_refl _)⟩
  | some c =>
    go_enter Tryz.func173, Tryz.ntmps173
    go_wp2_with (go_at_call 194; refine (CU _ HB0.out).mono ?_; rintro e w1 ⟨rfl, hb⟩; have HB1 : Hid (Below (w.alloc ref0O).heap.size (w.alloc ref0O) w1) := hb; clear hb)
    refine (PC _ (bel1 HB1.out)).mono ?_
    rintro e w2 ⟨rfl, hb⟩
    have z1 := (hb.block _ (lt_of (new1 HB1.out))).trans (new1 HB1.out)
    have Z1 : Hid (w2.heap[w.heap.size]? = some ref0O) := z1
    have HB2 : Hid (Below w.heap.size w w2) := bel_step (bel1 HB1.out) hb
    obtain ⟨d0, d1, d2, d3, d4, d5⟩ := r_cells z1
    obtain ⟨e0, e1, e2, e3, e4, e5⟩ := r_free z1
    clear z1 hb
    unfold cellR
    go_wp2
    exact bodyPost_ret (res_ref rfl rfl (set6 Z1.out) rfl) rfl ⟨rfl, bel_set6 HB2.out (Nat.le_refl _)⟩
theorem kept_new {u : World} {g : Nat} {o : Obj} (h : u.heap[g]? = some o) (p : Obj) : (u.alloc p).heap[g]? = some o := (Below.heap_alloc u p _ (lt_of h)).trans h
set_option maxHeartbeats 4000000 in
theorem pr_no {A N X B S : ByteArray} {g k : Bool} {b s : ByteArray} {r c : Int} {fr fc : Bool} {w : World} (CU : RC (w.alloc ref0O) 194 #[.string A, .string ⟨#[33]⟩] (.tuple #[.string N, .string X, .bool true]))
    (NM : RC (w.alloc ref0O) 209 #[.string N] (.tuple #[.string B, .string S, .bool g])) (PC : ∀ u, Below w.heap.size w u → Calls Tryz.prog 174 #[.string X] u fun e w' => e = .returned (.tuple #[refV b s r c fr fc, .bool k]) ∧ Below u.heap.size u w') (hk : (g && k) = false) :
    Calls Tryz.prog 173 #[.string A] w fun e w' => e = .returned (.tuple #[ref0, .bool false]) ∧ Below w.heap.size w w' := by
  have HB0 : Hid (Below (w.alloc ref0O).heap.size (w.alloc ref0O) (w.alloc ref0O)) := Below.refl _ _
  cases g
  all_goals
    try (obtain rfl : k = false := hk)
    go_enter Tryz.func173, Tryz.ntmps173
    go_wp2_with (first | (go_at_call 194; refine (CU _ HB0.out).mono ?_; rintro e w1 ⟨rfl, hb⟩; have HB1 : Hid (Below (w.alloc ref0O).heap.size (w.alloc ref0O) w1) := hb; clear hb) | (go_at_call 209; refine (NM _ HB1.out).mono ?_; rintro e w2 ⟨rfl, hb⟩; have HB2 : Hid (Below (w.alloc ref0O).heap.size (w.alloc ref0O) w2) := hb; clear hb))
    refine (PC _ (bel1 HB2.out)).mono ?_
    rintro e w3 ⟨rfl, hb⟩
    have z1 := (hb.block _ (lt_of (new1 HB2.out))).trans (new1 HB2.out)
    have HB3 : Hid (Below w.heap.size w (w3.alloc (refO b s r c fr fc))) := bel_alloc (bel_step (bel1 HB2.out) hb) _
    have Z1 : Hid ((w3.alloc (refO b s r c fr fc)).heap[w.heap.size]? = some ref0O) := kept_new z1 _
    obtain ⟨d0, d1, d2, d3, d4, d5⟩ := r_cells Z1.out
    obtain ⟨e0, e1, e2, e3, e4, e5⟩ := r_free Z1.out
    clear z1 hb
    go_wp2
    exact bodyPost_ret (res_ref rfl rfl (set6 Z1.out) rfl) rfl ⟨rfl, bel_set6 HB3.out (Nat.le_refl _)⟩
set_option maxHeartbeats 4000000 in
theorem pr_yes {A N X B S : ByteArray} {b s : ByteArray} {r c : Int} {fr fc : Bool} {w : World} (CU : RC (w.alloc ref0O) 194 #[.string A, .string ⟨#[33]⟩] (.tuple #[.string N, .string X, .bool true]))
    (NM : RC (w.alloc ref0O) 209 #[.string N] (.tuple #[.string B, .string S, .bool true])) (PC : ∀ u, Below w.heap.size w u → Calls Tryz.prog 174 #[.string X] u fun e w' => e = .returned (.tuple #[refV b s r c fr fc, .bool true]) ∧ Below u.heap.size u w') :
    Calls Tryz.prog 173 #[.string A] w fun e w' => e = .returned (.tuple #[refV B S r c fr fc, .bool true]) ∧ Below w.heap.size w w' := by
  have HB0 : Hid (Below (w.alloc ref0O).heap.size (w.alloc ref0O) (w.alloc ref0O)) := Below.refl _ _
  go_enter Tryz.func173, Tryz.ntmps173
  go_wp2_with (first | (go_at_call 194; refine (CU _ HB0.out).mono ?_; rintro e w1 ⟨rfl, hb⟩; have HB1 : Hid (Below (w.alloc ref0O).heap.size (w.alloc ref0O) w1) := hb; clear hb) | (go_at_call 209; refine (NM _ HB1.out).mono ?_; rintro e w2 ⟨rfl, hb⟩; have HB2 : Hid (Below (w.alloc ref0O).heap.size (w.alloc ref0O) w2) := hb; clear hb))
  refine (PC _ (bel1 HB2.out)).mono ?_
  rintro e w3 ⟨rfl, hb⟩
  have z1 := (hb.block _ (lt_of (new1 HB2.out))).trans (new1 HB2.out)
  have HB3 : Hid (Below w.heap.size w (w3.alloc (refO B S r c fr fc))) := bel_alloc (bel_step (bel1 HB2.out) hb) _
  have Z1 : Hid ((w3.alloc (refO B S r c fr fc)).heap[w.heap.size]? = some ref0O) := kept_new z1 _
  obtain ⟨d0, d1, d2, d3, d4, d5⟩ := r_cells Z1.out
  obtain ⟨e0, e1, e2, e3, e4, e5⟩ := r_free Z1.out
  clear z1 hb
  go_wp2
  exact bodyPost_ret (res_ref rfl rfl (set6 Z1.out) rfl) rfl ⟨rfl, bel_set6 HB3.out (Nat.le_refl _)⟩
theorem parseref_any (l : List UInt8) (hl : l.length ≤ 140737488355328) (w : World) (T : Tab8 w) :
    Calls Tryz.prog 173 #[.string ⟨l.toArray⟩] w fun e w' => e = .returned (.tuple #[refR (Ad.refP gnF l), .bool (Ad.refP gnF l).isSome]) ∧ Below w.heap.size w w' := by
  rw [← prog_eq]
  unfold progP
  have CU : RC (w.alloc ref0O) 194 #[.string ⟨l.toArray⟩, .string ⟨#[33]⟩] _ := RC.of fun u hu => cutc_any 33 l u (by omega)
  have T1 : Tab8 (w.alloc ref0O) := T.below (bel_alloc (Below.refl _ _) _)
  cases h : Ad.at_ 33 l with
  | none =>
    rw [cutF_none h] at CU
    have := pr_plain (o := Ad.cellP l) CU fun u hu => parsecell_any l hl u (T.below hu)
    cases hc : Ad.cellP l with
    | none => rw [hc] at this; exact this
    | some c => rw [hc] at this; exact this
  | some p =>
    obtain ⟨a, x⟩ := p
    have hlen := at_some_len h
    rw [cutF_some h] at CU
    have NM : RC (w.alloc ref0O) 209 #[.string ⟨a.toArray⟩] _ := RC.of fun u hu => names_any8 a (by omega) u (T1.below hu)
    have PC := fun u (hu : Below w.heap.size w u) => parsecell_any x (by omega) u (T.below hu)
    simp only
    cases hg : (nmsF a).2.2
    · rw [hg] at NM
      simp only [Bool.false_eq_true, if_false]
      cases hc : Ad.cellP x with
      | none => rw [hc] at PC; exact pr_no CU NM PC rfl
      | some c => rw [hc] at PC; exact pr_no CU NM PC rfl
    · rw [hg] at NM
      simp only [if_true]
      cases hc : Ad.cellP x with
      | none => rw [hc] at PC; exact pr_no CU NM PC rfl
      | some c => rw [hc] at PC; exact pr_yes CU NM PC
end Go.Proofs.YtlndkjcincflpaaGreatDoor

namespace Go.Proofs.YtlndkjcincflpaaGreatDoor
open Go.RowKit
set_option maxRecDepth 100000
abbrev CB (w : World) (f : Nat) (args : Array Value) (r : Value) : Prop := ∀ u, Below w.heap.size w u → Calls Tryz.prog f args u fun e w' => e = .returned r ∧ Below u.heap.size u w'
abbrev CS (f : Nat) (args : Array Value) (r : Value) : Prop := ∀ u, Calls Tryz.prog f args u fun e w' => e = .returned r ∧ w' = u
section
variable {S B S1 SH S2 : ByteArray} {w : World}
set_option maxHeartbeats 4000000 in
theorem rr_noclose (hz : 0 < S.size) (h91 : ((S[0].toNat : Int) == 91) = true) (IX : CS 223 #[.string S, .int .u8 93] (.int .i64 (-1))) :
    Calls Tryz.prog 203 #[.string S] w fun e w' => e = .returned (.tuple #[ref0, .bool false]) ∧ Below w.heap.size w w' := by
  have c1 : (0 : Int) < S.size := by omega
  go_enter Tryz.func203, Tryz.ntmps203
  go_wp2_with (go_at_call 223; refine (IX _).mono ?_; rintro e w' ⟨rfl, hw⟩; obtain rfl := hw.symm; clear hw)
  refine bodyPost_ret (v := .tuple #[ref0, .bool false]) (by simp [results, Tryz.results203, go_sem]) rfl ?_
  refine ⟨rfl, ?_⟩
  repeat (first | exact Below.refl _ _ | refine Below.drew ?_ | refine bel_alloc ?_ _ | refine Below.setCell ?_ (by simp) _)
set_option maxHeartbeats 4000000 in
theorem rr_badbook {k : Nat} (hz : 0 < S.size) (h91 : ((S[0].toNat : Int) == 91) = true) (IX : CS 223 #[.string S, .int .u8 93] (.int .i64 k)) (k1 : 1 ≤ k) (k2 : k ≤ S.size) (hB : S.extract 1 k = B) (GB : CB w 55 #[.string B] (.bool false)) :
    Calls Tryz.prog 203 #[.string S] w fun e w' => e = .returned (.tuple #[ref0, .bool false]) ∧ Below w.heap.size w w' := by
  have c1 : (0 : Int) < S.size := by omega
  have c2 : ¬ (k : Int) < 0 := by omega
  have c3 : (1 : Int) ≤ k := by omega
  have c4 : (k : Int) ≤ S.size := by omega
  go_enter Tryz.func203, Tryz.ntmps203
  go_wp2_with (go_at_call 223; refine (IX _).mono ?_; rintro e w' ⟨rfl, hw⟩; obtain rfl := hw.symm; clear hw)
  refine (GB _ (bel_alloc (Below.refl _ _) _)).mono ?_
  rintro e w1 ⟨rfl, hb⟩
  have z1 := new1 hb
  have Z1 : Hid (w1.heap[w.heap.size]? = some ref0O) := z1
  have HB1 : Hid (Below w.heap.size w w1) := bel1 hb
  obtain ⟨d0, d1, d2, d3, d4, d5⟩ := r_cells z1
  obtain ⟨e0, e1, e2, e3, e4, e5⟩ := r_free z1
  clear z1 hb
  go_wp2
  exact bodyPost_ret (res_ref rfl rfl (set6 Z1.out) rfl) rfl ⟨rfl, bel_set6 HB1.out (Nat.le_refl _)⟩
set_option maxHeartbeats 4000000 in
theorem rr_nosheet {k m : Nat} (hz : 0 < S.size) (h91 : ((S[0].toNat : Int) == 91) = true) (IX : CS 223 #[.string S, .int .u8 93] (.int .i64 k)) (k1 : 1 ≤ k) (k2 : k ≤ S.size) (hm : (k : Int) + 1 = m) (m2 : m ≤ S.size) (mx : S.size ≤ 9223372036854775807) (hB : S.extract 1 k = B) (hS : S.extract m S.size = S1) (GB : CB w 55 #[.string B] (.bool true)) (IY : CS 223 #[.string S1, .int .u8 33] (.int .i64 (-1))) :
    Calls Tryz.prog 203 #[.string S] w fun e w' => e = .returned (.tuple #[ref0, .bool false]) ∧ Below w.heap.size w w' := by
  have c1 : (0 : Int) < S.size := by omega
  have c2 : ¬ (k : Int) < 0 := by omega
  have c3 : (1 : Int) ≤ k := by omega
  have c4 : (k : Int) ≤ S.size := by omega
  have c5 : (0 : Int) ≤ m := by omega
  have c6 : (m : Int) ≤ ↑S.size := by omega
  have c7 : IntKind.i64.wrap (m : Int) = m := wrap_i64 (by omega) (by omega)
  go_enter Tryz.func203, Tryz.ntmps203
  go_wp2_with (go_at_call 223; refine (IX _).mono ?_; rintro e w' ⟨rfl, hw⟩; obtain rfl := hw.symm; clear hw)
  refine (GB _ (bel_alloc (Below.refl _ _) _)).mono ?_
  rintro e w1 ⟨rfl, hb⟩
  have Z1 : Hid (w1.drew.heap[w.heap.size]? = some ref0O) := new1 hb.drew
  have HB1 : Hid (Below w.heap.size w w1.drew) := (bel1 hb).drew
  clear hb IX GB
  go_wp2_with fail
  go_region
  generalize w1.drew = v1 at *
  obtain ⟨d0, d1, d2, d3, d4, d5⟩ := r_cells Z1.out
  obtain ⟨e0, e1, e2, e3, e4, e5⟩ := r_free Z1.out
  go_wp2_with (go_at_call 223; refine (IY _).mono ?_; rintro e w' ⟨rfl, hw⟩; obtain rfl := hw.symm; clear hw)
  exact bodyPost_ret (res_ref rfl rfl (set6 Z1.out) rfl) rfl ⟨rfl, bel_set6 HB1.out (Nat.le_refl _)⟩
end
end Go.Proofs.YtlndkjcincflpaaGreatDoor
