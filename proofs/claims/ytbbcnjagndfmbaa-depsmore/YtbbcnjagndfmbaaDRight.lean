/- The walk of DepsRight. -/
import Derived.Test.YtbbcnjagndfmbaaDLives
import Derived.Test.YtbbcnjagndfmbaaDMx
import Derived.Test.YtbbcnjagndfmbaaVDraw
namespace Go.Proofs.Ytbbcnjagndfmbaa
open Go.RowKit Go.Dp
set_option maxRecDepth 100000
set_option linter.unusedVariables false
set_option linter.unusedSimpArgs false
/-- Where each of the numbers that have come stands. -/
structure Ps (O : List Nat) (i : Nat) (g : Nat → Nat) : Prop where
  yes : ∀ x, x ∈ O.take i → 0 < g x ∧ O[g x - 1]? = some x
  no : ∀ x, x ∉ O.take i → g x = 0
theorem Ps.begin {O : List Nat} : Ps O 0 (fun _ => 0) := ⟨fun x h => by simp at h, fun _ _ => rfl⟩
theorem Ps.next {O : List Nat} {i : Nat} {g : Nat → Nat} (h : Ps O i g) (hi : i < O.length) : Ps O (i + 1) (fun x => if x = O[i] then i + 1 else g x) := by
  constructor
  · intro x hx
    rw [List.take_succ_eq_append_getElem hi] at hx
    by_cases e : x = O[i]
    · rw [if_pos e]
      exact ⟨by omega, by rw [Nat.add_sub_cancel, List.getElem?_eq_getElem hi, e]⟩
    · rw [if_neg e]
      rcases List.mem_append.1 hx with hx | hx
      · exact h.yes x hx
      · exact absurd (List.mem_singleton.1 hx) e
  · intro x hx
    rw [List.take_succ_eq_append_getElem hi] at hx
    have e : x ≠ O[i] := fun e => hx (List.mem_append.2 (.inr (List.mem_singleton.2 e)))
    rw [if_neg e]
    exact h.no x fun y => hx (List.mem_append.2 (.inl y))
theorem nodup_inj {O : List Nat} (hn : O.Nodup) {p q : Nat} (hp : p < O.length) (hq : q < O.length) (e : O[p] = O[q]) : p = q := by
  have h := List.pairwise_iff_getElem.1 hn
  rcases Nat.lt_trichotomy p q with a | a | a
  · exact absurd e (h p q hp hq a)
  · exact a
  · exact absurd e.symm (h q p hq hp a)
theorem fresh {O : List Nat} (hn : O.Nodup) {i : Nat} (hi : i < O.length) : O[i] ∉ O.take i := by
  intro h
  obtain ⟨j, hj, e⟩ := List.getElem_of_mem h
  rw [List.length_take] at hj
  rw [List.getElem_take] at e
  have := nodup_inj hn (by omega) hi e
  omega
/-- What is read outside of a group stands ahead. -/
theorem ahead_of {n : Nat} {E : List (Nat × Nat)} {g : Nat → Nat} (h : Ps (orderB n E) n g) {i j : Nat} (o : Out n E i j) : g j < g i := by
  have c := order_come (n := n) (E := E)
  have hall : (orderB n E).take n = orderB n E := List.take_of_length_le (by rw [order_length]; exact Nat.le_refl _)
  have hi := h.yes i (by rw [hall]; exact order_all o.1.lt.1)
  have hj := h.yes j (by rw [hall]; exact order_all o.1.lt.2)
  have hl : g i - 1 < (orderB n E).length := (List.getElem?_eq_some_iff.1 hi.2).1
  have e : orderB n E = (orderB n E).take (g i - 1) ++ i :: (orderB n E).drop (g i - 1 + 1) := by
    have := (List.getElem?_eq_some_iff.1 hi.2).2
    conv => lhs; rw [← List.take_append_drop (g i - 1) (orderB n E)]
    rw [List.drop_eq_getElem_cons hl, this]
  have hm := c.ahead _ _ _ e j o
  obtain ⟨p, hp, ep⟩ := List.getElem_of_mem hm
  rw [List.length_take] at hp
  rw [List.getElem_take] at ep
  obtain ⟨hj1, hj2⟩ := List.getElem?_eq_some_iff.1 hj.2
  have := nodup_inj c.one (by omega) hj1 (ep.trans hj2.symm)
  omega
abbrev gV (k : Nat) (g : Nat → Nat) : List Value := (List.range k).map fun x => .int .i64 (g x : Nat)
theorem gV_at {k : Nat} {g : Nat → Nat} {j : Nat} (h : j < k) : (gV k g)[j]? = some (.int .i64 (g j : Nat)) := by simp [List.getElem?_range h]
theorem gV_set {k : Nat} {g : Nat → Nat} {x v : Nat} : (gV k g).set x (.int .i64 (v : Nat)) = gV k fun y => if y = x then v else g y := by
  apply List.ext_getElem?
  intro j
  rw [List.getElem?_set]
  by_cases hj : j < k
  · rw [gV_at hj]
    by_cases e : x = j
    · subst e
      rw [if_pos rfl, if_pos (by simpa using hj), gV_at hj, if_pos rfl]
    · rw [if_neg e, gV_at hj, if_neg (fun h => e h.symm)]
  · rw [List.getElem?_eq_none (l := gV k fun y => if y = x then v else g y) (by simp; omega)]
    split
    · rw [if_neg (by simp; omega)]
    · exact List.getElem?_eq_none (by simp; omega)
theorem gV_zero {k : Nat} : gV k (fun _ => 0) = List.replicate k (.int .i64 0) := by
  apply List.ext_getElem?
  intro j
  by_cases hj : j < k
  · simp [List.getElem?_range hj, hj]
  · simp [hj]
theorem kept_yes2 {n k : Nat} {L : List (Int × Int)} (hk : k < L.length) (h : 0 ≤ L[k].1 ∧ L[k].1 < (n : Int) ∧ 0 ≤ L[k].2 ∧ L[k].2 < (n : Int)) : kept n (L.take (k + 1)) = kept n (L.take k) ++ [(L[k].1.toNat, L[k].2.toNat)] := by
  unfold kept
  rw [List.take_succ_eq_append_getElem hk, List.filterMap_append]
  congr 1
  simp only [List.filterMap_cons, List.filterMap_nil, if_pos h]
theorem Mp.drew {B : Nat} {w : World} {A : Addr} {As : Nat → Addr} {k i : Nat} {F : Nat → Nat → Bool} (h : Mp B w A As k i F) : Mp B w.drew A As k i F := h.below (Below.drew (Below.refl _ _))
set_option maxHeartbeats 8000000 in
theorem right_walk (HC : OrdC) {w : World} {av : Value} {n : Int} (hn0 : 0 ≤ n) {L : List (Int × Int)} (h : Pr w av L) (hl : L.length ≤ 8796093022208) :
    Calls Try.prog 4 #[.int .u64 n, av] w fun e w' => e = .returned (.bool true) ∧ Below w.heap.size w w' := by
  have HH : Hid OrdC := HC
  have HLv : Hid (∀ u, Calls Try.prog 6 #[] u fun e w' => e = .returned (.bool true) ∧ Below u.heap.size u w') := lives_any HC
  have HA : Hid (Pr w av L) := h
  obtain ⟨a0, c0, rfl⟩ := h.slice
  clear h HC
  by_cases h2 : 400 < L.length
  · have h2i : (400 : Int) < L.length := by omega
    go_enter Try.func4, Try.ntmps4
    go_wp2_with (go_at_call 6; refine Calls.mono (HLv.out _) ?_; clear HLv; rintro e w1 ⟨rfl, hb⟩)
    go_ret
    exact ⟨rfl, hb⟩
  have h2i : ¬ (400 : Int) < L.length := by omega
  have HN : Hid (L.length ≤ 1000) := by show _ ≤ _; omega
  go_enter Try.func4, Try.ntmps4
  go_wp2_with fail
  obtain ⟨k, hk⟩ : ∃ k : Nat, n % 40 = (k : Int) := ⟨(n % 40).toNat, by omega⟩
  have hk40 : k < 40 := by omega
  rw [hk]
  clear hk
  have C1 := HH.out w _ (k : Nat) L HA.out HN.out (by omega)
  rw [show ((k : Nat) : Int).toNat = k by simp] at C1
  refine Calls.mono C1 ?_
  clear C1
  rintro e w1 ⟨⟨ov, rv, rfl, ho, hr⟩, hb⟩
  have HB1 : Hid (Below w.heap.size w w1) := hb
  have HO : Hid (Rd w1 ov (orderB k (kept k L)).length (nV (orderB k (kept k L)))) := own_rd ho
  have HR : Hid (Rd w1 rv k (bV (ringB k (kept k L)))) := own_rd hr
  have hol := order_length (n := k) (E := kept k L)
  rw [hol] at ho HO
  obtain ⟨oa, oc, rfl⟩ := own_slice ho
  obtain ⟨ra, rc, rfl⟩ := own_slice hr
  clear ho hr hb HH
  have HOl : Hid ((orderB k (kept k L)).length = k) := hol
  clear hol
  have HOn : Hid ((orderB k (kept k L)).Nodup) := order_come.one
  have HOm : Hid (∀ x ∈ orderB k (kept k L), x < k) := order_come.lt
  have HAh : Hid (∀ g, Ps (orderB k (kept k L)) k g → ∀ i j, Out k (kept k L) i j → g j < g i) := fun g h i j o => ahead_of h o
  have HRf : Hid (bV (ringB k (kept k L)) = bl k (fun i => farB k (kept k L) i i)) := by show _ = _; unfold bV ringB bl; rw [List.map_map]; rfl
  rw [HRf.out] at HR
  clear HRf
  generalize orderB k (kept k L) = O at *
  obtain ⟨T, w2, RT, hT, hB2⟩ := ro_make w1 24 3 (.int .i64 0) 8 Try.underlying24 (by kernel_rfl) rfl k (by omega) (by omega)
  rw [← gV_zero] at hT
  have HT : Hid (Ro w1.heap.size w2 3 T k k (gV k (fun _ => 0))) := hT
  have HB2 : Hid (Below w1.heap.size w1 w2) := hB2
  clear hT hB2
  go_wp2_with (first
    | (refine nl_make rfl 24 _ _ rfl _ _ _ _ rfl rfl RT.out ?_; clear RT))
  go_loopw [47] (fun v47 wr => ∃ i : Nat, v47 = .int .i64 (i : Nat) ∧ i ≤ k ∧ ∃ g, Hid (Ro w1.heap.size wr 3 T k k (gV k g)) ∧ Hid (Ps O i g) ∧ Hid (Below w1.heap.size w1 wr)) (fun v47 _ => k - (intOf v47).toNat)
  case atStart => exact ⟨0, rfl, Nat.zero_le _, _, HT.out, Ps.begin, HB2.out⟩
  case round =>
    clear HT HB2
    obtain ⟨i, rfl, hi, g, HT, HP, HB⟩ := hrel
    by_cases hik : i < k
    · have hii : (i : Int) < k := by omega
      have hiO : i < O.length := by rw [HOl.out]; exact hik
      obtain ⟨A1, c1, e1, q1⟩ := (Rd.below HO.out HB.out).at (j := i) (by simpa using hiO)
      cases e1
      rw [List.getElem_map] at q1
      have HX := HOm.out _ (List.getElem_mem hiO)
      have HZ : Hid (g O[i] = 0) := HP.out.no _ (fresh HOn.out hiO)
      have HP2 : Hid _ := HP.out.next hiO
      generalize O[i] = x at *
      have hxi : ((x : Nat) : Int) < k := by omega
      obtain ⟨q2, q3⟩ := HT.out.cell (gV_at HX)
      rw [HZ.out] at q2
      have HT2 : Hid (Ro w1.heap.size (wr.setCell (T.add x) (.int .i64 ((i + 1 : Nat) : Int))) 3 T k k (gV k fun y => if y = x then i + 1 else g y)) := by
        show Ro _ _ _ _ _ _ _
        rw [← gV_set]
        exact HT.out.set x _
      have HB3 : Hid (Below w1.heap.size w1 (wr.setCell (T.add x) (.int .i64 ((i + 1 : Nat) : Int)))) := bel_set HT.out HB.out (Nat.le_refl _) x _
      rw [show ((i + 1 : Nat) : Int) = (i : Int) + 1 by omega] at HT2 HB3
      clear HT HP HB HZ
      go_wp2
      go_roundw
      case rel => exact ⟨i + 1, by go_num, by omega, _, HT2.out, HP2.out, HB3.out⟩
      case measure => simp [intOf]; omega
    · have hii : ¬ (i : Int) < k := by omega
      obtain rfl : i = k := by omega
      have HTk := HT
      have HG : Hid (∀ a b, Out i (kept i L) a b → g b < g a) := HAh.out g HP.out
      have HB13 : Hid (Below w.heap.size w wr) := bel_step HB1.out HB.out
      have HR3 : Hid (Rd wr (.slice ra i rc) i (bl i fun a => farB i (kept i L) a a)) := Rd.below HR.out HB.out
      have HT3 : Hid (Ro w1.heap.size wr 3 T i i (gV i g)) := HTk.out
      clear HT HTk HP HAh HOn HOm HO HOl HB HB1 HR
      generalize wr = W3 at *
      obtain ⟨A, w4, RF, hF, hB4⟩ := ro_make W3 32 25 (.slice none 0 0) 24 Try.underlying32 (by kernel_rfl) rfl i (by omega) (by omega)
      have HF : Hid (Mp W3.heap.size w4 A (fun _ => A) i 0 (fun _ _ => false)) := Mp.begin hF
      have HB4 : Hid (Below W3.heap.size W3 w4) := hB4
      clear hF hB4
      go_wp2_with (first
        | (refine nl_make rfl 32 _ _ rfl _ _ _ _ rfl rfl RF.out ?_; clear RF))
      go_loopw [76] (fun v76 wr => ∃ q : Nat, v76 = .int .i64 (q : Nat) ∧ q ≤ i ∧ ∃ As, Hid (Mp W3.heap.size wr A As i q (fun _ _ => false)) ∧ Hid (Below W3.heap.size W3 wr)) (fun v76 _ => i - (intOf v76).toNat)
      case atStart => exact ⟨0, rfl, Nat.zero_le _, _, HF.out, HB4.out⟩
      case round =>
        clear HF HB4
        obtain ⟨q, rfl, hq, As, HF, HB4⟩ := hrel
        by_cases hqi : q < i
        · have hqq : (q : Int) < i := by omega
          obtain ⟨A', w5, RM, hM, hB5⟩ := ro_make wr 25 4 (.bool false) 1 Try.underlying25 (by kernel_rfl) rfl i (by omega) (by omega)
          obtain ⟨⟨v, q1⟩, q2, hF2⟩ := HF.out.next hqi hM hB5
          have HF2 : Hid _ := hF2
          have HB6 : Hid (Below W3.heap.size W3 (w5.setCell (A.add q) (sV i A'))) := bel_set (HF.out.tab.below hB5) (HB4.out.trans (hB5.mono HB4.out.size)) (Nat.le_refl _) q _
          clear hM hB5 hF2 HF HB4
          go_wp2_with (first
            | (refine nl_make rfl 25 _ _ rfl _ _ _ _ rfl rfl RM.out ?_; clear RM))
          go_roundw
          case rel => exact ⟨q + 1, by go_num, by omega, _, HF2.out, HB6.out⟩
          case measure => simp [intOf]; omega
        · have hqq : ¬ (q : Int) < i := by omega
          obtain rfl : q = i := by omega
          have HM0 : Hid (Mx W3.heap.size wr A As q (mk (kept q (L.take 0)))) := HF.out.congr (fun a c _ _ => by simp [mk, kept])
          have HB0 : Hid (Below W3.heap.size W3 wr) := HB4.out
          clear HF HB4
          go_wp2
          go_loopw [87] (fun v87 wr => ∃ j : Nat, v87 = .int .i64 (j : Nat) ∧ j ≤ L.length ∧ Hid (Mx W3.heap.size wr A As q (mk (kept q (L.take j)))) ∧ Hid (Below W3.heap.size W3 wr)) (fun v87 _ => L.length - (intOf v87).toNat)
          case atStart => exact ⟨0, rfl, Nat.zero_le _, HM0.out, HB0.out⟩
          case round =>
            clear HM0 HB0
            obtain ⟨j, rfl, hj, HM, HB⟩ := hrel
            by_cases hjl : j < L.length
            · have hjj : (j : Int) < L.length := by omega
              obtain ⟨a', c', e', RL⟩ := Pr.load (L := L) (Rd.below (Rd.below HA.out HB13.out) HB.out) hjl
              cases e'
              have HNo : ¬ (0 ≤ L[j].1 ∧ L[j].1 < (q : Int) ∧ 0 ≤ L[j].2 ∧ L[j].2 < (q : Int)) → Hid (kept q (L.take (j + 1)) = kept q (L.take j)) := fun h => kept_no hjl h
              have HYe : (0 ≤ L[j].1 ∧ L[j].1 < (q : Int) ∧ 0 ≤ L[j].2 ∧ L[j].2 < (q : Int)) → Hid (kept q (L.take (j + 1)) = kept q (L.take j) ++ [(L[j].1.toNat, L[j].2.toNat)]) := fun h => kept_yes2 hjl h
              have RLh : Hid _ := RL
              generalize L[j] = y at *
              have RSt : Hid _ := pbox wr y
              obtain ⟨c1, c2⟩ := p_cells (heap_alloc_new wr (pO y))
              have HM1 : Hid (Mx W3.heap.size (wr.alloc (pO y)) A As q (mk (kept q (L.take j)))) := HM.out.below (bel_alloc (Below.refl _ _) _)
              have HB1' : Hid (Below W3.heap.size W3 (wr.alloc (pO y))) := bel_alloc HB.out _
              obtain ⟨x, z⟩ := y
              dsimp only at *
              clear RL HM HB
              by_cases hyes : 0 ≤ x ∧ x < (q : Int) ∧ 0 ≤ z ∧ z < (q : Int)
              · have HY := HYe hyes
                clear HNo HYe
                obtain ⟨y1, y2, y3, y4⟩ := hyes
                obtain ⟨x, rfl⟩ := Int.eq_ofNat_of_zero_le y1
                obtain ⟨z, rfl⟩ := Int.eq_ofNat_of_zero_le y3
                have hx : x < q := by omega
                have hz : z < q := by omega
                obtain ⟨m1, m2, m3⟩ := HM1.out.at hx hz
                go_wp2_with (first
                  | (refine nl_load rfl 33 _ rfl _ _ rfl RLh.out ?_; clear RLh)
                  | (refine nl_store rfl 33 _ _ rfl _ _ _ rfl rfl RSt.out ?_; clear RSt))
                have HM2 : Hid (Mx W3.heap.size ((wr.alloc (pO ((x : Int), (z : Int)))).drew.setCell ((As x).add z) (.bool true)) A As q (mk (kept q (L.take (j + 1))))) := by
                  show Mp _ _ _ _ _ _ _
                  rw [HY.out, ← mk_next, Int.toNat_natCast, Int.toNat_natCast]
                  exact HM1.out.drew.set hx hz true
                have HB2' : Hid (Below W3.heap.size W3 ((wr.alloc (pO ((x : Int), (z : Int)))).drew.setCell ((As x).add z) (.bool true))) := by
                  obtain ⟨g0, hg0, hg1, _⟩ := HM1.out.tab.form
                  exact HM1.out.drew.bel HB1'.out.drew (by rw [hg0]; exact hg1) hx true
                clear HM1 HB1' HY
                go_region
                go_wp2
                go_roundw
                case rel => exact ⟨j + 1, by go_num, by omega, HM2.out, HB2'.out⟩
                case measure => simp [intOf]; omega
              · have HN := HNo hyes
                rw [← HN.out] at HM1
                clear HNo HYe HN
                have q' : (¬ 0 ≤ x) ∨ (0 ≤ x ∧ ¬ x < (q : Int)) ∨ (0 ≤ x ∧ x < (q : Int) ∧ ¬ 0 ≤ z) ∨ (0 ≤ x ∧ x < (q : Int) ∧ 0 ≤ z ∧ ¬ z < (q : Int)) := by omega
                clear hyes
                rcases q' with q1 | ⟨q1, q2⟩ | ⟨q1, q2, q3⟩ | ⟨q1, q2, q3, q4⟩
                all_goals
                  go_wp2_with (first
                    | (refine nl_load rfl 33 _ rfl _ _ rfl RLh.out ?_; clear RLh)
                    | (refine nl_store rfl 33 _ _ rfl _ _ _ rfl rfl RSt.out ?_; clear RSt))
                  go_roundw
                  case rel => exact ⟨j + 1, by go_num, by omega, HM1.out, HB1'.out⟩
                  case measure => simp [intOf]; omega
            · have hjj : ¬ (j : Int) < L.length := by omega
              rw [List.take_of_length_le (by omega)] at HM
              generalize hE : kept q L = E at *
              have HM0 : Hid (Mx W3.heap.size wr A As q (WaI (mk E) 0 0 0)) := by rw [WaI.begin]; exact HM.out
              have HB0 : Hid (Below W3.heap.size W3 wr) := HB.out
              clear HM HB HA hE
              go_wp2
              go_loopw [15] (fun v15 wr => ∃ m : Nat, v15 = .int .i64 (m : Nat) ∧ m ≤ q ∧ Hid (Mx W3.heap.size wr A As q (WaI (mk E) m 0 0)) ∧ Hid (Below W3.heap.size W3 wr)) (fun v15 _ => q - (intOf v15).toNat)
              case atStart => exact ⟨0, rfl, Nat.zero_le _, HM0.out, HB0.out⟩
              case round =>
                clear HM0 HB0
                obtain ⟨m, rfl, hm, HM, HB⟩ := hrel
                by_cases hmq : m < q
                · have hmm : (m : Int) < q := by omega
                  go_wp2
                  go_loopw [16] (fun v16 wr => ∃ i : Nat, v16 = .int .i64 (i : Nat) ∧ i ≤ q ∧ Hid (Mx W3.heap.size wr A As q (WaI (mk E) m i 0)) ∧ Hid (Below W3.heap.size W3 wr)) (fun v16 _ => q - (intOf v16).toNat)
                  case atStart => exact ⟨0, rfl, Nat.zero_le _, HM.out, HB.out⟩
                  case round =>
                    clear HM HB
                    obtain ⟨i, rfl, hi, HM, HB⟩ := hrel
                    by_cases hiq : i < q
                    · have hii : (i : Int) < q := by omega
                      go_wp2
                      go_loopw [17] (fun v17 wr => ∃ j : Nat, v17 = .int .i64 (j : Nat) ∧ j ≤ q ∧ Hid (Mx W3.heap.size wr A As q (WaI (mk E) m i j)) ∧ Hid (Below W3.heap.size W3 wr)) (fun v17 _ => q - (intOf v17).toNat)
                      case atStart => exact ⟨0, rfl, Nat.zero_le _, HM.out, HB.out⟩
                      case round =>
                        clear HM HB
                        obtain ⟨j, rfl, hj, HM, HB⟩ := hrel
                        by_cases hjq : j < q
                        · have hjj : (j : Int) < q := by omega
                          obtain ⟨m1, m2, m3⟩ := HM.out.at hiq hjq
                          obtain ⟨_, m4, _⟩ := HM.out.at hiq hmq
                          obtain ⟨m5, m6, _⟩ := HM.out.at hmq hjq
                          have HNx : ∀ b, (WaI (mk E) m i j i j || WaI (mk E) m i j i m && WaI (mk E) m i j m j) = b → Hid (Mx W3.heap.size (wr.drew.setCell ((As i).add j) (.bool b)) A As q (WaI (mk E) m i (j + 1)) ∧ Below W3.heap.size W3 (wr.drew.setCell ((As i).add j) (.bool b))) := fun b hb => by
                            rw [WaI.step] at hb
                            refine ⟨?_, ?_⟩
                            · rw [← WaI.next, hb]
                              exact HM.out.drew.set hiq hjq b
                            · obtain ⟨g0, hg0, hg1, _⟩ := HM.out.tab.form
                              exact HM.out.drew.bel HB.out.drew (by rw [hg0]; exact hg1) hiq b
                          generalize WaI (mk E) m i j i j = b1 at *
                          generalize WaI (mk E) m i j i m = b2 at *
                          generalize WaI (mk E) m i j m j = b3 at *
                          have HNx2 : Hid (Mx W3.heap.size (wr.drew.setCell ((As i).add j) (.bool (b1 || b2 && b3))) A As q (WaI (mk E) m i (j + 1)) ∧ Below W3.heap.size W3 (wr.drew.setCell ((As i).add j) (.bool (b1 || b2 && b3)))) := HNx _ rfl
                          clear HM HB HNx
                          have hsp : b1 = true ∨ (b1 = false ∧ b2 = false) ∨ (b1 = false ∧ b2 = true ∧ b3 = true) ∨ (b1 = false ∧ b2 = true ∧ b3 = false) := by cases b1 <;> cases b2 <;> cases b3 <;> simp
                          rcases hsp with rfl | ⟨rfl, rfl⟩ | ⟨rfl, rfl, rfl⟩ | ⟨rfl, rfl, rfl⟩
                          all_goals
                            simp only [Bool.true_or, Bool.false_or, Bool.false_and, Bool.true_and] at HNx2
                            go_wp2
                            go_region
                            go_wp2
                            go_roundw
                            case rel => exact ⟨j + 1, by go_num, by omega, HNx2.out.1, HNx2.out.2⟩
                            case measure => simp [intOf]; omega
                        · have hjj : ¬ (j : Int) < q := by omega
                          obtain rfl : j = q := by omega
                          have HM2 : Hid (Mx W3.heap.size wr A As j (WaI (mk E) m (i + 1) 0)) := HM.out.congr WaI.row_done
                          have HB2 : Hid (Below W3.heap.size W3 wr) := HB.out
                          clear HM HB
                          go_wp2
                          go_roundw
                          case rel => exact ⟨i + 1, by go_num, by omega, HM2.out, HB2.out⟩
                          case measure => simp [intOf]; omega
                    · have hii : ¬ (i : Int) < q := by omega
                      obtain rfl : i = q := by omega
                      have HM2 : Hid (Mx W3.heap.size wr A As i (WaI (mk E) (m + 1) 0 0)) := HM.out.congr WaI.all_done
                      have HB2 : Hid (Below W3.heap.size W3 wr) := HB.out
                      clear HM HB
                      go_wp2
                      go_roundw
                      case rel => exact ⟨m + 1, by go_num, by omega, HM2.out, HB2.out⟩
                      case measure => simp [intOf]; omega
                · have hmm : ¬ (m : Int) < q := by omega
                  obtain rfl : m = q := by omega
                  rw [WaI.end] at HM
                  have HM0 : Hid (Mx W3.heap.size wr A As m (farB m E)) := HM.out.congr (fun a c ha hc => wa_far ha hc)
                  have HB0 : Hid (Below W3.heap.size W3 wr) := HB.out
                  have HG2 : Hid (∀ a b, farB m E a b = true → farB m E b a = false → g b < g a) := fun a b h1 h2 => HG.out a b ⟨farB_iff.1 h1, fun x => by rw [farB_iff.2 x] at h2; cases h2⟩
                  clear HM HB HG
                  generalize farB m E = F at *
                  go_wp2
                  go_loopw [18] (fun v18 wr => ∃ i : Nat, v18 = .int .i64 (i : Nat) ∧ i ≤ m ∧ Hid (Mx W3.heap.size wr A As m F) ∧ Hid (Below W3.heap.size W3 wr)) (fun v18 _ => m - (intOf v18).toNat)
                  case atStart => exact ⟨0, rfl, Nat.zero_le _, HM0.out, HB0.out⟩
                  case round =>
                    clear HM0 HB0
                    obtain ⟨i, rfl, hi, HM, HB⟩ := hrel
                    by_cases him : i < m
                    · have hii : (i : Int) < m := by omega
                      obtain ⟨m1, m2, _⟩ := HM.out.at him him
                      obtain ⟨R1, c1, e1, q1⟩ := (HR3.out.below HB.out).bl him
                      cases e1
                      have HMd : Hid (Mx W3.heap.size wr.drew A As m F) := HM.out.drew
                      have HBd : Hid (Below W3.heap.size W3 wr.drew) := HB.out.drew
                      clear HM HB
                      have HG3 : Hid (∀ b, F i b = true → F b i = false → g b < g i) := fun b h1 h2 => HG2.out i b h1 h2
                      generalize F i i = fii at *
                      go_wp2
                      go_region
                      go_wp2
                      go_loopw [19] (fun v19 wr => ∃ j : Nat, v19 = .int .i64 (j : Nat) ∧ j ≤ m ∧ Hid (Mx W3.heap.size wr A As m F) ∧ Hid (Below W3.heap.size W3 wr)) (fun v19 _ => m - (intOf v19).toNat)
                      case atStart => exact ⟨0, rfl, Nat.zero_le _, HMd.out, HBd.out⟩
                      case round =>
                        clear HMd HBd m1 m2 q1
                        obtain ⟨j, rfl, hj, HM, HB⟩ := hrel
                        by_cases hjm : j < m
                        · have hjj : (j : Int) < m := by omega
                          obtain ⟨m1, m2, _⟩ := HM.out.at him hjm
                          obtain ⟨m3, m4, _⟩ := HM.out.at hjm him
                          have hTb := HT3.out.below HB.out
                          obtain ⟨t1, _⟩ := hTb.cell (gV_at hjm)
                          obtain ⟨t2, _⟩ := hTb.cell (gV_at him)
                          have HG4 := HG3.out j
                          have HMd : Hid (Mx W3.heap.size wr.drew A As m F) := HM.out.drew
                          have HBd : Hid (Below W3.heap.size W3 wr.drew) := HB.out.drew
                          clear HM HB hTb
                          generalize F i j = f1 at *
                          generalize F j i = f2 at *
                          have hsp : f1 = false ∨ (f1 = true ∧ f2 = true) ∨ (f1 = true ∧ f2 = false ∧ g j < g i) := by
                            cases f1
                            · exact .inl rfl
                            · cases f2
                              · exact .inr (.inr ⟨rfl, rfl, HG4 rfl rfl⟩)
                              · exact .inr (.inl ⟨rfl, rfl⟩)
                          clear HG4
                          rcases hsp with rfl | ⟨rfl, rfl⟩ | ⟨rfl, rfl, hlt⟩
                          all_goals
                            try have hlt2 : ¬ ((g i : Nat) : Int) < (g j : Nat) := by omega
                            go_wp2
                            go_region
                            go_wp2
                            go_roundw
                            case rel => exact ⟨j + 1, by go_num, by omega, HMd.out, HBd.out⟩
                            case measure => simp [intOf]; omega
                        · have hjj : ¬ (j : Int) < m := by omega
                          go_wp2
                          go_roundw
                          case rel => exact ⟨i + 1, by go_num, by omega, HM.out, HB.out⟩
                          case measure => simp [intOf]; omega
                    · have hii : ¬ (i : Int) < m := by omega
                      have HZ : Hid (Below w.heap.size w wr) := bel_step HB13.out HB.out
                      clear HM HB
                      go_wp2_with (go_at_call 6; refine Calls.mono (HLv.out _) ?_; clear HLv; rintro e w9 ⟨rfl, hb⟩)
                      go_ret
                      exact ⟨rfl, bel_step HZ.out hb⟩
end Go.Proofs.Ytbbcnjagndfmbaa
