import Derived.Test.YtcheikpmhdliiaaDoorJGroup
import Derived.Lib.Zigzag
/- The reference's reader: its state, and the contract of its num. -/
namespace Go.Proofs.YtcheikpmhdliiaaDoor
open Go.RowKit
set_option maxRecDepth 100000

/-- The reader's block: the bytes that are left, and whether they are wrong. -/
def RS (B : Nat) (w : World) (rb : Nat) (l : List UInt8) (wr : Bool) : Prop := B ≤ rb ∧ ∃ v, w.heap[rb]? = some (.cells #[v, .bool wr] 126 (0, 0)) ∧ Bts w v l ∧ Low B v l
theorem Bts.low_kept {B : Nat} {w w' : World} {v : Value} {l : List UInt8} (h : Bts w v l) (hlow : Low B v l) (hk : ∀ i, i < B → w'.heap[i]? = w.heap[i]?) : Bts w' v l := by
  rcases h with h | ⟨a, cap, e1, e2, e3, e4⟩
  · exact .inl h
  · refine .inr ⟨a, cap, e1, e2, e3, fun j u hj => ?_⟩
    rw [← e4 j u hj]
    refine World.cell?_of_block (hk _ ?_)
    rw [addr_block]
    exact hlow (by rintro rfl; simp [bcells] at hj) a _ _ e1
theorem RS.kept {B base : Nat} {w w' : World} {rb : Nat} {l : List UInt8} {wr : Bool} (h : RS B w rb l wr) (hrb : rb < base) (hk : Below base w w') : RS B w' rb l wr := by
  obtain ⟨h0, v, h1, h2, h3⟩ := h
  exact ⟨h0, v, (hk.block rb hrb).trans h1, h2.low_kept h3 fun i hi => hk.block i (by omega), h3⟩
theorem rs_set {B : Nat} {w : World} {rb : Nat} {v0 : Value} {wr : Bool} (hB : B ≤ rb) (h1 : w.heap[rb]? = some (.cells #[v0, .bool wr] 126 (0, 0))) {x : Value} {l : List UInt8} (h : Bts w x l) (hlow : Low B x l) :
    RS B (w.setCell ⟨rb, 0, none⟩ x) rb l wr ∧ w.grownBy (w.setCell ⟨rb, 0, none⟩ x) (some rb) := by
  have hk : ∀ k, k ≠ rb → (w.setCell ⟨rb, 0, none⟩ x).heap[k]? = w.heap[k]? := fun k hk => Below.heap_setCell w _ x k (by simpa using hk)
  refine ⟨⟨hB, x, ?_, h.low_kept hlow fun i hi => hk i (by omega), hlow⟩, ⟨rfl, rfl, rfl, by simp [World.setCell], fun k _ hne => hk k fun e => hne (by rw [e])⟩⟩
  simp [World.setCell, Array.getElem?_modify, h1]
theorem rs_wrong {B : Nat} {w : World} {rb : Nat} {v0 : Value} {wr : Bool} (hB : B ≤ rb) (h1 : w.heap[rb]? = some (.cells #[v0, .bool wr] 126 (0, 0))) {l : List UInt8} (h : Bts w v0 l) (hlow : Low B v0 l) :
    RS B (w.setCell ⟨rb, 1, none⟩ (.bool true)) rb l true ∧ w.grownBy (w.setCell ⟨rb, 1, none⟩ (.bool true)) (some rb) := by
  have hk : ∀ k, k ≠ rb → (w.setCell ⟨rb, 1, none⟩ (.bool true)).heap[k]? = w.heap[k]? := fun k hk => Below.heap_setCell w _ _ k (by simpa using hk)
  refine ⟨⟨hB, v0, ?_, h.low_kept hlow fun i hi => hk i (by omega), hlow⟩, ⟨rfl, rfl, rfl, by simp [World.setCell], fun k _ hne => hk k fun e => hne (by rw [e])⟩⟩
  simp [World.setCell, Array.getElem?_modify, h1]
theorem rs_gone {B : Nat} {w : World} {rb : Nat} {v0 : Value} {wr : Bool} (hB : B ≤ rb) (h1 : w.heap[rb]? = some (.cells #[v0, .bool wr] 126 (0, 0))) :
    RS B ((w.setCell ⟨rb, 1, none⟩ (.bool true)).setCell ⟨rb, 0, none⟩ (.slice none 0 0)) rb [] true ∧ w.grownBy ((w.setCell ⟨rb, 1, none⟩ (.bool true)).setCell ⟨rb, 0, none⟩ (.slice none 0 0)) (some rb) := by
  have h2 : (w.setCell ⟨rb, 1, none⟩ (.bool true)).heap[rb]? = some (.cells #[v0, .bool true] 126 (0, 0)) := by simp [World.setCell, Array.getElem?_modify, h1]
  obtain ⟨q1, q2⟩ := rs_set (x := .slice none 0 0) (l := []) hB h2 (.inl ⟨rfl, rfl⟩) (fun h => absurd rfl h)
  have g1 : w.grownBy (w.setCell ⟨rb, 1, none⟩ (.bool true)) (some rb) := ⟨rfl, rfl, rfl, by simp [World.setCell], fun k _ hne => Below.heap_setCell w ⟨rb, 1, none⟩ (.bool true) k (fun e => hne (by rw [e]))⟩
  exact ⟨q1, grown_trans g1 q2⟩
theorem cells126 {w : World} {rb : Nat} {v : Value} {wr : Bool} (h : w.heap[rb]? = some (.cells #[v, .bool wr] 126 (0, 0))) : w.cell? ⟨rb, 0, none⟩ = some v ∧ w.frozen? ⟨rb, 0, none⟩ = false ∧ w.cell? ⟨rb, 1, none⟩ = some (.bool wr) ∧ w.frozen? ⟨rb, 1, none⟩ = false := by
  simp [World.cell?, World.frozen?, h]

/-- What is read, or that it is wrong. -/
def Sp {α : Type} (wr : Bool) (o : Option (α × List UInt8)) (x : α) (l' : List UInt8) (wr' : Bool) : Prop := (wr' = false ∧ wr = false ∧ o = some (x, l')) ∨ (wr' = true ∧ (wr = true ∨ o = none))
theorem Sp.pure {α : Type} (wr : Bool) (x : α) (l : List UInt8) : Sp wr (some (x, l)) x l wr := by
  cases wr
  · exact .inl ⟨rfl, rfl, rfl⟩
  · exact .inr ⟨rfl, .inl rfl⟩
theorem Sp.bindK {α γ : Type} {wr wr1 wr2 : Bool} {o : Option (α × List UInt8)} {K : α × List UInt8 → Option (γ × List UInt8)} {x : α} {y : γ} {l1 l2 : List UInt8} (s1 : Sp wr o x l1 wr1) (s2 : Sp wr1 (K (x, l1)) y l2 wr2) : Sp wr (o.bind K) y l2 wr2 := by
  rcases s1 with ⟨rfl, rfl, rfl⟩ | ⟨rfl, h⟩
  · exact s2
  · rcases s2 with ⟨_, h2, _⟩ | ⟨rfl, _⟩
    · cases h2
    · refine .inr ⟨rfl, ?_⟩
      rcases h with h | rfl
      · exact .inl h
      · exact .inr rfl
/-- What a call of the reference's reader ends in: what is read, or a reader that is wrong. -/
def TkR {α : Type} (B : Nat) (w : World) (rb : Nat) (val : α → Value) (o : Option (α × List UInt8)) (wr : Bool) (e : Ending) (w' : World) : Prop :=
  ∃ x l' wr', e = .returned (val x) ∧ RS B w' rb l' wr' ∧ w.grownBy w' (some rb) ∧ Sp wr o x l' wr' ∧ l'.length ≤ 1099511627776

theorem u8_and127 (x : Nat) (h : x < 256) : bits .and .u8 (x : Int) 127 = (x : Int) % 128 := by
  have : ∀ y : Fin 256, bits .and .u8 ((y.val : Nat) : Int) 127 = ((y.val : Nat) : Int) % 128 := by decide
  exact this ⟨x, h⟩
theorem xor_top {u : Nat} (h : u < 18446744073709551616) : bits .xor .u64 ((u / 2 : Nat) : Int) 18446744073709551615 = 18446744073709551615 - ((u / 2 : Nat) : Int) := by
  have e2 : (18446744073709551615 : Int) = ((2 ^ 64 - 1 : Nat) : Int) := by decide
  rw [e2, bits_xor_u64_nat _ _ (by omega) (by decide), Nat.xor_comm, Lib.xor_ones64 _ (by omega)]
  omega
theorem unf_odd {u : Nat} (hu : u % 2 = 1) (h : u < 18446744073709551616) : IntKind.i64.wrap (18446744073709551615 - ((u / 2 : Nat) : Int)) = unfoldI u := by
  unfold unfoldI
  rw [if_pos hu, IntKind.wrap_i64]
  omega
theorem unf_even {u : Nat} (hu : ¬ u % 2 = 1) : ((u / 2 : Nat) : Int) = unfoldI u := by unfold unfoldI; rw [if_neg hu]

end Go.Proofs.YtcheikpmhdliiaaDoor

/- The contract of the reference's num. -/
namespace Go.Proofs.YtcheikpmhdliiaaDoor
open Go.RowKit
set_option maxRecDepth 100000

theorem or_end {i U x : Nat} (hi : i ≤ 9) (h9 : i = 9 → x ≤ 1) (hx : x < 128) (hU : U < 128 ^ i) : bits .or .u64 (U : Int) (IntKind.u64.wrap ((x : Int) * 2 ^ (7 * i))) = ((U + x * 128 ^ i : Nat) : Int) ∧ U + x * 128 ^ i < 18446744073709551616 := by
  by_cases h : i = 9
  · subst h
    have hx1 := h9 rfl
    obtain ⟨o1, o2⟩ := or_last hU hx1
    refine ⟨?_, o2⟩
    rw [← o1]
    congr 1
    rw [IntKind.wrap_u64]
    omega
  · obtain ⟨o1, o2, _⟩ := or_digit (by omega) hU hx
    exact ⟨o1, o2⟩

set_option maxHeartbeats 4000000 in
theorem rnum_some {B : Nat} {w : World} {rb : Nat} {a : Addr} {cap : Nat} {l : List UInt8} {wr : Bool} (hB : B ≤ rb) (h1 : w.heap[rb]? = some (.cells #[.slice (some a) l.length cap, .bool wr] 126 (0, 0))) (h2 : l.length ≤ cap) (h3 : cap ≤ maxLen) (h4 : ∀ j u, (bcells l)[j]? = some u → w.cell? (a.add j) = some u) (hlow : Low B (.slice (some a) l.length cap) l) (hl : l.length ≤ 1099511627776) :
    Calls Tryd.prog 69 #[ptrOf rb] w fun e w' => TkR B w rb (Value.int .i64) (numR l) wr e w' := by
  have HB : Hid (B ≤ rb) := hB
  have H1 : Hid (w.heap[rb]? = some (.cells #[.slice (some a) l.length cap, .bool wr] 126 (0, 0))) := h1
  have HC : Hid (cap ≤ maxLen ∧ ∀ j u, (bcells l)[j]? = some u → w.cell? (a.add j) = some u) := ⟨h3, h4⟩
  have HLow : Hid (Low B (.slice (some a) l.length cap) l) := hlow
  obtain ⟨c0, f0, c1, f1⟩ := cells126 h1
  have HG : Hid _ := rs_gone hB h1
  have h3' : cap ≤ 9223372036854775807 := h3
  clear hB h1 h3 h4 hlow
  go_enter Tryd.func69, Tryd.ntmps69
  go_wp2
  go_loop [3, 4, 12] (fun u3 u4 u12 => ∃ i U : Nat, i ≤ 9 ∧ i ≤ l.length ∧ u3 = .int .u64 U ∧ u4 = .int .i64 ((7 * i : Nat) : Int) ∧ u12 = .int .i64 i ∧ Hid (U < 128 ^ i ∧ numAux 0 0 l = numAux i U (l.drop i))) (fun _ _ u12 => 10 - (intOf u12).toNat)
  case atStart => exact ⟨0, 0, by omega, by omega, rfl, rfl, rfl, by decide, by simp⟩
  case round =>
    obtain ⟨i, U, hi, hil, rfl, rfl, rfl, HD⟩ := hrel
    obtain ⟨hU, hn⟩ := HD.out
    clear HD
    by_cases hlt : i < l.length
    · have cc : w.cell? (a.add i) = some (.int .u8 (l[i].toNat : Int)) := HC.out.2 i _ (bcells_get hlt)
      have hd : l[i].toNat < 256 := l[i].toNat_lt
      rw [List.drop_eq_getElem_cons hlt] at hn
      have HN : Hid (numAux 0 0 l = numAux i U (l[i] :: l.drop (i + 1))) := hn
      have HU : Hid (U < 128 ^ i) := hU
      clear hn hU
      generalize l[i] = dd at *
      have fa := u8_and127 dd.toNat hd
      have hiI : (i : Int) < (l.length : Int) := by omega
      by_cases hp : (i = 9 ∧ 1 < dd.toNat) ∨ (dd.toNat = 0 ∧ 0 < i)
      · have NN : Hid (numR l = none) := by
          show _ = _
          unfold numR
          rw [HN.out, numAux]
          rcases hp with h | ⟨h1, h2⟩
          · rw [if_pos h]; rfl
          · rw [if_neg (by omega), if_neg (by omega), if_pos ⟨h1, h2⟩]; rfl
        clear HN HU
        by_cases h9 : i = 9
        · have b63 : (7 * (i : Int) == 63) = true := by rw [h9]; rfl
          have hi0 : 0 < i := by omega
          by_cases hx : 1 < dd.toNat
          · clear h9 hp
            generalize dd.toNat = x at *
            go_wp2
            go_ret
            exact ⟨0, [], true, rfl, HG.out.1, HG.out.2, .inr ⟨rfl, .inr NN.out⟩, by simp⟩
          · have hx0 : dd.toNat = 0 := by omega
            rw [hx0] at cc
            clear h9 hp hx hd fa hx0
            go_wp2
            go_ret
            exact ⟨0, [], true, rfl, HG.out.1, HG.out.2, .inr ⟨rfl, .inr NN.out⟩, by simp⟩
        · have b63 : (7 * (i : Int) == 63) = false := by simp; omega
          have hi0 : 0 < i := by omega
          have hx0 : dd.toNat = 0 := by omega
          rw [hx0] at cc
          clear h9 hp hd fa hx0
          go_wp2
          go_ret
          exact ⟨0, [], true, rfl, HG.out.1, HG.out.2, .inr ⟨rfl, .inr NN.out⟩, by simp⟩
      · by_cases hbig : 128 ≤ dd.toNat
        · have hi8 : i < 9 := by omega
          have HN2 : Hid (numAux 0 0 l = numAux (i + 1) (U + dd.toNat % 128 * 128 ^ i) (l.drop (i + 1))) := by
            show _ = _
            rw [HN.out, numAux, if_neg (by omega), if_pos hbig]
          obtain ⟨o1, o2, o3⟩ := or_digit (x := dd.toNat % 128) hi8 HU.out (by omega)
          have HO : Hid (U + dd.toNat % 128 * 128 ^ i < 128 ^ (i + 1)) := o3
          clear HN HU hp o3
          generalize dd.toNat = x at *
          generalize U + x % 128 * 128 ^ i = U2 at *
          have b63 : (7 * (i : Int) == 63) = false := by simp; omega
          have o1' : bits .or .u64 (U : Int) (IntKind.u64.wrap ((x : Int) % 128 * 2 ^ (7 * i))) = (U2 : Int) := by
            rw [← o1]; simp
          have hx0 : ¬ x = 0 := by omega
          have hx0b : ((x : Int) == 0) = false := by simp; omega
          clear o1
          go_wp2
          all_goals
            go_round
            case rel => exact ⟨i + 1, U2, by omega, by omega, rfl, by go_num, by go_num, HO.out, HN2.out⟩
            case measure => simp [intOf]; omega
        · have hx : dd.toNat % 128 = dd.toNat := by omega
          have NR : Hid (∀ y, y = unfoldI (U + dd.toNat * 128 ^ i) → (wr = false ∧ wr = false ∧ numR l = some (y, l.drop (i + 1))) ∨ (wr = true ∧ (wr = true ∨ numR l = none))) := fun y hy => by
            rcases wr with _ | _
            · left
              refine ⟨rfl, rfl, ?_⟩
              unfold numR
              rw [HN.out, numAux_end (by omega) (by omega) (by omega), hx, hy]
              rfl
            · exact .inr ⟨rfl, .inl rfl⟩
          obtain ⟨o1, o2⟩ := or_end (x := dd.toNat) hi (by omega) (by omega) HU.out
          have hb63 : (7 * (i : Int) == 63) = decide (i = 9) := by
            by_cases h : i = 9
            · rw [h]; rfl
            · simp [h]; omega
          have h9x : i = 9 → dd.toNat = 1 := by omega
          have hx0 : dd.toNat = 0 → i = 0 := by omega
          clear HN HU hp
          generalize dd.toNat = x at *
          generalize U + x * 128 ^ i = U2 at *
          have hxx : (x : Int) % 128 = (x : Int) := by omega
          clear hx
          by_cases h9 : i = 9
          · have b63 : (7 * (i : Int) == 63) = true := by rw [hb63]; simp [h9]
            have hx1 : ¬ 1 < x := by have := h9x h9; omega
            have hxe : ((x : Int) == 0) = false := by have := h9x h9; simp; omega
            have hi0 : 0 < i := by omega
            clear hb63 h9 h9x hx0
            by_cases hce : cap = i + 1
            · have HE : Hid (RS B (w.setCell ⟨rb, 0, none⟩ (.slice (some a) 0 0)) rb (l.drop (i + 1)) wr ∧ w.grownBy (w.setCell ⟨rb, 0, none⟩ (.slice (some a) 0 0)) (some rb)) := by
                have e0 : l.drop (i + 1) = [] := List.drop_eq_nil_of_le (by omega)
                rw [e0]
                exact rs_set HB.out H1.out (.inr ⟨a, 0, rfl, Nat.le_refl _, by decide, fun j u hj => by simp [bcells] at hj⟩) (fun h => absurd rfl h)
              have hll : l.length - (i + 1) = 0 := by omega
              subst hce
              by_cases hodd : U2 % 2 = 1
              · have a1 : bits .and .u64 (U2 : Int) 1 = 1 := by rw [Lib.u64_and1 _ (by omega) (by omega)]; omega
                have hdiv : ((U2 : Int) / 2) = ((U2 / 2 : Nat) : Int) := by omega
                have x1 := xor_top o2
                have x2 := unf_odd hodd o2
                have HX : Hid (∃ y, y = unfoldI U2) := ⟨_, rfl⟩
                obtain ⟨y, hy⟩ := HX.out
                rw [← hy] at x2
                have HY : Hid (y = unfoldI U2) := hy
                clear hodd hy HX
                generalize U2 / 2 = U3 at *
                go_wp2
                go_ret
                exact ⟨y, _, _, rfl, HE.out.1, HE.out.2, NR.out y HY.out, by rw [List.length_drop]; omega⟩
              · have a1 : bits .and .u64 (U2 : Int) 1 = 0 := by rw [Lib.u64_and1 _ (by omega) (by omega)]; omega
                have hdiv : ((U2 : Int) / 2) = ((U2 / 2 : Nat) : Int) := by omega
                have HY : Hid (((U2 / 2 : Nat) : Int) = unfoldI U2) := unf_even hodd
                have hU3 : U2 / 2 ≤ 9223372036854775807 := by omega
                clear hodd
                generalize U2 / 2 = U3 at *
                go_wp2
                go_ret
                exact ⟨(U3 : Int), _, _, rfl, HE.out.1, HE.out.2, NR.out _ HY.out, by rw [List.length_drop]; omega⟩
            · have HE : Hid (RS B (w.setCell ⟨rb, 0, none⟩ (.slice (some (a.add (i + 1))) (l.length - (i + 1)) (cap - (i + 1)))) rb (l.drop (i + 1)) wr ∧ w.grownBy (w.setCell ⟨rb, 0, none⟩ (.slice (some (a.add (i + 1))) (l.length - (i + 1)) (cap - (i + 1)))) (some rb)) := by
                refine rs_set HB.out H1.out ?_ (fun hne a' n' c' e => by
                  cases e
                  rw [addr_block]
                  exact HLow.out (by rintro rfl; simp at hne) _ _ _ rfl)
                have := Bts.later (m := i + 1) (n := l.length - (i + 1)) (by omega) (by omega) (by omega) HC.out.1 HC.out.2
                rwa [List.take_of_length_le (by simp)] at this
              by_cases hodd : U2 % 2 = 1
              · have a1 : bits .and .u64 (U2 : Int) 1 = 1 := by rw [Lib.u64_and1 _ (by omega) (by omega)]; omega
                have hdiv : ((U2 : Int) / 2) = ((U2 / 2 : Nat) : Int) := by omega
                have x1 := xor_top o2
                have x2 := unf_odd hodd o2
                have HX : Hid (∃ y, y = unfoldI U2) := ⟨_, rfl⟩
                obtain ⟨y, hy⟩ := HX.out
                rw [← hy] at x2
                have HY : Hid (y = unfoldI U2) := hy
                clear hodd hy HX
                generalize U2 / 2 = U3 at *
                go_wp2
                go_ret
                exact ⟨y, _, _, rfl, HE.out.1, HE.out.2, NR.out y HY.out, by rw [List.length_drop]; omega⟩
              · have a1 : bits .and .u64 (U2 : Int) 1 = 0 := by rw [Lib.u64_and1 _ (by omega) (by omega)]; omega
                have hdiv : ((U2 : Int) / 2) = ((U2 / 2 : Nat) : Int) := by omega
                have HY : Hid (((U2 / 2 : Nat) : Int) = unfoldI U2) := unf_even hodd
                have hU3 : U2 / 2 ≤ 9223372036854775807 := by omega
                clear hodd
                generalize U2 / 2 = U3 at *
                go_wp2
                go_ret
                exact ⟨(U3 : Int), _, _, rfl, HE.out.1, HE.out.2, NR.out _ HY.out, by rw [List.length_drop]; omega⟩
          · have b63 : (7 * (i : Int) == 63) = false := by rw [hb63]; simp [h9]
            clear hb63 h9x
            by_cases h0 : 0 < i
            · have hxe : ((x : Int) == 0) = false := by simp; omega
              clear hx0 h9
              by_cases hce : cap = i + 1
              · have HE : Hid (RS B (w.setCell ⟨rb, 0, none⟩ (.slice (some a) 0 0)) rb (l.drop (i + 1)) wr ∧ w.grownBy (w.setCell ⟨rb, 0, none⟩ (.slice (some a) 0 0)) (some rb)) := by
                  have e0 : l.drop (i + 1) = [] := List.drop_eq_nil_of_le (by omega)
                  rw [e0]
                  exact rs_set HB.out H1.out (.inr ⟨a, 0, rfl, Nat.le_refl _, by decide, fun j u hj => by simp [bcells] at hj⟩) (fun h => absurd rfl h)
                have hll : l.length - (i + 1) = 0 := by omega
                subst hce
                by_cases hodd : U2 % 2 = 1
                · have a1 : bits .and .u64 (U2 : Int) 1 = 1 := by rw [Lib.u64_and1 _ (by omega) (by omega)]; omega
                  have hdiv : ((U2 : Int) / 2) = ((U2 / 2 : Nat) : Int) := by omega
                  have x1 := xor_top o2
                  have x2 := unf_odd hodd o2
                  have HX : Hid (∃ y, y = unfoldI U2) := ⟨_, rfl⟩
                  obtain ⟨y, hy⟩ := HX.out
                  rw [← hy] at x2
                  have HY : Hid (y = unfoldI U2) := hy
                  clear hodd hy HX
                  generalize U2 / 2 = U3 at *
                  go_wp2
                  go_ret
                  exact ⟨y, _, _, rfl, HE.out.1, HE.out.2, NR.out y HY.out, by rw [List.length_drop]; omega⟩
                · have a1 : bits .and .u64 (U2 : Int) 1 = 0 := by rw [Lib.u64_and1 _ (by omega) (by omega)]; omega
                  have hdiv : ((U2 : Int) / 2) = ((U2 / 2 : Nat) : Int) := by omega
                  have HY : Hid (((U2 / 2 : Nat) : Int) = unfoldI U2) := unf_even hodd
                  have hU3 : U2 / 2 ≤ 9223372036854775807 := by omega
                  clear hodd
                  generalize U2 / 2 = U3 at *
                  go_wp2
                  go_ret
                  exact ⟨(U3 : Int), _, _, rfl, HE.out.1, HE.out.2, NR.out _ HY.out, by rw [List.length_drop]; omega⟩
              · have HE : Hid (RS B (w.setCell ⟨rb, 0, none⟩ (.slice (some (a.add (i + 1))) (l.length - (i + 1)) (cap - (i + 1)))) rb (l.drop (i + 1)) wr ∧ w.grownBy (w.setCell ⟨rb, 0, none⟩ (.slice (some (a.add (i + 1))) (l.length - (i + 1)) (cap - (i + 1)))) (some rb)) := by
                  refine rs_set HB.out H1.out ?_ (fun hne a' n' c' e => by
                    cases e
                    rw [addr_block]
                    exact HLow.out (by rintro rfl; simp at hne) _ _ _ rfl)
                  have := Bts.later (m := i + 1) (n := l.length - (i + 1)) (by omega) (by omega) (by omega) HC.out.1 HC.out.2
                  rwa [List.take_of_length_le (by simp)] at this
                by_cases hodd : U2 % 2 = 1
                · have a1 : bits .and .u64 (U2 : Int) 1 = 1 := by rw [Lib.u64_and1 _ (by omega) (by omega)]; omega
                  have hdiv : ((U2 : Int) / 2) = ((U2 / 2 : Nat) : Int) := by omega
                  have x1 := xor_top o2
                  have x2 := unf_odd hodd o2
                  have HX : Hid (∃ y, y = unfoldI U2) := ⟨_, rfl⟩
                  obtain ⟨y, hy⟩ := HX.out
                  rw [← hy] at x2
                  have HY : Hid (y = unfoldI U2) := hy
                  clear hodd hy HX
                  generalize U2 / 2 = U3 at *
                  go_wp2
                  go_ret
                  exact ⟨y, _, _, rfl, HE.out.1, HE.out.2, NR.out y HY.out, by rw [List.length_drop]; omega⟩
                · have a1 : bits .and .u64 (U2 : Int) 1 = 0 := by rw [Lib.u64_and1 _ (by omega) (by omega)]; omega
                  have hdiv : ((U2 : Int) / 2) = ((U2 / 2 : Nat) : Int) := by omega
                  have HY : Hid (((U2 / 2 : Nat) : Int) = unfoldI U2) := unf_even hodd
                  have hU3 : U2 / 2 ≤ 9223372036854775807 := by omega
                  clear hodd
                  generalize U2 / 2 = U3 at *
                  go_wp2
                  go_ret
                  exact ⟨(U3 : Int), _, _, rfl, HE.out.1, HE.out.2, NR.out _ HY.out, by rw [List.length_drop]; omega⟩
            · clear hx0 h9
              by_cases hce : cap = i + 1
              · have HE : Hid (RS B (w.setCell ⟨rb, 0, none⟩ (.slice (some a) 0 0)) rb (l.drop (i + 1)) wr ∧ w.grownBy (w.setCell ⟨rb, 0, none⟩ (.slice (some a) 0 0)) (some rb)) := by
                  have e0 : l.drop (i + 1) = [] := List.drop_eq_nil_of_le (by omega)
                  rw [e0]
                  exact rs_set HB.out H1.out (.inr ⟨a, 0, rfl, Nat.le_refl _, by decide, fun j u hj => by simp [bcells] at hj⟩) (fun h => absurd rfl h)
                have hll : l.length - (i + 1) = 0 := by omega
                subst hce
                by_cases hodd : U2 % 2 = 1
                · have a1 : bits .and .u64 (U2 : Int) 1 = 1 := by rw [Lib.u64_and1 _ (by omega) (by omega)]; omega
                  have hdiv : ((U2 : Int) / 2) = ((U2 / 2 : Nat) : Int) := by omega
                  have x1 := xor_top o2
                  have x2 := unf_odd hodd o2
                  have HX : Hid (∃ y, y = unfoldI U2) := ⟨_, rfl⟩
                  obtain ⟨y, hy⟩ := HX.out
                  rw [← hy] at x2
                  have HY : Hid (y = unfoldI U2) := hy
                  clear hodd hy HX
                  generalize U2 / 2 = U3 at *
                  go_wp2
                  go_ret
                  exact ⟨y, _, _, rfl, HE.out.1, HE.out.2, NR.out y HY.out, by rw [List.length_drop]; omega⟩
                · have a1 : bits .and .u64 (U2 : Int) 1 = 0 := by rw [Lib.u64_and1 _ (by omega) (by omega)]; omega
                  have hdiv : ((U2 : Int) / 2) = ((U2 / 2 : Nat) : Int) := by omega
                  have HY : Hid (((U2 / 2 : Nat) : Int) = unfoldI U2) := unf_even hodd
                  have hU3 : U2 / 2 ≤ 9223372036854775807 := by omega
                  clear hodd
                  generalize U2 / 2 = U3 at *
                  go_wp2
                  go_ret
                  exact ⟨(U3 : Int), _, _, rfl, HE.out.1, HE.out.2, NR.out _ HY.out, by rw [List.length_drop]; omega⟩
              · have HE : Hid (RS B (w.setCell ⟨rb, 0, none⟩ (.slice (some (a.add (i + 1))) (l.length - (i + 1)) (cap - (i + 1)))) rb (l.drop (i + 1)) wr ∧ w.grownBy (w.setCell ⟨rb, 0, none⟩ (.slice (some (a.add (i + 1))) (l.length - (i + 1)) (cap - (i + 1)))) (some rb)) := by
                  refine rs_set HB.out H1.out ?_ (fun hne a' n' c' e => by
                    cases e
                    rw [addr_block]
                    exact HLow.out (by rintro rfl; simp at hne) _ _ _ rfl)
                  have := Bts.later (m := i + 1) (n := l.length - (i + 1)) (by omega) (by omega) (by omega) HC.out.1 HC.out.2
                  rwa [List.take_of_length_le (by simp)] at this
                by_cases hodd : U2 % 2 = 1
                · have a1 : bits .and .u64 (U2 : Int) 1 = 1 := by rw [Lib.u64_and1 _ (by omega) (by omega)]; omega
                  have hdiv : ((U2 : Int) / 2) = ((U2 / 2 : Nat) : Int) := by omega
                  have x1 := xor_top o2
                  have x2 := unf_odd hodd o2
                  have HX : Hid (∃ y, y = unfoldI U2) := ⟨_, rfl⟩
                  obtain ⟨y, hy⟩ := HX.out
                  rw [← hy] at x2
                  have HY : Hid (y = unfoldI U2) := hy
                  clear hodd hy HX
                  generalize U2 / 2 = U3 at *
                  go_wp2
                  go_ret
                  exact ⟨y, _, _, rfl, HE.out.1, HE.out.2, NR.out y HY.out, by rw [List.length_drop]; omega⟩
                · have a1 : bits .and .u64 (U2 : Int) 1 = 0 := by rw [Lib.u64_and1 _ (by omega) (by omega)]; omega
                  have hdiv : ((U2 : Int) / 2) = ((U2 / 2 : Nat) : Int) := by omega
                  have HY : Hid (((U2 / 2 : Nat) : Int) = unfoldI U2) := unf_even hodd
                  have hU3 : U2 / 2 ≤ 9223372036854775807 := by omega
                  clear hodd
                  generalize U2 / 2 = U3 at *
                  go_wp2
                  go_ret
                  exact ⟨(U3 : Int), _, _, rfl, HE.out.1, HE.out.2, NR.out _ HY.out, by rw [List.length_drop]; omega⟩
    · have NN : Hid (numR l = none) := by
        show _ = _
        unfold numR
        rw [hn, List.drop_eq_nil_of_le (by omega)]
        rfl
      clear hU hn
      go_wp2
      go_ret
      exact ⟨0, [], true, rfl, HG.out.1, HG.out.2, .inr ⟨rfl, .inr NN.out⟩, by simp⟩
end Go.Proofs.YtcheikpmhdliiaaDoor
