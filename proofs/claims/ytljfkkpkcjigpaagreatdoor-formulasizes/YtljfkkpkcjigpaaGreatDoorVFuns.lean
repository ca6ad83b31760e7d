import Derived.Test.YtljfkkpkcjigpaaGreatDoorNRParse
import Derived.Lib.IndexLaws
import Derived.Test.YtljfkkpkcjigpaaGreatDoorNRPrint
import Derived.Test.YtljfkkpkcjigpaaGreatDoorRows
import Derived.WalkKit
import Derived.Below
set_option linter.unusedVariables false
set_option linter.unusedSimpArgs false
/- The contract of the reference's Parse. -/
namespace Go.Proofs.YtljfkkpkcjigpaaGreatDoor
open Go.RowKit
set_option linter.unusedVariables false
set_option maxRecDepth 100000

theorem pt_yes (bl : List UInt8) (h : hasP bl = true) : ∃ p, ∃ hp : p < bl.length, bl[p] = 46 ∧ (∀ k (hk : k < p), bl[k]'(Nat.lt_trans hk hp) ≠ 46) ∧ fstP bl = bl.take p ∧ sndP bl = bl.drop (p + 1) := by
  have hge := Lib.indexByte_ge bl 46
  by_cases hi : Lib.indexByte bl 46 = -1
  · have := ((indexP bl).1 hi).2.2
    rw [h] at this
    cases this
  · obtain ⟨p, hp⟩ : ∃ p : Nat, Lib.indexByte bl 46 = p := ⟨(Lib.indexByte bl 46).toNat, by omega⟩
    obtain ⟨h1, h2⟩ := Lib.indexByte_some hp
    obtain ⟨e1, e2, _⟩ := (indexP bl).2 p hp
    have hlt : p < bl.length := by
      rcases Nat.lt_or_ge p bl.length with g | g
      · exact g
      · rw [List.getElem?_eq_none g] at h1; cases h1
    refine ⟨p, hlt, ?_, fun k hk e => ?_, e1, e2⟩
    · rw [List.getElem?_eq_getElem hlt] at h1
      exact Option.some.inj h1
    · refine h2 k hk ?_
      rw [List.getElem?_eq_getElem (Nat.lt_trans hk hlt), e]
theorem pt_no (bl : List UInt8) (h : hasP bl = false) : (∀ k (hk : k < bl.length), bl[k] ≠ 46) ∧ fstP bl = bl := by
  have hge := Lib.indexByte_ge bl 46
  by_cases hi : Lib.indexByte bl 46 = -1
  · refine ⟨fun k hk e => ?_, ((indexP bl).1 hi).1⟩
    refine Lib.indexByte_none hi k ?_
    rw [List.getElem?_eq_getElem hk, e]
  · have := ((indexP bl).2 (Lib.indexByte bl 46).toNat (by omega)).2.2
    rw [h] at this
    cases this
theorem get_mk (l : List UInt8) (k : Nat) (h : k < l.length) (h2 : k < (⟨l.toArray⟩ : ByteArray).size) : (⟨l.toArray⟩ : ByteArray)[k] = l[k] := by
  rw [byte_at _ k h2 (by simpa using h)]
theorem ne_beq (b c : UInt8) (h : b ≠ c) : (((b.toNat : Nat) : Int) == ((c.toNat : Nat) : Int)) = false := by
  rw [beq_eq_false_iff_ne]
  intro e
  apply h
  apply UInt8.toNat_inj.1
  omega
theorem full_facts (F R : List UInt8) (hF : F.all isD = true ∧ 1 ≤ F.length ∧ F.length ≤ 12) (hR : R.all isD = true ∧ R.length ≤ 4) :
    (∀ t : ByteArray, t.size = 4 → (∃ j, t = ⟨(R ++ List.replicate j 48).toArray⟩) → ((⟨F.toArray⟩ : ByteArray) ++ t).size ≤ 16 ∧ ((⟨F.toArray⟩ : ByteArray) ++ t).data.toList.all isD = true ∧ numD ((⟨F.toArray⟩ : ByteArray) ++ t).data.toList = numD F * 10000 + numD R * 10 ^ (4 - R.length)) ∧
      numD F * 10000 + numD R * 10 ^ (4 - R.length) < 10000000000000000 := by
  constructor
  · rintro t ht ⟨j, rfl⟩
    rw [size_mk] at ht
    simp at ht
    have hj : j = 4 - R.length := by omega
    rw [app_mk, size_mk]
    refine ⟨by simp; omega, ?_, ?_⟩
    · show (F ++ (R ++ List.replicate j 48)).all isD = true
      rw [List.all_append, List.all_append, hF.1, hR.1, all_rep]
      rfl
    · show numD (F ++ (R ++ List.replicate j 48)) = _
      rw [numD_append, pad_num, hj]
      simp
      rw [show R.length + (4 - R.length) = 4 by omega]
  · have h1 := num_bound F 12 hF.1 hF.2.2
    have h2 := numD_lt R hR.1
    have h3 : (numD R + 1) * 10 ^ (4 - R.length) ≤ 10 ^ R.length * 10 ^ (4 - R.length) := Nat.mul_le_mul_right _ (by omega)
    rw [← Nat.pow_add, show R.length + (4 - R.length) = 4 by omega, Nat.add_mul] at h3
    have h4 : 1 ≤ 10 ^ (4 - R.length) := Nat.one_le_pow _ _ (by decide)
    omega

theorem rg (l : List UInt8) (m : Nat) (hm : m ≤ 12) (hl : l.length ≤ 9223372036854775807) {r : Bool} (hr : digs l 1 m = r) (u : World) :
    Calls Tryz.prog 126 #[.string ⟨l.toArray⟩, .int .i64 1, .int .i64 m] u fun e w' => e = .returned (.bool r) ∧ w' = u := by
  have := rdigits_any ⟨l.toArray⟩ m hm u (by rw [size_mk]; exact hl)
  rw [← hr]
  exact this
theorem rparse_any (l : List UInt8) (w : World) (hl : l.length ≤ 9223372036854775807) :
    Calls Tryz.prog 84 #[.string ⟨l.toArray⟩] w fun e w' => e = .returned (two (parseF l)) ∧ Below w.heap.size w w' := by
  have hbl := body_len l
  have hs : (⟨l.toArray⟩ : ByteArray).size ≤ 9223372036854775807 := by rw [size_mk]; exact hl
  have hs1 : (⟨(body l).toArray⟩ : ByteArray).size ≤ 9223372036854775807 := by rw [size_mk]; omega
  have hfl := fst_len (body l)
  have hsl := snd_len (body l)
  -- how the text begins
  have hbeg : (dash l = true ∧ ∃ h1 : 0 < (⟨l.toArray⟩ : ByteArray).size, (((((⟨l.toArray⟩ : ByteArray)[0]'h1).toNat : Nat) : Int) == 45) = true ∧ (⟨l.toArray⟩ : ByteArray).extract 1 (⟨l.toArray⟩ : ByteArray).size = ⟨(body l).toArray⟩) ∨
      (dash l = false ∧ body l = l ∧ ((⟨(body l).toArray⟩ : ByteArray).size = 0 ∨ ∃ h1 : 0 < (⟨(body l).toArray⟩ : ByteArray).size, (((((⟨(body l).toArray⟩ : ByteArray)[0]'h1).toNat : Nat) : Int) == 45) = false)) := by
    cases hd : dash l
    · right
      have hb : body l = l := by unfold body; rw [hd]; rfl
      refine ⟨rfl, hb, ?_⟩
      rw [hb]
      cases l with
      | nil => left; rfl
      | cons b l =>
        right
        refine ⟨by rw [size_mk]; simp, ?_⟩
        rw [get_mk (b :: l) 0 (by simp)]
        refine ne_beq b 45 fun e => ?_
        subst e
        cases hd
    · left
      have hb : body l = l.drop 1 := by unfold body; rw [hd]; rfl
      refine ⟨rfl, ?_⟩
      rw [hb, drop_mk]
      cases l with
      | nil => cases hd
      | cons b l =>
        refine ⟨by rw [size_mk]; simp, ?_, rfl⟩
        rw [get_mk (b :: l) 0 (by simp)]
        have : b = 45 := by
          unfold dash at hd
          simpa using hd
        subst this
        rfl
  unfold parseF restN
  have e1 : ∀ (V : Nat), sgnI (V : Int) true = -(V : Int) := fun _ => rfl
  have e0 : ∀ (V : Nat), sgnI (V : Int) false = (V : Int) := fun _ => rfl
  cases hp : hasP (body l)
  · obtain ⟨hno, hfst⟩ := pt_no (body l) hp
    have hno' : Hid (∀ k (h : k < (⟨(body l).toArray⟩ : ByteArray).size), (((((⟨(body l).toArray⟩ : ByteArray)[k]'h).toNat : Nat) : Int) == 46) = false) := fun k h => by
      have hk : k < (body l).length := by rw [size_mk] at h; exact h
      rw [get_mk (body l) k hk h]
      exact ne_beq _ 46 (hno k hk)
    rw [hfst]
    cases h1 : digs (body l) 1 12
    · rw [if_neg (by simp)]
      have G1 := fun u => rg (body l) 12 (by decide) (by omega) h1 u
      rcases hbeg with ⟨hd, hq, hb, he⟩ | ⟨hd, hb, h0 | ⟨hq, hb1⟩⟩
      · exact rp_b2_A0 (A2 := ⟨#[]⟩) (A3 := ⟨#[]⟩) hs hs1 hq hb he G1 hno'
      · conv => arg 3; rw [← hb]
        exact rp_b0_A0 (A2 := ⟨#[]⟩) (A3 := ⟨#[]⟩) hs hs1 h0 G1 hno'
      · conv => arg 3; rw [← hb]
        exact rp_b1_A0 (A2 := ⟨#[]⟩) (A3 := ⟨#[]⟩) hs hs1 hq hb1 G1 hno'
    · rw [if_pos ⟨rfl, fun h => by cases h⟩, if_neg (by decide)]
      have hd1 := (digs_iff _ _ _).1 h1
      have G1 := fun u => rg (body l) 12 (by decide) (by omega) h1 u
      have ff := full_facts (body l) [] hd1 ⟨rfl, by simp⟩
      have ez : numD ([] : List UInt8) * 10 ^ (4 - ([] : List UInt8).length) = 0 := rfl
      rw [ez] at ff
      rcases hbeg with ⟨hd, hq, hb, he⟩ | ⟨hd, hb, h0 | ⟨hq, hb1⟩⟩
      · rw [hd, e1]
        exact rp_b2_A1 (A2 := ⟨#[]⟩) (A3 := ⟨#[]⟩) hs hs1 hq hb he G1 hno' [] _ (by rw [size_mk]; exact hd1.2) (by decide) rfl ff.1 ff.2
      · rw [size_mk] at h0; omega
      · rw [hd, e0]
        conv => arg 3; rw [← hb]
        exact rp_b1_A1 (A2 := ⟨#[]⟩) (A3 := ⟨#[]⟩) hs hs1 hq hb1 G1 hno' [] _ (by rw [size_mk]; exact hd1.2) (by decide) rfl ff.1 ff.2
  · obtain ⟨p, hpl, hpt, hno, hfst, hsnd⟩ := pt_yes (body l) hp
    have hps : p < (⟨(body l).toArray⟩ : ByteArray).size := by rw [size_mk]; exact hpl
    have hpt' : (((((⟨(body l).toArray⟩ : ByteArray)[p]'hps).toNat : Nat) : Int) == 46) = true := by rw [get_mk (body l) p hpl hps, hpt]; rfl
    have hno' : Hid (∀ k (h : k < p), (((((⟨(body l).toArray⟩ : ByteArray)[k]'(Nat.lt_trans h hps)).toNat : Nat) : Int) == 46) = false) := fun k h => by
      rw [get_mk (body l) k (Nat.lt_trans h hpl)]
      exact ne_beq _ 46 (hno k h)
    have hA2 : (⟨(body l).toArray⟩ : ByteArray).extract 0 p = ⟨(fstP (body l)).toArray⟩ := by
      rw [← mk_list ((⟨(body l).toArray⟩ : ByteArray).extract 0 p), (ext_list _ p (by omega)).1, hfst]
    have hA3 : (⟨(body l).toArray⟩ : ByteArray).extract (p + 1) (⟨(body l).toArray⟩ : ByteArray).size = ⟨(sndP (body l)).toArray⟩ := by
      rw [hsnd]
      apply ByteArray.ext
      rw [size_mk, ByteArray.data_extract]
      simp
      exact List.take_of_length_le (by simp)
    cases h1 : digs (fstP (body l)) 1 12
    · rw [if_neg (by simp)]
      have G1 := fun u => rg (fstP (body l)) 12 (by decide) (by omega) h1 u
      rcases hbeg with ⟨hd, hq, hb, he⟩ | ⟨hd, hb, h0 | ⟨hq, hb1⟩⟩
      · exact rp_b2_B0 hs hs1 hq hb he G1 p hps hpt' hno' hA2 hA3
      · rw [size_mk] at h0; omega
      · conv => arg 3; rw [← hb]
        exact rp_b1_B0 hs hs1 hq hb1 G1 p hps hpt' hno' hA2 hA3
    · have hd1 := (digs_iff _ _ _).1 h1
      have G1 := fun u => rg (fstP (body l)) 12 (by decide) (by omega) h1 u
      cases h2 : digs (sndP (body l)) 1 4
      · rw [if_neg (by simp)]
        have G2 := fun u => rg (sndP (body l)) 4 (by decide) (by omega) h2 u
        rcases hbeg with ⟨hd, hq, hb, he⟩ | ⟨hd, hb, h0 | ⟨hq, hb1⟩⟩
        · exact rp_b2_B1 hs hs1 hq hb he G1 p hps hpt' hno' hA2 hA3 G2
        · rw [size_mk] at h0; omega
        · conv => arg 3; rw [← hb]
          exact rp_b1_B1 hs hs1 hq hb1 G1 p hps hpt' hno' hA2 hA3 G2
      · rw [if_pos ⟨rfl, fun _ => rfl⟩, if_pos rfl]
        have hd2 := (digs_iff _ _ _).1 h2
        have G2 := fun u => rg (sndP (body l)) 4 (by decide) (by omega) h2 u
        have ff := full_facts (fstP (body l)) (sndP (body l)) hd1 ⟨hd2.1, hd2.2.2⟩
        rcases hbeg with ⟨hd, hq, hb, he⟩ | ⟨hd, hb, h0 | ⟨hq, hb1⟩⟩
        · rw [hd, e1]
          exact rp_b2_B2 hs hs1 hq hb he G1 p hps hpt' hno' hA2 hA3 G2 (sndP (body l)) _ (by rw [size_mk]; exact hd1.2) (by rw [size_mk]; exact hd2.2.2) rfl ff.1 ff.2
        · rw [size_mk] at h0; omega
        · rw [hd, e0]
          conv => arg 3; rw [← hb]
          exact rp_b1_B2 hs hs1 hq hb1 G1 p hps hpt' hno' hA2 hA3 G2 (sndP (body l)) _ (by rw [size_mk]; exact hd1.2) (by rw [size_mk]; exact hd2.2.2) rfl ff.1 ff.2
end Go.Proofs.YtljfkkpkcjigpaaGreatDoor

/- The contract of the reference's Print, whole. -/
namespace Go.Proofs.YtljfkkpkcjigpaaGreatDoor
open Go.RowKit
set_option linter.unusedVariables false
set_option maxRecDepth 100000

theorem tail_empty (r : Nat) (h : r < 10000) : (tailP r = []) ↔ r = 0 := by
  constructor
  · intro e
    by_cases h0 : r = 0
    · exact h0
    · have := ((digs_iff _ _ _).1 (tail_facts r h h0).1).2.1
      rw [e] at this
      simp at this
  · rintro rfl
    exact tail_zero
theorem rprint_any (n : Int) (hn : -9223372036854775808 ≤ n ∧ n ≤ 9223372036854775807) (w : World) :
    Calls Tryz.prog 111 #[.int .i64 n] w fun e w' => e = .returned (.string ⟨(printF n).toArray⟩) ∧ Below w.heap.size w w' := by
  have hQ : n.natAbs / 10000 ≤ 922337203685477 := by omega
  have hR : n.natAbs % 10000 < 10000 := by omega
  have D1 := fun u => rDigits_any (n.natAbs / 10000) (by omega) u
  have D2 := fun u => rDigits_any (10000 + n.natAbs % 10000) (by omega) u
  rw [show ((n.natAbs / 10000 : Nat) : Int) = (n.natAbs : Int) / 10000 by omega] at D1
  rw [show ((10000 + n.natAbs % 10000 : Nat) : Int) = (n.natAbs : Int) % 10000 + 10000 by omega] at D2
  have l1 := (dec_len 15 (n.natAbs / 10000) (by decide) (by omega)).2
  have d5 := dec_five (n.natAbs % 10000) hR
  have l5 : (Lib.decDigits (10000 + n.natAbs % 10000)).length = 5 := by rw [d5]; rfl
  have te := tail_empty (n.natAbs % 10000) hR
  have h3 : (⟨((Lib.decDigits (10000 + n.natAbs % 10000)).drop 1).toArray⟩ : ByteArray).size = 4 := by rw [size_mk, List.length_drop, l5]
  have hA : (⟨(Lib.decDigits (10000 + n.natAbs % 10000)).toArray⟩ : ByteArray).extract 1 5 = ⟨((Lib.decDigits (10000 + n.natAbs % 10000)).drop 1).toArray⟩ := by
    have := drop_mk (Lib.decDigits (10000 + n.natAbs % 10000))
    rw [size_mk, l5] at this
    exact this
  have hs2 : ((⟨#[45]⟩ : ByteArray) ++ ⟨(Lib.decDigits (n.natAbs / 10000)).toArray⟩).size ≤ 21 := by
    rw [show (⟨#[45]⟩ : ByteArray) = ⟨([45] : List UInt8).toArray⟩ from rfl, app_mk, size_mk]; simp; omega
  have ht : Lib.trimRightB ((Lib.decDigits (10000 + n.natAbs % 10000)).drop 1) 48 = tailP (n.natAbs % 10000) := rfl
  by_cases hneg : n < 0
  · have h := rprint_neg (w := w) (U := n.natAbs) (L0 := (Lib.decDigits (10000 + n.natAbs % 10000)).drop 1) hn hneg (by omega) (by omega) D1 D2 (by rw [size_mk]; omega) (by rw [size_mk]; exact l5) hA h3 rfl hs2
    rw [ht] at h
    refine h.mono ?_
    rintro e w' ⟨rfl, hb⟩
    refine ⟨?_, hb⟩
    congr 2
    rw [show (⟨#[45]⟩ : ByteArray) = ⟨([45] : List UInt8).toArray⟩ from rfl, app_mk, app_mk]
    unfold printF
    rw [if_pos hneg]
    by_cases h0 : n.natAbs % 10000 = 0
    · rw [if_pos (te.2 h0), if_pos h0]
    · rw [if_neg (fun h => h0 (te.1 h)), if_neg h0]
  · have h := rprint_pos (w := w) (U := n.natAbs) (L0 := (Lib.decDigits (10000 + n.natAbs % 10000)).drop 1) hn hneg (by omega) (by omega) D1 D2 (by rw [size_mk]; omega) (by rw [size_mk]; exact l5) hA h3 rfl hs2
    rw [ht] at h
    refine h.mono ?_
    rintro e w' ⟨rfl, hb⟩
    refine ⟨?_, hb⟩
    congr 2
    rw [app_mk]
    unfold printF
    rw [if_neg hneg]
    by_cases h0 : n.natAbs % 10000 = 0
    · rw [if_pos (te.2 h0), if_pos h0]; rfl
    · rw [if_neg (fun h => h0 (te.1 h)), if_neg h0]; rfl
end Go.Proofs.YtljfkkpkcjigpaaGreatDoor

/- The contract of kindOf: a value as one of the types of its kinds. -/
namespace Go.Proofs.YtljfkkpkcjigpaaGreatDoor
open Go.RowKit
set_option maxRecDepth 100000
set_option linter.unusedVariables false

set_option maxHeartbeats 1000000 in
theorem kind_blank (n : Int) (s : ByteArray) (w : World) : Calls Tryz.prog 145 #[.agg #[.int .i64 0, .int .i64 n, .string s]] w fun e w' => e = .returned (.iface 159 (.agg #[])) ∧ Below w.heap.size w w' := by
  go_enter Tryz.func145, Tryz.ntmps145
  go_wp2
  go_ret
  exact ⟨rfl, (Below.refl _ _).alloc (Nat.le_refl _) _⟩
set_option maxHeartbeats 1000000 in
theorem kind_num (n : Int) (s : ByteArray) (w : World) : Calls Tryz.prog 145 #[.agg #[.int .i64 1, .int .i64 n, .string s]] w fun e w' => e = .returned (.iface 137 (.int .i64 n)) ∧ Below w.heap.size w w' := by
  go_enter Tryz.func145, Tryz.ntmps145
  go_wp2
  go_ret
  exact ⟨rfl, (Below.refl _ _).alloc (Nat.le_refl _) _⟩
set_option maxHeartbeats 1000000 in
theorem kind_str (n : Int) (s : ByteArray) (w : World) : Calls Tryz.prog 145 #[.agg #[.int .i64 2, .int .i64 n, .string s]] w fun e w' => e = .returned (.iface 138 (.string s)) ∧ Below w.heap.size w w' := by
  go_enter Tryz.func145, Tryz.ntmps145
  go_wp2
  go_ret
  exact ⟨rfl, (Below.refl _ _).alloc (Nat.le_refl _) _⟩
set_option maxHeartbeats 1000000 in
theorem kind_bool (n : Int) (s : ByteArray) (w : World) : Calls Tryz.prog 145 #[.agg #[.int .i64 3, .int .i64 n, .string s]] w fun e w' => e = .returned (.iface 139 (.bool (n != 0))) ∧ Below w.heap.size w w' := by
  go_enter Tryz.func145, Tryz.ntmps145
  go_wp2
  go_ret
  exact ⟨rfl, (Below.refl _ _).alloc (Nat.le_refl _) _⟩
set_option maxHeartbeats 1000000 in
theorem kind_bad (n : Int) (s : ByteArray) (w : World) : Calls Tryz.prog 145 #[.agg #[.int .i64 4, .int .i64 n, .string s]] w fun e w' => e = .returned (.iface 140 (.int .i64 n)) ∧ Below w.heap.size w w' := by
  go_enter Tryz.func145, Tryz.ntmps145
  go_wp2
  go_ret
  exact ⟨rfl, (Below.refl _ _).alloc (Nat.le_refl _) _⟩
set_option maxHeartbeats 1000000 in
theorem kind_none (k n : Int) (s : ByteArray) (w : World) (h0 : (k == 0) = false) (h1 : (k == 1) = false) (h2 : (k == 2) = false) (h3 : (k == 3) = false) (h4 : (k == 4) = false) : Calls Tryz.prog 145 #[.agg #[.int .i64 k, .int .i64 n, .string s]] w fun e w' => e = .returned (.iface 167 (.int .i64 n)) ∧ Below w.heap.size w w' := by
  go_enter Tryz.func145, Tryz.ntmps145
  go_wp2
  go_ret
  exact ⟨rfl, (Below.refl _ _).alloc (Nat.le_refl _) _⟩
set_option maxHeartbeats 1000000 in
theorem tcount_any (b : Bool) (w : World) : Calls Tryz.prog 193 #[.bool b] w fun e w' => e = .returned (.int .i64 (if b = true then 1 else 0)) ∧ w' = w := by
  cases b
  all_goals
    go_enter Tryz.func193, Tryz.ntmps193
    go_wp2
    go_ret
    exact ⟨rfl, rfl⟩
def knB (n : Int) : Bool := decide (1 ≤ n) && decide (n ≤ 8)
set_option maxHeartbeats 1000000 in
theorem known_any (n : Int) (w : World) : Calls Tryz.prog 163 #[.int .i64 n] w fun e w' => e = .returned (.bool (knB n)) ∧ w' = w := by
  go_enter Tryz.func163, Tryz.ntmps163
  go_wp2
  all_goals (go_ret; rename_i h; refine ⟨?_, rfl⟩; congr 2; simp [knB]; try omega)
/-! What a value of one kind tells when it is asked for another. -/
theorem ta_46_46 (W : World) (v : Value) : (Instr.typeAssert (.iface 159 v) 20 159 true).run Tryz.prog W = .ok (.tuple #[v, .bool true]) W := by kernel_rfl
theorem ta_46_47 (W : World) (v : Value) : (Instr.typeAssert (.iface 159 v) 20 137 true).run Tryz.prog W = .ok (.tuple #[.int .i64 0, .bool false]) W := by kernel_rfl
theorem ta_46_48 (W : World) (v : Value) : (Instr.typeAssert (.iface 159 v) 20 138 true).run Tryz.prog W = .ok (.tuple #[.string ByteArray.empty, .bool false]) W := by kernel_rfl
theorem ta_46_51 (W : World) (v : Value) : (Instr.typeAssert (.iface 159 v) 20 139 true).run Tryz.prog W = .ok (.tuple #[.bool false, .bool false]) W := by kernel_rfl
theorem ta_46_53 (W : World) (v : Value) : (Instr.typeAssert (.iface 159 v) 20 140 true).run Tryz.prog W = .ok (.tuple #[.int .i64 0, .bool false]) W := by kernel_rfl
theorem ta_46_76 (W : World) (v : Value) : (Instr.typeAssert (.iface 159 v) 20 167 true).run Tryz.prog W = .ok (.tuple #[.int .i64 0, .bool false]) W := by kernel_rfl
theorem ta_47_46 (W : World) (v : Value) : (Instr.typeAssert (.iface 137 v) 20 159 true).run Tryz.prog W = .ok (.tuple #[.agg #[], .bool false]) W := by kernel_rfl
theorem ta_47_47 (W : World) (v : Value) : (Instr.typeAssert (.iface 137 v) 20 137 true).run Tryz.prog W = .ok (.tuple #[v, .bool true]) W := by kernel_rfl
theorem ta_47_48 (W : World) (v : Value) : (Instr.typeAssert (.iface 137 v) 20 138 true).run Tryz.prog W = .ok (.tuple #[.string ByteArray.empty, .bool false]) W := by kernel_rfl
theorem ta_47_51 (W : World) (v : Value) : (Instr.typeAssert (.iface 137 v) 20 139 true).run Tryz.prog W = .ok (.tuple #[.bool false, .bool false]) W := by kernel_rfl
theorem ta_47_53 (W : World) (v : Value) : (Instr.typeAssert (.iface 137 v) 20 140 true).run Tryz.prog W = .ok (.tuple #[.int .i64 0, .bool false]) W := by kernel_rfl
theorem ta_47_76 (W : World) (v : Value) : (Instr.typeAssert (.iface 137 v) 20 167 true).run Tryz.prog W = .ok (.tuple #[.int .i64 0, .bool false]) W := by kernel_rfl
theorem ta_48_46 (W : World) (v : Value) : (Instr.typeAssert (.iface 138 v) 20 159 true).run Tryz.prog W = .ok (.tuple #[.agg #[], .bool false]) W := by kernel_rfl
theorem ta_48_47 (W : World) (v : Value) : (Instr.typeAssert (.iface 138 v) 20 137 true).run Tryz.prog W = .ok (.tuple #[.int .i64 0, .bool false]) W := by kernel_rfl
theorem ta_48_48 (W : World) (v : Value) : (Instr.typeAssert (.iface 138 v) 20 138 true).run Tryz.prog W = .ok (.tuple #[v, .bool true]) W := by kernel_rfl
theorem ta_48_51 (W : World) (v : Value) : (Instr.typeAssert (.iface 138 v) 20 139 true).run Tryz.prog W = .ok (.tuple #[.bool false, .bool false]) W := by kernel_rfl
theorem ta_48_53 (W : World) (v : Value) : (Instr.typeAssert (.iface 138 v) 20 140 true).run Tryz.prog W = .ok (.tuple #[.int .i64 0, .bool false]) W := by kernel_rfl
theorem ta_48_76 (W : World) (v : Value) : (Instr.typeAssert (.iface 138 v) 20 167 true).run Tryz.prog W = .ok (.tuple #[.int .i64 0, .bool false]) W := by kernel_rfl
theorem ta_51_46 (W : World) (v : Value) : (Instr.typeAssert (.iface 139 v) 20 159 true).run Tryz.prog W = .ok (.tuple #[.agg #[], .bool false]) W := by kernel_rfl
theorem ta_51_47 (W : World) (v : Value) : (Instr.typeAssert (.iface 139 v) 20 137 true).run Tryz.prog W = .ok (.tuple #[.int .i64 0, .bool false]) W := by kernel_rfl
theorem ta_51_48 (W : World) (v : Value) : (Instr.typeAssert (.iface 139 v) 20 138 true).run Tryz.prog W = .ok (.tuple #[.string ByteArray.empty, .bool false]) W := by kernel_rfl
theorem ta_51_51 (W : World) (v : Value) : (Instr.typeAssert (.iface 139 v) 20 139 true).run Tryz.prog W = .ok (.tuple #[v, .bool true]) W := by kernel_rfl
theorem ta_51_53 (W : World) (v : Value) : (Instr.typeAssert (.iface 139 v) 20 140 true).run Tryz.prog W = .ok (.tuple #[.int .i64 0, .bool false]) W := by kernel_rfl
theorem ta_51_76 (W : World) (v : Value) : (Instr.typeAssert (.iface 139 v) 20 167 true).run Tryz.prog W = .ok (.tuple #[.int .i64 0, .bool false]) W := by kernel_rfl
theorem ta_53_46 (W : World) (v : Value) : (Instr.typeAssert (.iface 140 v) 20 159 true).run Tryz.prog W = .ok (.tuple #[.agg #[], .bool false]) W := by kernel_rfl
theorem ta_53_47 (W : World) (v : Value) : (Instr.typeAssert (.iface 140 v) 20 137 true).run Tryz.prog W = .ok (.tuple #[.int .i64 0, .bool false]) W := by kernel_rfl
theorem ta_53_48 (W : World) (v : Value) : (Instr.typeAssert (.iface 140 v) 20 138 true).run Tryz.prog W = .ok (.tuple #[.string ByteArray.empty, .bool false]) W := by kernel_rfl
theorem ta_53_51 (W : World) (v : Value) : (Instr.typeAssert (.iface 140 v) 20 139 true).run Tryz.prog W = .ok (.tuple #[.bool false, .bool false]) W := by kernel_rfl
theorem ta_53_53 (W : World) (v : Value) : (Instr.typeAssert (.iface 140 v) 20 140 true).run Tryz.prog W = .ok (.tuple #[v, .bool true]) W := by kernel_rfl
theorem ta_53_76 (W : World) (v : Value) : (Instr.typeAssert (.iface 140 v) 20 167 true).run Tryz.prog W = .ok (.tuple #[.int .i64 0, .bool false]) W := by kernel_rfl
theorem ta_76_46 (W : World) (v : Value) : (Instr.typeAssert (.iface 167 v) 20 159 true).run Tryz.prog W = .ok (.tuple #[.agg #[], .bool false]) W := by kernel_rfl
theorem ta_76_47 (W : World) (v : Value) : (Instr.typeAssert (.iface 167 v) 20 137 true).run Tryz.prog W = .ok (.tuple #[.int .i64 0, .bool false]) W := by kernel_rfl
theorem ta_76_48 (W : World) (v : Value) : (Instr.typeAssert (.iface 167 v) 20 138 true).run Tryz.prog W = .ok (.tuple #[.string ByteArray.empty, .bool false]) W := by kernel_rfl
theorem ta_76_51 (W : World) (v : Value) : (Instr.typeAssert (.iface 167 v) 20 139 true).run Tryz.prog W = .ok (.tuple #[.bool false, .bool false]) W := by kernel_rfl
theorem ta_76_53 (W : World) (v : Value) : (Instr.typeAssert (.iface 167 v) 20 140 true).run Tryz.prog W = .ok (.tuple #[.int .i64 0, .bool false]) W := by kernel_rfl
theorem ta_76_76 (W : World) (v : Value) : (Instr.typeAssert (.iface 167 v) 20 167 true).run Tryz.prog W = .ok (.tuple #[v, .bool true]) W := by kernel_rfl
end Go.Proofs.YtljfkkpkcjigpaaGreatDoor

/- The contracts of the functions of value that look at a kind, a theorem a kind. -/
namespace Go.Proofs.YtljfkkpkcjigpaaGreatDoor
open Go.RowKit
set_option maxRecDepth 100000
set_option linter.unusedVariables false
set_option linter.unusedSimpArgs false

theorem bcell {W w1 : World} (hb : Below W.heap.size W w1) : (∀ b o, b < W.heap.size → w1.cell? ⟨b, o, none⟩ = W.cell? ⟨b, o, none⟩) ∧ (∀ b o, b < W.heap.size → w1.frozen? ⟨b, o, none⟩ = W.frozen? ⟨b, o, none⟩) :=
  ⟨fun b o h => hb.cell (p := ⟨b, o, none⟩) h, fun b o h => hb.frozen (p := ⟨b, o, none⟩) h⟩
set_option maxHeartbeats 1000000 in
theorem vtext_blank (n : Int) (s : ByteArray) (w : World) : Calls Tryz.prog 103 #[.agg #[.int .i64 0, .int .i64 n, .string s]] w fun e w' => e = .returned (.string ⟨#[]⟩) ∧ Below w.heap.size w w' := by
  have ta47 := ta_46_47
  have ta48 := ta_46_48
  have ta51 := ta_46_51
  have ta53 := ta_46_53
  go_enter Tryz.func103, Tryz.ntmps103
  go_wp2_with (first | (go_at_call 145; refine (kind_blank _ _ _).mono ?_; rintro e w1 ⟨rfl, hb⟩; have HB : Hid (Below w.heap.size w w1) := bel1 hb; obtain ⟨hc, hf⟩ := bcell hb; have hz := hb.size; simp at hz; clear hb))
  all_goals (go_ret; exact ⟨rfl, HB.out⟩)
set_option maxHeartbeats 1000000 in
theorem vtext_num (n : Int) (s : ByteArray) (w : World) (X : ByteArray) (P : ∀ u : World, Below w.heap.size w u → Calls Tryz.prog 107 #[.int .i64 n] u fun e w' => e = .returned (.string X) ∧ Below u.heap.size u w') : Calls Tryz.prog 103 #[.agg #[.int .i64 1, .int .i64 n, .string s]] w fun e w' => e = .returned (.string X) ∧ Below w.heap.size w w' := by
  have ta47 := ta_47_47
  have ta48 := ta_47_48
  have ta51 := ta_47_51
  have ta53 := ta_47_53
  go_enter Tryz.func103, Tryz.ntmps103
  go_wp2_with (first | (go_at_call 145; refine (kind_num _ _ _).mono ?_; rintro e w1 ⟨rfl, hb⟩; have HB : Hid (Below w.heap.size w w1) := bel1 hb; obtain ⟨hc, hf⟩ := bcell hb; have hz := hb.size; simp at hz; clear hb) | (go_at_call 107; refine (P _ HB.out).mono ?_; rintro e w2 ⟨rfl, hb⟩; have HB2 : Hid (Below w.heap.size w w2) := bel_step HB.out hb; clear hb))
  go_ret
  exact ⟨rfl, HB2.out⟩
set_option maxHeartbeats 1000000 in
theorem vtext_str (n : Int) (s : ByteArray) (w : World) : Calls Tryz.prog 103 #[.agg #[.int .i64 2, .int .i64 n, .string s]] w fun e w' => e = .returned (.string s) ∧ Below w.heap.size w w' := by
  have ta47 := ta_48_47
  have ta48 := ta_48_48
  have ta51 := ta_48_51
  have ta53 := ta_48_53
  go_enter Tryz.func103, Tryz.ntmps103
  go_wp2_with (first | (go_at_call 145; refine (kind_str _ _ _).mono ?_; rintro e w1 ⟨rfl, hb⟩; have HB : Hid (Below w.heap.size w w1) := bel1 hb; obtain ⟨hc, hf⟩ := bcell hb; have hz := hb.size; simp at hz; clear hb))
  all_goals (go_ret; exact ⟨rfl, HB.out⟩)
set_option maxHeartbeats 1000000 in
theorem tname_any (b : Bool) (w : World) : Calls Tryz.prog 146 #[.bool b] w fun e w' => e = .returned (.string (if b = true then ⟨#[84, 82, 85, 69]⟩ else ⟨#[70, 65, 76, 83, 69]⟩)) ∧ w' = w := by
  cases b
  all_goals
    go_enter Tryz.func146, Tryz.ntmps146
    go_wp2
    go_ret
    exact ⟨rfl, rfl⟩
set_option maxHeartbeats 1000000 in
theorem vtext_bool (n : Int) (s : ByteArray) (w : World) (b : Bool) (KB : ∀ u : World, Calls Tryz.prog 145 #[.agg #[.int .i64 3, .int .i64 n, .string s]] u fun e w' => e = .returned (.iface 139 (.bool b)) ∧ Below u.heap.size u w') : Calls Tryz.prog 103 #[.agg #[.int .i64 3, .int .i64 n, .string s]] w fun e w' => e = .returned (.string (if b = true then ⟨#[84, 82, 85, 69]⟩ else ⟨#[70, 65, 76, 83, 69]⟩)) ∧ Below w.heap.size w w' := by
  cases b
  all_goals
    have ta47 := ta_51_47
    have ta48 := ta_51_48
    have ta51 := ta_51_51
    have ta53 := ta_51_53
    go_enter Tryz.func103, Tryz.ntmps103
    go_wp2_with (first | (go_at_call 145; refine (KB _).mono ?_; rintro e w1 ⟨rfl, hb⟩; have HB : Hid (Below w.heap.size w w1) := bel1 hb; obtain ⟨hc, hf⟩ := bcell hb; have hz := hb.size; simp at hz; clear hb) | (go_at_call 146; refine (tname_any _ _).mono ?_; rintro e w' ⟨rfl, hw⟩; obtain rfl := hw.symm; clear hw))
    all_goals (go_ret; exact ⟨rfl, HB.out⟩)
set_option maxHeartbeats 1000000 in
theorem vtext_bad (n : Int) (s : ByteArray) (w : World) (X : ByteArray) (P : ∀ u : World, Below w.heap.size w u → Calls Tryz.prog 147 #[.int .i64 n] u fun e w' => e = .returned (.string X) ∧ w' = u) : Calls Tryz.prog 103 #[.agg #[.int .i64 4, .int .i64 n, .string s]] w fun e w' => e = .returned (.string X) ∧ Below w.heap.size w w' := by
  have ta47 := ta_53_47
  have ta48 := ta_53_48
  have ta51 := ta_53_51
  have ta53 := ta_53_53
  go_enter Tryz.func103, Tryz.ntmps103
  go_wp2_with (first | (go_at_call 145; refine (kind_bad _ _ _).mono ?_; rintro e w1 ⟨rfl, hb⟩; have HB : Hid (Below w.heap.size w w1) := bel1 hb; obtain ⟨hc, hf⟩ := bcell hb; have hz := hb.size; simp at hz; clear hb) | (go_at_call 147; refine (P _ HB.out).mono ?_; rintro e w' ⟨rfl, hw⟩; obtain rfl := hw.symm; clear hw))
  all_goals (go_ret; exact ⟨rfl, HB.out⟩)
set_option maxHeartbeats 1000000 in
theorem vtext_none (k n : Int) (s : ByteArray) (w : World) (h0 : (k == 0) = false) (h1 : (k == 1) = false) (h2 : (k == 2) = false) (h3 : (k == 3) = false) (h4 : (k == 4) = false) : Calls Tryz.prog 103 #[.agg #[.int .i64 k, .int .i64 n, .string s]] w fun e w' => e = .returned (.string ⟨#[]⟩) ∧ Below w.heap.size w w' := by
  have ta47 := ta_76_47
  have ta48 := ta_76_48
  have ta51 := ta_76_51
  have ta53 := ta_76_53
  go_enter Tryz.func103, Tryz.ntmps103
  go_wp2_with (first | (go_at_call 145; refine (kind_none _ _ _ _ h0 h1 h2 h3 h4).mono ?_; rintro e w1 ⟨rfl, hb⟩; have HB : Hid (Below w.heap.size w w1) := bel1 hb; obtain ⟨hc, hf⟩ := bcell hb; have hz := hb.size; simp at hz; clear hb))
  all_goals (go_ret; exact ⟨rfl, HB.out⟩)
end Go.Proofs.YtljfkkpkcjigpaaGreatDoor
