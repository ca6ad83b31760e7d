/- NRParse2, VKind, VFuns, VName, VBad. -/
import Derived.Lib.IndexLaws
import Derived.Test.YtnibldnfbikipaaGreatDoorNRParseBy
set_option linter.unusedVariables false
set_option linter.unusedSimpArgs false
set_option maxHeartbeats 16000000
set_option maxRecDepth 100000
namespace Go.Proofs.YtnibldnfbikipaaGreatDoor
open Go.RowKit
theorem pt_yes (bl : List UInt8) (h : hasP bl = true) : ∃ p, ∃ hp : p < bl.length, bl[p] = 46 ∧ (∀ k (hk : k < p), bl[k]'(Nat.lt_trans hk hp) ≠ 46) ∧ fstP bl = bl.take p ∧ sndP bl = bl.drop (p + 1) := by
 have hge := Lib.indexByte_ge bl 46
 by_cases hi : Lib.indexByte bl 46 = -1
 ·have := ((indexP bl).1 hi).2.2
  rw [h] at this
  cases this
 ·obtain ⟨p, hp⟩ : ∃ p : Nat, Lib.indexByte bl 46 = p := ⟨(Lib.indexByte bl 46).toNat, by omega⟩
  obtain ⟨h1, h2⟩ := Lib.indexByte_some hp
  obtain ⟨e1, e2, _⟩ := (indexP bl).2 p hp
  have hlt : p < bl.length := by
   rcases Nat.lt_or_ge p bl.length with g | g
   ·exact g
   ·rw [List.getElem?_eq_none g] at h1; cases h1
  refine ⟨p, hlt, ?_, fun k hk e => ?_, e1, e2⟩
  ·rw [List.getElem?_eq_getElem hlt] at h1
   exact Option.some.inj h1
  ·refine h2 k hk ?_
   rw [List.getElem?_eq_getElem (Nat.lt_trans hk hlt), e]
theorem pt_no (bl : List UInt8) (h : hasP bl = false) : (∀ k (hk : k < bl.length), bl[k] ≠ 46) ∧ fstP bl = bl := by
 have hge := Lib.indexByte_ge bl 46
 by_cases hi : Lib.indexByte bl 46 = -1
 ·refine ⟨fun k hk e => ?_, ((indexP bl).1 hi).1⟩
  refine Lib.indexByte_none hi k ?_
  rw [List.getElem?_eq_getElem hk, e]
 ·have := ((indexP bl).2 (Lib.indexByte bl 46).toNat (by omega)).2.2
  rw [h] at this
  cases this
theorem get_mk (l : List UInt8) (k : Nat) (h : k < l.length) (h2 : k < (⟨l.toArray⟩ : ByteArray).size) : (⟨l.toArray⟩ : ByteArray)[k] = l[k] := by
 rw [byte_at _ k h2 (by simpa using h)]
theorem ne_beq (b c : UInt8) (h : b ≠ c) : (((b.toNat : Nat) : Int) == ((c.toNat : Nat) : Int)) = false := by
 rw [beq_eq_false_iff_ne]
 intro e
 apply h
 apply UInt8.toNat_inj.1
 omega
theorem full_facts (F R : List UInt8) (hF : F.all isD = true ∧ 1 ≤ F.length ∧ F.length ≤ 12) (hR : R.all isD = true ∧ R.length ≤ 4) :
  (∀ t : ByteArray, t.size = 4 → (∃ j, t = ⟨(R ++ List.replicate j 48).toArray⟩) → ((⟨F.toArray⟩ : ByteArray) ++ t).size ≤ 16 ∧ ((⟨F.toArray⟩ : ByteArray) ++ t).data.toList.all isD = true ∧ numD ((⟨F.toArray⟩ : ByteArray) ++ t).data.toList = numD F * 10000 + numD R * 10 ^ (4 - R.length)) ∧
   numD F * 10000 + numD R * 10 ^ (4 - R.length) < 10000000000000000 := by
 constructor
 ·rintro t ht ⟨j, rfl⟩
  rw [size_mk] at ht
  simp at ht
  have hj : j = 4 - R.length := by omega
  rw [app_mk, size_mk]
  refine ⟨by simp; omega, ?_, ?_⟩
  ·show (F ++ (R ++ List.replicate j 48)).all isD = true
   rw [List.all_append, List.all_append, hF.1, hR.1, all_rep]
   rfl
  ·show numD (F ++ (R ++ List.replicate j 48)) = _
   rw [numD_append, pad_num, hj]
   simp
   rw [show R.length + (4 - R.length) = 4 by omega]
 ·have h1 := num_bound F 12 hF.1 hF.2.2
  have h2 := numD_lt R hR.1
  have h3 : (numD R + 1) * 10 ^ (4 - R.length) ≤ 10 ^ R.length * 10 ^ (4 - R.length) := Nat.mul_le_mul_right _ (by omega)
  rw [← Nat.pow_add, show R.length + (4 - R.length) = 4 by omega, Nat.add_mul] at h3
  have h4 : 1 ≤ 10 ^ (4 - R.length) := Nat.one_le_pow _ _ (by decide)
  omega
theorem rg (l : List UInt8) (m : Nat) (hm : m ≤ 12) (hl : l.length ≤ 9223372036854775807) {r : Bool} (hr : digs l 1 m = r) (u : World) :
  Calls Tryz.prog 238 #[.string ⟨l.toArray⟩, .int .i64 1, .int .i64 m] u fun e w' => e = .returned (.bool r) ∧ w' = u := by
 have := rdigits_any ⟨l.toArray⟩ m hm u (by rw [size_mk]; exact hl)
 rw [← hr]
 exact this
theorem rparse_any (l : List UInt8) (w : World) (hl : l.length ≤ 9223372036854775807) :
  Calls Tryz.prog 198 #[.string ⟨l.toArray⟩] w fun e w' => e = .returned (two (parseF l)) ∧ Below w.heap.size w w' := by
 have hbl := body_len l
 have hs : (⟨l.toArray⟩ : ByteArray).size ≤ 9223372036854775807 := by rw [size_mk]; exact hl
 have hs1 : (⟨(body l).toArray⟩ : ByteArray).size ≤ 9223372036854775807 := by rw [size_mk]; omega
 have hfl := fst_len (body l)
 have hsl := snd_len (body l)
 have hbeg : (dash l = true ∧ ∃ h1 : 0 < (⟨l.toArray⟩ : ByteArray).size, (((((⟨l.toArray⟩ : ByteArray)[0]'h1).toNat : Nat) : Int) == 45) = true ∧ (⟨l.toArray⟩ : ByteArray).extract 1 (⟨l.toArray⟩ : ByteArray).size = ⟨(body l).toArray⟩) ∨
   (dash l = false ∧ body l = l ∧ ((⟨(body l).toArray⟩ : ByteArray).size = 0 ∨ ∃ h1 : 0 < (⟨(body l).toArray⟩ : ByteArray).size, (((((⟨(body l).toArray⟩ : ByteArray)[0]'h1).toNat : Nat) : Int) == 45) = false)) := by
  cases hd : dash l
  ·right
   have hb : body l = l := by unfold body; rw [hd]; rfl
   refine ⟨rfl, hb, ?_⟩
   rw [hb]
   cases l with
   | nil => left; rfl
   | cons b l =>
    right
    refine ⟨by rw [size_mk]; simp, ?_⟩
    rw [get_mk (b :: l) 0 (by simp)]
    refine ne_beq b 45 fun e => ?_
    subst e
    cases hd
  ·left
   have hb : body l = l.drop 1 := by unfold body; rw [hd]; rfl
   refine ⟨rfl, ?_⟩
   rw [hb, drop_mk]
   cases l with
   | nil => cases hd
   | cons b l =>
    refine ⟨by rw [size_mk]; simp, ?_, rfl⟩
    rw [get_mk (b :: l) 0 (by simp)]
    have : b = 45 := by
     unfold dash at hd
     simpa using hd
    subst this
    rfl
 unfold parseF restN
 have e1 : ∀ (V : Nat), sgnI (V : Int) true = -(V : Int) := fun _ => rfl
 have e0 : ∀ (V : Nat), sgnI (V : Int) false = (V : Int) := fun _ => rfl
 cases hp : hasP (body l)
 ·obtain ⟨hno, hfst⟩ := pt_no (body l) hp
  have hno' : Hid (∀ k (h : k < (⟨(body l).toArray⟩ : ByteArray).size), (((((⟨(body l).toArray⟩ : ByteArray)[k]'h).toNat : Nat) : Int) == 46) = false) := fun k h => by
   have hk : k < (body l).length := by rw [size_mk] at h; exact h
   rw [get_mk (body l) k hk h]
   exact ne_beq _ 46 (hno k hk)
  rw [hfst]
  cases h1 : digs (body l) 1 12
  ·rw [if_neg (by simp)]
   have G1 := fun u => rg (body l) 12 (by decide) (by omega) h1 u
   rcases hbeg with ⟨hd, hq, hb, he⟩ | ⟨hd, hb, h0 | ⟨hq, hb1⟩⟩
   ·exact rp_b2_A0 (A2 := ⟨#[]⟩) (A3 := ⟨#[]⟩) hs hs1 hq hb he G1 hno'
   ·conv => arg 3; rw [← hb]
    exact rp_b0_A0 (A2 := ⟨#[]⟩) (A3 := ⟨#[]⟩) hs hs1 h0 G1 hno'
   ·conv => arg 3; rw [← hb]
    exact rp_b1_A0 (A2 := ⟨#[]⟩) (A3 := ⟨#[]⟩) hs hs1 hq hb1 G1 hno'
  ·rw [if_pos ⟨rfl, fun h => by cases h⟩, if_neg (by decide)]
   have hd1 := (digs_iff _ _ _).1 h1
   have G1 := fun u => rg (body l) 12 (by decide) (by omega) h1 u
   have ff := full_facts (body l) [] hd1 ⟨rfl, by simp⟩
   have ez : numD ([] : List UInt8) * 10 ^ (4 - ([] : List UInt8).length) = 0 := rfl
   rw [ez] at ff
   rcases hbeg with ⟨hd, hq, hb, he⟩ | ⟨hd, hb, h0 | ⟨hq, hb1⟩⟩
   ·rw [hd, e1]
    exact rp_b2_A1 (A2 := ⟨#[]⟩) (A3 := ⟨#[]⟩) hs hs1 hq hb he G1 hno' [] _ (by rw [size_mk]; exact hd1.2) (by decide) rfl ff.1 ff.2
   ·rw [size_mk] at h0; omega
   ·rw [hd, e0]
    conv => arg 3; rw [← hb]
    exact rp_b1_A1 (A2 := ⟨#[]⟩) (A3 := ⟨#[]⟩) hs hs1 hq hb1 G1 hno' [] _ (by rw [size_mk]; exact hd1.2) (by decide) rfl ff.1 ff.2
 ·obtain ⟨p, hpl, hpt, hno, hfst, hsnd⟩ := pt_yes (body l) hp
  have hps : p < (⟨(body l).toArray⟩ : ByteArray).size := by rw [size_mk]; exact hpl
  have hpt' : (((((⟨(body l).toArray⟩ : ByteArray)[p]'hps).toNat : Nat) : Int) == 46) = true := by rw [get_mk (body l) p hpl hps, hpt]; rfl
  have hno' : Hid (∀ k (h : k < p), (((((⟨(body l).toArray⟩ : ByteArray)[k]'(Nat.lt_trans h hps)).toNat : Nat) : Int) == 46) = false) := fun k h => by
   rw [get_mk (body l) k (Nat.lt_trans h hpl)]
   exact ne_beq _ 46 (hno k h)
  have hA2 : (⟨(body l).toArray⟩ : ByteArray).extract 0 p = ⟨(fstP (body l)).toArray⟩ := by
   rw [← mk_list ((⟨(body l).toArray⟩ : ByteArray).extract 0 p), (ext_list _ p (by omega)).1, hfst]
  have hA3 : (⟨(body l).toArray⟩ : ByteArray).extract (p + 1) (⟨(body l).toArray⟩ : ByteArray).size = ⟨(sndP (body l)).toArray⟩ := by
   rw [hsnd]
   apply ByteArray.ext
   rw [size_mk, ByteArray.data_extract]
   simp
   exact List.take_of_length_le (by simp)
  cases h1 : digs (fstP (body l)) 1 12
  ·rw [if_neg (by simp)]
   have G1 := fun u => rg (fstP (body l)) 12 (by decide) (by omega) h1 u
   rcases hbeg with ⟨hd, hq, hb, he⟩ | ⟨hd, hb, h0 | ⟨hq, hb1⟩⟩
   ·exact rp_b2_B0 hs hs1 hq hb he G1 p hps hpt' hno' hA2 hA3
   ·rw [size_mk] at h0; omega
   ·conv => arg 3; rw [← hb]
    exact rp_b1_B0 hs hs1 hq hb1 G1 p hps hpt' hno' hA2 hA3
  ·have hd1 := (digs_iff _ _ _).1 h1
   have G1 := fun u => rg (fstP (body l)) 12 (by decide) (by omega) h1 u
   cases h2 : digs (sndP (body l)) 1 4
   ·rw [if_neg (by simp)]
    have G2 := fun u => rg (sndP (body l)) 4 (by decide) (by omega) h2 u
    rcases hbeg with ⟨hd, hq, hb, he⟩ | ⟨hd, hb, h0 | ⟨hq, hb1⟩⟩
    ·exact rp_b2_B1 hs hs1 hq hb he G1 p hps hpt' hno' hA2 hA3 G2
    ·rw [size_mk] at h0; omega
    ·conv => arg 3; rw [← hb]
     exact rp_b1_B1 hs hs1 hq hb1 G1 p hps hpt' hno' hA2 hA3 G2
   ·rw [if_pos ⟨rfl, fun _ => rfl⟩, if_pos rfl]
    have hd2 := (digs_iff _ _ _).1 h2
    have G2 := fun u => rg (sndP (body l)) 4 (by decide) (by omega) h2 u
    have ff := full_facts (fstP (body l)) (sndP (body l)) hd1 ⟨hd2.1, hd2.2.2⟩
    rcases hbeg with ⟨hd, hq, hb, he⟩ | ⟨hd, hb, h0 | ⟨hq, hb1⟩⟩
    ·rw [hd, e1]
     exact rp_b2_B2 hs hs1 hq hb he G1 p hps hpt' hno' hA2 hA3 G2 (sndP (body l)) _ (by rw [size_mk]; exact hd1.2) (by rw [size_mk]; exact hd2.2.2) rfl ff.1 ff.2
    ·rw [size_mk] at h0; omega
    ·rw [hd, e0]
     conv => arg 3; rw [← hb]
     exact rp_b1_B2 hs hs1 hq hb1 G1 p hps hpt' hno' hA2 hA3 G2 (sndP (body l)) _ (by rw [size_mk]; exact hd1.2) (by rw [size_mk]; exact hd2.2.2) rfl ff.1 ff.2
theorem kind_blank (n : Int) (s : ByteArray) (w : World) : Calls Tryz.prog 216 #[.agg #[.int .i64 0, .int .i64 n, .string s]] w fun e w' => e = .returned (.iface 248 (.agg #[])) ∧ Below w.heap.size w w' := by
 go_enter Tryz.func216, Tryz.ntmps216
 go_wp2
 go_ret
 exact ⟨rfl, (Below.refl _ _).alloc (Nat.le_refl _) _⟩
theorem kind_num (n : Int) (s : ByteArray) (w : World) : Calls Tryz.prog 216 #[.agg #[.int .i64 1, .int .i64 n, .string s]] w fun e w' => e = .returned (.iface 226 (.int .i64 n)) ∧ Below w.heap.size w w' := by
 go_enter Tryz.func216, Tryz.ntmps216
 go_wp2
 go_ret
 exact ⟨rfl, (Below.refl _ _).alloc (Nat.le_refl _) _⟩
theorem kind_str (n : Int) (s : ByteArray) (w : World) : Calls Tryz.prog 216 #[.agg #[.int .i64 2, .int .i64 n, .string s]] w fun e w' => e = .returned (.iface 227 (.string s)) ∧ Below w.heap.size w w' := by
 go_enter Tryz.func216, Tryz.ntmps216
 go_wp2
 go_ret
 exact ⟨rfl, (Below.refl _ _).alloc (Nat.le_refl _) _⟩
theorem kind_bool (n : Int) (s : ByteArray) (w : World) : Calls Tryz.prog 216 #[.agg #[.int .i64 3, .int .i64 n, .string s]] w fun e w' => e = .returned (.iface 213 (.bool (n != 0))) ∧ Below w.heap.size w w' := by
 go_enter Tryz.func216, Tryz.ntmps216
 go_wp2
 go_ret
 exact ⟨rfl, (Below.refl _ _).alloc (Nat.le_refl _) _⟩
theorem kind_bad (n : Int) (s : ByteArray) (w : World) : Calls Tryz.prog 216 #[.agg #[.int .i64 4, .int .i64 n, .string s]] w fun e w' => e = .returned (.iface 217 (.int .i64 n)) ∧ Below w.heap.size w w' := by
 go_enter Tryz.func216, Tryz.ntmps216
 go_wp2
 go_ret
 exact ⟨rfl, (Below.refl _ _).alloc (Nat.le_refl _) _⟩
theorem kind_none (k n : Int) (s : ByteArray) (w : World) (h0 : (k == 0) = false) (h1 : (k == 1) = false) (h2 : (k == 2) = false) (h3 : (k == 3) = false) (h4 : (k == 4) = false) : Calls Tryz.prog 216 #[.agg #[.int .i64 k, .int .i64 n, .string s]] w fun e w' => e = .returned (.iface 250 (.int .i64 n)) ∧ Below w.heap.size w w' := by
 go_enter Tryz.func216, Tryz.ntmps216
 go_wp2
 go_ret
 exact ⟨rfl, (Below.refl _ _).alloc (Nat.le_refl _) _⟩
theorem tcount_any (b : Bool) (w : World) : Calls Tryz.prog 253 #[.bool b] w fun e w' => e = .returned (.int .i64 (if b = true then 1 else 0)) ∧ w' = w := by
 cases b
 all_goals
  go_enter Tryz.func253, Tryz.ntmps253
  go_wp2
  go_ret
  exact ⟨rfl, rfl⟩
def knB (n : Int) : Bool := decide (1 ≤ n) && decide (n ≤ 8)
theorem known_any (n : Int) (w : World) : Calls Tryz.prog 254 #[.int .i64 n] w fun e w' => e = .returned (.bool (knB n)) ∧ w' = w := by
 go_enter Tryz.func254, Tryz.ntmps254
 go_wp2
 all_goals (go_ret; rename_i h; refine ⟨?_, rfl⟩; congr 2; simp [knB]; try omega)
theorem ta_46_47 (W : World) (v : Value) : (Instr.typeAssert (.iface 248 v) 20 226 true).run Tryz.prog W = .ok (.tuple #[.int .i64 0, .bool false]) W := by kernel_rfl
theorem ta_46_48 (W : World) (v : Value) : (Instr.typeAssert (.iface 248 v) 20 227 true).run Tryz.prog W = .ok (.tuple #[.string ByteArray.empty, .bool false]) W := by kernel_rfl
theorem ta_46_51 (W : World) (v : Value) : (Instr.typeAssert (.iface 248 v) 20 213 true).run Tryz.prog W = .ok (.tuple #[.bool false, .bool false]) W := by kernel_rfl
theorem ta_46_53 (W : World) (v : Value) : (Instr.typeAssert (.iface 248 v) 20 217 true).run Tryz.prog W = .ok (.tuple #[.int .i64 0, .bool false]) W := by kernel_rfl
theorem ta_47_47 (W : World) (v : Value) : (Instr.typeAssert (.iface 226 v) 20 226 true).run Tryz.prog W = .ok (.tuple #[v, .bool true]) W := by kernel_rfl
theorem ta_47_48 (W : World) (v : Value) : (Instr.typeAssert (.iface 226 v) 20 227 true).run Tryz.prog W = .ok (.tuple #[.string ByteArray.empty, .bool false]) W := by kernel_rfl
theorem ta_47_51 (W : World) (v : Value) : (Instr.typeAssert (.iface 226 v) 20 213 true).run Tryz.prog W = .ok (.tuple #[.bool false, .bool false]) W := by kernel_rfl
theorem ta_47_53 (W : World) (v : Value) : (Instr.typeAssert (.iface 226 v) 20 217 true).run Tryz.prog W = .ok (.tuple #[.int .i64 0, .bool false]) W := by kernel_rfl
theorem ta_48_47 (W : World) (v : Value) : (Instr.typeAssert (.iface 227 v) 20 226 true).run Tryz.prog W = .ok (.tuple #[.int .i64 0, .bool false]) W := by kernel_rfl
theorem ta_48_48 (W : World) (v : Value) : (Instr.typeAssert (.iface 227 v) 20 227 true).run Tryz.prog W = .ok (.tuple #[v, .bool true]) W := by kernel_rfl
theorem ta_48_51 (W : World) (v : Value) : (Instr.typeAssert (.iface 227 v) 20 213 true).run Tryz.prog W = .ok (.tuple #[.bool false, .bool false]) W := by kernel_rfl
theorem ta_48_53 (W : World) (v : Value) : (Instr.typeAssert (.iface 227 v) 20 217 true).run Tryz.prog W = .ok (.tuple #[.int .i64 0, .bool false]) W := by kernel_rfl
theorem ta_51_47 (W : World) (v : Value) : (Instr.typeAssert (.iface 213 v) 20 226 true).run Tryz.prog W = .ok (.tuple #[.int .i64 0, .bool false]) W := by kernel_rfl
theorem ta_51_48 (W : World) (v : Value) : (Instr.typeAssert (.iface 213 v) 20 227 true).run Tryz.prog W = .ok (.tuple #[.string ByteArray.empty, .bool false]) W := by kernel_rfl
theorem ta_51_51 (W : World) (v : Value) : (Instr.typeAssert (.iface 213 v) 20 213 true).run Tryz.prog W = .ok (.tuple #[v, .bool true]) W := by kernel_rfl
theorem ta_51_53 (W : World) (v : Value) : (Instr.typeAssert (.iface 213 v) 20 217 true).run Tryz.prog W = .ok (.tuple #[.int .i64 0, .bool false]) W := by kernel_rfl
theorem ta_53_47 (W : World) (v : Value) : (Instr.typeAssert (.iface 217 v) 20 226 true).run Tryz.prog W = .ok (.tuple #[.int .i64 0, .bool false]) W := by kernel_rfl
theorem ta_53_48 (W : World) (v : Value) : (Instr.typeAssert (.iface 217 v) 20 227 true).run Tryz.prog W = .ok (.tuple #[.string ByteArray.empty, .bool false]) W := by kernel_rfl
theorem ta_53_51 (W : World) (v : Value) : (Instr.typeAssert (.iface 217 v) 20 213 true).run Tryz.prog W = .ok (.tuple #[.bool false, .bool false]) W := by kernel_rfl
theorem ta_53_53 (W : World) (v : Value) : (Instr.typeAssert (.iface 217 v) 20 217 true).run Tryz.prog W = .ok (.tuple #[v, .bool true]) W := by kernel_rfl
theorem ta_76_47 (W : World) (v : Value) : (Instr.typeAssert (.iface 250 v) 20 226 true).run Tryz.prog W = .ok (.tuple #[.int .i64 0, .bool false]) W := by kernel_rfl
theorem ta_76_48 (W : World) (v : Value) : (Instr.typeAssert (.iface 250 v) 20 227 true).run Tryz.prog W = .ok (.tuple #[.string ByteArray.empty, .bool false]) W := by kernel_rfl
theorem ta_76_51 (W : World) (v : Value) : (Instr.typeAssert (.iface 250 v) 20 213 true).run Tryz.prog W = .ok (.tuple #[.bool false, .bool false]) W := by kernel_rfl
theorem ta_76_53 (W : World) (v : Value) : (Instr.typeAssert (.iface 250 v) 20 217 true).run Tryz.prog W = .ok (.tuple #[.int .i64 0, .bool false]) W := by kernel_rfl
theorem bcell {W w1 : World} (hb : Below W.heap.size W w1) : (∀ b o, b < W.heap.size → w1.cell? ⟨b, o, none⟩ = W.cell? ⟨b, o, none⟩) ∧ (∀ b o, b < W.heap.size → w1.frozen? ⟨b, o, none⟩ = W.frozen? ⟨b, o, none⟩) :=
 ⟨fun b o h => hb.cell (p := ⟨b, o, none⟩) h, fun b o h => hb.frozen (p := ⟨b, o, none⟩) h⟩
theorem vtext_blank (n : Int) (s : ByteArray) (w : World) : Calls Tryz.prog 174 #[.agg #[.int .i64 0, .int .i64 n, .string s]] w fun e w' => e = .returned (.string ⟨#[]⟩) ∧ Below w.heap.size w w' := by
 have ta47 := ta_46_47
 have ta48 := ta_46_48
 have ta51 := ta_46_51
 have ta53 := ta_46_53
 go_enter Tryz.func174, Tryz.ntmps174
 go_wp2_with (first | (go_at_call 216; refine (kind_blank _ _ _).mono ?_; rintro e w1 ⟨rfl, hb⟩; have HB : Hid (Below w.heap.size w w1) := bel1 hb; obtain ⟨hc, hf⟩ := bcell hb; have hz := hb.size; simp at hz; clear hb))
 all_goals (go_ret; exact ⟨rfl, HB.out⟩)
theorem vtext_num (n : Int) (s : ByteArray) (w : World) (X : ByteArray) (P : ∀ u : World, Below w.heap.size w u → Calls Tryz.prog 178 #[.int .i64 n] u fun e w' => e = .returned (.string X) ∧ Below u.heap.size u w') : Calls Tryz.prog 174 #[.agg #[.int .i64 1, .int .i64 n, .string s]] w fun e w' => e = .returned (.string X) ∧ Below w.heap.size w w' := by
 have ta47 := ta_47_47
 have ta48 := ta_47_48
 have ta51 := ta_47_51
 have ta53 := ta_47_53
 go_enter Tryz.func174, Tryz.ntmps174
 go_wp2_with (first | (go_at_call 216; refine (kind_num _ _ _).mono ?_; rintro e w1 ⟨rfl, hb⟩; have HB : Hid (Below w.heap.size w w1) := bel1 hb; obtain ⟨hc, hf⟩ := bcell hb; have hz := hb.size; simp at hz; clear hb) | (go_at_call 178; refine (P _ HB.out).mono ?_; rintro e w2 ⟨rfl, hb⟩; have HB2 : Hid (Below w.heap.size w w2) := bel_step HB.out hb; clear hb))
 go_ret
 exact ⟨rfl, HB2.out⟩
theorem vtext_str (n : Int) (s : ByteArray) (w : World) : Calls Tryz.prog 174 #[.agg #[.int .i64 2, .int .i64 n, .string s]] w fun e w' => e = .returned (.string s) ∧ Below w.heap.size w w' := by
 have ta47 := ta_48_47
 have ta48 := ta_48_48
 have ta51 := ta_48_51
 have ta53 := ta_48_53
 go_enter Tryz.func174, Tryz.ntmps174
 go_wp2_with (first | (go_at_call 216; refine (kind_str _ _ _).mono ?_; rintro e w1 ⟨rfl, hb⟩; have HB : Hid (Below w.heap.size w w1) := bel1 hb; obtain ⟨hc, hf⟩ := bcell hb; have hz := hb.size; simp at hz; clear hb))
 all_goals (go_ret; exact ⟨rfl, HB.out⟩)
theorem tname_any (b : Bool) (w : World) : Calls Tryz.prog 217 #[.bool b] w fun e w' => e = .returned (.string (if b = true then ⟨#[84, 82, 85, 69]⟩ else ⟨#[70, 65, 76, 83, 69]⟩)) ∧ w' = w := by
 cases b
 all_goals
  go_enter Tryz.func217, Tryz.ntmps217
  go_wp2
  go_ret
  exact ⟨rfl, rfl⟩
theorem vtext_bool (n : Int) (s : ByteArray) (w : World) (b : Bool) (KB : ∀ u : World, Calls Tryz.prog 216 #[.agg #[.int .i64 3, .int .i64 n, .string s]] u fun e w' => e = .returned (.iface 213 (.bool b)) ∧ Below u.heap.size u w') : Calls Tryz.prog 174 #[.agg #[.int .i64 3, .int .i64 n, .string s]] w fun e w' => e = .returned (.string (if b = true then ⟨#[84, 82, 85, 69]⟩ else ⟨#[70, 65, 76, 83, 69]⟩)) ∧ Below w.heap.size w w' := by
 cases b
 all_goals
  have ta47 := ta_51_47
  have ta48 := ta_51_48
  have ta51 := ta_51_51
  have ta53 := ta_51_53
  go_enter Tryz.func174, Tryz.ntmps174
  go_wp2_with (first | (go_at_call 216; refine (KB _).mono ?_; rintro e w1 ⟨rfl, hb⟩; have HB : Hid (Below w.heap.size w w1) := bel1 hb; obtain ⟨hc, hf⟩ := bcell hb; have hz := hb.size; simp at hz; clear hb) | (go_at_call 217; refine (tname_any _ _).mono ?_; rintro e w' ⟨rfl, hw⟩; obtain rfl := hw.symm; clear hw))
  all_goals (go_ret; exact ⟨rfl, HB.out⟩)
theorem vtext_bad (n : Int) (s : ByteArray) (w : World) (X : ByteArray) (P : ∀ u : World, Below w.heap.size w u → Calls Tryz.prog 218 #[.int .i64 n] u fun e w' => e = .returned (.string X) ∧ w' = u) : Calls Tryz.prog 174 #[.agg #[.int .i64 4, .int .i64 n, .string s]] w fun e w' => e = .returned (.string X) ∧ Below w.heap.size w w' := by
 have ta47 := ta_53_47
 have ta48 := ta_53_48
 have ta51 := ta_53_51
 have ta53 := ta_53_53
 go_enter Tryz.func174, Tryz.ntmps174
 go_wp2_with (first | (go_at_call 216; refine (kind_bad _ _ _).mono ?_; rintro e w1 ⟨rfl, hb⟩; have HB : Hid (Below w.heap.size w w1) := bel1 hb; obtain ⟨hc, hf⟩ := bcell hb; have hz := hb.size; simp at hz; clear hb) | (go_at_call 218; refine (P _ HB.out).mono ?_; rintro e w' ⟨rfl, hw⟩; obtain rfl := hw.symm; clear hw))
 all_goals (go_ret; exact ⟨rfl, HB.out⟩)
theorem vtext_none (k n : Int) (s : ByteArray) (w : World) (h0 : (k == 0) = false) (h1 : (k == 1) = false) (h2 : (k == 2) = false) (h3 : (k == 3) = false) (h4 : (k == 4) = false) : Calls Tryz.prog 174 #[.agg #[.int .i64 k, .int .i64 n, .string s]] w fun e w' => e = .returned (.string ⟨#[]⟩) ∧ Below w.heap.size w w' := by
 have ta47 := ta_76_47
 have ta48 := ta_76_48
 have ta51 := ta_76_51
 have ta53 := ta_76_53
 go_enter Tryz.func174, Tryz.ntmps174
 go_wp2_with (first | (go_at_call 216; refine (kind_none _ _ _ _ h0 h1 h2 h3 h4).mono ?_; rintro e w1 ⟨rfl, hb⟩; have HB : Hid (Below w.heap.size w w1) := bel1 hb; obtain ⟨hc, hf⟩ := bcell hb; have hz := hb.size; simp at hz; clear hb))
 all_goals (go_ret; exact ⟨rfl, HB.out⟩)
def fnm : Nat → ByteArray
 | 1 => ⟨#[35, 68, 73, 86, 47, 48, 33]⟩
 | 2 => ⟨#[35, 86, 65, 76, 85, 69, 33]⟩
 | 3 => ⟨#[35, 82, 69, 70, 33]⟩
 | 4 => ⟨#[35, 78, 65, 77, 69, 63]⟩
 | 5 => ⟨#[35, 78, 85, 77, 33]⟩
 | 6 => ⟨#[35, 78, 47, 65]⟩
 | 7 => ⟨#[35, 67, 89, 67, 76, 69, 33]⟩
 | 8 => ⟨#[35, 76, 73, 78, 75, 33]⟩
 | _ => ⟨#[]⟩
def fnB (n : Int) : ByteArray := if knB n = true then fnm n.toNat else ⟨#[]⟩
def FTab (w : World) : Prop := ∀ i, i < 9 → w.cell? ⟨1, i, none⟩ = some (.string (fnm i))
theorem FTab.kept {w w' : World} (h : FTab w) (hk : ∀ i, i < w.heap.size → w'.heap[i]? = w.heap[i]?) : FTab w' := fun i hi => by
 rw [← h i hi]
 exact World.cell?_of_block (hk _ (World.block_lt_of_cell? w _ (h i hi)))
theorem FTab.below {w w' : World} (h : FTab w) (hb : Below w.heap.size w w') : FTab w' := h.kept hb.block
theorem kn_iff (n : Int) : knB n = true ↔ n = 1 ∨ n = 2 ∨ n = 3 ∨ n = 4 ∨ n = 5 ∨ n = 6 ∨ n = 7 ∨ n = 8 := by
 simp [knB]; omega
theorem fname_any (n : Int) (w : World) (T : FTab w) : Calls Tryz.prog 218 #[.int .i64 n] w fun e w' => e = .returned (.string (fnB n)) ∧ w' = w := by
 cases hk : knB n
 ·have e : fnB n = ⟨#[]⟩ := by simp [fnB, hk]
  rw [e]
  have K := fun u => known_any n u
  rw [hk] at K
  go_enter Tryz.func218, Tryz.ntmps218
  go_wp2_with (go_at_call 254; refine (K _).mono ?_; rintro e w' ⟨rfl, hw⟩; obtain rfl := hw.symm; clear hw)
  go_ret
  exact ⟨rfl, rfl⟩
 ·have K := fun u => known_any n u
  rw [hk] at K
  have e : fnB n = fnm n.toNat := by simp [fnB, hk]
  rw [e]
  have h1 := T 1 (by decide); have h2 := T 2 (by decide); have h3 := T 3 (by decide); have h4 := T 4 (by decide)
  have h5 := T 5 (by decide); have h6 := T 6 (by decide); have h7 := T 7 (by decide); have h8 := T 8 (by decide)
  clear T e
  rw [kn_iff] at hk
  rcases hk with rfl | rfl | rfl | rfl | rfl | rfl | rfl | rfl
  all_goals
   go_enter Tryz.func218, Tryz.ntmps218
   go_wp2_with (go_at_call 254; refine (K _).mono ?_; rintro e w' ⟨rfl, hw⟩; obtain rfl := hw.symm; clear hw)
   go_ret
   exact ⟨rfl, rfl⟩
def namesV : Array Value := #[.string (fnm 0), .string (fnm 1), .string (fnm 2), .string (fnm 3), .string (fnm 4), .string (fnm 5), .string (fnm 6), .string (fnm 7), .string (fnm 8)]
theorem names_any (w : World) : Calls Tryz.prog 183 #[] w fun e w' => e = .returned (.agg namesV) ∧ Below w.heap.size w w' := by
 go_enter Tryz.func183, Tryz.ntmps183
 go_wp2
 exact bodyPost_ret (v := .agg namesV) (by simp [results, Tryz.results183, go_sem]; rfl) rfl ⟨rfl, (Below.refl _ _).alloc (Nat.le_refl _) _⟩
theorem boxcell {w w1 : World} {a b c : Value} (hb : Below (w.alloc (.cells #[a, b, c] 62)).heap.size (w.alloc (.cells #[a, b, c] 62)) w1) :
  (∀ o, (w1.alloc o).cell? ⟨w.heap.size, 0, none⟩ = some a ∧ (w1.alloc o).cell? ⟨w.heap.size, 1, none⟩ = some b ∧ (w1.alloc o).cell? ⟨w.heap.size, 2, none⟩ = some c)
   ∧ (w1.cell? ⟨w.heap.size, 0, none⟩ = some a ∧ w1.cell? ⟨w.heap.size, 1, none⟩ = some b ∧ w1.cell? ⟨w.heap.size, 2, none⟩ = some c) := by
 have h0 : w1.heap[w.heap.size]? = some (.cells #[a, b, c] 62 (0, 0)) := by
  rw [hb.block _ (by simp)]
  exact heap_alloc_new w _
 refine ⟨fun o => ?_, by simp [World.cell?, h0]⟩
 have h1 : (w1.alloc o).heap[w.heap.size]? = some (.cells #[a, b, c] 62 (0, 0)) := by
  have hz := hb.size
  simp at hz
  rw [Below.heap_alloc w1 o _ (by omega)]
  exact h0
 simp [World.cell?, h1]
def lenB (s : ByteArray) : Bool := decide (s.size ≤ 255)
theorem len_cases (s : ByteArray) : ((s.size : Int) ≤ 255 ∧ lenB s = true) ∨ (¬ (s.size : Int) ≤ 255 ∧ lenB s = false) := by
 by_cases h : s.size ≤ 255
 ·left; simp [lenB, h]; omega
 ·right; simp [lenB, h]; omega
theorem ixn0 (W : World) : (Instr.index 200 (.agg namesV) (.int .i64 0)).run Tryz.prog W = .ok (.string (fnm 0)) W := by kernel_rfl
theorem ixn1 (W : World) : (Instr.index 200 (.agg namesV) (.int .i64 1)).run Tryz.prog W = .ok (.string (fnm 1)) W := by kernel_rfl
theorem ixn2 (W : World) : (Instr.index 200 (.agg namesV) (.int .i64 2)).run Tryz.prog W = .ok (.string (fnm 2)) W := by kernel_rfl
theorem ixn3 (W : World) : (Instr.index 200 (.agg namesV) (.int .i64 3)).run Tryz.prog W = .ok (.string (fnm 3)) W := by kernel_rfl
theorem ixn4 (W : World) : (Instr.index 200 (.agg namesV) (.int .i64 4)).run Tryz.prog W = .ok (.string (fnm 4)) W := by kernel_rfl
theorem ixn5 (W : World) : (Instr.index 200 (.agg namesV) (.int .i64 5)).run Tryz.prog W = .ok (.string (fnm 5)) W := by kernel_rfl
theorem ixn6 (W : World) : (Instr.index 200 (.agg namesV) (.int .i64 6)).run Tryz.prog W = .ok (.string (fnm 6)) W := by kernel_rfl
theorem ixn7 (W : World) : (Instr.index 200 (.agg namesV) (.int .i64 7)).run Tryz.prog W = .ok (.string (fnm 7)) W := by kernel_rfl
theorem ixn8 (W : World) : (Instr.index 200 (.agg namesV) (.int .i64 8)).run Tryz.prog W = .ok (.string (fnm 8)) W := by kernel_rfl
theorem index_names (i : Nat) (h : i < 9) (W : World) : (Instr.index 200 (.agg namesV) (.int .i64 (i : Int))).run Tryz.prog W = .ok (.string (fnm i)) W := by
 have h' : i = 0 ∨ i = 1 ∨ i = 2 ∨ i = 3 ∨ i = 4 ∨ i = 5 ∨ i = 6 ∨ i = 7 ∨ i = 8 := by omega
 rcases h' with rfl | rfl | rfl | rfl | rfl | rfl | rfl | rfl | rfl
 ·exact ixn0 W
 ·exact ixn1 W
 ·exact ixn2 W
 ·exact ixn3 W
 ·exact ixn4 W
 ·exact ixn5 W
 ·exact ixn6 W
 ·exact ixn7 W
 ·exact ixn8 W
end Go.Proofs.YtnibldnfbikipaaGreatDoor
