/- VUp, VRUp, VTruth, VMake. -/
import Derived.Laws.IdiomStrings
import Derived.Test.YtljmklbbngpllaaGreatDoorVNameNd
set_option linter.unusedVariables false
set_option linter.unusedSimpArgs false
set_option maxHeartbeats 16000000
set_option maxRecDepth 100000
namespace Go.Proofs.YtljmklbbngpllaaGreatDoor
open Go.RowKit
def szB (a b : Nat) (c : UInt8) : UInt8 := if a ≤ c.toNat ∧ c.toNat ≤ a + 25 then UInt8.ofNat (c.toNat - a + b) else c
def szF (a b : Nat) (l : List UInt8) : List UInt8 := l.map (szB a b)
def szP (a b : Nat) (l : List UInt8) (p : Nat) : List UInt8 := szF a b (l.take p) ++ l.drop p
theorem aEy (a b : Nat) (l : List UInt8) : szP a b l 0 = l := by simp [szP, szF]
theorem aBO (a b : Nat) (l : List UInt8) (p : Nat) : (szP a b l p).length = l.length := by simp [szP, szF]; omega
theorem aGD (a b : Nat) (l : List UInt8) (p : Nat) (h : l.length ≤ p) : szP a b l p = szF a b l := by simp [szP, List.take_of_length_le h, List.drop_eq_nil_of_le h]
theorem mQ (a b : Nat) (l : List UInt8) (p i : Nat) : (szP a b l p)[i]? = if i < p then l[i]?.map (szB a b) else l[i]? := by
 unfold szP szF
 rw [List.getElem?_append]
 by_cases hl : i < l.length
 ·by_cases hi : i < p
  ·rw [if_pos (by simp; omega), if_pos hi, List.getElem?_map, List.getElem?_take_of_lt hi]
  ·rw [if_neg (by simp; omega), if_neg hi, List.getElem?_drop]
   congr 1
   simp; omega
 ·have e : l[i]? = none := List.getElem?_eq_none (by omega)
  rw [e, if_neg (by simp; omega), List.getElem?_eq_none (by simp; omega)]
  split <;> rfl
theorem aID (a b : Nat) (l : List UInt8) (p : Nat) (h : p < l.length) : (szP a b l p)[p]? = some l[p] := by
 rw [mQ, if_neg (Nat.lt_irrefl _), List.getElem?_eq_getElem h]
theorem aEz (a b : Nat) (l : List UInt8) (p : Nat) (h : p < l.length) : szP a b l (p + 1) = (szP a b l p).set p (szB a b l[p]) := by
 apply List.ext_getElem?
 intro i
 rw [List.getElem?_set, mQ, mQ, aBO]
 by_cases e : p = i
 ·subst e
  rw [if_pos (by omega), if_pos rfl, if_pos h, List.getElem?_eq_getElem h]
  rfl
 ·rw [if_neg e]
  by_cases hi : i < p
  ·rw [if_pos hi, if_pos (by omega)]
  ·rw [if_neg hi, if_neg (by omega)]
theorem aEA (a b : Nat) (l : List UInt8) (p d : Nat) (h : ∀ j, p ≤ j → j < p + d → ∀ hj : j < l.length, szB a b l[j] = l[j]) : szP a b l (p + d) = szP a b l p := by
 apply List.ext_getElem?
 intro i
 rw [mQ, mQ]
 by_cases hi : i < p
 ·rw [if_pos hi, if_pos (by omega)]
 ·rw [if_neg hi]
  by_cases hd : i < p + d
  ·rw [if_pos hd]
   by_cases hl : i < l.length
   ·rw [List.getElem?_eq_getElem hl, Option.map_some, h i (by omega) hd hl]
   ·rw [List.getElem?_eq_none (by omega)]; rfl
  ·rw [if_neg hd]
theorem aEB (a b : Nat) (c : UInt8) (ha : a + 25 < 128) (hc : 128 ≤ c.toNat) : szB a b c = c := by
 unfold szB; rw [if_neg (by omega)]
theorem mR (s : ByteArray) (pos : Nat) (h : pos < s.size) (ha : 128 ≤ (s[pos]'h).toNat) :
  pos + (Utf8.decode s pos).2 ≤ s.size ∧ ∀ k, k < (Utf8.decode s pos).2 → 128 ≤ (s.get! (pos + k)).toNat := by
 have hn : ¬ (s[pos]'h).toNat < 128 := by omega
 have g0 : 128 ≤ (s.get! (pos + 0)).toNat := by rw [get_at s pos h]; exact ha
 have one : ∀ k, k < 1 → 128 ≤ (s.get! (pos + k)).toNat := fun k hk => by
  obtain rfl : k = 0 := by omega
  exact g0
 have c1 : ∀ k, ((s.get! (pos + k)).toNat / 64 == 2) = true → 128 ≤ (s.get! (pos + k)).toNat := fun k hk => by simp at hk; omega
 simp only [Utf8.decode, get_at s pos h, hn, if_false]
 split
 ·rename_i h2
  simp only [Bool.and_eq_true, decide_eq_true_eq] at h2
  split
  ·refine ⟨by simp; omega, fun k hk => ?_⟩
   have hk' : k = 0 ∨ k = 1 := by simp at hk; omega
   rcases hk' with rfl | rfl
   ·exact g0
   ·exact c1 1 h2.2.2
  ·exact ⟨by simp; omega, one⟩
 ·split
  ·rename_i h3
   simp only [Bool.and_eq_true, decide_eq_true_eq] at h3
   split
   ·refine ⟨by simp; omega, fun k hk => ?_⟩
    have hk' : k = 0 ∨ k = 1 ∨ k = 2 := by simp at hk; omega
    rcases hk' with rfl | rfl | rfl
    ·exact g0
    ·exact c1 1 h3.1.2.2
    ·exact c1 2 h3.2.2
   ·exact ⟨by simp; omega, one⟩
  ·split
   ·rename_i h4
    simp only [Bool.and_eq_true, decide_eq_true_eq] at h4
    split
    ·refine ⟨by simp; omega, fun k hk => ?_⟩
     have hk' : k = 0 ∨ k = 1 ∨ k = 2 ∨ k = 3 := by simp at hk; omega
     rcases hk' with rfl | rfl | rfl | rfl
     ·exact g0
     ·exact c1 1 h4.1.1.2.2
     ·exact c1 2 h4.1.2.2
     ·exact c1 3 h4.2.2
    ·exact ⟨by simp; omega, one⟩
   ·exact ⟨by simp; omega, one⟩
theorem yH (s : ByteArray) (j : Nat) (h : j < s.data.toList.length) : s.get! j = s.data.toList[j] := by
 have h' : j < s.size := by simpa using h
 simp [ByteArray.get!, getElem!_pos, h']
structure RW (w : World) (s : ByteArray) (L : List UInt8) (p : Nat) (u : World) : Prop where
 row : ∃ C : Array Value, u.heap[w.heap.size]? = some (.cells C 5 (C.size, C.size + 1)) ∧ ∀ j (h : j < L.length), C[j]? = some (.int .u8 (L[j].toNat : Nat))
 it : u.heap[w.heap.size + 1]? = some (.stringIter s p)
 bel : Below w.heap.size w u
theorem run_next_at {P : Program} {u : World} {b : Nat} {s : ByteArray} {pos : Nat} (hi : u.heap[b]? = some (.stringIter s pos)) (ty : TypeId) (h : pos < s.size) :
  (Instr.next (.pointer (some ⟨b, 0, none⟩)) true ty).run P u =
   .ok (.tuple #[.bool true, .int .i64 pos, .int .i32 (Utf8.decode s pos).1]) { u with heap := u.heap.setIfInBounds b (.stringIter s (pos + (Utf8.decode s pos).2)) } := by
 simp only [Instr.next, getObj, setObj, Sem.run_bind, Sem.run, hi, Result.andThen, h, if_true]
 simp [goInt]
theorem lK {P : Program} {u : World} {b : Nat} {s : ByteArray} {pos : Nat} (hi : u.heap[b]? = some (.stringIter s pos)) (ty : TypeId) (h : ¬ pos < s.size) :
  (Instr.next (.pointer (some ⟨b, 0, none⟩)) true ty).run P u = .ok (.tuple #[.bool false]) u := by
 simp [Instr.next, getObj, Sem.run, hi, h]
theorem RW.next {w u : World} {s : ByteArray} {L : List UInt8} {p : Nat} (h : RW w s L p u) (hp : p < s.size) :
  ∃ u1, (∀ ty, (Instr.next (.pointer (some ⟨w.heap.size + 1, 0, none⟩)) true ty).run Tryz.prog u = .ok (.tuple #[.bool true, .int .i64 p, .int .i32 (Utf8.decode s p).1]) u1) ∧ RW w s L (p + (Utf8.decode s p).2) u1 := by
 refine ⟨_, fun ty => run_next_at h.it ty hp, ?_, ?_, ?_⟩
 ·obtain ⟨C, h1, h2⟩ := h.row
  refine ⟨C, ?_, h2⟩
  show (u.heap.setIfInBounds (w.heap.size + 1) _)[w.heap.size]? = _
  rw [Array.getElem?_setIfInBounds_ne (by omega)]
  exact h1
 ·show (u.heap.setIfInBounds (w.heap.size + 1) _)[w.heap.size + 1]? = _
  have : w.heap.size + 1 < u.heap.size := (Array.getElem?_eq_some_iff.1 h.it).1
  rw [Array.getElem?_setIfInBounds_self_of_lt this]
 ·obtain ⟨a, b, c, d, e⟩ := h.bel
  refine ⟨a, b, c, ?_, fun i hi => ?_⟩
  ·show w.heap.size ≤ (u.heap.setIfInBounds _ _).size
   simp; omega
  ·show (u.heap.setIfInBounds _ _)[i]? = _
   rw [Array.getElem?_setIfInBounds_ne (by omega)]
   exact e i hi
theorem RW.cell {w u : World} {s : ByteArray} {L : List UInt8} {p : Nat} (h : RW w s L p u) {j : Nat} (hj : j < L.length) :
  u.cell? ⟨w.heap.size, j, none⟩ = some (.int .u8 (L[j].toNat : Nat)) ∧ u.frozen? ⟨w.heap.size, j, none⟩ = false := by
 obtain ⟨C, h1, h2⟩ := h.row
 have hc : j < C.size := (Array.getElem?_eq_some_iff.1 (h2 j hj)).1
 constructor
 ·rw [cell_of_row u _ _ C 5 _ h1]; exact h2 j hj
 ·simp [World.frozen?, h1]; omega
theorem RW.store {w u : World} {s : ByteArray} {L : List UInt8} {p : Nat} (h : RW w s L p u) {j : Nat} (hj : j < L.length) (x : UInt8) :
  RW w s (L.set j x) p (u.setCell ⟨w.heap.size, j, none⟩ (.int .u8 (x.toNat : Nat))) := by
 obtain ⟨C, h1, h2⟩ := h.row
 have hc : j < C.size := (Array.getElem?_eq_some_iff.1 (h2 j hj)).1
 refine ⟨⟨C.setIfInBounds j (.int .u8 (x.toNat : Nat)), ?_, fun i hi => ?_⟩, ?_, h.bel.setCell (Nat.le_refl _) _⟩
 ·simp [World.setCell, Array.getElem?_modify, h1]
 ·rw [List.length_set] at hi
  rw [Array.getElem?_setIfInBounds, List.getElem_set]
  by_cases e : j = i
  ·subst e; simp [hc]
  ·simp [e, h2 i hi]
 ·have : w.heap.size ≠ w.heap.size + 1 := by omega
  simp [World.setCell, Array.getElem?_modify, h.it]
theorem RW.begin {w : World} {s : ByteArray} {cap : Nat} : RW w s s.data.toList 0 ((w.drew.alloc (.cells (bytesRow s cap) 5 ((bytesRow s cap).size, (bytesRow s cap).size + 1))).iter s 0) := by
 refine ⟨⟨bytesRow s cap, ?_, fun j hj => ?_⟩, ?_, ?_⟩
 ·show ((w.drew.alloc (.cells (bytesRow s cap) 5 _)).alloc (.stringIter s 0)).heap[w.heap.size]? = _
  rw [Below.heap_alloc _ _ _ (by simp)]
  exact heap_alloc_new w.drew _
 ·have := bytesRow_at s cap j (by simpa using hj)
  rw [this]
  simp
 ·have := World.iter_heap (w.drew.alloc (.cells (bytesRow s cap) 5 ((bytesRow s cap).size, (bytesRow s cap).size + 1))) s 0
  simpa using this
 ·exact ((((Below.refl _ _).drew).alloc (Nat.le_refl _) _).alloc (by simp) _)
theorem RW.conv {w u : World} {s : ByteArray} {L : List UInt8} {p cap : Nat} (h : RW w s L p u) :
  (convert 134 9 (.slice (some ⟨w.heap.size, 0, none⟩) L.length cap)).run Tryz.prog u = .ok (.string ⟨L.toArray⟩) u :=
 run_convert_bytes_back u 134 9 5 _ cap L Tryz.underlying134 Tryz.underlying5 Tryz.underlying9 fun j hj => by
  have hp : (⟨w.heap.size, 0, none⟩ : Addr).add j = ⟨w.heap.size, j, none⟩ := by unfold Addr.add; split <;> simp_all
  rw [hp]
  exact (h.cell hj).1
theorem RW.pos {w u : World} {s : ByteArray} {L : List UInt8} {p : Nat} (h : RW w s L p u) : u.iterPos (w.heap.size + 1) = p := by
 simp [World.iterPos, h.it]
theorem aIE (a b : Nat) (c : UInt8) (h : a ≤ c.toNat ∧ c.toNat ≤ a + 25) (hb : b ≤ 200) : (((szB a b c).toNat : Nat) : Int) = (c.toNat : Int) - a + b := by
 unfold szB
 rw [if_pos h]
 have : (UInt8.ofNat (c.toNat - a + b)).toNat = c.toNat - a + b := by simp; omega
 rw [this]
 omega
theorem aGE (a b : Nat) (c : UInt8) (h : ¬ (a ≤ c.toNat ∧ c.toNat ≤ a + 25)) : szB a b c = c := by unfold szB; rw [if_neg h]
theorem aAF (s : ByteArray) (hs : s.size ≤ 9223372036854775807) (w : World) : Calls Tryz.prog 219 #[.string s, .int .i32 97, .int .i32 65] w fun e w' => e = .returned (.string ⟨(szF 97 65 s.data.toList).toArray⟩) ∧ Below w.heap.size w w' := by
 have hlen : s.data.toList.length = s.size := by simp
 have HL : Hid (∀ p, (szP 97 65 s.data.toList p).length = s.size) := fun p => by rw [aBO, hlen]
 have CV : ∀ W : World, (convert 9 134 (.string s)).run Tryz.prog W = _ := fun W => run_bytes_of_string W 9 134 5 s Tryz.underlying9 Tryz.underlying134 Tryz.underlying5
 go_enter Tryz.func219, Tryz.ntmps219
 go_wp2
 generalize hcap : grownCap w s.size 0 5 = cap
 go_loopw [8] (fun i w' => ∃ (p : Nat), p ≤ s.size ∧ RW w s (szP 97 65 s.data.toList p) p w') (fun _ w' => s.size - w'.iterPos (w.heap.size + 1))
 case atStart => exact ⟨0, Nat.zero_le _, by rw [aEy]; exact RW.begin⟩
 case round =>
  clear CV
  obtain ⟨p, hp, hR⟩ := hrel
  have hpos := hR.pos
  by_cases hlt : p < s.size
  ·obtain ⟨u1, hnx, hR1⟩ := hR.next hlt
   have hpl : p < s.data.toList.length := by rw [hlen]; exact hlt
   have hgl : s.data.toList[p] = s[p] := by simp; rfl
   by_cases ha : (s[p]'hlt).toNat < 128
   ·rw [decode_ascii s p hlt ha] at hnx hR1
    have aEC := aEz 97 65 s.data.toList p hpl
    rw [hgl] at aEC
    generalize hcc : s[p]'hlt = c at *
    by_cases hin : 97 ≤ c.toNat ∧ c.toNat ≤ 97 + 25
    ·have hi1 : 97 ≤ (c.toNat : Int) := by omega
     have hi2 : (c.toNat : Int) < 97 + 26 := by omega
     have hj : p < (szP 97 65 s.data.toList p).length := by rw [HL.out]; exact hlt
     obtain ⟨k1, k2⟩ := hR1.cell hj
     have HR2 : Hid (RW w s ((szP 97 65 s.data.toList p).set p (szB 97 65 c)) (p + 1) (u1.setCell ⟨w.heap.size, p, none⟩ (.int .u8 ((c.toNat : Int) - 97 + 65)))) := by
      have := hR1.store hj (szB 97 65 c)
      rw [aIE 97 65 c hin (by decide)] at this
      exact this
     have HS : Hid _ := aEC
     clear aEC hR1 hR
     go_wp2
     go_roundw
     case rel => exact ⟨p + 1, by omega, by rw [HS.out]; exact HR2.out⟩
     case measure =>
      have := HR2.out.pos
      rw [hpos, this]
      omega
    ·have HR2 : Hid (RW w s (szP 97 65 s.data.toList (p + 1)) (p + 1) u1) := by
      show RW _ _ _ _ _
      rw [aEC, aGE _ _ _ hin]
      have e : (szP 97 65 s.data.toList p).set p c = szP 97 65 s.data.toList p := by
       apply List.ext_getElem?
       intro i
       rw [List.getElem?_set]
       split
       ·rename_i e; subst e; rw [aID _ _ _ _ hpl, hgl, if_pos (by rw [HL.out]; exact hlt)]
       ·rfl
      rw [e]
      exact hR1
     clear aEC hR1 hR
     have hi : ¬ 97 ≤ (c.toNat : Int) ∨ (97 ≤ (c.toNat : Int) ∧ ¬ (c.toNat : Int) < 97 + 26) := by omega
     rcases hi with hi | ⟨hi1, hi2⟩
     all_goals
      go_wp2
      go_roundw
      case rel => exact ⟨p + 1, by omega, HR2.out⟩
      case measure =>
       have := HR2.out.pos
       rw [hpos, this]
       omega
   ·have dh := decode_high s p hlt (by omega)
    have db := mR s p hlt (by omega)
    have HR2 : Hid (RW w s (szP 97 65 s.data.toList (p + (Utf8.decode s p).2)) (p + (Utf8.decode s p).2) u1) := by
     show RW _ _ _ _ _
     rw [aEA]
     ·exact hR1
     ·intro j h1 h2 hj
      refine aEB _ _ _ (by decide) ?_
      have := db.2 (j - p) (by omega)
      rw [show p + (j - p) = j by omega, yH s j hj] at this
      exact this
    clear hR1 hR
    generalize (Utf8.decode s p).2 = d at *
    have hr1 : ∃ r : Nat, (Utf8.decode s p).1 = r ∧ 128 ≤ r := ⟨_, rfl, dh.1⟩
    obtain ⟨r, hr, hr2⟩ := hr1
    rw [hr] at hnx
    clear hr
    have hi1 : 97 ≤ (r : Int) := by omega
    have hi2 : ¬ (r : Int) < 97 + 26 := by omega
    have hd1 := dh.2
    have hd2 := db.1
    clear dh db
    go_wp2
    go_roundw
    case rel => exact ⟨p + d, hd2, HR2.out⟩
    case measure =>
     have := HR2.out.pos
     rw [hpos, this]
     omega
  ·have hnx : ∀ ty, (Instr.next (.pointer (some ⟨w.heap.size + 1, 0, none⟩)) true ty).run Tryz.prog wr = .ok (.tuple #[.bool false]) wr := fun ty => lK hR.it ty hlt
   have CB := hR.conv (cap := cap)
   rw [HL.out, aGD _ _ _ _ (by rw [hlen]; omega)] at CB
   have HB : Hid _ := hR.bel
   clear hR
   go_wp2
   go_ret
   exact ⟨rfl, HB.out⟩
theorem vJ (s : ByteArray) (hs : s.size ≤ 9223372036854775807) (w : World) : Calls Tryz.prog 194 #[.string s] w fun e w' => e = .returned (.string ⟨(szF 97 65 s.data.toList).toArray⟩) ∧ Below w.heap.size w w' := by
 have R := fun u => aAF s hs u
 generalize szF 97 65 s.data.toList = X at *
 go_enter Tryz.func194, Tryz.ntmps194
 go_wp2_with (go_at_call 219; refine (R _).mono ?_; rintro e w1 ⟨rfl, hb⟩; have HB : Hid _ := hb; clear hb)
 go_ret
 exact ⟨rfl, HB.out⟩
structure RX (w : World) (L : List UInt8) (u : World) : Prop where
 row : ∃ C : Array Value, u.heap[w.heap.size]? = some (.cells C 5 (C.size, C.size + 1)) ∧ ∀ j (h : j < L.length), C[j]? = some (.int .u8 (L[j].toNat : Nat))
 bel : Below w.heap.size w u
def aCK (X : List UInt8) : Bool × Bool := if X = [84, 82, 85, 69] then (true, true) else if X = [70, 65, 76, 83, 69] then (false, true) else (false, false)
def aGF (X : List UInt8) : Int := if X = [84, 82, 85, 69] then 1 else if X = [70, 65, 76, 83, 69] then 0 else -1
def lS (s : ByteArray) : Bool × Bool := aCK (szF 97 65 s.data.toList)
theorem tY (X : List UInt8) : (X = [84, 82, 85, 69] ∧ aCK X = (true, true) ∧ aGF X = 1) ∨ (X = [70, 65, 76, 83, 69] ∧ aCK X = (false, true) ∧ aGF X = 0) ∨ ((X == [84, 82, 85, 69]) = false ∧ (X == [70, 65, 76, 83, 69]) = false ∧ aCK X = (false, false) ∧ aGF X = -1) := by
 by_cases h : X = [84, 82, 85, 69]
 ·subst h; left; exact ⟨rfl, rfl, rfl⟩
 ·by_cases g : X = [70, 65, 76, 83, 69]
  ·subst g; right; left; exact ⟨rfl, rfl, rfl⟩
  ·right; right; simp [aCK, aGF, h, g]
theorem aAG (s : ByteArray) (hs : s.size ≤ 9223372036854775807) (w : World) : Calls Tryz.prog 224 #[.string s] w fun e w' => e = .returned (.tuple #[.bool (lS s).1, .bool (lS s).2]) ∧ Below w.heap.size w w' := by
 have R := fun u => vJ s hs u
 unfold lS
 generalize szF 97 65 s.data.toList = X at *
 rcases tY X with ⟨rfl, h, _⟩ | ⟨rfl, h, _⟩ | ⟨h1, h2, h, _⟩
 all_goals
  rw [h]
  go_enter Tryz.func224, Tryz.ntmps224
  go_wp2_with (go_at_call 194; refine (R _).mono ?_; rintro e w1 ⟨rfl, hb⟩; have HB : Hid _ := hb; clear hb)
  go_ret2
  exact ⟨rfl, HB.out⟩
theorem oC (s : ByteArray) (w : World) : Calls Tryz.prog 222 #[.string s] w fun e w' => e = .returned (.agg #[.int .i64 2, .int .i64 0, .string s]) ∧ Below w.heap.size w w' := by
 go_enter Tryz.func222, Tryz.ntmps222
 go_wp2
 exact bodyPost_ret (v := .agg #[.int .i64 2, .int .i64 0, .string s]) (by simp [results, Tryz.results222, go_sem]) rfl ⟨rfl, (Below.refl _ _).alloc (Nat.le_refl _) _⟩
theorem aAH (b : Bool) (w : World) : Calls Tryz.prog 225 #[.bool b] w fun e w' => e = .returned (.agg #[.int .i64 3, .int .i64 (if b = true then 1 else 0), .string ⟨#[]⟩]) ∧ Below w.heap.size w w' := by
 cases b
 all_goals
  go_enter Tryz.func225, Tryz.ntmps225
  go_wp2_with (go_at_call 239; refine (aAB _ _).mono ?_; rintro e w' ⟨rfl, hw⟩; obtain rfl := hw.symm; clear hw)
 ·exact bodyPost_ret (v := .agg #[.int .i64 3, .int .i64 0, .string ⟨#[]⟩]) (by simp [results, Tryz.results225, go_sem]) rfl ⟨rfl, (Below.refl _ _).alloc (Nat.le_refl _) _⟩
 ·exact bodyPost_ret (v := .agg #[.int .i64 3, .int .i64 1, .string ⟨#[]⟩]) (by simp [results, Tryz.results225, go_sem]) rfl ⟨rfl, (Below.refl _ _).alloc (Nat.le_refl _) _⟩
def qU (n : Int) : Int := if knB n = true then n else 2
theorem mU (n : Int) (w : World) : Calls Tryz.prog 149 #[.int .i64 n] w fun e w' => e = .returned (.agg #[.int .i64 4, .int .i64 (qU n), .string ⟨#[]⟩]) ∧ Below w.heap.size w w' := by
 have K := fun u => fQ n u
 cases hk : knB n
 all_goals
  rw [hk] at K
 ·have e : qU n = 2 := by simp [qU, hk]
  rw [e]
  go_enter Tryz.func149, Tryz.ntmps149
  go_wp2_with (go_at_call 191; refine (K _).mono ?_; rintro e w' ⟨rfl, hw⟩; obtain rfl := hw.symm; clear hw)
  exact bodyPost_ret (v := .agg #[.int .i64 4, .int .i64 2, .string ⟨#[]⟩]) (by simp [results, Tryz.results149, go_sem]) rfl ⟨rfl, (Below.refl _ _).alloc (Nat.le_refl _) _⟩
 ·have e : qU n = n := by simp [qU, hk]
  rw [e]
  go_enter Tryz.func149, Tryz.ntmps149
  go_wp2_with (go_at_call 191; refine (K _).mono ?_; rintro e w' ⟨rfl, hw⟩; obtain rfl := hw.symm; clear hw)
  exact bodyPost_ret (v := .agg #[.int .i64 4, .int .i64 n, .string ⟨#[]⟩]) (by simp [results, Tryz.results149, go_sem]) rfl ⟨rfl, (Below.refl _ _).alloc (Nat.le_refl _) _⟩
theorem dM {w w1 : World} {a b c : Value} (hb : Below (w.alloc (.cells #[a, b, c] 23)).heap.size (w.alloc (.cells #[a, b, c] 23)) w1) :
  (w1.cell? ⟨w.heap.size, 0, none⟩ = some a ∧ w1.cell? ⟨w.heap.size, 1, none⟩ = some b ∧ w1.cell? ⟨w.heap.size, 2, none⟩ = some c) ∧
  (w1.frozen? ⟨w.heap.size, 0, none⟩ = false ∧ w1.frozen? ⟨w.heap.size, 1, none⟩ = false ∧ w1.frozen? ⟨w.heap.size, 2, none⟩ = false) := by
 have h0 : w1.heap[w.heap.size]? = some (.cells #[a, b, c] 23 (0, 0)) := by
  rw [hb.block _ (by simp)]
  exact heap_alloc_new w _
 exact ⟨(kN hb).2, by simp [World.frozen?, h0]⟩
theorem vK {w w1 : World} {a b c : Value} (h : Below w.heap.size w w1) : Below w.heap.size w (((w1.setCell ⟨w.heap.size, 0, none⟩ a).setCell ⟨w.heap.size, 1, none⟩ b).setCell ⟨w.heap.size, 2, none⟩ c) :=
 ((h.setCell (Nat.le_refl _) _).setCell (Nat.le_refl _) _).setCell (Nat.le_refl _) _
def ofV (n : Int) (ok : Bool) : Value := if (ok && gd n) = true then .agg #[.int .i64 1, .int .i64 n, .string ⟨#[]⟩] else .agg #[.int .i64 4, .int .i64 5, .string ⟨#[]⟩]
theorem aED (n : Int) (ok : Bool) (w : World) : Calls Tryz.prog 223 #[.int .i64 n, .bool ok] w fun e w' => e = .returned (ofV n ok) ∧ Below w.heap.size w w' := by
 have G := fun u => iM n u
 unfold ofV
 cases ok <;> cases hg : gd n
 all_goals
  rw [hg] at G
  simp only [Bool.and_true, Bool.and_false, Bool.false_eq_true, if_true, if_false]
  go_enter Tryz.func223, Tryz.ntmps223
  go_wp2_with (first | (go_at_call 218; refine (G _).mono ?_; rintro e w' ⟨rfl, hw⟩; obtain rfl := hw.symm; clear hw) | (go_at_call 149; refine (mU _ _).mono ?_; rintro e w1 ⟨rfl, hb⟩; have HB : Hid (Below w.heap.size w w1) := aR hb; obtain ⟨⟨c0, c1, c2⟩, f0, f1, f2⟩ := dM hb; clear hb))
  first
  | exact bodyPost_ret (v := .agg #[.int .i64 4, .int .i64 5, .string ⟨#[]⟩]) (by simp [results, Tryz.results223, go_sem, c0, c1, c2]; rfl) rfl ⟨rfl, vK HB.out⟩
  | exact bodyPost_ret (v := .agg #[.int .i64 1, .int .i64 n, .string ⟨#[]⟩]) (by simp [results, Tryz.results223, go_sem]) rfl ⟨rfl, (Below.refl _ _).alloc (Nat.le_refl _) _⟩
end Go.Proofs.YtljmklbbngpllaaGreatDoor
