/- The reference's letters of other sizes. -/
import Derived.Test.YtjimgjohfpcnpaaDoorVUp
import Derived.Laws.RangeAny
import Derived.Laws.IdiomStrings
namespace Go.Proofs.YtjimgjohfpcnpaaDoor
open Go.RowKit
set_option maxRecDepth 100000
set_option linter.unusedVariables false
set_option linter.unusedSimpArgs false

/-! The reference's: a row of a text's bytes, one by one. -/
structure RX (w : World) (L : List UInt8) (u : World) : Prop where
  row : ∃ C : Array Value, u.heap[w.heap.size]? = some (.cells C 5 (C.size, C.size + 1)) ∧ ∀ j (h : j < L.length), C[j]? = some (.int .u8 (L[j].toNat : Nat))
  bel : Below w.heap.size w u
theorem RX.cell {w u : World} {L : List UInt8} (h : RX w L u) {j : Nat} (hj : j < L.length) :
    u.cell? ⟨w.heap.size, j, none⟩ = some (.int .u8 (L[j].toNat : Nat)) ∧ u.frozen? ⟨w.heap.size, j, none⟩ = false := by
  obtain ⟨C, h1, h2⟩ := h.row
  have hc : j < C.size := (Array.getElem?_eq_some_iff.1 (h2 j hj)).1
  constructor
  · rw [cell_of_row u _ _ C 5 _ h1]; exact h2 j hj
  · simp [World.frozen?, h1]; omega
theorem RX.store {w u : World} {L : List UInt8} (h : RX w L u) {j : Nat} (hj : j < L.length) (x : UInt8) :
    RX w (L.set j x) (u.setCell ⟨w.heap.size, j, none⟩ (.int .u8 (x.toNat : Nat))) := by
  obtain ⟨C, h1, h2⟩ := h.row
  have hc : j < C.size := (Array.getElem?_eq_some_iff.1 (h2 j hj)).1
  refine ⟨⟨C.setIfInBounds j (.int .u8 (x.toNat : Nat)), ?_, fun i hi => ?_⟩, h.bel.setCell (Nat.le_refl _) _⟩
  · simp [World.setCell, Array.getElem?_modify, h1]
  · rw [List.length_set] at hi
    rw [Array.getElem?_setIfInBounds, List.getElem_set]
    by_cases e : j = i
    · subst e; simp [hc]
    · simp [e, h2 i hi]
theorem RX.begin {w : World} {s : ByteArray} {cap : Nat} : RX w s.data.toList (w.drew.alloc (.cells (bytesRow s cap) 5 ((bytesRow s cap).size, (bytesRow s cap).size + 1))) := by
  refine ⟨⟨bytesRow s cap, heap_alloc_new w.drew _, fun j hj => ?_⟩, ((Below.refl _ _).drew).alloc (Nat.le_refl _) _⟩
  have := bytesRow_at s cap j (by simpa using hj)
  rw [this]
  simp
theorem RX.conv {w u : World} {L : List UInt8} {cap : Nat} (h : RX w L u) :
    (convert 52 9 (.slice (some ⟨w.heap.size, 0, none⟩) L.length cap)).run Tryd.prog u = .ok (.string ⟨L.toArray⟩) u :=
  run_convert_bytes_back u 52 9 5 _ cap L Tryd.underlying52 Tryd.underlying5 Tryd.underlying9 fun j hj => by
    have hp : (⟨w.heap.size, 0, none⟩ : Addr).add j = ⟨w.heap.size, j, none⟩ := by unfold Addr.add; split <;> simp_all
    rw [hp]
    exact (h.cell hj).1
set_option maxHeartbeats 2000000 in
theorem rup_any (s : ByteArray) (hs : s.size ≤ 9223372036854775807) (w : World) : Calls Tryd.prog 34 #[.string s] w fun e w' => e = .returned (.string ⟨(szF 97 65 s.data.toList).toArray⟩) ∧ Below w.heap.size w w' := by
  have hlen : s.data.toList.length = s.size := by simp
  have HL : Hid (∀ p, (szP 97 65 s.data.toList p).length = s.size) := fun p => by rw [szP_len, hlen]
  have CV : ∀ W : World, (convert 9 52 (.string s)).run Tryd.prog W = _ := fun W => run_bytes_of_string W 9 52 5 s Tryd.underlying9 Tryd.underlying52 Tryd.underlying5
  go_enter Tryd.func34, Tryd.ntmps34
  go_wp2
  generalize hcap : grownCap w s.size 0 5 = cap
  go_loopw [10] (fun i w' => ∃ (p : Nat), p ≤ s.size ∧ i = .int .i64 p ∧ RX w (szP 97 65 s.data.toList p) w') (fun i _ => s.size - (intOf i).toNat)
  case atStart => exact ⟨0, Nat.zero_le _, rfl, by rw [szP_zero]; exact RX.begin⟩
  case round =>
    clear CV
    obtain ⟨p, hp, rfl, hR⟩ := hrel
    by_cases hlt : p < s.size
    · have hpl : p < s.data.toList.length := by rw [hlen]; exact hlt
      have hj : p < (szP 97 65 s.data.toList p).length := by rw [HL.out]; exact hlt
      obtain ⟨k1, k2⟩ := hR.cell hj
      have hsuc := szP_succ 97 65 s.data.toList p hpl
      have hat : (szP 97 65 s.data.toList p)[p] = s.data.toList[p] := Option.some.inj ((List.getElem?_eq_getElem hj).symm.trans (szP_at 97 65 s.data.toList p hpl))
      rw [hat] at k1
      generalize hcc : s.data.toList[p] = c at *
      by_cases hin : 97 ≤ c.toNat ∧ c.toNat ≤ 97 + 25
      · have hi1 : 97 ≤ (c.toNat : Int) := by omega
        have hi2 : (c.toNat : Int) ≤ 97 + 25 := by omega
        have HR2 : Hid (RX w ((szP 97 65 s.data.toList p).set p (szB 97 65 c)) (wr.setCell ⟨w.heap.size, p, none⟩ (.int .u8 ((c.toNat : Int) - 32)))) := by
          have := hR.store hj (szB 97 65 c)
          rw [szB_in 97 65 c hin (by decide), show (c.toNat : Int) - (97 : Nat) + (65 : Nat) = (c.toNat : Int) - 32 by omega] at this
          exact this
        have HS : Hid _ := hsuc
        clear hsuc hR hat
        go_wp2
        go_roundw
        case rel => exact ⟨p + 1, by omega, by go_num, by rw [HS.out]; exact HR2.out⟩
        case measure => simp [intOf]; omega
      · have HR2 : Hid (RX w (szP 97 65 s.data.toList (p + 1)) wr) := by
          show RX _ _ _
          rw [hsuc, szB_out _ _ _ hin]
          have e : (szP 97 65 s.data.toList p).set p c = szP 97 65 s.data.toList p := by
            apply List.ext_getElem?
            intro i
            rw [List.getElem?_set]
            split
            · rename_i e; subst e; rw [szP_at _ _ _ _ hpl, hcc]; try rw [if_pos (by rw [HL.out]; exact hlt)]
            · rfl
          rw [e]
          exact hR
        clear hsuc hR hat
        have hi : ¬ 97 ≤ (c.toNat : Int) ∨ (97 ≤ (c.toNat : Int) ∧ ¬ (c.toNat : Int) ≤ 97 + 25) := by omega
        rcases hi with hi | ⟨hi1, hi2⟩
        all_goals
          go_wp2
          go_roundw
          case rel => exact ⟨p + 1, by omega, by go_num, HR2.out⟩
          case measure => simp [intOf]; omega
    · have CB := hR.conv (cap := cap)
      rw [HL.out, szP_end _ _ _ _ (by rw [hlen]; omega)] at CB
      have HB : Hid _ := hR.bel
      clear hR
      go_wp2
      go_ret
      exact ⟨rfl, HB.out⟩
end Go.Proofs.YtjimgjohfpcnpaaDoor
