/- The contracts of twice and wrong. -/
import Derived.Test.YthomhaegdlglhaaDoorSmall
import Derived.StringKeys
namespace Go.Proofs.YthomhaegdlglhaaDoor
open Go.RowKit Go.Maps Go.WideMaps
set_option maxRecDepth 100000

theorem K9 : Keyed Tryd.prog 9 := string_keyed Tryd.underlying9
theorem zero3 (w : World) : (zeroValue 3).run Tryd.prog w = .ok (.int .i64 0) w := by kernel_rfl

theorem bytes_inj {s t : ByteArray} (h : s.data.toList = t.data.toList) : s = t := by
  cases s; cases t
  simp at h
  rw [h]

/-- The map tells 1 of each tag that was there, and 0 of the others. -/
def Seen (L : List Chk) (D : DataW Unit) : Prop := ∀ t : ByteArray, D.atKey (.string t.data.toList) (.lit (.int .i64 0)) = .lit (.int .i64 (if ∃ c ∈ L, c.1 = t then (1 : Int) else 0))
theorem Seen.nil : Seen [] (.map []) := fun t => by simp [DataW.atKey]
theorem Seen.snoc {L : List Chk} {D : DataW Unit} (h : Seen L D) (hD : IsMap D) (c : Chk) : Seen (L ++ [c]) (D.put (.string c.1.data.toList) (.lit (.int .i64 1))) := by
  intro t
  by_cases e : t = c.1
  · subst e
    rw [atKey_put_same hD (by simp [WideAt.IsKeyLit]), if_pos ⟨c, by simp, rfl⟩]
  · rw [atKey_put_other (by intro he; injection he with he; exact e (bytes_inj he)), h t]
    have : (∃ x ∈ L ++ [c], x.1 = t) ↔ ∃ x ∈ L, x.1 = t := by
      constructor
      · rintro ⟨x, hx, rfl⟩
        rcases List.mem_append.1 hx with hx | hx
        · exact ⟨x, hx, rfl⟩
        · exact absurd (by rw [List.mem_singleton.1 hx]) e
      · rintro ⟨x, hx, rfl⟩; exact ⟨x, List.mem_append_left _ hx, rfl⟩
    simp only [this]

theorem distinct_take (L : List Chk) (k : Nat) (h : k < L.length) : distinct (L.take (k + 1)) ↔ distinct (L.take k) ∧ ¬ ∃ c ∈ L.take k, c.1 = L[k].1 := by
  unfold distinct
  rw [List.take_succ_eq_append_getElem h, List.map_append, List.nodup_append]
  simp only [List.map_cons, List.map_nil, List.mem_singleton, List.nodup_cons, List.not_mem_nil, not_false_eq_true, List.nodup_nil, and_self, true_and, forall_eq]
  constructor
  · rintro ⟨h1, h2⟩; exact ⟨h1, fun ⟨c, hc, e⟩ => h2 _ (List.mem_map.2 ⟨c, hc, rfl⟩) e⟩
  · rintro ⟨h1, h2⟩; exact ⟨h1, fun x hx e => by obtain ⟨c, hc, rfl⟩ := List.mem_map.1 hx; exact h2 ⟨c, hc, e⟩⟩
theorem distinct_of (L : List Chk) (k : Nat) (h : distinct L) : distinct (L.take k) := by
  unfold distinct at *
  rw [List.map_take]
  exact List.Nodup.sublist (List.take_sublist _ _) h

set_option maxHeartbeats 2000000 in
theorem twice_some {w : World} {a : Addr} {cap : Nat} {L : List Chk} (hl : L.length < maxLen)
    (h : ∀ u : World, Below w.heap.size w u → ∀ j c, L[j]? = some c → c.1.size ≤ maxLen ∧ ∃ d, u.cell? (a.add (j * 2)) = some (.string c.1) ∧ u.cell? ⟨(a.add (j * 2)).block, (a.add (j * 2)).off + 1, none⟩ = some d ∧ Bts u d c.2) :
    Calls Tryd.prog 34 #[.slice (some a) L.length cap] w fun e w' => e = .returned (.bool (decide (¬ distinct L))) ∧ Below w.heap.size w w' := by
  have hl' : L.length < 9223372036854775807 := hl
  have H : Hid _ := h
  have hl2 : Hid (L.length < maxLen) := hl
  clear h hl
  go_enter Tryd.func34, Tryd.ntmps34
  have RM : ∀ u : World, (Instr.makeMap 69 none).run Tryd.prog u = .ok (.map (some u.heap.size)) (u.alloc (.map #[] 0)) := fun _ => rfl
  go_wp2
  clear RM
  go_loopw [9] (fun i u => ∃ (k : Nat) (D : DataW Unit), i = .int .i64 k ∧ k ≤ L.length ∧ Hid (distinct (L.take k)) ∧ Hid (u.ownsMap Tryd.prog 9 (plainElem Tryd.prog 3) w.heap.size k D) ∧ Hid (Seen (L.take k) D) ∧ Below w.heap.size w u) (fun i _ => L.length - (intOf i).toNat)
  case atStart => exact ⟨0, .map [], rfl, by omega, by simp [Hid, distinct], World.ownsMap_made _ _ _ _, Seen.nil, (Below.refl _ _).alloc (Nat.le_refl _) _⟩
  case round =>
    obtain ⟨k, D, rfl, hk, hdis, hown, hseen, hb⟩ := hrel
    have hsz := hb.size
    by_cases hlt : k < L.length
    · obtain ⟨hs, d, c1, c2, hd⟩ := H.out wr hb k L[k] (List.getElem?_eq_getElem hlt)
      obtain ⟨da, dc, rfl, hd1, hd2⟩ := hd.slice
      generalize L[k].2.length = n at *
      have hkey : keyOf Tryd.prog 9 (.string L[k].1) = some (.string L[k].1.data.toList) := keyOf_string_mk Tryd.underlying9 hs
      have hDT := distinct_take L k hlt
      have hsn : Seen (L.take (k + 1)) (D.put (.string L[k].1.data.toList) (.lit (.int .i64 1))) := by
        rw [List.take_succ_eq_append_getElem hlt]
        exact hseen.out.snoc hown.out.isMap _
      obtain ⟨c, r1, a1, _⟩ := (hown.out.alloc (.cells #[.string L[k].1, .slice da n dc] 49)).lookup_int K9 Tryd.underlying69 Tryd.underlying3 (zero3 _) hkey
      have a1' := hseen.out L[k].1
      rw [a1'] at a1
      have hb2 : Below w.heap.size w (wr.alloc (.cells #[.string L[k].1, .slice da n dc] 49)) := hb.alloc hsz _
      have hbl : w.heap.size < wr.heap.size := hown.out.lt
      by_cases hin : ∃ c ∈ L.take k, c.1 = L[k].1
      · rw [if_pos hin] at a1
        have hc : c = 1 := by simpa using a1.symm
        subst hc
        obtain ⟨w2, r2, hown2, gr2⟩ := (hown.out.alloc (.cells #[.string L[k].1, .slice da n dc] 49)).update K9 Tryd.underlying69 (by have := hl2.out; omega) hkey (val := .int .i64 2) (plainElem_int Tryd.underlying3 (by decide))
        obtain ⟨c', r3, a3, _⟩ := hown2.lookup_int K9 Tryd.underlying69 Tryd.underlying3 (zero3 _) hkey
        rw [atKey_put_same (k := .string L[k].1.data.toList) hown.out.isMap trivial] at a3
        have hc : c' = 2 := by simpa using a3.symm
        subst hc
        have cc : w2.cell? ⟨wr.heap.size, 0, none⟩ = some (.string L[k].1) := by
          rw [World.cell?_of_block (gr2.block wr.heap.size (by simp) (by simp; omega))]
          simp
        have hE : Hid (decide (¬ distinct L) = true ∧ Below w.heap.size w w2) := by
          refine ⟨?_, hb2.grown gr2 (by simp; omega) (by simp)⟩
          simp only [decide_eq_true_eq]
          intro hd
          exact ((hDT.1 (distinct_of L (k + 1) hd)).2) hin
        clear a3 a1 a1' hb2 hDT hsn hin gr2 hown2 hkey
        generalize L[k].1 = tag at *
        go_wp2
        go_ret
        exact ⟨ret_bool hE.out.1.symm, hE.out.2⟩
      · rw [if_neg hin] at a1
        have hc : c = 0 := by simpa using a1.symm
        subst hc
        obtain ⟨w2, r2, hown2, gr2⟩ := (hown.out.alloc (.cells #[.string L[k].1, .slice da n dc] 49)).update K9 Tryd.underlying69 (by have := hl2.out; omega) hkey (val := .int .i64 1) (plainElem_int Tryd.underlying3 (by decide))
        obtain ⟨c', r3, a3, _⟩ := hown2.lookup_int K9 Tryd.underlying69 Tryd.underlying3 (zero3 _) hkey
        rw [atKey_put_same (k := .string L[k].1.data.toList) hown.out.isMap trivial] at a3
        have hc : c' = 1 := by simpa using a3.symm
        subst hc
        have cc : w2.cell? ⟨wr.heap.size, 0, none⟩ = some (.string L[k].1) := by
          rw [World.cell?_of_block (gr2.block wr.heap.size (by simp) (by simp; omega))]
          simp
        have hE : Hid (distinct (L.take (k + 1)) ∧ w2.ownsMap Tryd.prog 9 (plainElem Tryd.prog 3) w.heap.size (k + 1) (D.put (.string L[k].1.data.toList) (.lit (.int .i64 1))) ∧ Seen (L.take (k + 1)) (D.put (.string L[k].1.data.toList) (.lit (.int .i64 1))) ∧ Below w.heap.size w w2) :=
          ⟨hDT.2 ⟨hdis.out, hin⟩, hown2, hsn, hb2.grown gr2 (by simp; omega) (by simp)⟩
        clear a3 a1 a1' hb2 hDT hsn hin gr2 hown2 hkey
        generalize L[k].1 = tag at *
        go_wp2
        go_roundw
        case rel => exact ⟨k + 1, _, by go_num, by omega, hE.out.1, hE.out.2.1, hE.out.2.2.1, hE.out.2.2.2⟩
        case measure => simp [intOf]; omega
    · have hE : Hid (decide (¬ distinct L) = false) := by
        show _ = _
        have := hdis.out
        rw [List.take_of_length_le (by omega)] at this
        simp [this]
      go_wp2
      go_ret
      exact ⟨ret_bool hE.out.symm, hb⟩
set_option maxHeartbeats 1000000 in
theorem twice_none {w : World} : Calls Tryd.prog 34 #[.slice none 0 0] w fun e w' => e = .returned (.bool false) ∧ Below w.heap.size w w' := by
  have RM : ∀ u : World, (Instr.makeMap 69 none).run Tryd.prog u = .ok (.map (some u.heap.size)) (u.alloc (.map #[] 0)) := fun _ => rfl
  go_enter Tryd.func34, Tryd.ntmps34
  go_wp2
  go_loop [9] (fun i => i = .int .i64 0) (fun _ => 0)
  case atStart => rfl
  case round =>
    subst hrel
    go_wp2
    go_ret
    exact ⟨rfl, (Below.refl _ _).alloc (Nat.le_refl _) _⟩

theorem twice_any {w : World} {v : Value} {L : List Chk} (h : Chs w v L) (hl : L.length ≤ 140737488355328) :
    Calls Tryd.prog 34 #[v] w fun e w' => e = .returned (.bool (decide (¬ distinct L))) ∧ Below w.heap.size w w' := by
  rcases h with ⟨rfl, rfl⟩ | ⟨a, cap, rfl, h1, h2, h3⟩
  · refine twice_none.mono ?_
    rintro e w' ⟨rfl, hb⟩
    exact ⟨by simp [distinct], hb⟩
  · exact twice_some (by unfold maxLen; omega) (Chs.cells h3 h1 h2)

theorem goodAll_take (L : List Chk) (k : Nat) (h : k < L.length) : goodAll (L.take (k + 1)) = (goodAll (L.take k) && goodT L[k].1) := by
  unfold goodAll
  rw [List.take_succ_eq_append_getElem h, List.all_append]
  simp
theorem goodAll_bad (L : List Chk) (k : Nat) (h : k < L.length) (hb : goodT L[k].1 = false) : goodAll L = false := by
  unfold goodAll
  rw [List.all_eq_false]
  exact ⟨L[k], List.getElem_mem _, by simp [hb]⟩
theorem ret_i64 {a b : Int} (h : a = b) : Ending.returned (.int .i64 a) = .returned (.int .i64 b) := by rw [h]

set_option maxHeartbeats 2000000 in
theorem wrong_any {w : World} {v : Value} {L : List Chk} (h : Chs w v L) (hl : L.length ≤ 140737488355328) :
    Calls Tryd.prog 21 #[v] w fun e w' => e = .returned (.int .i64 (wrongB L)) ∧ Below w.heap.size w w' := by
  have HC : Hid (∀ u : World, Below w.heap.size w u → Chs u v L) := fun u hb => h.below hb
  obtain ⟨a, cap, rfl, hc1, hc2⟩ := h.slice
  clear h
  go_enter Tryd.func21, Tryd.ntmps21
  go_wp2
  go_loopw [7] (fun i u => ∃ k : Nat, i = .int .i64 k ∧ k ≤ L.length ∧ Hid (goodAll (L.take k) = true) ∧ Below w.heap.size w u) (fun i _ => L.length - (intOf i).toNat)
  case atStart => exact ⟨0, rfl, by omega, by simp [Hid, goodAll], Below.refl _ _⟩
  case round =>
    obtain ⟨k, rfl, hk, hg, hb⟩ := hrel
    have hsz := hb.size
    by_cases hlt : k < L.length
    · have cc : Hid (∃ a', a = some a' ∧ L[k].1.size ≤ maxLen ∧ ∃ d, wr.cell? (a'.add (k * 2)) = some (.string L[k].1) ∧ wr.cell? ⟨(a'.add (k * 2)).block, (a'.add (k * 2)).off + 1, none⟩ = some d ∧ Bts wr d L[k].2) := by
        rcases HC.out wr hb with ⟨h1, rfl⟩ | ⟨a', cap, h1, _, _, h4⟩
        · simp at hlt
        · cases h1
          exact ⟨a', rfl, h4 k _ (List.getElem?_eq_getElem hlt)⟩
      obtain ⟨a', rfl, hs, d, c1, c2, hd⟩ := cc.out
      obtain ⟨da, dc, rfl, hd1, hd2⟩ := hd.slice
      have GA := goodAll_take L k hlt
      have GB : Hid (goodT L[k].1 = false → wrongB L = 8) := fun e => by unfold wrongB; rw [if_pos (goodAll_bad L k hlt e)]
      have C := fun u => good_any L[k].1 u hs
      rw [hg.out, Bool.true_and] at GA
      generalize L[k].2.length = n at *
      generalize L[k].1 = tag at *
      cases eg : goodT tag with
      | true =>
        rw [eg] at C GA
        have GA' : Hid _ := GA
        clear GA GB
        go_wp2_with (go_at_call 14; refine (C _).mono ?_; rintro e w' ⟨rfl, hw⟩; obtain rfl := hw.symm; clear hw)
        go_roundw
        case rel => exact ⟨k + 1, by go_num, by omega, GA'.out, hb.alloc hsz _⟩
        case measure => simp [intOf]; omega
      | false =>
        rw [eg] at C
        have GB' : Hid _ := GB.out eg
        clear GA GB
        go_wp2_with (go_at_call 14; refine (C _).mono ?_; rintro e w' ⟨rfl, hw⟩; obtain rfl := hw.symm; clear hw)
        go_ret
        exact ⟨ret_i64 (by rw [GB'.out]; rfl), hb.alloc hsz _⟩
    · have hg' : goodAll L = true := by
        have := hg.out
        rwa [List.take_of_length_le (by omega)] at this
      have T2 := twice_any (HC.out wr hb) hl
      by_cases hdis : distinct L
      · have eD : decide (¬ distinct L) = false := by simp [hdis]
        rw [eD] at T2
        by_cases h32 : 32 < L.length
        · have hE : Hid (wrongB L = 9) := by
            show _ = _
            unfold wrongB; rw [if_neg (by simp [hg']), if_neg (by simp [hdis]), if_pos (.inl h32)]
          have h32' : (32 : Int) < (L.length : Int) := by omega
          clear hg' hdis eD
          go_wp2_with fail
          refine T2.mono ?_
          rintro e w1 ⟨rfl, hb1⟩
          go_wp2_with fail
          go_ret
          exact ⟨ret_i64 (by rw [hE.out]; rfl), hb.trans (hb1.mono hsz)⟩
        · have hF : Hid (∀ u, Below wr.heap.size wr u → Calls Tryd.prog 35 #[.slice a L.length cap] u fun e w' => e = .returned (.bool (decide (totalD L ≤ 131072))) ∧ Below u.heap.size u w') := fun u hu => fits_any ((HC.out wr hb).below hu)
          have hE : Hid (wrongB L = if 131072 < totalD L then 9 else 0) := by
            show _ = _
            unfold wrongB; rw [if_neg (by simp [hg']), if_neg (by simp [hdis])]
            simp [h32]
          have h32' : ¬ (32 : Int) < (L.length : Int) := by omega
          clear hg' hdis eD
          go_wp2_with fail
          refine T2.mono ?_
          rintro e w1 ⟨rfl, hb1⟩
          have F1 := hF.out w1 hb1
          have hsz1 := hb1.size
          by_cases ht : totalD L ≤ 131072
          · have e1 : decide (totalD L ≤ 131072) = true := by simp [ht]
            rw [e1] at F1
            rw [if_neg (by omega)] at hE
            clear ht
            go_wp2_with fail
            refine F1.mono ?_
            rintro e w2 ⟨rfl, hb2⟩
            go_wp2_with fail
            go_ret
            exact ⟨ret_i64 (by rw [hE.out]; rfl), (hb.trans (hb1.mono hsz)).trans (hb2.mono (Nat.le_trans hsz hsz1))⟩
          · have e1 : decide (totalD L ≤ 131072) = false := by simp [ht]
            rw [e1] at F1
            rw [if_pos (by omega)] at hE
            clear ht
            go_wp2_with fail
            refine F1.mono ?_
            rintro e w2 ⟨rfl, hb2⟩
            go_wp2_with fail
            go_ret
            exact ⟨ret_i64 (by rw [hE.out]; rfl), (hb.trans (hb1.mono hsz)).trans (hb2.mono (Nat.le_trans hsz hsz1))⟩
      · have eD : decide (¬ distinct L) = true := by simp [hdis]
        rw [eD] at T2
        have hE : Hid (wrongB L = 7) := by
          show _ = _
          unfold wrongB; rw [if_neg (by simp [hg']), if_pos hdis]
        clear hg' hdis eD
        go_wp2_with fail
        refine T2.mono ?_
        rintro e w1 ⟨rfl, hb1⟩
        go_wp2_with fail
        go_ret
        exact ⟨ret_i64 (by rw [hE.out]; rfl), hb.trans (hb1.mono hsz)⟩
end Go.Proofs.YthomhaegdlglhaaDoor
