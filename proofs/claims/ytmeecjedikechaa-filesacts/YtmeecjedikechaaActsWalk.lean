/- The walk of FilesActs. -/
import Derived.Test.YtmeecjedikechaaActMem
import Derived.Test.YtmeecjedikechaaActJ0
import Derived.Test.YtmeecjedikechaaActJ1
import Derived.Test.YtmeecjedikechaaActJ2
import Derived.Test.YtmeecjedikechaaActJ3
import Derived.Test.YtmeecjedikechaaActJ4
import Derived.Test.YtmeecjedikechaaActJ5
import Derived.Test.YtmeecjedikechaaActJ6
import Derived.Test.YtmeecjedikechaaActJ7
import Derived.Test.YtmeecjedikechaaActJ8
import Derived.Test.YtmeecjedikechaaAlike
import Derived.Test.YtmeecjedikechaaLives
namespace Go.Proofs.Ytmeecjedikechaa
open Go.RowKit Go.Maps Go.Sort
set_option maxRecDepth 100000
set_option linter.unusedVariables false
set_option linter.unusedSimpArgs false
theorem actJ_any {K : Nat → Prop} {base : Nat} {w : World} {b bm rb : Nat} {r : RS} {P : List PF} (h : JA K base b bm rb r P w) (t : ActT) (ok : ActOk base w t) (hn : t.n ≤ 9223372036854775807) (hm : t.m ≤ 9223372036854775807) :
    Calls Try.prog 10 #[ptrOf b, ptrOf rb, .agg (actC t).toArray] w (AdJ base b bm rb w) := by
  obtain ⟨k, nm, to, n1, m1, da, dn, dc, l⟩ := t
  obtain ⟨hd, h1, h2, hl⟩ := ok
  dsimp only at hd h1 h2 hl hn hm
  obtain rfl : dn = l.length := by
    rcases hd with ⟨e, rfl⟩ | ⟨a, c, e, _⟩
    · simp only [Value.slice.injEq] at e; simp [e.2.1]
    · simp only [Value.slice.injEq] at e; exact e.2.1
  have hk : (k < 0 ∨ 8 < k) ∨ k = 0 ∨ k = 1 ∨ k = 2 ∨ k = 3 ∨ k = 4 ∨ k = 5 ∨ k = 6 ∨ k = 7 ∨ k = 8 := by omega
  rcases hk with hk | rfl | rfl | rfl | rfl | rfl | rfl | rfl | rfl | rfl
  · exact actJ_x h k hk nm to n1 m1 _
  · exact actJ_0 h nm to n1 m1 h1 _
  · exact actJ_1 h nm to n1 m1 h1 da dc hd hl
  · exact actJ_2 h nm to n1 m1 h1 _
  · exact actJ_3 h nm to n1 m1 h1 h2 _
  · exact actJ_4 h nm to n1 m1 h1 _
  · exact actJ_5 h nm to n1 m1 h1 da dc hd hl
  · exact actJ_6 h nm to n1 m1 hn hm _
  · exact actJ_7 h nm to n1 m1 _
  · exact actJ_8 h nm to n1 m1 h1 _
/-- The copy, loaded. -/
theorem act_copy (wr : World) (t : ActT) : (Instr.loadAt 31 (.pointer (some ⟨wr.heap.size, 0, none⟩))).run Try.prog (wr.alloc (.cells (actC t).toArray 31)) = .ok (.agg (actC t).toArray) (wr.alloc (.cells (actC t).toArray 31)) := by
  have hi : (Try.prog.info? 31).map (·.size) = some (actC t).length := inf31
  refine run_loadVar_any _ ⟨wr.heap.size, 0, none⟩ 31 (actC t) _ (fun j v hv => ?_) Try.underlying31 rfl hi
  have hadd : (⟨wr.heap.size, 0, none⟩ : Addr).add j = ⟨wr.heap.size, j, none⟩ := by unfold Addr.add; split <;> simp_all
  rw [hadd, cell_of_row _ _ j (actC t).toArray 31 (0, 0) (heap_alloc_new wr _)]
  simpa using hv
theorem rel_new : Rel ⟨false, 0, 0, 0, 0⟩ (fun _ => none) ⟨false, 0, 0, 0, 0⟩ [] :=
  ⟨rfl, rfl, fun _ => rfl, rfl, rfl, fun _ => rfl, List.Pairwise.nil, by decide, by decide, by decide, by decide, by decide, by decide⟩
theorem ja_new {w w1 : World} {b bm : Nat} (h : S (fun _ => False) w.heap.size w1 b bm ⟨false, 0, 0, 0, 0⟩ (.map []) (fun _ => none)) (hs : w.heap.size ≤ w1.heap.size) :
    JA (fun i => i = w1.heap.size) w.heap.size b bm w1.heap.size ⟨false, 0, 0, 0, 0⟩ [] (w1.alloc (.cells #[.slice none 0 0, .bool false, .int .i64 0, .int .i64 0, .int .i64 0, .int .i64 0] 28)) := by
  refine ⟨_, _, _, h.reK (fun i hi => Below.heap_alloc w1 _ i hi) (fun i hi => ?_), ⟨[], ?_, .nil⟩, rel_new, rfl, by simp; omega, hs, fun p hp => by cases hp⟩
  · subst hi
    exact ⟨by simp, .inr (Nat.le_refl _)⟩
  · exact ⟨⟨_, heap_alloc_new w1 _, .inl ⟨rfl, rfl⟩, fun a c e _ => by cases e⟩⟩
def LpJ (base b bm rb : Nat) (w wr : World) : Prop := (∃ K r P, JA K base b bm rb r P wr) ∧ Below base w wr
set_option maxHeartbeats 8000000 in
theorem acts_walk {w : World} {a0 : Option Addr} {c0 : Nat} {L : List ActT} (hA : ActsIn w.heap.size w (.slice a0 L.length c0) L) (hB : ∀ t ∈ L, t.n ≤ 9223372036854775807 ∧ t.m ≤ 9223372036854775807) :
    Calls Try.prog 3 #[.slice a0 L.length c0] w fun e w' => e = .returned (.bool true) ∧ Below w.heap.size w w' := by
  have N := new_any (K := fun _ => False) w (fun _ h => h.elim)
  have hlen : L.length ≤ 9223372036854775807 := by
    rcases hA.2 with ⟨_, rfl⟩ | ⟨a, cap, e, h1, h2, _⟩
    · simp
    · simp only [maxLen] at h2; omega
  have HA : Hid (ActsIn w.heap.size w (.slice a0 L.length c0) L ∧ ∀ t ∈ L, t.n ≤ 9223372036854775807 ∧ t.m ≤ 9223372036854775807) := ⟨hA, hB⟩
  clear hA hB
  go_enter Try.func3, Try.ntmps3
  go_wp2_with fail
  refine N.mono ?_
  rintro e w1 ⟨b, bm, rfl, s1, b1⟩
  have HL0 : Hid (LpJ w.heap.size b bm w1.heap.size w (w1.alloc (.cells #[.slice none 0 0, .bool false, .int .i64 0, .int .i64 0, .int .i64 0, .int .i64 0] 28))) := ⟨⟨_, _, _, ja_new s1 b1.size⟩, b1.below.alloc b1.size _⟩
  clear s1 b1 N
  generalize hbase : w.heap.size = base at HL0 HA ⊢
  go_wp2_with fail
  generalize w1.alloc (.cells #[.slice none 0 0, .bool false, .int .i64 0, .int .i64 0, .int .i64 0, .int .i64 0] 28) = w2 at *
  generalize w1.heap.size = rb at *
  go_loopw [14] (fun u14 wr => ∃ k : Nat, u14 = .int .i64 k ∧ k ≤ L.length ∧ Hid (LpJ base b bm rb w wr)) (fun u14 _ => L.length - (intOf u14).toNat)
  case atStart => exact ⟨0, rfl, by omega, HL0⟩
  case round =>
    obtain ⟨k, rfl, hk, HL⟩ := hrel
    clear HL0
    by_cases hlt : k < L.length
    · obtain ⟨⟨K, r, P, j⟩, bP⟩ := HL.out
      obtain ⟨a', rfl, R1, R2, -, HO⟩ := HA.out.1.runs bP hlt
      have HB : Hid (L[k].n ≤ 9223372036854775807 ∧ L[k].m ≤ 9223372036854775807) := HA.out.2 _ (List.getElem_mem hlt)
      have R3 : Hid _ := act_copy wr L[k]
      generalize L[k] = t at R1 R2 R3 HO HB
      have b1 : Below base wr (wr.alloc (.cells (actC t).toArray 31)) := (Below.refl base wr).alloc j.bas _
      have C1 := actJ_any (j.box (.cells (actC t).toArray 31)) t ⟨HO.out.1.below b1, HO.out.2⟩ HB.out.1 HB.out.2
      have HB1 : Hid (Below base w (wr.alloc (.cells (actC t).toArray 31))) := bP.trans b1
      have C2 : Hid (∀ u, LpJ base b bm rb w u → Calls Try.prog 11 #[ptrOf b, ptrOf rb] u (AdJ base b bm rb u)) := fun u hu => by
        obtain ⟨⟨K, r, P, j⟩, _⟩ := hu
        exact alike_any j
      clear HL j bP HO HB b1
      obtain ⟨kk, nA, nB, n1, m1, da1, dn1, dc1, l1⟩ := t
      simp only [actC] at R1 R2 R3 C1 HB1
      go_wp2_with (first
        | (refine wpList_load_run rfl 31 _ rfl _ _ rfl R1.out ?_; clear R1)
        | (refine wpList_store_run rfl 31 _ _ rfl _ _ _ rfl rfl R2.out ?_; clear R2)
        | (refine wpList_load_run rfl 31 _ rfl _ _ rfl R3.out ?_; clear R3))
      refine C1.mono ?_
      rintro e w5 ⟨rfl, j5, b5⟩
      have H5 : Hid (LpJ base b bm rb w w5) := ⟨j5, HB1.out.trans b5⟩
      clear C1 j5 b5 HB1
      go_wp2_with fail
      refine (C2.out _ H5.out).mono ?_
      rintro e w6 ⟨rfl, j6, b6⟩
      have H6 : Hid (LpJ base b bm rb w w6) := ⟨j6, H5.out.2.trans b6⟩
      clear C2 j6 b6 H5
      go_wp2
      go_roundw
      case rel => exact ⟨k + 1, by go_num, by omega, H6⟩
      case measure => simp [intOf]; omega
    · have LV := lives_any wr
      have HBW : Hid (Below base w wr ∧ base ≤ wr.heap.size) := by
        obtain ⟨⟨K, r, P, j⟩, bP⟩ := HL.out
        exact ⟨bP, j.bas⟩
      clear HL HA
      go_wp2_with (go_at_call 12; refine LV.mono ?_; rintro e w6 ⟨rfl, b6⟩)
      go_ret
      exact ⟨rfl, by rw [hbase]; exact HBW.out.1.trans (b6.mono HBW.out.2)⟩
end Go.Proofs.Ytmeecjedikechaa
