/- The contracts of putList of ints and of bytes.Ints. -/
import Derived.Test.YtohndhmhgdelmaaDoorPut
namespace Go.Proofs.YtohndhmhgdelmaaDoor
open Go.RowKit
set_option maxRecDepth 100000

/-- A slice that reads as these numbers. -/
def Its (w : World) (v : Value) (ns : List Int) : Prop :=
  (v = .slice none 0 0 ∧ ns = []) ∨ ∃ a cap, v = .slice (some a) ns.length cap ∧ ns.length ≤ cap ∧ cap ≤ maxLen ∧ ∀ j n, ns[j]? = some n → w.cell? (a.add j) = some (.int .i64 n)
theorem Its.kept {w w' : World} {v : Value} {ns : List Int} (h : Its w v ns) (hk : ∀ i, i < w.heap.size → w'.heap[i]? = w.heap[i]?) : Its w' v ns := by
  rcases h with h | ⟨a, cap, h1, h2, h3, h4⟩
  · exact .inl h
  · refine .inr ⟨a, cap, h1, h2, h3, fun j u hj => ?_⟩
    have := h4 j u hj
    rw [← this]
    exact World.cell?_of_block (hk _ (World.block_lt_of_cell? w _ this))

def listB (ns : List Int) : List UInt8 := numB ns.length ++ ns.flatMap numB
theorem flat_length (ns : List Int) (h : ∀ n ∈ ns, In64 n) : (ns.flatMap numB).length ≤ 10 * ns.length := by
  induction ns with
  | nil => simp
  | cons n r ih =>
    have := ih fun m hm => h m (by simp [hm])
    have := numB_length (h n (by simp))
    simp only [List.flatMap_cons, List.length_append, List.length_cons]
    omega
theorem flat_snoc (ns : List Int) (k : Nat) (h : k < ns.length) : (ns.take (k + 1)).flatMap numB = (ns.take k).flatMap numB ++ numB ns[k] := by
  rw [List.take_add_one, List.getElem?_eq_getElem h, List.flatMap_append]
  simp

set_option maxHeartbeats 1000000 in
theorem putList_any {base : Nat} {w : World} {v : Value} {l : List UInt8} (h : Own base w v l) (hb : base ≤ w.heap.size) {iv : Value} {ns : List Int} (hs : ∀ w', Below base w w' → Its w' iv ns) (hn : ∀ n ∈ ns, In64 n) (hl : l.length + 10 * ns.length + 10 ≤ 140737488355328) :
    Calls Tryd.prog 45 #[v, iv, .func (.func 46) #[] #[]] w fun e w' => ∃ v', e = .returned v' ∧ Apd base w v w' v' (l ++ listB ns) := by
  have H : Hid (Own base w v l) := h
  have HS : Hid (∀ w', Below base w w' → Its w' iv ns) := hs
  have P1 := putNumber_any h hb ns.length (by constructor <;> omega) (by omega)
  obtain ⟨a, c, rfl⟩ : ∃ a c, iv = .slice a ns.length c := by
    rcases hs w (Below.refl _ _) with ⟨rfl, rfl⟩ | ⟨a, cap, rfl, _⟩
    · exact ⟨none, 0, rfl⟩
    · exact ⟨_, _, rfl⟩
  clear h hs
  go_enter Tryd.func45, Tryd.ntmps45
  go_wp2_with (go_at_call 46; refine P1.mono ?_; rintro e w1 ⟨v1, rfl, ap1⟩)
  have HP : Hid (Apd base w v w1 v1 (l ++ numB ns.length)) := ap1
  clear P1 ap1
  go_loopw [0, 15] (fun u0 u15 wr => ∃ k : Nat, u15 = .int .i64 k ∧ k ≤ ns.length ∧ Hid (Apd base w v wr u0 (l ++ (numB ns.length ++ (ns.take k).flatMap numB)))) (fun _ u15 _ => ns.length - (intOf u15).toNat)
  case atStart => exact ⟨0, rfl, by omega, by show Apd _ _ _ _ _ _; simpa using HP.out⟩
  case round =>
    obtain ⟨k, rfl, hk, HD⟩ := hrel
    clear HP
    by_cases hlt : k < ns.length
    · have hI : In64 ns[k] := hn _ (List.getElem_mem _)
      have cc : Hid (∃ a', a = some a' ∧ wr.cell? (a'.add k) = some (.int .i64 ns[k])) := by
        rcases HS.out wr (HD.out.below H.out hb) with ⟨h1, rfl⟩ | ⟨a', cap, h1, _, _, h4⟩
        · simp at hlt
        · cases h1
          exact ⟨a', rfl, h4 k _ (List.getElem?_eq_getElem hlt)⟩
      obtain ⟨a', rfl, cc⟩ := cc.out
      have PN := putNumber_any HD.out.own (Nat.le_trans hb HD.out.gr.size) ns[k] hI (by
        have h1 := flat_length (ns.take k) fun n hm => hn n (List.mem_of_mem_take hm)
        have h2 := numB_length (n := ns.length) (by constructor <;> omega)
        simp only [List.length_append, List.length_take] at *
        omega)
      have HF : Hid (((ns.take k).flatMap numB ++ numB ns[k]) = (ns.take (k + 1)).flatMap numB) := (flat_snoc ns k hlt).symm
      have HL : Hid (ns.length ≤ 140737488355328) := by show _ ≤ _; omega
      generalize ns[k] = x at *
      have hk63 : k < 9223372036854775807 := by omega
      go_wp2_with (go_at_call 46; refine PN.mono ?_; rintro e w2 ⟨v2, rfl, ap2⟩)
      have HD2 : Hid (Apd base w v w2 v2 (l ++ (numB ns.length ++ (ns.take (k + 1)).flatMap numB))) := by
        have := HD.out.trans ap2
        rw [List.append_assoc, List.append_assoc, HF.out] at this
        exact this
      clear ap2 PN HD HF
      go_roundw
      case rel => exact ⟨k + 1, by go_num, by omega, HD2⟩
      case measure => simp [intOf]; omega
    · have HD2 : Hid (Apd base w v wr u0 (l ++ listB ns)) := by
        have := HD.out
        rw [List.take_of_length_le (by omega)] at this
        exact this
      clear HD
      go_wp2_with fail
      go_ret
      exact ⟨u0, rfl, HD2.out⟩

set_option maxHeartbeats 1000000 in
theorem ints_any {w : World} {iv : Value} {ns : List Int} (h : Its w iv ns) (hn : ∀ n ∈ ns, In64 n) (hl : 10 * ns.length + 10 ≤ 140737488355328) :
    Calls Tryd.prog 20 #[iv] w fun e w' => ∃ v', e = .returned v' ∧ Own w.heap.size w' v' (listB ns) ∧ Below w.heap.size w w' := by
  have P := putList_any (Own.nil w w.heap.size) (Nat.le_refl _) (fun w' hw => h.kept hw.block) hn (by simpa using hl)
  clear h hn hl
  go_enter Tryd.func20, Tryd.ntmps20
  go_wp2_with (go_at_call 45; refine P.mono ?_; rintro e w2 ⟨v2, rfl, ap2⟩)
  go_ret
  exact ⟨v2, rfl, by simpa using ap2.own, ap2.below (Own.nil _ _) (Nat.le_refl _)⟩
end Go.Proofs.YtohndhmhgdelmaaDoor
