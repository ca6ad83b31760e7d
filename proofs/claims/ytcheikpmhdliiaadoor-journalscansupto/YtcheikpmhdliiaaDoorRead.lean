import Derived.Test.YtcheikpmhdliiaaDoorPut
import Derived.WalkLawsBesides
/- The contracts of putList of ints and of bytes.Ints. -/
namespace Go.Proofs.YtcheikpmhdliiaaDoor
open Go.RowKit
set_option maxRecDepth 100000

/-- A slice that reads as these numbers. -/
def Its (w : World) (v : Value) (ns : List Int) : Prop :=
  (v = .slice none 0 0 ∧ ns = []) ∨ ∃ a cap, v = .slice (some a) ns.length cap ∧ ns.length ≤ cap ∧ cap ≤ maxLen ∧ ∀ j n, ns[j]? = some n → w.cell? (a.add j) = some (.int .i64 n)
theorem Its.kept {w w' : World} {v : Value} {ns : List Int} (h : Its w v ns) (hk : ∀ i, i < w.heap.size → w'.heap[i]? = w.heap[i]?) : Its w' v ns := by
  rcases h with h | ⟨a, cap, h1, h2, h3, h4⟩
  · exact .inl h
  · refine .inr ⟨a, cap, h1, h2, h3, fun j u hj => ?_⟩
    have := h4 j u hj
    rw [← this]
    exact World.cell?_of_block (hk _ (World.block_lt_of_cell? w _ this))

def listB (ns : List Int) : List UInt8 := numB ns.length ++ ns.flatMap numB
theorem flat_length (ns : List Int) (h : ∀ n ∈ ns, In64 n) : (ns.flatMap numB).length ≤ 10 * ns.length := by
  induction ns with
  | nil => simp
  | cons n r ih =>
    have := ih fun m hm => h m (by simp [hm])
    have := numB_length (h n (by simp))
    simp only [List.flatMap_cons, List.length_append, List.length_cons]
    omega
theorem flat_snoc (ns : List Int) (k : Nat) (h : k < ns.length) : (ns.take (k + 1)).flatMap numB = (ns.take k).flatMap numB ++ numB ns[k] := by
  rw [List.take_add_one, List.getElem?_eq_getElem h, List.flatMap_append]
  simp

set_option maxHeartbeats 1000000 in
theorem putList_any {base : Nat} {w : World} {v : Value} {l : List UInt8} (h : Own base w v l) (hb : base ≤ w.heap.size) {iv : Value} {ns : List Int} (hs : ∀ w', Below base w w' → Its w' iv ns) (hn : ∀ n ∈ ns, In64 n) (hl : l.length + 10 * ns.length + 10 ≤ 140737488355328) :
    Calls Tryd.prog 52 #[v, iv, .func (.func 53) #[] #[]] w fun e w' => ∃ v', e = .returned v' ∧ Apd base w v w' v' (l ++ listB ns) := by
  have H : Hid (Own base w v l) := h
  have HS : Hid (∀ w', Below base w w' → Its w' iv ns) := hs
  have P1 := putNumber_any h hb ns.length (by constructor <;> omega) (by omega)
  obtain ⟨a, c, rfl⟩ : ∃ a c, iv = .slice a ns.length c := by
    rcases hs w (Below.refl _ _) with ⟨rfl, rfl⟩ | ⟨a, cap, rfl, _⟩
    · exact ⟨none, 0, rfl⟩
    · exact ⟨_, _, rfl⟩
  clear h hs
  go_enter Tryd.func52, Tryd.ntmps52
  go_wp2_with (go_at_call 53; refine P1.mono ?_; rintro e w1 ⟨v1, rfl, ap1⟩)
  have HP : Hid (Apd base w v w1 v1 (l ++ numB ns.length)) := ap1
  clear P1 ap1
  go_loopw [0, 15] (fun u0 u15 wr => ∃ k : Nat, u15 = .int .i64 k ∧ k ≤ ns.length ∧ Hid (Apd base w v wr u0 (l ++ (numB ns.length ++ (ns.take k).flatMap numB)))) (fun _ u15 _ => ns.length - (intOf u15).toNat)
  case atStart => exact ⟨0, rfl, by omega, by show Apd _ _ _ _ _ _; simpa using HP.out⟩
  case round =>
    obtain ⟨k, rfl, hk, HD⟩ := hrel
    clear HP
    by_cases hlt : k < ns.length
    · have hI : In64 ns[k] := hn _ (List.getElem_mem _)
      have cc : Hid (∃ a', a = some a' ∧ wr.cell? (a'.add k) = some (.int .i64 ns[k])) := by
        rcases HS.out wr (HD.out.below H.out hb) with ⟨h1, rfl⟩ | ⟨a', cap, h1, _, _, h4⟩
        · simp at hlt
        · cases h1
          exact ⟨a', rfl, h4 k _ (List.getElem?_eq_getElem hlt)⟩
      obtain ⟨a', rfl, cc⟩ := cc.out
      have PN := putNumber_any HD.out.own (Nat.le_trans hb HD.out.gr.size) ns[k] hI (by
        have h1 := flat_length (ns.take k) fun n hm => hn n (List.mem_of_mem_take hm)
        have h2 := numB_length (n := ns.length) (by constructor <;> omega)
        simp only [List.length_append, List.length_take] at *
        omega)
      have HF : Hid (((ns.take k).flatMap numB ++ numB ns[k]) = (ns.take (k + 1)).flatMap numB) := (flat_snoc ns k hlt).symm
      have HL : Hid (ns.length ≤ 140737488355328) := by show _ ≤ _; omega
      generalize ns[k] = x at *
      have hk63 : k < 9223372036854775807 := by omega
      go_wp2_with (go_at_call 53; refine PN.mono ?_; rintro e w2 ⟨v2, rfl, ap2⟩)
      have HD2 : Hid (Apd base w v w2 v2 (l ++ (numB ns.length ++ (ns.take (k + 1)).flatMap numB))) := by
        have := HD.out.trans ap2
        rw [List.append_assoc, List.append_assoc, HF.out] at this
        exact this
      clear ap2 PN HD HF
      go_roundw
      case rel => exact ⟨k + 1, by go_num, by omega, HD2⟩
      case measure => simp [intOf]; omega
    · have HD2 : Hid (Apd base w v wr u0 (l ++ listB ns)) := by
        have := HD.out
        rw [List.take_of_length_le (by omega)] at this
        exact this
      clear HD
      go_wp2_with fail
      go_ret
      exact ⟨u0, rfl, HD2.out⟩

set_option maxHeartbeats 1000000 in
theorem ints_any {w : World} {iv : Value} {ns : List Int} (h : Its w iv ns) (hn : ∀ n ∈ ns, In64 n) (hl : 10 * ns.length + 10 ≤ 140737488355328) :
    Calls Tryd.prog 27 #[iv] w fun e w' => ∃ v', e = .returned v' ∧ Own w.heap.size w' v' (listB ns) ∧ Below w.heap.size w w' := by
  have P := putList_any (Own.nil w w.heap.size) (Nat.le_refl _) (fun w' hw => h.kept hw.block) hn (by simpa using hl)
  clear h hn hl
  go_enter Tryd.func27, Tryd.ntmps27
  go_wp2_with (go_at_call 52; refine P.mono ?_; rintro e w2 ⟨v2, rfl, ap2⟩)
  go_ret
  exact ⟨v2, rfl, by simpa using ap2.own, ap2.below (Own.nil _ _) (Nat.le_refl _)⟩
end Go.Proofs.YtcheikpmhdliiaaDoor

/- The contracts of the reader: cut, number, count. -/
namespace Go.Proofs.YtcheikpmhdliiaaDoor
open Go.RowKit
set_option maxRecDepth 100000

abbrev ptrOf (b : Nat) : Value := .pointer (some ⟨b, 0, none⟩)
def noneP : List PanicEntry := [{ v := .iface 109 (.agg #[]), recovered := false }]

/-- The reader's block, and the bytes that it has left. -/
def Low (B : Nat) (v : Value) (l : List UInt8) : Prop := l ≠ [] → ∀ a n c, v = .slice (some a) n c → a.block < B
def Rd (B : Nat) (w : World) (rb : Nat) (l : List UInt8) : Prop := ∃ v, w.heap[rb]? = some (.cells #[v] 113 (0, 0)) ∧ Bts w v l ∧ Low B v l

theorem cell0 {w : World} {x : Nat} {v : Value} {t : TypeId} (h : w.heap[x]? = some (.cells #[v] t (0, 0))) : w.cell? ⟨x, 0, none⟩ = some v ∧ w.frozen? ⟨x, 0, none⟩ = false := by simp [World.cell?, World.frozen?, h]

/-- Bytes lie in no reader's block. -/
theorem Bts.set {w : World} {rb : Nat} {p : Option Addr} {q r : Nat} (h1 : w.heap[rb]? = some (.cells #[.slice p q r] 113 (0, 0))) {v x : Value} {l : List UInt8} (h : Bts w v l) : Bts (w.setCell ⟨rb, 0, none⟩ x) v l := by
  rcases h with h | ⟨a, cap, e1, e2, e3, e4⟩
  · exact .inl h
  · refine .inr ⟨a, cap, e1, e2, e3, fun j u hj => ?_⟩
    have hc := e4 j u hj
    rw [← hc]
    refine World.cell?_of_block (Below.heap_setCell w _ x _ ?_)
    intro e
    obtain ⟨n, rfl⟩ : ∃ n, u = .int .u8 n := by
      have := List.mem_of_getElem? hj
      simp [bcells] at this
      obtain ⟨y, _, rfl⟩ := this
      exact ⟨_, rfl⟩
    have e' : (a.add j).block = rb := e
    unfold World.cell? at hc
    rw [e', h1] at hc
    rcases Nat.eq_zero_or_pos (a.add j).off with z | z
    · simp [z] at hc
    · obtain ⟨k, hk⟩ : ∃ k, (a.add j).off = k + 1 := ⟨(a.add j).off - 1, by omega⟩
      rw [hk] at hc
      simp at hc

theorem rd_set {w : World} {rb : Nat} {p : Option Addr} {q r : Nat} (h1 : w.heap[rb]? = some (.cells #[.slice p q r] 113 (0, 0))) {x : Value} {l : List UInt8} (h : Bts w x l) {B : Nat} (hlow : Low B x l) : Rd B (w.setCell ⟨rb, 0, none⟩ x) rb l ∧ w.grownBy (w.setCell ⟨rb, 0, none⟩ x) (some rb) := by
  refine ⟨⟨x, ?_, h.set h1, hlow⟩, ⟨rfl, rfl, rfl, by simp [World.setCell], fun k _ hk => Below.heap_setCell w _ x k (by intro e; exact hk (by rw [e]))⟩⟩
  simp [World.setCell, Array.getElem?_modify, h1]

set_option maxHeartbeats 1000000 in
theorem cut_none {B : Nat} {w : World} {rb : Nat} {l : List UInt8} (h : Rd B w rb l) (n : Nat) (hn : l.length < n) (_h63 : n ≤ 9223372036854775807) :
    Calls Tryd.prog 89 #[ptrOf rb, .int .i64 n] w fun e w' => e = .panicked noneP ∧ w' = w := by
  obtain ⟨v, h1, h2, -⟩ := h
  obtain ⟨a, c, rfl, _, _⟩ := h2.slice
  obtain ⟨c0, f0⟩ := cell0 h1
  clear h1 h2
  go_enter Tryd.func89, Tryd.ntmps89
  go_wp2
  exact ⟨rfl, rfl, rfl⟩

set_option maxHeartbeats 1000000 in
theorem cut_some {B : Nat} {w : World} {rb : Nat} {l : List UInt8} (h : Rd B w rb l) (n : Nat) (hn : n ≤ l.length) :
    Calls Tryd.prog 89 #[ptrOf rb, .int .i64 n] w fun e w' => ∃ v, e = .returned v ∧ Bts w' v (l.take n) ∧ Rd B w' rb (l.drop n) ∧ w.grownBy w' (some rb) := by
  obtain ⟨v, h1, h2, hlow⟩ := h
  obtain ⟨c0, f0⟩ := cell0 h1
  rcases h2 with ⟨rfl, rfl⟩ | ⟨a, cap, rfl, h3, h4, h5⟩
  · have hn0 : n = 0 := by simpa using hn
    subst hn0
    have HE : Hid _ := rd_set h1 (x := .slice none 0 0) (l := []) (.inl ⟨rfl, rfl⟩) hlow
    clear h1 hlow
    go_enter Tryd.func89, Tryd.ntmps89
    go_wp2
    go_ret
    exact ⟨_, rfl, .inl ⟨rfl, rfl⟩, HE.out⟩
  · have h4' : cap ≤ 9223372036854775807 := h4
    have n1 : (n : Int) ≤ (l.length : Int) := by omega
    have n2 : (n : Int) ≤ (cap : Int) := by omega
    have HB : Hid (∀ x, Bts (w.setCell ⟨rb, 0, none⟩ x) (.slice (some a) n cap) (l.take n)) := fun x => (Bts.part hn (by omega) h4 h5).set h1
    by_cases hc : cap = n
    · have HE : Hid (Rd B (w.setCell ⟨rb, 0, none⟩ (.slice (some a) (l.length - n) 0)) rb (l.drop n) ∧ w.grownBy (w.setCell ⟨rb, 0, none⟩ (.slice (some a) (l.length - n) 0)) (some rb)) := by
        refine rd_set h1 (.inr ⟨a, 0, by simp, by simp; omega, by simp [maxLen], fun j u hj => ?_⟩) (fun hne => absurd (List.drop_of_length_le (by omega)) hne)
        rw [List.drop_of_length_le (by omega)] at hj
        simp [bcells] at hj
      clear h1 h5 hlow
      subst hc
      rw [show l.length - cap = 0 by omega] at HE
      go_enter Tryd.func89, Tryd.ntmps89
      go_wp2
      go_ret
      exact ⟨_, rfl, HB.out _, HE.out⟩
    · have HE : Hid (Rd B (w.setCell ⟨rb, 0, none⟩ (.slice (some (a.add n)) (l.length - n) (cap - n))) rb (l.drop n) ∧ w.grownBy (w.setCell ⟨rb, 0, none⟩ (.slice (some (a.add n)) (l.length - n) (cap - n))) (some rb)) := by
        refine rd_set h1 ?_ (fun hne a' n' c' e => by
          cases e
          rw [addr_block]
          exact hlow (by rintro rfl; simp at hne) _ _ _ rfl)
        rcases Nat.eq_zero_or_pos n with z | z
        · subst z
          exact .inr ⟨a, cap, by simp [Addr.add], h3, h4, h5⟩
        · have := Bts.later (m := n) (n := l.length - n) (by omega) (by omega) (by omega) h4 h5
          rwa [List.take_of_length_le (by simp)] at this
      clear h1 h5 hlow
      go_enter Tryd.func89, Tryd.ntmps89
      go_wp2
      go_ret
      exact ⟨_, rfl, HB.out _, HE.out⟩

/-- A number's digits, lowest first, behind i digits that make u. -/
def numAux : Nat → Nat → List UInt8 → Option (Nat × List UInt8)
  | _, _, [] => none
  | i, u, d :: r => if i = 9 ∧ 1 < d.toNat then none else
      if 128 ≤ d.toNat then numAux (i + 1) (u + d.toNat % 128 * 128 ^ i) r else if d.toNat = 0 ∧ 0 < i then none else some (u + d.toNat % 128 * 128 ^ i, r)
def unfoldI (u : Nat) : Int := if u % 2 = 1 then -((u / 2 : Nat) : Int) - 1 else ((u / 2 : Nat) : Int)

set_option maxHeartbeats 1000000 in
theorem unfold_any (u : Nat) (h : u < 18446744073709551616) (w : World) : Calls Tryd.prog 90 #[.int .u64 u] w fun e w' => e = .returned (.int .i64 (unfoldI u)) ∧ w' = w := by
  by_cases hu : u % 2 = 1
  · have hE : Hid (unfoldI u = -((u / 2 : Nat) : Int) - 1) := by show _ = _; unfold unfoldI; rw [if_pos hu]
    go_enter Tryd.func90, Tryd.ntmps90
    go_wp2
    go_ret
    exact ⟨by rw [hE.out]; go_num, rfl⟩
  · have hE : Hid (unfoldI u = ((u / 2 : Nat) : Int)) := by show _ = _; unfold unfoldI; rw [if_neg hu]
    go_enter Tryd.func90, Tryd.ntmps90
    go_wp2
    go_ret
    exact ⟨by rw [hE.out]; go_num, rfl⟩
end Go.Proofs.YtcheikpmhdliiaaDoor
