/- reach: what is read from a number, step by step. -/
import Derived.Test.YtbbcnjagndfmbaaDPure
import Derived.Test.YtbbcnjagndfmbaaDQueue
import Derived.Test.YtbbcnjagndfmbaaDPair
import Derived.Test.YtbbcnjagndfmbaaDReady
namespace Go.Proofs.Ytbbcnjagndfmbaa
open Go.RowKit Go.Dp
set_option maxRecDepth 100000
set_option linter.unusedVariables false
set_option linter.unusedSimpArgs false
abbrev bV (S : List Bool) : List Value := S.map Value.bool
abbrev nV (L : List Nat) : List Value := L.map fun x => Value.int .i64 (x : Nat)
/-- The pairs of a row of edges. -/
abbrev zz (E : List (Nat × Nat)) : List (Int × Int) := E.map fun e => ((e.1 : Int), (e.2 : Int))
structure RS (w0 : World) (A : Addr) (n : Nat) (S : List Bool) (L : List Nat) (v : Value) (wr : World) : Prop where
  seen : Ro w0.heap.size wr 4 A n n (bV S)
  left : Mo w0.heap.size wr 3 v L.length (nV L)
  bel : Below w0.heap.size w0 wr
theorem Ro.kind {base : Nat} {w : World} {t : TypeId} {A : Addr} {n c : Nat} {xs : List Value} (h : Ro base w t A n c xs) : ∃ cur, w.heap[A.block]? = some (.cells cur t (0, 0)) := by
  rcases h.own.2 with ⟨h', _⟩ | ⟨g, cap, cur, h', hb, hg, _⟩
  · simp at h'
  · simp only [Value.slice.injEq, Option.some.injEq, true_and] at h'
    obtain ⟨rfl, rfl⟩ := h'
    exact ⟨cur, hg⟩
theorem RS.ne {w0 : World} {A : Addr} {n : Nat} {S : List Bool} {L : List Nat} {v : Value} {wr : World} (h : RS w0 A n S L v wr) : v.ownBlock ≠ some A.block := fun e => by
  obtain ⟨_, c, hc⟩ := h.left.kind e
  obtain ⟨d, hd⟩ := h.seen.kind
  rw [hc] at hd
  cases hd
theorem RS.box {w0 : World} {A : Addr} {n : Nat} {S : List Bool} {L : List Nat} {v : Value} {wr : World} (h : RS w0 A n S L v wr) (o : Obj) : RS w0 A n S L v (wr.alloc o) :=
  ⟨h.seen.below (bel_alloc (Below.refl _ _) _), h.left.below (bel_alloc (Below.refl _ _) _), bel_alloc h.bel _⟩
theorem RS.mark {w0 : World} {A : Addr} {n : Nat} {S : List Bool} {L : List Nat} {v : Value} {wr : World} (h : RS w0 A n S L v wr) (b : Nat) : RS w0 A n (S.set b true) L v (wr.setCell (A.add b) (.bool true)) := by
  refine ⟨?_, ?_, bel_set h.seen h.bel (Nat.le_refl _) b _⟩
  · unfold bV
    rw [List.map_set]
    exact h.seen.set b _
  · refine h.left.of_block fun g hg => heap_setCell_other wr _ g _ fun e => h.ne ?_
    obtain ⟨g', rfl, _⟩ := h.seen.form
    rw [Addr.add_mid] at e
    rw [hg]
    exact congrArg some e
theorem RS.push {w0 : World} {A : Addr} {n : Nat} {S : List Bool} {L : List Nat} {v : Value} {wr : World} (h : RS w0 A n S L v wr) (b : Nat) (hL : L.length < 4398046511104) :
    ∃ v' w', Hid ((Builtin.append_ #[24, 24] 24 #[v, .slice (some ⟨wr.heap.size, 0, none⟩) 1 1]).run Try.prog (wr.alloc (.cells #[.int .i64 (b : Nat)] 3)) = .ok v' w') ∧ RS w0 A n S (L ++ [b]) v' w' := by
  have h1 := h.box (.cells #[.int .i64 (b : Nat)] 3)
  obtain ⟨v', w', r1, m1, g1, b1, _⟩ := mo_one (ty := 24) Try.underlying24 (z := .int .i64 0) (bytes := 8) (by kernel_rfl) rfl h1.left (heap_alloc_new wr _) rfl (by omega) (by decide) h1.bel.size
  refine ⟨v', w', r1, h1.seen.grown g1 h1.ne, ?_, h1.bel.trans b1⟩
  unfold nV
  rw [List.map_append, List.length_append]
  exact m1
/-- How many are not seen yet, as memory tells. -/
def unW (w : World) (A : Addr) (n : Nat) : Nat := ((List.range n).map fun j => match w.cell? (A.add j) with | some (.bool true) => true | _ => false).countP (fun b => !b)
theorem RS.un {w0 : World} {A : Addr} {n : Nat} {S : List Bool} {L : List Nat} {v : Value} {wr : World} (h : RS w0 A n S L v wr) : unW wr A n = unseen S := by
  unfold unW unseen
  congr 1
  have hl : S.length = n := by have := h.seen.len; simpa using this
  apply List.ext_getElem?
  intro j
  by_cases hj : j < n
  · rw [List.getElem?_map, List.getElem?_range hj]
    have hs : S[j]? = some S[j] := List.getElem?_eq_getElem (by omega)
    have := (h.seen.cell (j := j) (u := .bool S[j]) (by simp [hs])).1
    rw [Option.map_some, this, hs]
    cases S[j] <;> rfl
  · rw [List.getElem?_eq_none (by simp; omega), List.getElem?_eq_none (by omega)]
theorem RS.tail {w0 : World} {A : Addr} {n : Nat} {S : List Bool} {a : Nat} {L : List Nat} {A8 : Addr} {c : Nat} {wr : World} (h : RS w0 A n S (a :: L) (.slice (some A8) (L.length + 1) c) wr) :
    wr.cell? A8 = some (.int .i64 (a : Nat)) ∧ 1 ≤ c ∧ Hid (c = 1 → RS w0 A n S L (.slice (some A8) L.length 0) wr) ∧ Hid (¬ c = 1 → RS w0 A n S L (.slice (some ⟨A8.block, A8.off + 1, none⟩) L.length (c - 1)) wr) := by
  obtain ⟨hc, A9, HA, HT, _⟩ := Mo.tail (x := .int .i64 (a : Nat)) (xs := nV L) h.left
  obtain ⟨A', c', e, q⟩ := h.left.at (j := 0) (u := .int .i64 (a : Nat)) rfl
  cases e
  have hform : ∃ g off, A8 = ⟨g, off, none⟩ := by
    rcases h.left with ⟨h', _⟩ | ⟨g, off, cap, cur, h', _⟩
    · simp at h'
    · simp only [Value.slice.injEq, Option.some.injEq, true_and] at h'
      exact ⟨g, off, h'.1⟩
  obtain ⟨g, off, rfl⟩ := hform
  refine ⟨by rw [Addr.add_mid, Nat.add_zero] at q; exact q, hc, fun e => ?_, fun e => ?_⟩
  · have HA := HA.out
    rw [if_pos e] at HA
    subst HA e
    exact ⟨h.seen, HT, h.bel⟩
  · have HA := HA.out
    rw [if_neg e, Addr.add_mid] at HA
    subst HA
    exact ⟨h.seen, HT, h.bel⟩
theorem unseen_all : ∀ n, unseen (List.replicate n false) = n
  | 0 => rfl
  | n + 1 => by
    have := unseen_all n
    unfold unseen at *
    rw [List.replicate_succ, List.countP_cons, this]
    rfl
def lenV : Value → Nat
  | .slice _ n _ => n
  | _ => 0
set_option maxHeartbeats 8000000 in
theorem reach_any {w : World} {ev : Value} {n f : Nat} {E : List (Nat × Nat)} (hE : Pr w ev (zz E)) (hlt : ∀ e ∈ E, e.1 < n ∧ e.2 < n) (hf : f < n) (hn : n ≤ 4096) (hl : E.length ≤ 1099511627776) :
    Calls Try.prog 15 #[.int .i64 (n : Nat), ev, .int .i64 (f : Nat)] w fun e w' => (∃ (A : Addr) (S : List Bool), e = .returned (.slice (some A) n n) ∧ Ro w.heap.size w' 4 A n n (bV S) ∧ S.length = n ∧ ∀ b, S[b]? = some true ↔ Far n E f b) ∧ Below w.heap.size w w' := by
  have HE : Hid (Pr w ev (zz E)) := hE
  have HL : Hid (∀ e ∈ E, e.1 < n ∧ e.2 < n) := hlt
  obtain ⟨a0, c0, rfl⟩ := hE.slice
  obtain ⟨A, w1, RM, hO, hB1⟩ := ro_make w 25 4 (.bool false) 1 Try.underlying25 (by kernel_rfl) rfl n (by omega) (by omega)
  have H0 : Hid (RS w A n (List.replicate n false) [f] (.slice (some ⟨w1.heap.size, 0, none⟩) 1 1) (w1.alloc (.cells #[.int .i64 (f : Nat)] 3))) := by
    have hO' : Ro w.heap.size w1 4 A n n (bV (List.replicate n false)) := by unfold bV; rw [List.map_replicate]; exact hO
    refine ⟨hO'.below (bel_alloc (Below.refl _ _) _), ?_, bel_alloc hB1 _⟩
    exact .inr ⟨w1.heap.size, 0, 1, _, rfl, hB1.size, heap_alloc_new w1 _, Nat.le_refl _, by decide, by simp, by simp⟩
  have HF : Hid (Bfs n E f (List.replicate n false) [f]) := Bfs.begin
  clear hE hlt hO hB1
  simp only [List.length_map] at *
  go_enter Try.func15, Try.ntmps15
  go_wp2_with (first
    | (refine nl_make rfl 25 _ _ rfl _ _ _ _ rfl rfl RM.out ?_; clear RM))
  go_loopw [8] (fun v8 wr => ∃ (S : List Bool) (L : List Nat), Hid (RS w A n S L v8 wr) ∧ Hid (Bfs n E f S L) ∧ Hid (2 * unseen S + L.length ≤ 2 * n + 1)) (fun v8 wr => 2 * unW wr A n + lenV v8)
  case atStart => exact ⟨_, _, H0.out, HF.out, by show _ ≤ _; rw [unseen_all]; simp⟩
  case round =>
    obtain ⟨S, L, HS, HB, HW⟩ := hrel
    have hun := HS.out.un
    obtain ⟨a8, c8, rfl⟩ := HS.out.left.slice
    cases L with
    | nil =>
      go_wp2
      go_ret
      exact ⟨⟨A, S, rfl, HS.out.seen, HB.out.len, fun b => HB.out.done b⟩, HS.out.bel⟩
    | cons a L =>
      obtain ⟨A8, c, e8, _⟩ := HS.out.left.at (j := 0) (u := .int .i64 (a : Nat)) rfl
      cases e8
      obtain ⟨q8, hc1, T1, T2⟩ := HS.out.tail
      simp only [List.length_cons] at *
      have HUN : Hid (unW wr A n = unseen S) := hun
      have HI : Hid (BfsIn n E f a (E.take 0) S L) := by rw [List.take_zero]; exact HB.out.take
      clear hun
      go_wp2
      all_goals
        go_loopw [8, 26] (fun v8 v26 wr => ∃ (k : Nat) (S' : List Bool) (L' : List Nat), v26 = .int .i64 (k : Nat) ∧ k ≤ E.length ∧ Hid (RS w A n S' L' v8 wr) ∧ Hid (BfsIn n E f a (E.take k) S' L') ∧ Hid (2 * unseen S' + L'.length ≤ 2 * unseen S + L.length)) (fun _ v26 _ => E.length - (intOf v26).toNat)
        case atStart => exact ⟨0, S, L, rfl, Nat.zero_le _, by first | exact T1.out h | exact T2.out h, HI.out, Nat.le_refl _⟩
        case round =>
          clear T1 T2 HS HB q8 HI
          obtain ⟨k, S', L', rfl, hk, HS, HI, HM⟩ := hrel
          by_cases hkl : k < E.length
          · have hki : (k : Int) < E.length := by omega
            obtain ⟨a', c', e', RL⟩ := Pr.load (L := zz E) (Rd.below HE.out HS.out.bel) (k := k) (by simpa using hkl)
            simp only [List.length_map] at e'
            cases e'
            rw [List.getElem_map] at RL
            have HEK := HL.out _ (List.getElem_mem hkl)
            have HMem : Hid (E[k] ∈ E) := List.getElem_mem hkl
            have HTk : Hid (E.take (k + 1) = E.take k ++ [E[k]]) := List.take_succ_eq_append_getElem hkl
            generalize E[k] = e at *
            obtain ⟨x, y⟩ := e
            dsimp only at *
            obtain ⟨hx, hy⟩ := HEK
            have RLh : Hid _ := RL
            have RSt : Hid _ := pbox wr ((x : Int), (y : Int))
            obtain ⟨c0, c1⟩ := p_cells (heap_alloc_new wr (pO ((x : Int), (y : Int))))
            have HSB := HS.out.box (pO ((x : Int), (y : Int)))
            have HSv : Hid (∃ b : Bool, S'[y]? = some b) := ⟨S'[y]'(by rw [HI.out.len]; exact hy), List.getElem?_eq_getElem _⟩
            obtain ⟨b, hb⟩ := HSv.out
            obtain ⟨s1, s2⟩ := HSB.seen.cell (j := y) (u := .bool b) (by simp [hb])
            have hyi : ((y : Nat) : Int) < n := by omega
            have HBx : Hid (RS w A n S' L' _ _) := HSB
            clear RL HSB HSv
            by_cases h1 : x = a
            · subst h1
              cases b with
              | true =>
                have HP : Hid (BfsIn n E f x (E.take (k + 1)) S' L') := by rw [HTk.out]; exact HI.out.pass (.inr hb)
                clear HI hb HTk HMem
                go_wp2_with (first
                  | (refine nl_load rfl 33 _ rfl _ _ rfl RLh.out ?_; clear RLh)
                  | (refine nl_store rfl 33 _ _ rfl _ _ _ rfl rfl RSt.out ?_; clear RSt))
                go_roundw
                case rel => exact ⟨k + 1, S', L', by go_num, by omega, HBx.out, HP.out, HM.out⟩
                case measure => simp [intOf]; omega
              | false =>
                have HP : Hid (BfsIn n E f x (E.take (k + 1)) (S'.set y true) (L' ++ [y])) := by rw [HTk.out]; exact HI.out.push HMem.out rfl hx hy
                have HU := unseen_set S' y hb
                have hLl : L'.length < 4398046511104 := by have := HM.out; have := HW.out; (try simp only [List.length_cons] at this); omega
                have HM2 : Hid (2 * unseen (S'.set y true) + (L' ++ [y]).length ≤ 2 * unseen S + L.length) := by have := HM.out; show _ ≤ _; rw [List.length_append, List.length_singleton]; omega
                have HMk := HBx.out.mark y
                obtain ⟨v2, w2, RA, HPu⟩ := HMk.push y hLl
                have hA : (A.add y).block < wr.heap.size := by
                  obtain ⟨g, rfl, _, hg⟩ := HS.out.seen.form
                  rw [Addr.add_mid]; exact hg
                have hsz : ((wr.alloc (pO ((x : Int), (y : Int)))).setCell (A.add y) (.bool true)).heap.size = wr.heap.size + 1 := by simp [World.setCell]
                have c2 : ((wr.alloc (pO ((x : Int), (y : Int)))).setCell (A.add y) (.bool true)).cell? ⟨wr.heap.size, 1, none⟩ = some (.int .i64 (y : Nat)) := by
                  rw [World.cell?_of_block (heap_setCell_other _ _ wr.heap.size _ (fun e => by omega))]
                  exact c1
                rw [hsz] at RA
                have HPu2 : Hid (RS w A n (S'.set y true) (L' ++ [y]) v2 w2) := HPu
                clear HI hb HTk HMem HU hLl HMk HPu hsz hA
                go_wp2_with (first
                  | (refine nl_load rfl 33 _ rfl _ _ rfl RLh.out ?_; clear RLh)
                  | (refine nl_store rfl 33 _ _ rfl _ _ _ rfl rfl RSt.out ?_; clear RSt)
                  | (at_builtin; refine nl_append rfl _ _ 24 24 rfl _ _ _ _ rfl rfl RA.out ?_; clear RA))
                go_roundw
                case rel => exact ⟨k + 1, S'.set y true, L' ++ [y], by go_num, by omega, HPu2.out, HP.out, HM2.out⟩
                case measure => simp [intOf]; omega
            · have h1i : ((x : Nat) : Int) ≠ (a : Nat) := by omega
              have HP : Hid (BfsIn n E f a (E.take (k + 1)) S' L') := by rw [HTk.out]; exact HI.out.pass (.inl h1)
              clear HI hb HTk HMem h1
              go_wp2_with (first
                | (refine nl_load rfl 33 _ rfl _ _ rfl RLh.out ?_; clear RLh)
                | (refine nl_store rfl 33 _ _ rfl _ _ _ rfl rfl RSt.out ?_; clear RSt))
              go_roundw
              case rel => exact ⟨k + 1, S', L', by go_num, by omega, HBx.out, HP.out, HM.out⟩
              case measure => simp [intOf]; omega
          · have hki : ¬ (k : Int) < E.length := by omega
            have hke : E.take k = E := List.take_of_length_le (by omega)
            rw [hke] at HI
            have HU2 := HS.out.un
            have HE2 : Hid (Bfs n E f S' L') := HI.out.over
            obtain ⟨a9, c9, rfl⟩ := HS.out.left.slice
            clear HI hke
            go_wp2
            go_roundw
            case rel => exact ⟨S', L', HS.out, HE2.out, by have := HM.out; have := HW.out; (try simp only [List.length_cons] at this); show _ ≤ _; omega⟩
            case measure => simp [lenV]; have := HM.out; have := HUN.out; omega
end Go.Proofs.Ytbbcnjagndfmbaa
