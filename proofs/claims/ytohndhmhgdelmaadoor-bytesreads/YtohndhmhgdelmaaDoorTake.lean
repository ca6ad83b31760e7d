/- The contracts of the reader's count, of takeList of ints and of takeInts. -/
import Derived.Test.YtohndhmhgdelmaaDoorNumber
namespace Go.Proofs.YtohndhmhgdelmaaDoor
open Go.RowKit
set_option maxRecDepth 100000

def countR (l : List UInt8) : Option (Nat × List UInt8) :=
  match numAux 0 0 l with
  | none => none
  | some (u, r) => if unfoldI u < 0 ∨ (r.length : Int) < unfoldI u then none else some ((unfoldI u).toNat, r)
def takeN : Nat → List UInt8 → Option (List Int × List UInt8)
  | 0, r => some ([], r)
  | n + 1, r => match numAux 0 0 r with
    | none => none
    | some (u, r') => match takeN n r' with
      | none => none
      | some (xs, r'') => some (unfoldI u :: xs, r'')
def listR (l : List UInt8) : Option (List Int × List UInt8) :=
  match countR l with
  | none => none
  | some (n, r) => takeN n r

theorem numAux_length : ∀ (l : List UInt8) (i u : Nat) {u' : Nat} {r : List UInt8}, numAux i u l = some (u', r) → r.length < l.length := by
  intro l
  induction l with
  | nil => intro i u u' r h; cases h
  | cons d l ih =>
    intro i u u' r h
    rw [numAux] at h
    split at h
    · cases h
    · split at h
      · have := ih _ _ h; simp; omega
      · split at h
        · cases h
        · cases h; simp
theorem numAux_lt : ∀ (l : List UInt8) (i u : Nat) {u' : Nat} {r : List UInt8}, i ≤ 9 → u < 128 ^ i → numAux i u l = some (u', r) → u' < 18446744073709551616 := by
  intro l
  induction l with
  | nil => intro i u u' r _ _ h; cases h
  | cons d l ih =>
    intro i u u' r hi hu h
    have hd := d.toNat_lt
    have e9 : (128 : Nat) ^ 9 = 9223372036854775808 := by decide
    rw [numAux] at h
    split at h
    · cases h
    · rename_i h9
      split at h
      · have hi8 : i < 9 := by omega
        exact ih (i + 1) _ (by omega) (or_digit hi8 hu (Nat.mod_lt _ (by decide))).2.2 h
      · split at h
        · cases h
        · cases h
          by_cases hi9 : i = 9
          · subst hi9
            have h9' : d.toNat ≤ 1 := by omega
            have : d.toNat % 128 * 128 ^ 9 ≤ 1 * 128 ^ 9 := Nat.mul_le_mul_right _ (by omega)
            omega
          · exact (or_digit (by omega) hu (Nat.mod_lt _ (by decide))).2.1
theorem unfoldI_in {u : Nat} (h : u < 18446744073709551616) : In64 (unfoldI u) := by
  unfold unfoldI In64
  split <;> omega

def Counts (B : Nat) (w : World) (rb : Nat) (o : Option (Nat × List UInt8)) (e : Ending) (w' : World) : Prop :=
  w.grownBy w' (some rb) ∧ match o with
    | none => e = .panicked noneP
    | some (n, r) => e = .returned (.int .i64 n) ∧ Rd B w' rb r ∧ n ≤ r.length

set_option maxHeartbeats 1000000 in
theorem count_any {B : Nat} {w : World} {rb : Nat} {l : List UInt8} (h : Rd B w rb l) (_hl : l.length ≤ 1099511627776) :
    Calls Tryd.prog 74 #[ptrOf rb] w fun e w' => Counts B w rb (countR l) e w' := by
  have C := number_any h
  rcases hnx : numAux 0 0 l with _ | ⟨u, r⟩
  · have C2 : Calls Tryd.prog 71 #[ptrOf rb] w fun e w' => e = .panicked noneP ∧ Hid (w.grownBy w' (some rb)) := by
      refine C.mono ?_
      rintro e w' hc
      rw [hnx] at hc
      exact ⟨hc.2, hc.1⟩
    have HC : Hid (countR l = none) := by show _ = _; unfold countR; rw [hnx]
    clear h hnx C
    go_enter Tryd.func74, Tryd.ntmps74
    go_wp2_with (go_at_call 71; refine C2.mono ?_; rintro e w1 ⟨rfl, hg⟩)
    exact ⟨rfl, hg.out, by rw [HC.out]⟩
  · have hr := numAux_length _ _ _ hnx
    have hI : In64 (unfoldI u) := unfoldI_in (numAux_lt _ _ _ (by decide) (by decide) hnx)
    unfold In64 at hI
    have HC : Hid (countR l = if unfoldI u < 0 ∨ (r.length : Int) < unfoldI u then none else some ((unfoldI u).toNat, r)) := by show _ = _; unfold countR; rw [hnx]
    have C2 : Calls Tryd.prog 71 #[ptrOf rb] w fun e w' => e = .returned (.int .i64 (unfoldI u)) ∧ ∃ a c, w'.cell? ⟨rb, 0, none⟩ = some (.slice a r.length c) ∧ Hid (Rd B w' rb r ∧ w.grownBy w' (some rb)) := by
      refine C.mono ?_
      rintro e w' hc
      rw [hnx] at hc
      obtain ⟨hg, rfl, hr⟩ := hc
      obtain ⟨v, h1, h2, h3⟩ := hr
      obtain ⟨a, c, rfl, _, _⟩ := h2.slice
      exact ⟨rfl, a, c, (cell0 h1).1, ⟨_, h1, h2, h3⟩, hg⟩
    clear C h hnx
    generalize unfoldI u = x at *
    by_cases hp : x < 0 ∨ (r.length : Int) < x
    · have HM : Hid (countR l = none) := by show _ = _; rw [HC.out, if_pos hp]
      clear HC
      by_cases h0 : x < 0
      · clear hp
        go_enter Tryd.func74, Tryd.ntmps74
        go_wp2_with (go_at_call 71; refine C2.mono ?_; rintro e w1 ⟨rfl, a, c, c1, HR⟩)
        exact ⟨rfl, HR.out.2, by rw [HM.out]; rfl⟩
      · have h1 : (r.length : Int) < x := by omega
        clear hp
        go_enter Tryd.func74, Tryd.ntmps74
        go_wp2_with (go_at_call 71; refine C2.mono ?_; rintro e w1 ⟨rfl, a, c, c1, HR⟩)
        exact ⟨rfl, HR.out.2, by rw [HM.out]; rfl⟩
    · obtain ⟨n, rfl⟩ := Int.eq_ofNat_of_zero_le (by omega : 0 ≤ x)
      have HM : Hid (countR l = some (n, r)) := by show _ = _; rw [HC.out, if_neg hp]; rfl
      have hn : n ≤ r.length := by omega
      have h1 : ¬ ((r.length : Int) < (n : Int)) := by omega
      clear hp HC
      go_enter Tryd.func74, Tryd.ntmps74
      go_wp2_with (go_at_call 71; refine C2.mono ?_; rintro e w1 ⟨rfl, a, c, c1, HR⟩)
      go_ret
      exact ⟨HR.out.2, by rw [HM.out]; exact ⟨rfl, HR.out.1, hn⟩⟩

/-! ### A row of ints of one's own -/
theorem info3 : (Tryd.prog.info? 3).map (fun i => (i.zero, i.size, i.bytes)) = some (some (.int .i64 0), 1, 8) := by kernel_rfl
def icells (ns : List Int) : List Value := ns.map (Value.int .i64)
def OwnI (base : Nat) (w : World) (v : Value) (ns : List Int) : Prop := w.ownsRow base 3 1 v ns.length (icells ns)
theorem OwnI.alloc {w : World} {base : Nat} {v : Value} {ns : List Int} (h : OwnI base w v ns) (o : Obj) : OwnI base (w.alloc o) v ns := ownsRow_of_block h fun g hg => Below.heap_alloc w o g (World.ownsRow.lt h g hg).2
theorem OwnI.its {w : World} {base : Nat} {v : Value} {ns : List Int} (h : OwnI base w v ns) : Its w v ns := by
  rcases h.2 with ⟨h1, h2⟩ | ⟨g, cap, cur, h1, h2, h3, h4, h5, h6, h7⟩
  · exact .inl ⟨h1, List.eq_nil_of_length_eq_zero h2⟩
  · exact .inr ⟨⟨g, 0, none⟩, cap, h1, h4, h5, fun j n hj => World.ownsRow.cells h (g := g) (by rw [h1]; rfl) j _ (by simp [icells, hj])⟩

/-- One number more: the blocks below base stay. -/
theorem own_int {base : Nat} {w : World} {v : Value} {ns : List Int} (h : OwnI base w v ns) (hb : base ≤ w.heap.size) (x : Int) (hl : ns.length + 1 ≤ 17592186044416) :
    ∃ v' w', (Builtin.append_ #[43, 43] 43 #[v, .slice (some ⟨w.heap.size, 0, none⟩) 1 1]).run Tryd.prog (w.alloc (.cells #[.int .i64 x] 3)) = .ok v' w' ∧ OwnI base w' v' (ns ++ [x]) ∧ Below base w w' := by
  obtain ⟨i0, hi, hz0, hz1, hz2⟩ := info_parts info3
  obtain ⟨v', w', h1, h2, h3, _, h5⟩ := run_append_own_at (w.alloc (.cells #[.int .i64 x] 3)) base 43 43 3 i0 (.int .i64 0) 1 8 Tryd.underlying43 hi hz0 hz1 hz2 rfl (by decide) v _ _ (h.alloc _) ⟨w.heap.size, 0, none⟩ 1 1 [.int .i64 x] rfl
    (by
      intro j u hj
      rcases j with _ | j
      · simp at hj
        subst hj
        simp only [Addr.add, if_true, World.cell?]
        rw [heap_alloc_new]
        rfl
      · simp at hj) (by intro u hu; simp at hu; subst hu; rfl) (by simp only [maxLen]; omega) (by omega) (by simp; omega)
  refine ⟨v', w', h1, ?_, ?_⟩
  · unfold OwnI
    rw [List.length_append]
    simpa [icells] using h2
  · exact ((Below.refl base w).alloc hb _).grown h3 (by simp; omega) fun k hk => (World.ownsRow.lt h k hk).1

theorem Rd.kept {B base : Nat} {w w' : World} {rb : Nat} {l : List UInt8} (h : Rd B w rb l) (hB : B ≤ base) (hrb : rb < base) (hk : Below base w w') : Rd B w' rb l := by
  obtain ⟨v, h1, h2, h3⟩ := h
  refine ⟨v, (hk.block rb hrb).trans h1, ?_, h3⟩
  rcases h2 with h2 | ⟨a, cap, e1, e2, e3, e4⟩
  · exact .inl h2
  · refine .inr ⟨a, cap, e1, e2, e3, fun j u hj => ?_⟩
    rw [← e4 j u hj]
    refine World.cell?_of_block (hk.block _ ?_)
    rw [addr_block]
    have := h3 (by rintro rfl; simp [bcells] at hj) a _ _ e1
    omega

def Takes (base B : Nat) (w : World) (rb : Nat) (o : Option (List Int × List UInt8)) (e : Ending) (w' : World) : Prop :=
  w.grownBy w' (some rb) ∧ match o with
    | none => e = .panicked noneP
    | some (ns, r) => ∃ v, e = .returned v ∧ OwnI base w' v ns ∧ Rd B w' rb r ∧ ∀ n ∈ ns, In64 n

theorem takeN_cons {n : Nat} {r r' : List UInt8} {u : Nat} (h : numAux 0 0 r = some (u, r')) : takeN (n + 1) r = (takeN n r').map fun p => (unfoldI u :: p.1, p.2) := by
  rw [takeN, h]
  dsimp only
  rcases takeN n r' with _ | ⟨xs, t⟩ <;> rfl
theorem takeN_none {n : Nat} {r : List UInt8} (h : numAux 0 0 r = none) : takeN (n + 1) r = none := by rw [takeN, h]

theorem grown_below {B0 : Nat} {w w1 w2 : World} {rb : Nat} (h : w.grownBy w1 (some rb)) (k : Below B0 w1 w2) (hB : w.heap.size ≤ B0) : w.grownBy w2 (some rb) :=
  ⟨k.os.trans h.os, k.tape.trans h.tape, k.output.trans h.output, Nat.le_trans h.size k.size, fun i hi hne => (k.block i (by omega)).trans (h.block i hi hne)⟩

set_option maxHeartbeats 1000000 in
theorem takeList_any {B : Nat} {w : World} {rb : Nat} {l : List UInt8} (h : Rd B w rb l) (hB : B ≤ w.heap.size) (hrb : rb < w.heap.size) (hl : l.length ≤ 1099511627776) :
    Calls Tryd.prog 70 #[ptrOf rb, .func (.func 71) #[] #[]] w fun e w' => Takes w.heap.size B w rb (listR l) e w' := by
  have C := count_any h hl
  rcases hnx : countR l with _ | ⟨n, r⟩
  · have C2 : Calls Tryd.prog 74 #[ptrOf rb] w fun e w' => e = .panicked noneP ∧ Hid (w.grownBy w' (some rb)) := by
      refine C.mono ?_
      rintro e w' hc
      rw [hnx] at hc
      exact ⟨hc.2, hc.1⟩
    have HC : Hid (listR l = none) := by show _ = _; unfold listR; rw [hnx]
    clear h hnx C
    go_enter Tryd.func70, Tryd.ntmps70
    go_wp2_with (go_at_call 74; refine C2.mono ?_; rintro e w1 ⟨rfl, hg⟩)
    exact ⟨rfl, hg.out, by rw [HC.out]⟩
  · have C2 : Calls Tryd.prog 74 #[ptrOf rb] w fun e w' => e = .returned (.int .i64 n) ∧ Hid (Rd B w' rb r ∧ w.grownBy w' (some rb) ∧ n ≤ r.length ∧ r.length ≤ 1099511627776) := by
      refine C.mono ?_
      rintro e w' hc
      rw [hnx] at hc
      refine ⟨hc.2.1, hc.2.2.1, hc.1, hc.2.2.2, ?_⟩
      unfold countR at hnx
      rcases hq : numAux 0 0 l with _ | ⟨u, r'⟩
      · rw [hq] at hnx; cases hnx
      · rw [hq] at hnx
        dsimp only at hnx
        split at hnx
        · cases hnx
        · cases hnx
          have := numAux_length _ _ _ hq
          omega
    have HC : Hid (listR l = takeN n r) := by show _ = _; unfold listR; rw [hnx]
    clear h hnx C
    go_enter Tryd.func70, Tryd.ntmps70
    go_wp2_with (go_at_call 74; refine C2.mono ?_; rintro e w1 ⟨rfl, HR⟩)
    obtain ⟨-, -, hn, hr⟩ := HR.out
    have hn63 : n ≤ 1099511627776 := by omega
    clear C2 hn hr hl
    go_loopw [5, 8] (fun u5 u8 wr => ∃ k : Nat, u8 = .int .i64 k ∧ k ≤ n ∧ Hid (∃ xs rest, xs.length = k ∧ takeN n r = (takeN (n - k) rest).map (fun p => (xs ++ p.1, p.2)) ∧ OwnI w.heap.size wr u5 xs ∧ Rd B wr rb rest ∧ w.grownBy wr (some rb) ∧ ∀ m ∈ xs, In64 m)) (fun _ u8 _ => n - (intOf u8).toNat)
    case atStart => exact ⟨0, rfl, by omega, [], r, rfl, by simp, World.ownsRow_nil _ _ 3 1, HR.out.1, HR.out.2.1, by simp⟩
    case round =>
      obtain ⟨k, rfl, hk, HD⟩ := hrel
      clear HR
      obtain ⟨xs, rest, hx, ht, ho, hrd, hg, hI⟩ := HD.out
      clear HD
      by_cases hlt : k < n
      · obtain ⟨m, hm⟩ : ∃ m, n - k = m + 1 := ⟨n - k - 1, by omega⟩
        rw [hm] at ht
        have C := number_any hrd
        rcases hq : numAux 0 0 rest with _ | ⟨u, rest'⟩
        · have C2 : Calls Tryd.prog 71 #[ptrOf rb] wr fun e w' => e = .panicked noneP ∧ Hid (Takes w.heap.size B w rb (listR l) (.panicked noneP) w') := by
            refine C.mono ?_
            rintro e w' hc
            rw [hq] at hc
            refine ⟨hc.2, grown_trans hg hc.1, ?_⟩
            rw [HC.out, ht, takeN_none hq]
            rfl
          clear C ht ho hrd hg hI hq hx HC
          go_wp2_with (go_at_call 71; refine C2.mono ?_; rintro e w' ⟨rfl, HT⟩)
          exact ⟨rfl, HT.out⟩
        · have C2 : Calls Tryd.prog 71 #[ptrOf rb] wr fun e w' => e = .returned (.int .i64 (unfoldI u)) ∧ ∃ v3 w3, Hid ((Builtin.append_ #[43, 43] 43 #[u5, .slice (some ⟨w'.heap.size, 0, none⟩) 1 1]).run Tryd.prog (w'.alloc (.cells #[.int .i64 (unfoldI u)] 3)) = .ok v3 w3) ∧ Hid (OwnI w.heap.size w3 v3 (xs ++ [unfoldI u]) ∧ Rd B w3 rb rest' ∧ w.grownBy w3 (some rb)) := by
            refine C.mono ?_
            rintro e w' hc
            rw [hq] at hc
            obtain ⟨g1, rfl, rd1⟩ := hc
            have hsz : w.heap.size ≤ w'.heap.size := Nat.le_trans hg.size g1.size
            have ho1 : OwnI w.heap.size w' u5 xs := ownsRow_of_block ho fun g hgg => g1.block g (World.ownsRow.lt ho g hgg).2 (by have := (World.ownsRow.lt ho g hgg).1; simp; omega)
            obtain ⟨v3, w3, run, o3, b3⟩ := own_int ho1 hsz (unfoldI u) (by omega)
            exact ⟨rfl, v3, w3, run, o3, rd1.kept hB hrb b3, grown_below (grown_trans hg g1) b3 (Nat.le_refl _)⟩
          have HN : Hid (takeN n r = (takeN (n - (k + 1)) rest').map (fun p => ((xs ++ [unfoldI u]) ++ p.1, p.2)) ∧ (xs ++ [unfoldI u]).length = k + 1 ∧ ∀ m ∈ xs ++ [unfoldI u], In64 m) := by
            refine ⟨?_, by simp [hx], ?_⟩
            · rw [ht, takeN_cons hq, Option.map_map, show n - (k + 1) = m by omega]
              congr 1
              funext p
              simp
            · intro y hy
              rcases List.mem_append.1 hy with h | h
              · exact hI y h
              · simp at h
                subst h
                exact unfoldI_in (numAux_lt _ _ _ (by decide) (by decide) hq)
          clear C ht ho hrd hg hI hq hx
          generalize unfoldI u = y at *
          generalize xs ++ [y] = ys at *
          go_wp2_with (first
            | (go_at_call 71; refine C2.mono ?_; rintro e w2 ⟨rfl, v3, w3, R3, E3⟩)
            | (at_builtin; refine wpList_append_run rfl _ _ 43 rfl _ _ _ _ rfl rfl R3.out ?_))
          have HF : Hid (∃ xs rest, xs.length = k + 1 ∧ takeN n r = (takeN (n - (k + 1)) rest).map (fun p => (xs ++ p.1, p.2)) ∧ OwnI w.heap.size w3 v3 xs ∧ Rd B w3 rb rest ∧ w.grownBy w3 (some rb) ∧ ∀ m ∈ xs, In64 m) :=
            ⟨ys, rest', HN.out.2.1, HN.out.1, E3.out.1, E3.out.2.1, E3.out.2.2, HN.out.2.2⟩
          clear HN E3 R3
          go_roundw
          case rel => exact ⟨k + 1, by go_num, by omega, HF⟩
          case measure => simp [intOf]; omega
      · have HT : Hid (Takes w.heap.size B w rb (listR l) (.returned u5) wr) := by
          refine ⟨hg, ?_⟩
          rw [HC.out, ht, show n - k = 0 by omega]
          refine ⟨u5, rfl, ?_, hrd, ?_⟩
          · simpa using ho
          · simpa using hI
        clear ht ho hrd hg hI hx HC
        go_wp2_with fail
        go_ret
        exact HT.out

set_option maxHeartbeats 1000000 in
theorem takeInts_any {B : Nat} {w : World} {rb : Nat} {l : List UInt8} (h : Rd B w rb l) (hB : B ≤ w.heap.size) (hrb : rb < w.heap.size) (hl : l.length ≤ 1099511627776) :
    Calls Tryd.prog 42 #[ptrOf rb] w fun e w' => Takes w.heap.size B w rb (listR l) e w' := by
  have C := takeList_any h hB hrb hl
  rcases hnx : listR l with _ | ⟨ns, r⟩
  · have C2 : Calls Tryd.prog 70 #[ptrOf rb, .func (.func 71) #[] #[]] w fun e w' => e = .panicked noneP ∧ Hid (w.grownBy w' (some rb)) := by
      refine C.mono ?_
      rintro e w' hc
      rw [hnx] at hc
      exact ⟨hc.2, hc.1⟩
    clear C h hnx
    go_enter Tryd.func42, Tryd.ntmps42
    go_wp2_with (go_at_call 70; refine C2.mono ?_; rintro e w1 ⟨rfl, hg⟩)
    exact ⟨rfl, hg.out, rfl⟩
  · have C2 : Calls Tryd.prog 70 #[ptrOf rb, .func (.func 71) #[] #[]] w fun e w' => ∃ v, e = .returned v ∧ Hid (w.grownBy w' (some rb) ∧ OwnI w.heap.size w' v ns ∧ Rd B w' rb r ∧ ∀ n ∈ ns, In64 n) := by
      refine C.mono ?_
      rintro e w' hc
      rw [hnx] at hc
      obtain ⟨hg, v, rfl, rest⟩ := hc
      exact ⟨v, rfl, hg, rest⟩
    clear C h hnx
    go_enter Tryd.func42, Tryd.ntmps42
    go_wp2_with (go_at_call 70; refine C2.mono ?_; rintro e w1 ⟨v, rfl, hg⟩)
    go_ret
    exact ⟨hg.out.1, v, rfl, hg.out.2⟩
end Go.Proofs.YtohndhmhgdelmaaDoor
