/- RPar5. -/
import Derived.Test.YtlndkjcincflpaaGreatDoorRPar4X
set_option linter.unusedVariables false
set_option linter.unusedSimpArgs false
namespace Go.Proofs.YtlndkjcincflpaaGreatDoor
open Go.RowKit Go.Fm
set_option maxRecDepth 100000
theorem add_none (g o j : Nat) : (⟨g, o, none⟩ : Addr).add j = ⟨g, o + j, none⟩ := by unfold Addr.add; split <;> simp_all
theorem load_ref {u : World} {g o : Nat} {k n r c : Int} {s bk h : ByteArray} {fr fc : Bool} (hc : ∀ j x, (tcs k n s bk h r c fr fc).toList[j]? = some x → u.cell? ⟨g, o + j, none⟩ = some x) :
    (Instr.loadAt 47 (.pointer (some ⟨g, o + 3, none⟩))).run Tryz.prog u = .ok (refV bk h r c fr fc) u := by
  refine run_loadVar_any u ⟨g, o + 3, none⟩ 47 [.string bk, .string h, .int .i64 r, .int .i64 c, .bool fr, .bool fc] _ (fun j v hj => ?_) Tryz.underlying47 rfl inf47
  rw [add_none, Nat.add_assoc]
  refine hc (3 + j) v ?_
  match j, hj with
  | 0, hj => exact hj
  | 1, hj => exact hj
  | 2, hj => exact hj
  | 3, hj => exact hj
  | 4, hj => exact hj
  | 5, hj => exact hj
theorem QR.first {W u : World} {b : Nat} {t : Tk.Tok} {q : List Tk.Tok} (h : QR W b (t :: q) u) : ∃ g o c, u.heap[b]? = some (rpO (.slice (some ⟨g, o, none⟩) (q.length + 1) c) false) ∧ q.length + 1 ≤ c ∧ (∀ j x, (tk t).cl[j]? = some x → u.cell? ⟨g, o + j, none⟩ = some x) ∧
    TS W (.slice (if c = 1 then some ⟨g, o, none⟩ else some ⟨g, o + 9, none⟩) q.length (c - 1)) (q.map tk) := by
  obtain ⟨v, hv, hs⟩ := h.blk
  rw [List.map_cons] at hs
  obtain ⟨g, o, c, rfl, hlc, hcs, hts⟩ := hs.cons
  rw [List.length_map] at hv hlc hts
  exact ⟨g, o, c, hv, hlc, fun j x hx => cell_bel h.bel (hcs j x hx), hts⟩
theorem QR.rest {W u v : World} {b : Nat} {t : Tk.Tok} {q : List Tk.Tok} {A : Option Addr} {c : Nat} (h : QR W b (t :: q) u) (hb : Below u.heap.size u v) (hts : TS W (.slice A q.length c) (q.map tk)) : Sq W b q u (v.setCell ⟨b, 0, none⟩ (.slice A q.length c)) := by
  obtain ⟨x, hx, _⟩ := (h.below hb).blk
  refine ⟨⟨h.tab, ((h.below hb).bel).setCell h.lo _, h.lo, fun y hy => h.ok y (by simp [hy]), _, (rp_facts hx).2.2.2.2.2 _, hts⟩, grown_trans (grown_below hb) (Lib.grownBy_setCell _ _ _ _)⟩
abbrev rw2 (w : World) (cs : Array Value) : World := (w.alloc (.cells cs 138)).alloc (.cells nd0 50)
theorem rw2_facts {w : World} {cs : Array Value} : (rw2 w cs).heap[w.heap.size]? = some (.cells cs 138) ∧ (rw2 w cs).heap[w.heap.size + 1]? = some (.cells nd0 50) ∧ (rw2 w cs).heap.size = w.heap.size + 2 ∧ Below w.heap.size w (rw2 w cs) := by
  refine ⟨(Below.heap_alloc _ _ _ (by simp)).trans (heap_alloc_new w _), ?_, by simp, bel_alloc (bel_alloc (Below.refl _ _) _) _⟩
  have := heap_alloc_new (w.alloc (.cells cs 138)) (.cells nd0 50)
  simpa using this
theorem RA.fin2 {W w u : World} {b : Nat} {cs es : Array Value} {o : Option (T × List Tk.Tok)} (hb : b < w.heap.size) (hn : NA es) (h : RA W b (rw2 w cs) o es u) :
    Hid ((Instr.storeAt 50 (.pointer (some ⟨w.heap.size + 1, 0, none⟩)) (.agg es)).run Tryz.prog u = .ok () (u.setRow (w.heap.size + 1) es)) ∧ Hid (u.heap[w.heap.size + 1]? = some (.cells nd0 50)) ∧ Hid (es.size = 18) ∧ Hid (NA es) ∧
    Hid (RA W b w o es (u.setRow (w.heap.size + 1) es)) := by
  obtain ⟨f0, f1, f2, f3⟩ := rw2_facts (w := w) (cs := cs)
  have k1 := h.kept f1 (by omega)
  refine ⟨hn.sto k1 rfl, k1, hn.size, hn, ?_⟩
  cases o with
  | none => exact (show Sw W b (rw2 w cs) u from h).unalloc.unalloc.grown (setRow_grown _ _ _) (by omega) hb
  | some p =>
    obtain ⟨h1, h2⟩ := h
    exact ⟨(h1.grown (setRow_grown _ _ _) (fun g e hk => by cases e; have hk' : (rw2 w cs).heap.size ≤ w.heap.size + 1 := hk; omega)).mono (fun i hi _ => by have hi' : (rw2 w cs).heap.size ≤ i := hi; omega), h2.unalloc.unalloc.grown (setRow_grown _ _ _) (by omega) hb⟩
theorem RA.leaf {W w u : World} {b : Nat} {L : List Tk.Tok} (a : Lab) (h : Sq W b L w u) : RA W b w (some (tree a [], L)) (lcs a (.slice none 0 0)) u := ⟨NK.leaf, h⟩
theorem na_leaf (a : Lab) : NA (lcs a (.slice none 0 0)) := ⟨_, _, _, _, rfl⟩
theorem build_r (u : World) (bk h : ByteArray) (r c : Int) (fr fc : Bool) : (Instr.build 50 #[(0, .int .i64 2), (3, refV bk h r c fr fc)]).run Tryz.prog u = .ok (.agg (lcs ⟨2, nb, 0, 0, nb, bk, h, r, c, fr, fc, nb, nb, 0, 0, false, false⟩ (.slice none 0 0))) u := by kernel_rfl
theorem build_a (u : World) (bk h : ByteArray) (r c : Int) (fr fc : Bool) (bk' h' : ByteArray) (r' c' : Int) (fr' fc' : Bool) : (Instr.build 50 #[(0, .int .i64 3), (3, refV bk h r c fr fc), (4, refV bk' h' r' c' fr' fc')]).run Tryz.prog u = .ok (.agg (lcs ⟨3, nb, 0, 0, nb, bk, h, r, c, fr, fc, bk', h', r', c', fr', fc'⟩ (.slice none 0 0))) u := by kernel_rfl
theorem ref_one (bk h : ByteArray) (r c : Int) (fr fc : Bool) : (#[.string bk, .string h, .int .i64 r, .int .i64 c, .bool fr, .bool fc] : Array Value).all (·.oneCell') = true := by simp [Value.oneCell']
abbrev rz25 : Array Value := #[.string noB, .string noB, .int .i64 0, .int .i64 0, .bool false, .bool false]
section
variable {W w : World} {b : Nat} {k0 n0 r1 c1 : Int} {s0 b1 h1 : ByteArray} {fr1 fc1 : Bool}
theorem box_ref {u : World} {g : Nat} (hg : u.heap[g]? = some (.cells (tcs k0 n0 s0 b1 h1 r1 c1 fr1 fc1) 138)) : (Instr.loadAt 47 (.pointer (some ⟨g, 3, none⟩))).run Tryz.prog u = .ok (refV b1 h1 r1 c1 fr1 fc1) u := by
  have := load_ref (u := u) (g := g) (o := 0) (k := k0) (n := n0) (s := s0) (bk := b1) (h := h1) (r := r1) (c := c1) (fr := fr1) (fc := fc1) (fun j x hx => by
    rw [Nat.zero_add, cell_of_row u g j _ 138 (0, 0) hg, ← Array.getElem?_toList]; exact hx)
  rw [Nat.zero_add] at this
  exact this
set_option maxHeartbeats 2000000 in
theorem rref_one {L : List Tk.Tok} (hn : L.length ≤ 256) (h : opOf L ≠ [58]) (X : QR W b L w) : Calls Tryz.prog 207 #[.pointer (some ⟨b, 0, none⟩), .agg (tcs k0 n0 s0 b1 h1 r1 c1 fr1 fc1)] w (RO W b w (some (tree ⟨2, nb, 0, 0, nb, b1, h1, r1, c1, fr1, fc1, nb, nb, 0, 0, false, false⟩ [], L))) := by
  have hb := X.lt
  obtain ⟨f0, f1, f2, f3⟩ := rw2_facts (w := w) (cs := tcs k0 n0 s0 b1 h1 r1 c1 fr1 fc1)
  have X2 := X.below f3
  have OP := rop_any X2 hn
  have hne : ((ba (opOf L)).toList == [58]) = false := ne_list h
  have RL : Hid _ := box_ref f0
  have RB : Hid _ := build_r (rw2 w (tcs k0 n0 s0 b1 h1 r1 c1 fr1 fc1)) b1 h1 r1 c1 fr1 fc1
  obtain ⟨RS, HG, HZ, HNA, HF⟩ := RA.fin2 hb (na_leaf _) (RA.leaf ⟨2, nb, 0, 0, nb, b1, h1, r1, c1, fr1, fc1, nb, nb, 0, 0, false, false⟩ (Sq.refl X2))
  clear X X2 h f0 f1 f2 f3
  generalize lcs ⟨2, nb, 0, 0, nb, b1, h1, r1, c1, fr1, fc1, nb, nb, 0, 0, false, false⟩ (.slice none 0 0) = es at *
  generalize hcs : tcs k0 n0 s0 b1 h1 r1 c1 fr1 fc1 = cs at *
  generalize ba (opOf L) = A at *
  go_enter Tryz.func207, Tryz.ntmps207
  go_wp2_with (first
    | (go_at_call 125; refine OP.mono ?_; rintro e w' ⟨rfl, hw⟩; obtain rfl := hw.symm; clear hw)
    | (refine wpList_load_run rfl 47 _ rfl _ _ rfl RL.out ?_; clear RL)
    | (refine wpList_build_run rfl 50 _ rfl _ _ (by go_simp) RB.out ?_; clear RB)
    | (refine wpList_store_run rfl 50 _ _ rfl _ _ _ rfl rfl RS.out ?_; clear RS))
  exact bodyPost_ret (nd_res HG.out HZ.out rfl rfl) rfl ⟨_, rfl, HNA.out, HF.out⟩
set_option maxHeartbeats 2000000 in
theorem rref_nil {L : List Tk.Tok} (hn : L.length ≤ 256) (h : opOf L = [58]) (hL : L.tail = []) (X : QR W b L w) : Calls Tryz.prog 207 #[.pointer (some ⟨b, 0, none⟩), .agg (tcs k0 n0 s0 b1 h1 r1 c1 fr1 fc1)] w (RO W b w none) := by
  have hb := X.lt
  generalize hcs : tcs k0 n0 s0 b1 h1 r1 c1 fr1 fc1 = cs at *
  obtain ⟨f0, f1, f2, f3⟩ := rw2_facts (w := w) (cs := cs)
  have X2 := X.below f3
  have OP : Calls Tryz.prog 125 #[.pointer (some ⟨b, 0, none⟩)] (rw2 w cs) fun e w' => e = .returned (.string ⟨#[58]⟩) ∧ w' = rw2 w cs := by
    have := rop_any X2 hn
    rw [h] at this
    exact this
  have TK : Calls Tryz.prog 126 #[.pointer (some ⟨b, 0, none⟩), .string ⟨#[58]⟩] (rw2 w cs) fun e w2 => e = .returned (.tuple #[]) ∧ Hid (Sq W b [] (rw2 w cs) w2) ∧ ∃ a c, w2.cell? ⟨b, 0, none⟩ = some (.slice a 0 c) := (rtake_yes (s := [58]) X2 hn (by decide) h).mono (by
    rintro e w2 ⟨rfl, h2⟩
    rw [hL] at h2
    obtain ⟨v, hv, hs⟩ := h2.1.blk
    obtain ⟨a, c, rfl⟩ := hs.slice
    exact ⟨rfl, h2, a, c, (rp_facts hv).1⟩)
  have FA : Hid (∀ u, Sq W b [] (rw2 w cs) u → Calls Tryz.prog 206 #[.pointer (some ⟨b, 0, none⟩)] u fun e w3 => ∃ es, e = .returned (.agg es) ∧ Hid ((Instr.storeAt 50 (.pointer (some ⟨w.heap.size + 1, 0, none⟩)) (.agg es)).run Tryz.prog w3 = .ok () (w3.setRow (w.heap.size + 1) es)) ∧ Hid (w3.heap[w.heap.size + 1]? = some (.cells nd0 50)) ∧ Hid (es.size = 18) ∧ Hid (NA es) ∧
    Hid (RA W b w none es (w3.setRow (w.heap.size + 1) es))) := fun u hu => (rfail_any hu.1.b).mono (by
    rintro e w3 ⟨rfl, h3⟩
    exact ⟨nd0, rfl, RA.fin2 (cs := cs) (o := none) hb NA.zero (hu.bad h3)⟩)
  clear X X2 h f0 f1 f2 f3 hcs
  go_enter Tryz.func207, Tryz.ntmps207
  go_wp2_with (first
    | (go_at_call 125; refine OP.mono ?_; rintro e w' ⟨rfl, hw⟩; obtain rfl := hw.symm; clear hw)
    | (go_at_call 126; refine TK.mono ?_; rintro e w2 ⟨rfl, HS2, a, c, hc0⟩)
    | (go_at_call 206; refine (FA.out _ HS2.out).mono ?_; rintro e w3 ⟨es, rfl, RS, HG, HZ, HNA, HF⟩)
    | (refine wpList_store_run rfl 50 _ _ rfl _ _ _ rfl rfl RS.out ?_; clear RS))
  exact bodyPost_ret (nd_res HG.out HZ.out rfl rfl) rfl ⟨_, rfl, HNA.out, HF.out⟩
set_option maxHeartbeats 4000000 in
theorem rref_bad {L q : List Tk.Tok} {t : Tk.Tok} (hn : L.length ≤ 256) (h : opOf L = [58]) (hL : L.tail = t :: q) (hk : (tk t).k ≠ 3 ∨ ((tk t).k = 3 ∧ ¬ (tk t).h.toList = [])) (X : QR W b L w) : Calls Tryz.prog 207 #[.pointer (some ⟨b, 0, none⟩), .agg (tcs k0 n0 s0 b1 h1 r1 c1 fr1 fc1)] w (RO W b w none) := by
  have hb := X.lt
  generalize hcs : tcs k0 n0 s0 b1 h1 r1 c1 fr1 fc1 = cs at *
  obtain ⟨f0, f1, f2, f3⟩ := rw2_facts (w := w) (cs := cs)
  have X2 := X.below f3
  have OP : Calls Tryz.prog 125 #[.pointer (some ⟨b, 0, none⟩)] (rw2 w cs) fun e w' => e = .returned (.string ⟨#[58]⟩) ∧ w' = rw2 w cs := by
    have := rop_any X2 hn
    rw [h] at this
    exact this
  have TK : Calls Tryz.prog 126 #[.pointer (some ⟨b, 0, none⟩), .string ⟨#[58]⟩] (rw2 w cs) fun e w2 => e = .returned (.tuple #[]) ∧ Hid (Sq W b (t :: q) (rw2 w cs) w2) ∧ ∃ g o c, w2.cell? ⟨b, 0, none⟩ = some (.slice (some ⟨g, o, none⟩) (q.length + 1) c) ∧ w2.cell? ⟨g, o, none⟩ = some (.int .i64 (tk t).k) ∧ w2.cell? ⟨g, o + (3 + 1), none⟩ = some (.string (tk t).h) := (rtake_yes (s := [58]) X2 hn (by decide) h).mono (by
    rintro e w2 ⟨rfl, h2⟩
    rw [hL] at h2
    obtain ⟨g, o, c, hv, _, hcc, _⟩ := h2.1.first
    exact ⟨rfl, h2, g, o, c, (rp_facts hv).1, hcc 0 _ rfl, hcc 4 _ rfl⟩)
  have FA : Hid (∀ u, Sq W b (t :: q) (rw2 w cs) u → Calls Tryz.prog 206 #[.pointer (some ⟨b, 0, none⟩)] u fun e w3 => ∃ es, e = .returned (.agg es) ∧ Hid ((Instr.storeAt 50 (.pointer (some ⟨w.heap.size + 1, 0, none⟩)) (.agg es)).run Tryz.prog w3 = .ok () (w3.setRow (w.heap.size + 1) es)) ∧ Hid (w3.heap[w.heap.size + 1]? = some (.cells nd0 50)) ∧ Hid (es.size = 18) ∧ Hid (NA es) ∧
    Hid (RA W b w none es (w3.setRow (w.heap.size + 1) es))) := fun u hu => (rfail_any hu.1.b).mono (by
    rintro e w3 ⟨rfl, h3⟩
    exact ⟨nd0, rfl, RA.fin2 (cs := cs) (o := none) hb NA.zero (hu.bad h3)⟩)
  have hlq : (((q.length : Int) + 1) == 0) = false := by simp; omega
  have hlt : q.length ≤ 256 := by
    have := (op_tail (ts := L) h (by decide)).1
    rw [hL] at this; simp at this; omega
  clear X X2 h f0 f1 f2 f3 hcs hL
  generalize (tk t).k = k at *
  generalize (tk t).h = hh at *
  rcases hk with hk | ⟨rfl, hs⟩
  · have hkb : (k != 3) = true := by simpa using hk
    clear hk
    go_enter Tryz.func207, Tryz.ntmps207
    go_wp2_with (first
      | (go_at_call 125; refine OP.mono ?_; rintro e w' ⟨rfl, hw⟩; obtain rfl := hw.symm; clear hw)
      | (go_at_call 126; refine TK.mono ?_; rintro e w2 ⟨rfl, HS2, g, o, c, hc0, hk0, hk4⟩; generalize q.length = n at *)
      | (go_at_call 206; refine (FA.out _ HS2.out).mono ?_; rintro e w3 ⟨es, rfl, RS, HG, HZ, HNA, HF⟩)
      | (refine wpList_store_run rfl 50 _ _ rfl _ _ _ rfl rfl RS.out ?_; clear RS))
    exact bodyPost_ret (nd_res HG.out HZ.out rfl rfl) rfl ⟨_, rfl, HNA.out, HF.out⟩
  · have hsb : hh.toList.isEmpty = false := by
      cases hx : hh.toList with
      | nil => exact absurd hx hs
      | cons _ _ => rfl
    clear hs
    go_enter Tryz.func207, Tryz.ntmps207
    go_wp2_with (first
      | (go_at_call 125; refine OP.mono ?_; rintro e w' ⟨rfl, hw⟩; obtain rfl := hw.symm; clear hw)
      | (go_at_call 126; refine TK.mono ?_; rintro e w2 ⟨rfl, HS2, g, o, c, hc0, hk0, hk4⟩; generalize q.length = n at *)
      | (go_at_call 206; refine (FA.out _ HS2.out).mono ?_; rintro e w3 ⟨es, rfl, RS, HG, HZ, HNA, HF⟩)
      | (refine wpList_store_run rfl 50 _ _ rfl _ _ _ rfl rfl RS.out ?_; clear RS))
    exact bodyPost_ret (nd_res HG.out HZ.out rfl rfl) rfl ⟨_, rfl, HNA.out, HF.out⟩
set_option maxHeartbeats 8000000 in
theorem rref_yes {L q : List Tk.Tok} {t : Tk.Tok} (hn : L.length ≤ 256) (h : opOf L = [58]) (hL : L.tail = t :: q) (hk : (tk t).k = 3) (hs : (tk t).h.toList = []) (X : QR W b L w) : Calls Tryz.prog 207 #[.pointer (some ⟨b, 0, none⟩), .agg (tcs k0 n0 s0 b1 h1 r1 c1 fr1 fc1)] w
    (RO W b w (some (tree ⟨3, nb, 0, 0, nb, b1, h1, r1, c1, fr1, fc1, (tk t).b, (tk t).h, (tk t).r, (tk t).c, (tk t).fr, (tk t).fc⟩ [], q))) := by
  have hb := X.lt
  obtain ⟨f0, f1, f2, f3⟩ := rw2_facts (w := w) (cs := tcs k0 n0 s0 b1 h1 r1 c1 fr1 fc1)
  have X2 := X.below f3
  have OP : Calls Tryz.prog 125 #[.pointer (some ⟨b, 0, none⟩)] (rw2 w (tcs k0 n0 s0 b1 h1 r1 c1 fr1 fc1)) fun e w' => e = .returned (.string ⟨#[58]⟩) ∧ w' = rw2 w (tcs k0 n0 s0 b1 h1 r1 c1 fr1 fc1) := by
    have := rop_any X2 hn
    rw [h] at this
    exact this
  have hlq : (((q.length : Int) + 1) == 0) = false := by simp; omega
  have hlt : q.length ≤ 256 := by
    have := (op_tail (ts := L) h (by decide)).1
    rw [hL] at this; simp at this; omega
  have TK : Calls Tryz.prog 126 #[.pointer (some ⟨b, 0, none⟩), .string ⟨#[58]⟩] (rw2 w (tcs k0 n0 s0 b1 h1 r1 c1 fr1 fc1)) fun e w2 => e = .returned (.tuple #[]) ∧ ∃ g o c A, w2.cell? ⟨b, 0, none⟩ = some (.slice (some ⟨g, o, none⟩) (q.length + 1) c) ∧ w2.cell? ⟨g, o, none⟩ = some (.int .i64 (tk t).k) ∧ w2.cell? ⟨g, o + (3 + 1), none⟩ = some (.string (tk t).h) ∧ q.length + 1 ≤ c ∧
      (if c = 1 then some (⟨g, o, none⟩ : Addr) else some ⟨g, o + 9, none⟩) = A ∧
      Hid ((Instr.loadAt 47 (.pointer (some ⟨g, o + 3, none⟩))).run Tryz.prog w2 = .ok (refV (tk t).b (tk t).h (tk t).r (tk t).c (tk t).fr (tk t).fc) w2) ∧
      Hid ((Instr.storeAt 47 (.pointer (some ⟨w2.heap.size, 0, none⟩)) (refV (tk t).b (tk t).h (tk t).r (tk t).c (tk t).fr (tk t).fc)).run Tryz.prog (w2.alloc (.cells rz25 47)) = .ok () (w2.alloc (refO (tk t).b (tk t).h (tk t).r (tk t).c (tk t).fr (tk t).fc))) ∧
      (w2.alloc (refO (tk t).b (tk t).h (tk t).r (tk t).c (tk t).fr (tk t).fc)).cell? ⟨b, 0, none⟩ = some (.slice (some ⟨g, o, none⟩) (q.length + 1) c) ∧ (w2.alloc (refO (tk t).b (tk t).h (tk t).r (tk t).c (tk t).fr (tk t).fc)).frozen? ⟨b, 0, none⟩ = false ∧
      ∃ w5, (w2.alloc (refO (tk t).b (tk t).h (tk t).r (tk t).c (tk t).fr (tk t).fc)).setCell ⟨b, 0, none⟩ (.slice A q.length (c - 1)) = w5 ∧
      Hid ((Instr.loadAt 47 (.pointer (some ⟨w.heap.size, 3, none⟩))).run Tryz.prog w5 = .ok (refV b1 h1 r1 c1 fr1 fc1) w5) ∧ Hid ((Instr.loadAt 47 (.pointer (some ⟨w2.heap.size, 0, none⟩))).run Tryz.prog w5 = .ok (refV (tk t).b (tk t).h (tk t).r (tk t).c (tk t).fr (tk t).fc) w5) ∧
      Hid (Sq W b q (rw2 w (tcs k0 n0 s0 b1 h1 r1 c1 fr1 fc1)) w5) := (rtake_yes (s := [58]) X2 hn (by decide) h).mono (by
    rintro e w2 ⟨rfl, h2⟩
    rw [hL] at h2
    obtain ⟨g, o, c, hv, hlc, hcc, hts⟩ := h2.1.first
    have hz2 := h2.2.size
    have B3 : Below w2.heap.size w2 (w2.alloc (refO (tk t).b (tk t).h (tk t).r (tk t).c (tk t).fr (tk t).fc)) := bel_alloc (Below.refl _ _) _
    have hv3 := (B3.block _ (lt_of hv)).trans hv
    have G5 := Lib.grownBy_setCell (w2.alloc (refO (tk t).b (tk t).h (tk t).r (tk t).c (tk t).fr (tk t).fc)) b 0 (.slice (if c = 1 then some ⟨g, o, none⟩ else some ⟨g, o + 9, none⟩) q.length (c - 1))
    have hR := h2.1.rest B3 hts
    have hk0 := h2.kept f0 (by omega)
    have hk3 := (B3.block _ (lt_of hk0)).trans hk0
    refine ⟨rfl, g, o, c, _, (rp_facts hv).1, hcc 0 _ rfl, hcc 4 _ rfl, hlc, rfl, load_ref (fun j x hx => hcc j x hx), run_storeAt_new w2 47 rz25 _ inf47 rfl (ref_one _ _ _ _ _ _), (rp_facts hv3).1, (rp_facts hv3).2.2.1, _, rfl, ?_, ?_, h2.step hR⟩
    · exact box_ref ((G5.block _ (lt_of hk3) (by intro e; have := Option.some.inj e; omega)).trans hk3)
    · exact lod (z := (0, 0)) ((G5.block _ (by simp) (by intro e; have := Option.some.inj e; have := lt_of hv; omega)).trans (heap_alloc_new _ _)) rfl Tryz.underlying47 inf47)
  have FIN : Hid (∀ u, Sq W b q (rw2 w (tcs k0 n0 s0 b1 h1 r1 c1 fr1 fc1)) u → _) := fun u hu => RA.fin2 hb (na_leaf _) (RA.leaf ⟨3, nb, 0, 0, nb, b1, h1, r1, c1, fr1, fc1, (tk t).b, (tk t).h, (tk t).r, (tk t).c, (tk t).fr, (tk t).fc⟩ hu)
  have RB : Hid _ := fun u => build_a u b1 h1 r1 c1 fr1 fc1 (tk t).b (tk t).h (tk t).r (tk t).c (tk t).fr (tk t).fc
  clear X X2 h f0 f1 f2 f3 hL
  generalize tk t = tt at *
  obtain ⟨k, n, s, bk, hh, r, c, fr, fc⟩ := tt
  dsimp only at *
  subst hk
  have hsb : hh.toList.isEmpty = true := by rw [hs]; rfl
  clear hs
  generalize lcs ⟨3, nb, 0, 0, nb, b1, h1, r1, c1, fr1, fc1, bk, hh, r, c, fr, fc⟩ (.slice none 0 0) = es at *
  generalize hcs : tcs k0 n0 s0 b1 h1 r1 c1 fr1 fc1 = cs at *
  clear hcs
  go_enter Tryz.func207, Tryz.ntmps207
  go_wp2_with (first
    | (go_at_call 125; refine OP.mono ?_; rintro e w' ⟨rfl, hw⟩; obtain rfl := hw.symm; clear hw)
    | (go_at_call 126; refine TK.mono ?_; rintro e w2 ⟨rfl, g, o, cc, A, hc0, hk0, hk4, hlc, hA, RT, RS25, hc3, hf3, w5, hw5, RL5, RM5, HS5⟩; obtain ⟨RS, HG, HZ, HNA, HF⟩ := FIN.out _ HS5.out; generalize q.length = n at *)
    | (refine wpList_load_run rfl 47 _ rfl _ _ rfl RT.out ?_; clear RT)
    | (refine wpList_store_run rfl 47 _ _ rfl _ _ _ rfl rfl RS25.out ?_; clear RS25)
    | (refine wpList_load_run rfl 47 _ rfl _ _ rfl RL5.out ?_; clear RL5)
    | (refine wpList_load_run rfl 47 _ rfl _ _ rfl RM5.out ?_; clear RM5)
    | (refine wpList_build_run rfl 50 _ rfl _ _ (by go_simp) (RB.out _) ?_)
    | (refine wpList_store_run rfl 50 _ _ rfl _ _ _ rfl rfl RS.out ?_; clear RS))
  exact bodyPost_ret (nd_res HG.out HZ.out rfl rfl) rfl ⟨_, rfl, HNA.out, HF.out⟩
end
theorem rref_any {W w : World} {b : Nat} (x : Ad.Ref) {L : List Tk.Tok} (hn : L.length ≤ 256) (X : QR W b L w) : Calls Tryz.prog 207 #[.pointer (some ⟨b, 0, none⟩), .agg (tk (Tk.Tok.ref x)).cs] w (RO W b w (cellsF x L)) := by
  unfold cellsF
  by_cases h : opOf L = [58]
  · rw [if_pos h]
    cases hL : L.tail with
    | nil => exact rref_nil hn h hL X
    | cons t q =>
      have no : ((tk t).k ≠ 3 ∨ ((tk t).k = 3 ∧ ¬ (tk t).h.toList = [])) → Calls Tryz.prog 207 #[.pointer (some ⟨b, 0, none⟩), .agg (tk (Tk.Tok.ref x)).cs] w (RO W b w none) := fun hne => rref_bad hn h hL hne X
      cases t using Tk.Tok.cs with
      | ref y =>
        simp only
        by_cases hy : y.sheet = []
        · rw [if_pos hy]
          exact rref_yes hn h hL rfl (by rw [ByteArray.toList_eq]; exact hy) X
        · rw [if_neg hy]
          exact no (.inr ⟨rfl, fun e => hy (by rw [ByteArray.toList_eq] at e; exact e)⟩)
      | num n => exact no (.inl (by simp [tk]))
      | str n => exact no (.inl (by simp [tk]))
      | word n m => exact no (.inl (by simp [tk]))
      | op n => exact no (.inl (by simp [tk]))
      | bad n => exact no (.inl (by simp [tk]))
  · rw [if_neg h]
    exact rref_one hn h X
end Go.Proofs.YtlndkjcincflpaaGreatDoor
