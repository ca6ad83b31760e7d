/- FArgs, FCell. -/
import Derived.Test.YtljmklbbngpllaaGreatDoorFNegNd
set_option linter.unusedVariables false
set_option linter.unusedSimpArgs false
set_option maxHeartbeats 16000000
set_option maxRecDepth 100000
namespace Go.Proofs.YtljmklbbngpllaaGreatDoor
open Go.RowKit Go.Fm
def AA (ts : List Tk.Tok) : Option (List T × List Tk.Tok) :=
 if bE ts = [41] then some ([], ts.tail) else (PP 1 ts).bind fun p => (cB (PP 1) (p.2.length + 1) [p.1] p.2).bind fun q => if q.1.length ≤ 16 then some q else none
theorem aHm (s : List UInt8) (ts : List Tk.Tok) : lM upF (PP 1) s ts = (AA ts).map fun q => (tree (eF 7 (bs (upF s))) q.1, q.2) := by
 unfold lM AA
 by_cases h : bE ts = [41]
 ·rw [if_pos h, if_pos h]; rfl
 ·rw [if_neg h, if_neg h]
  cases hP : PP 1 ts with
  | none => rfl
  | some p =>
   have hl := jP upF trF (by omega) _ p.1 p.2 hP
   simp only [Option.bind_some]
   have hf : cB (PP 1) (ts.length + 1) [p.1] p.2 = cB (PP 1) (p.2.length + 1) [p.1] p.2 := oG (jP upF trF (lv := 1) (Nat.le_refl _)) (ts.length + 1) [p.1] p.2 (p.2.length + 1) (by omega) (by omega)
   rw [hf]
   cases cB (PP 1) (p.2.length + 1) [p.1] p.2 with
   | none => rfl
   | some q =>
    simp only [Option.bind_some]
    split <;> rfl
def AO (W : World) (b : Nat) (w : World) (o : Option (List T × List Tk.Tok)) (e : Ending) (w' : World) : Prop :=
 match o with
 | none => e = .panicked bQ ∧ w.grownBy w' (some b)
 | some p => ∃ q n c, e = .returned (.slice q n c) ∧ n = p.1.length ∧ (p.1 = [] ∨ ∃ a, q = some a ∧ InK (fun i => w.heap.size ≤ i) w' a (mk p.1)) ∧ Sp W b p.2 w w'
def eO (base : Nat) (w : World) (v : Value) (L : List (Array Value × T)) : Prop := w.ownsRow base 28 18 v L.length (L.flatMap (·.1.toList))
theorem fU {base : Nat} {w : World} {v : Value} {L : List (Array Value × T)} (h : eO base w v L) : ∃ a c, v = .slice a L.length c := by
 rcases h.2 with ⟨rfl, h0⟩ | ⟨g, cap, cur, rfl, _⟩
 ·exact ⟨none, 0, by rw [h0]⟩
 ·exact ⟨_, _, rfl⟩
theorem zR {K : Nat → Prop} {base : Nat} {w u : World} {es : Array Value} {t : T} (h : NK K u es t) (hb : base ≤ w.heap.size) : eO base (w.alloc (.cells es 28)) (.slice (some ⟨w.heap.size, 0, none⟩) 1 1) [(es, t)] := by
 have hz := h.size
 refine ⟨by simp [hz], .inr ⟨w.heap.size, 1, es, rfl, hb, heap_alloc_new _ _, Nat.le_refl _, by simp [maxLen], by rw [hz], ?_⟩⟩
 simp [List.take_of_length_le, hz]
theorem fV {base : Nat} {w w' : World} {v : Value} {L : List (Array Value × T)} {row : Option Nat} (h : eO base w v L) (hg : w.grownBy w' row) (hne : v.ownBlock = none ∨ v.ownBlock ≠ row) : eO base w' v L := World.ownsRow.kept h hg hne
theorem zS {K K' : Nat → Prop} {base : Nat} {w u : World} {v : Value} {L : List (Array Value × T)} (h : eO base w v L) {es : Array Value} {t : T} (hN : NK K u es t) {g : Nat} (hg : w.heap[g]? = some (.cells es 28)) (hn : L.length ≤ 100000) (hbase : base ≤ w.heap.size) :
  ∃ v' w', Hid ((Builtin.append_ #[26, 26] 26 #[v, .slice (some ⟨g, 0, none⟩) 1 1]).run Tryz.prog w = .ok v' w') ∧ eO base w' v' (L ++ [(es, t)]) ∧ w.grownBy w' v.ownBlock ∧ (v'.ownBlock = v.ownBlock ∨ v'.ownBlock = some w.heap.size) := by
 obtain ⟨i0, hi, hz0, hz1, hz2⟩ := info_parts aAY
 have hz := hN.size
 have hadd : ∀ k, (⟨g, 0, none⟩ : Addr).add k = ⟨g, k, none⟩ := fun k => by unfold Addr.add; split <;> simp_all
 obtain ⟨v', w', r1, o1, g1, _, g2⟩ := run_append_own_at w base 26 26 28 i0 _ 18 192 Tryz.underlying26 hi hz0 hz1 hz2 rfl (by decide) v _ _ h ⟨g, 0, none⟩ 1 1 es.toList (by simp [hz])
  (fun j x hj => by rw [hadd, cell_of_row w g j _ _ _ hg, ← hj]; simp) (by
   have := hN.one
   intro x hx
   rw [Array.all_eq_true_iff_forall_mem] at this
   exact this x (by simpa using hx)) (by simp only [maxLen]; omega) (by omega) hbase
 refine ⟨v', w', r1, ?_, g1, g2⟩
 unfold eO
 rw [List.length_append, List.flatMap_append]
 simpa using o1
theorem aFq {K : Nat → Prop} {base : Nat} {w : World} {a : Option Addr} {n c : Nat} {L : List (Array Value × T)} (h : eO base w (.slice a n c) L) (hL : ∀ x ∈ L, NK K w x.1 x.2) (hK : ∀ g, (Value.slice a n c).ownBlock = some g → K g) : L = [] ∨ ∃ a', a = some a' ∧ InK K w a' (mk (L.map (·.2))) := by
 have hc := fun g (hg : (Value.slice a n c).ownBlock = some g) => World.ownsRow.cells h hg
 rcases h.2 with ⟨e, h0⟩ | ⟨g, cap, cur, e, _⟩
 ·exact .inl (List.eq_nil_of_length_eq_zero h0)
 ·cases e
  refine .inr ⟨_, rfl, InK.row (hK g rfl) L 0 hL (fun j v hj => ?_)⟩
  have hadd : (⟨g, 0, none⟩ : Addr).add j = ⟨g, j, none⟩ := by unfold Addr.add; split <;> simp_all
  have := hc g rfl j v hj
  rw [hadd] at this
  rw [Nat.zero_add]; exact this
theorem aCa {base b : Nat} {w : World} {v : Value} {L : List (Array Value × T)} (h : eO base w v L) (hb : b < base) : v.ownBlock = none ∨ v.ownBlock ≠ some b := by
 cases hv : v.ownBlock with
 | none => exact .inl rfl
 | some g => exact .inr (fun e => by have := (World.ownsRow.lt h g hv).1; have := Option.some.inj e; omega)
theorem aA5 {p : Part} {k : Nat} {acc : List T} {r : List Tk.Tok} (h : bE r = [41]) : cB p (k + 1) acc r = some (acc, r.tail) := by unfold cB; rw [if_pos h]
theorem aFr {p : Part} {k : Nat} {acc : List T} {r : List Tk.Tok} (h : bE r ≠ [41]) (h' : bE r ≠ [44]) : cB p (k + 1) acc r = none := by unfold cB; rw [if_neg h, if_neg h']
theorem aA6 {acc : List T} {r : List Tk.Tok} (h : bE r ≠ [41]) (h' : bE r = [44]) : cB (PP 1) (r.length + 1) acc r = (PP 1 r.tail).bind fun p => cB (PP 1) (p.2.length + 1) (acc ++ [p.1]) p.2 := by
 have h2 := (bA (ts := r) h' (by decide)).1
 conv => lhs; unfold cB
 rw [if_neg h, if_pos h']
 cases hq : PP 1 r.tail with
 | none => rfl
 | some p =>
  simp only [Option.bind_some]
  have h3 := jP upF trF (by omega) _ p.1 p.2 hq
  exact oG (jP upF trF (by omega)) _ _ _ _ (by omega) (by omega)
theorem aFs {W : World} {b : Nat} {ts : List Tk.Tok} (hn : ts.length ≤ 256) (h : bE ts = [41]) {w : World} (X : PR W b ts w) : Calls Tryz.prog 282 #[.pointer (some ⟨b, 0, none⟩)] w fun e w' => e = .returned (.slice none 0 0) ∧ Sp W b ts.tail w w' := by
 have SK : Calls Tryz.prog 257 #[.pointer (some ⟨b, 0, none⟩), .string ⟨#[41]⟩] w fun e w' => e = .returned (.bool true) ∧ Sp W b ts.tail w w' := dR X (by omega) [41] (by decide) h
 clear X h
 go_enter Tryz.func282, Tryz.ntmps282
 go_wp2_with (go_at_call 257; refine SK.mono ?_; rintro e w1 ⟨rfl, hs⟩; have HS : Hid (Sp W b ts.tail w w1) := hs; clear hs)
 go_ret
 exact ⟨rfl, HS.out⟩
theorem aC8 {W : World} {b : Nat} {ts : List Tk.Tok} (hn : ts.length ≤ 256) (h : bE ts ≠ [41]) {w : World} (X : PR W b ts w) (C : Calls Tryz.prog 79 #[.pointer (some ⟨b, 0, none⟩)] w fun e w' => e = .panicked bQ ∧ w.grownBy w' (some b)) : Calls Tryz.prog 282 #[.pointer (some ⟨b, 0, none⟩)] w fun e w' => e = .panicked bQ ∧ w.grownBy w' (some b) := by
 have SK : Calls Tryz.prog 257 #[.pointer (some ⟨b, 0, none⟩), .string ⟨#[41]⟩] w fun e w' => e = .returned (.bool false) ∧ w' = w := fH X (by omega) [41] h
 clear X h
 go_enter Tryz.func282, Tryz.ntmps282
 go_wp2_with (first
  | (go_at_call 257; refine SK.mono ?_; rintro e w1 ⟨rfl, hs⟩; obtain rfl := hs.symm; clear hs)
  | (go_at_call 79; refine C.mono ?_; rintro e w2 ⟨rfl, hg⟩))
 exact ⟨rfl, rfl, hg⟩
theorem aC9 {W : World} {b : Nat} {ts : List Tk.Tok} (hn : ts.length ≤ 256) (h : bE ts ≠ [41]) {w : World} (X : PR W b ts w) {n0 : T} {r0 : List Tk.Tok} (hr0 : r0.length < ts.length)
  (C0 : Calls Tryz.prog 79 #[.pointer (some ⟨b, 0, none⟩)] w fun e w' => ∃ es, e = .returned (.agg es) ∧ NK (fun i => w.heap.size ≤ i) w' es n0 ∧ Sp W b r0 w w')
  (C : ∀ ts' u, ts'.length ≤ r0.length → PR W b ts' u → Calls Tryz.prog 79 #[.pointer (some ⟨b, 0, none⟩)] u (PO W b u (PP 1 ts'))) :
  Calls Tryz.prog 282 #[.pointer (some ⟨b, 0, none⟩)] w (AO W b w ((cB (PP 1) (r0.length + 1) [n0] r0).bind fun q => if q.1.length ≤ 16 then some q else none)) := by
 have SK : Calls Tryz.prog 257 #[.pointer (some ⟨b, 0, none⟩), .string ⟨#[41]⟩] w fun e w' => e = .returned (.bool false) ∧ w' = w := fH X (by omega) [41] h
 have hb := X.lt
 have C0' : Calls Tryz.prog 79 #[.pointer (some ⟨b, 0, none⟩)] w fun e w1 => ∃ es, e = .returned (.agg es) ∧ Hid ((Instr.buildSlice 26 1 #[(0, .agg es)]).run Tryz.prog w1 = .ok (.slice (some ⟨w1.heap.size, 0, none⟩) 1 1) (w1.alloc (.cells es 28))) ∧
   Hid (eO w.heap.size (w1.alloc (.cells es 28)) (.slice (some ⟨w1.heap.size, 0, none⟩) 1 1) [(es, n0)]) ∧ Hid (NK (fun i => w.heap.size ≤ i ∧ i ≠ w1.heap.size) (w1.alloc (.cells es 28)) es n0) ∧ Hid (Sp W b r0 w (w1.alloc (.cells es 28))) := C0.mono (by
  rintro e w1 ⟨es, rfl, h1, h2⟩
  refine ⟨es, rfl, ?_, zR h1 h2.2.size, ?_, h2.alloc _⟩
  ·obtain ⟨p, n, c, e, _⟩ := h1
   show _ = _
   rw [e]; exact iO _ _ _ _ _
  ·exact NK.below (K := fun i => w.heap.size ≤ i ∧ i ≠ w1.heap.size) (h1.mono (fun i hi hl => ⟨hi, by omega⟩)) (aA (Below.refl _ _) (.cells es 28)))
 clear C0 X h
 generalize ho : cB (PP 1) (r0.length + 1) [n0] r0 = o
 have HO : Hid (cB (PP 1) (r0.length + 1) [n0] r0 = o) := ho
 have HC : Hid (∀ ts' u, ts'.length ≤ r0.length → PR W b ts' u → Calls Tryz.prog 79 #[.pointer (some ⟨b, 0, none⟩)] u (PO W b u (PP 1 ts'))) := C
 clear ho C
 go_enter Tryz.func282, Tryz.ntmps282
 go_wp2_with (first
  | (go_at_call 257; refine SK.mono ?_; rintro e w1 ⟨rfl, hs⟩; obtain rfl := hs.symm; clear hs)
  | (go_at_call 79; refine C0'.mono ?_; rintro e w1 ⟨es0, rfl, RB0, HO0, HN0, HS0⟩)
  | (refine aT rfl 26 1 _ rfl _ _ _ (by go_simp) RB0.out ?_))
 clear C0' SK
 try simp only [Act.put, List.setIfInBounds_toArray, List.set_cons_zero, List.set_cons_succ]
 obtain ⟨g1, hg1⟩ : ∃ g1, w1.heap.size = g1 := ⟨_, rfl⟩
 rw [hg1] at HO0 HN0
 simp only [hg1]
 clear hg1 RB0
 go_loopw [3] (fun v wr => ∃ (L : List (Array Value × T)) (r : List Tk.Tok), Hid (cB (PP 1) (r.length + 1) (L.map (·.2)) r = o) ∧ L.length + r.length ≤ 256 ∧ r.length ≤ r0.length ∧ Hid (eO w.heap.size wr v L) ∧ Hid (∀ x ∈ L, NK (fun i => w.heap.size ≤ i ∧ v.ownBlock ≠ some i) wr x.1 x.2) ∧ Hid (Sp W b r w wr)) (fun _ wr => zQ b wr)
 case atStart => exact ⟨[(es0, n0)], r0, HO, by simp; omega, Nat.le_refl _, HO0, by
  show ∀ x ∈ _, _
  intro x hx
  simp only [List.mem_cons, List.not_mem_nil, or_false] at hx
  subst hx
  exact HN0.out.mono (fun i hi _ => ⟨hi.1, by simp only [Value.ownBlock]; intro e; exact hi.2 (Option.some.inj e).symm⟩), HS0⟩
 case round =>
  obtain ⟨L, r, HL, hlen, hr, HW, HN, HS⟩ := hrel
  clear HO HO0 HN0 HS0
  have hleft := HS.out.1.left
  obtain ⟨a, c, hv⟩ := fU HW.out
  subst hv
  by_cases h41 : bE r = [41]
  ·have SK : Calls Tryz.prog 257 #[.pointer (some ⟨b, 0, none⟩), .string ⟨#[41]⟩] wr fun e w' => e = .returned (.bool true) ∧ Sp W b r.tail wr w' := dR HS.out.1 (by omega) [41] (by decide) h41
   have HQ : Hid (o = some (L.map (·.2), r.tail)) := by show _ = _; rw [← HL.out]; exact aA5 h41
   have SK2 : Calls Tryz.prog 257 #[.pointer (some ⟨b, 0, none⟩), .string ⟨#[41]⟩] wr fun e w' => e = .returned (.bool true) ∧ Hid (Sp W b r.tail w w') ∧ Hid (L = [] ∨ ∃ a', a = some a' ∧ InK (fun i => w.heap.size ≤ i) w' a' (mk (L.map (·.2)))) := SK.mono (by
    rintro e w' ⟨rfl, h⟩
    have hob := aCa HW.out hb
    refine ⟨rfl, HS.out.step h, aFq (fV HW.out h.2 hob) (fun x hx => (((HN.out x hx).grown h.2 (fun g e hk => by cases e; have := hk.1; omega)).mono (fun i hi _ => hi.1))) (fun g hg => ?_)⟩
    exact (World.ownsRow.lt HW.out g hg).1)
   clear SK HL hleft HN HW
   generalize hrr : r.tail = r' at *
   clear hrr
   by_cases h16 : L.length ≤ 16
   ·have aKY : ¬ (16 : Int) < (L.length : Int) := by omega
    go_wp2_with (go_at_call 257; refine SK2.mono ?_; rintro e w2 ⟨rfl, HS2, HI⟩)
    go_ret
    rw [HQ.out]
    simp only [Option.bind_some, List.length_map, if_pos h16]
    exact ⟨a, L.length, c, rfl, by simp, HI.out.imp (fun e => by rw [e]; rfl) id, HS2.out⟩
   ·have aKY : (16 : Int) < (L.length : Int) := by omega
    go_wp2_with (go_at_call 257; refine SK2.mono ?_; rintro e w2 ⟨rfl, HS2, HI⟩)
    refine ⟨rfl, ?_⟩
    rw [HQ.out]
    simp only [Option.bind_some, List.length_map, if_neg h16]
    exact ⟨rfl, HS2.out.2⟩
  ·have SK : Calls Tryz.prog 257 #[.pointer (some ⟨b, 0, none⟩), .string ⟨#[41]⟩] wr fun e w' => e = .returned (.bool false) ∧ w' = wr := fH HS.out.1 (by omega) [41] h41
   by_cases h44 : bE r = [44]
   ·have MU : Calls Tryz.prog 277 #[.pointer (some ⟨b, 0, none⟩), .string ⟨#[44]⟩] wr fun e w' => e = .returned (.tuple #[]) ∧ Sp W b r.tail wr w' := zP HS.out.1 (by omega) [44] (by decide) h44
    have hrt := (bA (ts := r) h44 (by decide)).1
    have HQ : Hid (o = (PP 1 r.tail).bind fun p => cB (PP 1) (p.2.length + 1) (L.map (·.2) ++ [p.1]) p.2) := by show _ = _; rw [← HL.out]; exact aA6 h41 h44
    have C1 := fun u hu => HC.out r.tail u (by omega) hu
    clear HL h41 h44
    generalize hrr : r.tail = r' at *
    clear hrr
    cases hP : PP 1 r' with
    | none =>
     rw [hP] at C1 HQ
     have HQ2 : Hid (o = none) := HQ.out
     have C1' : ∀ u, PR W b r' u → Calls Tryz.prog 79 #[.pointer (some ⟨b, 0, none⟩)] u fun e w' => e = .panicked bQ ∧ u.grownBy w' (some b) := C1
     clear C1 HQ hP HC
     go_wp2_with (first
      | (go_at_call 257; refine SK.mono ?_; rintro e w1 ⟨rfl, hs⟩; obtain rfl := hs.symm; clear hs)
      | (go_at_call 277; refine MU.mono ?_; rintro e w2 ⟨rfl, hs⟩; have HS2 : Hid (Sp W b r' wr w2) := hs; clear hs)
      | (go_at_call 79; refine (C1' _ HS2.out.1).mono ?_; rintro e w3 ⟨rfl, hg⟩))
     refine ⟨rfl, ?_⟩
     rw [HQ2.out]
     exact ⟨rfl, aM HS.out.2 (aM HS2.out.2 hg)⟩
    | some p =>
     obtain ⟨m, r2⟩ := p
     have hr2 := jP upF trF (by omega) _ m r2 hP
     rw [hP] at C1 HQ
     have HQ2 : Hid (cB (PP 1) (r2.length + 1) ((L.map (·.2)) ++ [m]) r2 = o) := HQ.out.symm
     have C1' : ∀ u, Sp W b r' wr u → Calls Tryz.prog 79 #[.pointer (some ⟨b, 0, none⟩)] u fun e w3 => ∃ es2 v' w5, e = .returned (.agg es2) ∧
       Hid ((Instr.buildSlice 26 1 #[(0, .agg es2)]).run Tryz.prog w3 = .ok (.slice (some ⟨w3.heap.size, 0, none⟩) 1 1) (w3.alloc (.cells es2 28))) ∧
       Hid ((Builtin.append_ #[26, 26] 26 #[.slice a L.length c, .slice (some ⟨w3.heap.size, 0, none⟩) 1 1]).run Tryz.prog (w3.alloc (.cells es2 28)) = .ok v' w5) ∧
       Hid (eO w.heap.size w5 v' (L ++ [(es2, m)])) ∧ Hid (∀ x ∈ L ++ [(es2, m)], NK (fun i => w.heap.size ≤ i ∧ v'.ownBlock ≠ some i) w5 x.1 x.2) ∧ Hid (Sp W b r2 w w5) := fun u hu => (C1 u hu.1).mono (by
      rintro e w3 ⟨es2, rfl, h1, h2⟩
      have hS3 : Sp W b r2 wr w3 := hu.step h2
      have hob := aCa HW.out hb
      have hW3 := fV (fV HW.out hS3.2 hob) (World.grownBy_alloc w3 (.cells es2 28) none) (by cases (Value.slice a L.length c).ownBlock <;> simp)
      have hbs : w.heap.size ≤ w3.heap.size := (HS.out.step hS3).2.size
      obtain ⟨v', w5, R, o5, g5, g6⟩ := zS (K' := fun _ => True) hW3 h1 (g := w3.heap.size) (heap_alloc_new _ _) (by omega) (by simp; omega)
      have aJT : ∀ g, (Value.slice a L.length c).ownBlock = some g → w.heap.size ≤ g ∧ g < wr.heap.size := fun g hg => World.ownsRow.lt HW.out g hg
      refine ⟨es2, v', w5, rfl, ?_, R, o5, fun x hx => ?_, ?_⟩
      ·obtain ⟨p, n, c, e, _⟩ := h1
       show _ = _
       rw [e]; exact iO _ _ _ _ _
      ·have hzu : wr.heap.size ≤ u.heap.size := hu.2.size
       have hzw : u.heap.size ≤ w3.heap.size := h2.2.size
       have base : NK (fun i => w.heap.size ≤ i ∧ (Value.slice a L.length c).ownBlock ≠ some i ∧ i < w3.heap.size) (w3.alloc (.cells es2 28)) x.1 x.2 := by
        refine NK.below ?_ (aA (Below.refl _ _) _)
        rcases List.mem_append.1 hx with hx | hx
        ·exact ((HN.out x hx).grown hS3.2 (fun g e hk => by cases e; have := hk.1; omega)).mono (fun i hi hl => ⟨hi.1, hi.2, hl⟩)
        ·simp only [List.mem_cons, List.not_mem_nil, or_false] at hx
         subst hx
         exact h1.mono (fun i hi hl => ⟨by have := HS.out.2.size; omega, fun e => by have := (aJT i e).2; omega, hl⟩)
       refine (base.grown g5 (fun g e hk => hk.2.1 e)).mono (fun i hi _ => ⟨hi.1, fun e => ?_⟩)
       rcases g6 with g6 | g6
       ·exact hi.2.1 (by rw [← g6]; exact e)
       ·rw [g6] at e
        have := Option.some.inj e
        have := hi.2.2
        simp at *
        omega
      ·have := (HS.out.step hS3).alloc (.cells es2 28)
       cases hvb : (Value.slice a L.length c).ownBlock with
       | none =>
        rw [hvb] at g5
        exact ⟨this.1.grown g5 (fun k e => by cases e), World.grownBy.andThen this.2 g5 (fun j e => by cases e)⟩
       | some g =>
        rw [hvb] at g5
        exact this.grown g5 (aJT g hvb).1 hb)
     clear C1 HQ hP HC HN
     have HLE : Hid ((L ++ [((#[] : Array Value), m)]).length = L.length + 1) := by show _ = _; simp
     go_wp2_with (first
      | (go_at_call 257; refine SK.mono ?_; rintro e w1 ⟨rfl, hs⟩; obtain rfl := hs.symm; clear hs)
      | (go_at_call 277; refine MU.mono ?_; rintro e w2 ⟨rfl, hs⟩; have HS2 : Hid (Sp W b r' wr w2) := hs; clear hs)
      | (go_at_call 79; refine (C1' _ HS2.out).mono ?_; rintro e w3 ⟨es2, v', w5, rfl, RB, RA, HO5, HN5, HS5⟩)
      | (refine aT rfl 26 1 _ rfl _ _ _ (by go_simp) RB.out ?_)
      | (at_builtin; refine wpList_append_run rfl _ _ 26 rfl _ _ _ _ rfl rfl RA.out ?_))
     go_roundw
     case rel => exact ⟨L ++ [(es2, m)], r2, by show _ = _; rw [List.map_append]; exact HQ2.out, by simp; omega, by omega, HO5, HN5, HS5⟩
     case measure => rw [HS5.out.1.left, hleft]; omega
   ·have MU : Calls Tryz.prog 277 #[.pointer (some ⟨b, 0, none⟩), .string ⟨#[44]⟩] wr fun e w' => e = .panicked bQ ∧ w' = wr := aB9 HS.out.1 (by omega) [44] h44
    have HQ : Hid (o = none) := by show _ = _; rw [← HL.out]; exact aFr h41 h44
    clear HL h41 h44
    go_wp2_with (first
     | (go_at_call 257; refine SK.mono ?_; rintro e w1 ⟨rfl, hs⟩; obtain rfl := hs.symm; clear hs)
     | (go_at_call 277; refine MU.mono ?_; rintro e w2 ⟨rfl, hs⟩; obtain rfl := hs.symm; clear hs))
    refine ⟨rfl, ?_⟩
    rw [HQ.out]
    exact ⟨rfl, HS.out.2⟩
def aFt (x : Ad.Ref) (r : List Tk.Tok) : Option (T × List Tk.Tok) :=
 if bE r = [58] then (match r.tail with
   | .inr (.inr (.inl y)) :: q => if y.sheet = [] then some (tree (aJR x y) [], q) else none
   | _ => none) else some (tree (aJQ x) [], r)
theorem aIr : (Tryz.prog.info? 25).map (·.size) = some 6 := by kernel_rfl
section
variable {W w : World} {b : Nat} {b1 h1 : ByteArray} {r1 c1 : Int} {fr1 fc1 : Bool}
abbrev cw (w : World) (b1 h1 : ByteArray) (r1 c1 : Int) (fr1 fc1 : Bool) : World := (w.alloc (.cells #[.string b1, .string h1, .int .i64 r1, .int .i64 c1, .bool fr1, .bool fc1] 25)).alloc (.cells nd0 28)
theorem aFu {L : List Tk.Tok} {u : World} (hb : b < w.heap.size) (h : Sp W b L (cw w b1 h1 r1 c1 fr1 fc1) u) (a : Lab) :
  Hid ((Instr.storeAt 28 (.pointer (some ⟨w.heap.size + 1, 0, none⟩)) (.agg (lcs a (.slice none 0 0)))).run Tryz.prog u = .ok () (u.setRow (w.heap.size + 1) (lcs a (.slice none 0 0)))) ∧ Hid (u.heap[w.heap.size + 1]? = some (.cells nd0 28)) ∧
  Hid (Sp W b L w (u.setRow (w.heap.size + 1) (lcs a (.slice none 0 0)))) ∧ Hid ((Instr.loadAt 25 (.pointer (some ⟨w.heap.size, 0, none⟩))).run Tryz.prog u = .ok (.agg #[.string b1, .string h1, .int .i64 r1, .int .i64 c1, .bool fr1, .bool fc1]) u) := by
 have e1 : (cw w b1 h1 r1 c1 fr1 fc1).heap[w.heap.size + 1]? = some (.cells nd0 28) := by
  have := heap_alloc_new (w.alloc (.cells #[.string b1, .string h1, .int .i64 r1, .int .i64 c1, .bool fr1, .bool fc1] 25)) (.cells nd0 28)
  simpa using this
 have e0 : (cw w b1 h1 r1 c1 fr1 fc1).heap[w.heap.size]? = some (.cells #[.string b1, .string h1, .int .i64 r1, .int .i64 c1, .bool fr1, .bool fc1] 25) := (Below.heap_alloc _ _ _ (by simp)).trans (heap_alloc_new w _)
 have k1 := h.kept e1 (by omega)
 have k0 := h.kept e0 (by omega)
 exact ⟨jC k1 rfl a none 0 0, k1, (h.jB.jB).grown (aC _ _ _) (by omega) hb, lod k0 rfl Tryz.underlying25 aIr⟩
theorem cells_one {L : List Tk.Tok} (hn : L.length ≤ 256) (h : bE L ≠ [58]) (X : PR W b L w) : Calls Tryz.prog 280 #[.pointer (some ⟨b, 0, none⟩), .agg #[.string b1, .string h1, .int .i64 r1, .int .i64 c1, .bool fr1, .bool fc1]] w fun e w' => e = .returned (.agg (lcs ⟨2, nb, 0, 0, nb, b1, h1, r1, c1, fr1, fc1, nb, nb, 0, 0, false, false⟩ (.slice none 0 0))) ∧ Sp W b L w w' := by
 have hb := X.lt
 have X2 := (X.alloc (.cells #[.string b1, .string h1, .int .i64 r1, .int .i64 c1, .bool fr1, .bool fc1] 25)).alloc (.cells nd0 28)
 have SK : Calls Tryz.prog 257 #[.pointer (some ⟨b, 0, none⟩), .string ⟨#[58]⟩] (cw w b1 h1 r1 c1 fr1 fc1) fun e w' => e = .returned (.bool false) ∧ w' = cw w b1 h1 r1 c1 fr1 fc1 := fH X2 (by omega) [58] h
 obtain ⟨RS, HG, HF, RL⟩ := aFu hb (Sp.refl X2) ⟨2, nb, 0, 0, nb, b1, h1, r1, c1, fr1, fc1, nb, nb, 0, 0, false, false⟩
 clear X X2 h
 obtain ⟨w2, hw2⟩ : ∃ w2, cw w b1 h1 r1 c1 fr1 fc1 = w2 := ⟨_, rfl⟩
 rw [hw2] at SK RS HG HF RL
 go_enter Tryz.func280, Tryz.ntmps280
 go_wp2_with (first
  | (go_at_call 257; refine SK.mono ?_; rintro e w1 ⟨rfl, hs⟩; obtain rfl := hs.symm; clear hs)
  | (refine aB rfl 25 _ rfl _ _ rfl RL.out ?_)
  | (refine aD rfl 28 _ _ rfl _ _ _ rfl rfl RS.out ?_))
 exact bodyPost_ret (bP HG.out (aV _ _) rfl rfl) rfl ⟨rfl, HF.out⟩
theorem aDa {L : List Tk.Tok} (hn : L.length ≤ 256) (h : bE L = [58]) (hL : L.tail = []) (X : PR W b L w) : Calls Tryz.prog 280 #[.pointer (some ⟨b, 0, none⟩), .agg #[.string b1, .string h1, .int .i64 r1, .int .i64 c1, .bool fr1, .bool fc1]] w fun e w' => e = .panicked bQ ∧ w.grownBy w' (some b) := by
 have X2 := (X.alloc (.cells #[.string b1, .string h1, .int .i64 r1, .int .i64 c1, .bool fr1, .bool fc1] 25)).alloc (.cells nd0 28)
 have SK : Calls Tryz.prog 257 #[.pointer (some ⟨b, 0, none⟩), .string ⟨#[58]⟩] (cw w b1 h1 r1 c1 fr1 fc1) fun e w' => e = .returned (.bool true) ∧ Sp W b L.tail (cw w b1 h1 r1 c1 fr1 fc1) w' := dR X2 (by omega) [58] (by decide) h
 have HG : Hid (w.grownBy (cw w b1 h1 r1 c1 fr1 fc1) (some b)) := aM (World.grownBy_alloc _ _ _) (World.grownBy_alloc _ _ _)
 rw [hL] at SK
 clear X X2 h
 obtain ⟨w2, hw2⟩ : ∃ w2, cw w b1 h1 r1 c1 fr1 fc1 = w2 := ⟨_, rfl⟩
 rw [hw2] at SK HG
 go_enter Tryz.func280, Tryz.ntmps280
 go_wp2_with (first
  | (go_at_call 257; refine SK.mono ?_; rintro e w1 ⟨rfl, hs⟩; have HS : Hid (Sp W b [] w2 w1) := hs; clear hs)
  | (go_at_call 157; refine (take_nil HS.out.1).mono ?_; rintro e w3 ⟨rfl, hg⟩))
 exact ⟨rfl, rfl, aM HG.out (aM HS.out.2 hg)⟩
theorem aDb {L q : List Tk.Tok} {t : Tk.Tok} (hn : L.length ≤ 256) (h : bE L = [58]) (hL : L.tail = t :: q) (hk : (tk t).k = 3) (hs : (tk t).h.toList = []) (X : PR W b L w) : Calls Tryz.prog 280 #[.pointer (some ⟨b, 0, none⟩), .agg #[.string b1, .string h1, .int .i64 r1, .int .i64 c1, .bool fr1, .bool fc1]] w fun e w' =>
  e = .returned (.agg (lcs ⟨3, nb, 0, 0, nb, b1, h1, r1, c1, fr1, fc1, (tk t).b, (tk t).h, (tk t).r, (tk t).c, (tk t).fr, (tk t).fc⟩ (.slice none 0 0))) ∧ Sp W b q w w' := by
 have hb := X.lt
 have hlt := (bA (ts := L) h (by decide)).1
 have hq : q.length ≤ 255 := by rw [hL] at hlt; simp at hlt; omega
 have X2 := (X.alloc (.cells #[.string b1, .string h1, .int .i64 r1, .int .i64 c1, .bool fr1, .bool fc1] 25)).alloc (.cells nd0 28)
 have SK : Calls Tryz.prog 257 #[.pointer (some ⟨b, 0, none⟩), .string ⟨#[58]⟩] (cw w b1 h1 r1 c1 fr1 fc1) fun e w' => e = .returned (.bool true) ∧ Sp W b L.tail (cw w b1 h1 r1 c1 fr1 fc1) w' := dR X2 (by omega) [58] (by decide) h
 rw [hL] at SK
 have HG0 : Hid (w.grownBy (cw w b1 h1 r1 c1 fr1 fc1) (some b)) := aM (World.grownBy_alloc _ _ _) (World.grownBy_alloc _ _ _)
 have TK : ∀ u, Sp W b (t :: q) (cw w b1 h1 r1 c1 fr1 fc1) u → Calls Tryz.prog 157 #[.pointer (some ⟨b, 0, none⟩)] u fun e w' => e = .returned (.agg (tcs (tk t).k (tk t).n (tk t).s (tk t).b (tk t).h (tk t).r (tk t).c (tk t).fr (tk t).fc)) ∧ Hid (Sp W b q (cw w b1 h1 r1 c1 fr1 fc1) w') := fun u hu => (take_cons hu.1 hq).mono (by
  rintro e w' ⟨rfl, h2⟩
  exact ⟨rfl, hu.step h2⟩)
 have FIN := fun u (hu : Sp W b q (cw w b1 h1 r1 c1 fr1 fc1) u) => aFu hb hu ⟨3, nb, 0, 0, nb, b1, h1, r1, c1, fr1, fc1, (tk t).b, (tk t).h, (tk t).r, (tk t).c, (tk t).fr, (tk t).fc⟩
 clear X X2 h hL
 generalize tk t = tt at *
 obtain ⟨k, n, s, bk, hh, r, c, fr, fc⟩ := tt
 dsimp only at TK FIN hk hs ⊢
 subst hk
 have hsb : hh.toList.isEmpty = true := by rw [hs]; rfl
 obtain ⟨w2, hw2⟩ : ∃ w2, cw w b1 h1 r1 c1 fr1 fc1 = w2 := ⟨_, rfl⟩
 rw [hw2] at SK HG0
 simp only [hw2] at TK FIN
 clear hs
 go_enter Tryz.func280, Tryz.ntmps280
 go_wp2_with (first
  | (go_at_call 257; refine SK.mono ?_; rintro e w1 ⟨rfl, hs⟩; have HS : Hid (Sp W b (t :: q) w2 w1) := hs; clear hs)
  | (go_at_call 157; refine (TK _ HS.out).mono ?_; rintro e w3 ⟨rfl, HS3⟩; obtain ⟨RS, HG, HF, RL⟩ := FIN _ (HS3.out.alloc (.cells (tcs 3 n s bk hh r c fr fc) 123)))
  | (refine aB rfl 25 _ rfl _ _ rfl RL.out ?_)
  | (refine aD rfl 28 _ _ rfl _ _ _ rfl rfl RS.out ?_))
 exact bodyPost_ret (bP HG.out (aV _ _) rfl rfl) rfl ⟨rfl, HF.out⟩
theorem aDc {L q : List Tk.Tok} {t : Tk.Tok} (hn : L.length ≤ 256) (h : bE L = [58]) (hL : L.tail = t :: q) (hk : (tk t).k ≠ 3 ∨ ((tk t).k = 3 ∧ ¬ (tk t).h.toList = [])) (X : PR W b L w) : Calls Tryz.prog 280 #[.pointer (some ⟨b, 0, none⟩), .agg #[.string b1, .string h1, .int .i64 r1, .int .i64 c1, .bool fr1, .bool fc1]] w fun e w' => e = .panicked bQ ∧ w.grownBy w' (some b) := by
 have hlt := (bA (ts := L) h (by decide)).1
 have hq : q.length ≤ 255 := by rw [hL] at hlt; simp at hlt; omega
 have X2 := (X.alloc (.cells #[.string b1, .string h1, .int .i64 r1, .int .i64 c1, .bool fr1, .bool fc1] 25)).alloc (.cells nd0 28)
 have SK : Calls Tryz.prog 257 #[.pointer (some ⟨b, 0, none⟩), .string ⟨#[58]⟩] (cw w b1 h1 r1 c1 fr1 fc1) fun e w' => e = .returned (.bool true) ∧ Sp W b L.tail (cw w b1 h1 r1 c1 fr1 fc1) w' := dR X2 (by omega) [58] (by decide) h
 rw [hL] at SK
 have HG0 : Hid (w.grownBy (cw w b1 h1 r1 c1 fr1 fc1) (some b)) := aM (World.grownBy_alloc _ _ _) (World.grownBy_alloc _ _ _)
 have TK : ∀ u, Sp W b (t :: q) (cw w b1 h1 r1 c1 fr1 fc1) u → Calls Tryz.prog 157 #[.pointer (some ⟨b, 0, none⟩)] u fun e w' => e = .returned (.agg (tcs (tk t).k (tk t).n (tk t).s (tk t).b (tk t).h (tk t).r (tk t).c (tk t).fr (tk t).fc)) ∧ Hid (Sp W b q (cw w b1 h1 r1 c1 fr1 fc1) w') := fun u hu => (take_cons hu.1 hq).mono (by
  rintro e w' ⟨rfl, h2⟩
  exact ⟨rfl, hu.step h2⟩)
 clear X X2 h hL
 generalize tk t = tt at *
 obtain ⟨k, n, s, bk, hh, r, c, fr, fc⟩ := tt
 dsimp only at TK hk ⊢
 obtain ⟨w2, hw2⟩ : ∃ w2, cw w b1 h1 r1 c1 fr1 fc1 = w2 := ⟨_, rfl⟩
 rw [hw2] at SK HG0
 simp only [hw2] at TK
 rcases hk with hk | ⟨rfl, hs⟩
 ·have hkb : (k != 3) = true := by simpa using hk
  clear hk
  go_enter Tryz.func280, Tryz.ntmps280
  go_wp2_with (first
   | (go_at_call 257; refine SK.mono ?_; rintro e w1 ⟨rfl, hs⟩; have HS : Hid (Sp W b (t :: q) w2 w1) := hs; clear hs)
   | (go_at_call 157; refine (TK _ HS.out).mono ?_; rintro e w3 ⟨rfl, HS3⟩))
  exact ⟨rfl, rfl, aM HG0.out (HS3.out.alloc _).2⟩
 ·have hsb : hh.toList.isEmpty = false := by
   cases hx : hh.toList with
   | nil => exact absurd hx hs
   | cons _ _ => rfl
  clear hs
  go_enter Tryz.func280, Tryz.ntmps280
  go_wp2_with (first
   | (go_at_call 257; refine SK.mono ?_; rintro e w1 ⟨rfl, hs⟩; have HS : Hid (Sp W b (t :: q) w2 w1) := hs; clear hs)
   | (go_at_call 157; refine (TK _ HS.out).mono ?_; rintro e w3 ⟨rfl, HS3⟩))
  exact ⟨rfl, rfl, aM HG0.out (HS3.out.alloc _).2⟩
end
theorem aDd {W w : World} {b : Nat} (x : Ad.Ref) {L : List Tk.Tok} (hn : L.length ≤ 256) (X : PR W b L w) : Calls Tryz.prog 280 #[.pointer (some ⟨b, 0, none⟩), bC (ba x.book) (ba x.sheet) x.cell.row x.cell.col x.cell.fr x.cell.fc] w (PO W b w (aFt x L)) := by
 unfold aFt
 by_cases h : bE L = [58]
 ·rw [if_pos h]
  cases hL : L.tail with
  | nil => exact aDa hn h hL X
  | cons t q =>
   have no : ((tk t).k ≠ 3 ∨ ((tk t).k = 3 ∧ ¬ (tk t).h.toList = [])) → Calls Tryz.prog 280 #[.pointer (some ⟨b, 0, none⟩), bC (ba x.book) (ba x.sheet) x.cell.row x.cell.col x.cell.fr x.cell.fc] w (PO W b w none) := fun hne => aDc hn h hL hne X
   cases t using Tk.Tok.cs with
   | ref y =>
    simp only
    by_cases hy : y.sheet = []
    ·rw [if_pos hy]
     refine (aDb hn h hL rfl (by rw [ByteArray.toList_eq]; exact hy) X).mono ?_
     rintro e w' ⟨rfl, h⟩
     exact ⟨_, rfl, NK.leaf, h⟩
    ·rw [if_neg hy]
     exact no (.inr ⟨rfl, fun e => hy (by rw [ByteArray.toList_eq] at e; exact e)⟩)
   | num n => exact no (.inl (by simp [tk]))
   | str n => exact no (.inl (by simp [tk]))
   | word n m => exact no (.inl (by simp [tk]))
   | op n => exact no (.inl (by simp [tk]))
   | bad n => exact no (.inl (by simp [tk]))
 ·rw [if_neg h]
  refine (cells_one hn h X).mono ?_
  rintro e w' ⟨rfl, h⟩
  exact ⟨_, rfl, NK.leaf, h⟩
end Go.Proofs.YtljmklbbngpllaaGreatDoor
