/- NmRRem, RPar1, RPar2. -/
import Derived.Test.YtlndkjcincflpaaGreatDoorNmOpenX
import Derived.Test.YtlndkjcincflpaaGreatDoorFAllX
set_option linter.unusedVariables false
set_option linter.unusedSimpArgs false
namespace Go.Proofs.YtlndkjcincflpaaGreatDoor
open Go.RowKit Go.Nm
set_option maxRecDepth 100000
theorem rem_len (x : NM) (L : List NM) : (remR x L).length ≤ L.length := List.length_filter_le _ _
set_option maxHeartbeats 8000000 in
theorem rrem_none (L : List NM) (s nm : ByteArray) (hn : L.length ≤ 900) (w : World) (p : Option Addr) (m c : Nat) (h : Rds w p m L) (hf : findK ⟨s, nm, ⟨#[]⟩⟩ L = none) :
    Calls Tryz.prog 13 #[.slice p m c, .string s, .string nm] w fun e w' => OutM w.heap.size w' e [] 6 ∧ Below w.heap.size w w' := by
  have C := rfind_any L s nm (by omega) w p m c h
  rw [hf] at C
  clear h hf
  go_enter Tryz.func13, Tryz.ntmps13
  go_wp2_with (first
    | (go_at_call 18; refine C.mono ?_; rintro e w1 ⟨rfl, hb⟩; unfold fndV fnd; have RS : Hid _ := mbox w1 nm0; have HB1 : Hid (Below w.heap.size w (w1.alloc (nmO nm0))) := bel_alloc hb _; clear hb)
    | (refine nl_store rfl 24 _ _ rfl _ _ _ rfl rfl RS.out ?_; clear RS))
  go_ret2
  exact ⟨⟨_, rfl, OwnM.nil _ _⟩, HB1.out⟩
set_option maxHeartbeats 8000000 in
theorem rrem_some (L : List NM) (s nm : ByteArray) (hn : L.length ≤ 900) (w : World) (p : Option Addr) (m c : Nat) (h : Rds w p m L) (y0 : NM) (hf : findK ⟨s, nm, ⟨#[]⟩⟩ L = some y0) :
    Calls Tryz.prog 13 #[.slice p m c, .string s, .string nm] w fun e w' => OutM w.heap.size w' e (remR ⟨s, nm, ⟨#[]⟩⟩ L) 0 ∧ Below w.heap.size w w' := by
  have C := rfind_any L s nm (by omega) w p m c h
  rw [hf] at C
  have HR : Hid (Rds w p m L) := h
  have HN : Hid (m = L.length) := h.1
  have hn2 : m ≤ 900 := by rw [h.1]; exact hn
  clear h hf hn
  go_enter Tryz.func13, Tryz.ntmps13
  go_wp2_with (first
    | (go_at_call 18; refine C.mono ?_; rintro e w1 ⟨rfl, hb⟩; unfold fndV fnd; have RS : Hid _ := mbox w1 y0; have HB1 : Hid (Below w.heap.size w (w1.alloc (nmO y0))) := bel_alloc hb _; clear hb)
    | (refine nl_store rfl 24 _ _ rfl _ _ _ rfl rfl RS.out ?_; clear RS))
  clear C
  go_loopw [10, 24] (fun v i wr => ∃ (k : Nat), k ≤ m ∧ i = .int .i64 (k : Nat) ∧ Hid (OwnM w.heap.size wr v (remR ⟨s, nm, ⟨#[]⟩⟩ (L.take k))) ∧ Hid (Below w.heap.size w wr)) (fun _ i _ => m - (intOf i).toNat)
  case atStart => exact ⟨0, Nat.zero_le _, rfl, OwnM.nil _ _, HB1⟩
  case round =>
    clear HB1
    obtain ⟨k, hk, rfl, HW, HB⟩ := hrel
    by_cases hlt : k < m
    · have hki : (k : Int) < m := by omega
      have hkL : k < L.length := by rw [← HN.out]; exact hlt
      obtain ⟨a', rfl, RL⟩ := (HR.out.below HB.out).load hkL
      have RLh : Hid _ := RL
      have RS : Hid _ := mbox wr L[k]
      have hcc := n_cells (heap_alloc_new wr (nmO L[k]))
      have RL2 : Hid _ := nload (heap_alloc_new wr (nmO L[k]))
      have HBa : Hid (Below w.heap.size w (wr.alloc (nmO L[k]))) := bel_alloc HB.out _
      have hlen : (remR ⟨s, nm, ⟨#[]⟩⟩ (L.take k)).length ≤ 1000 := by have := rem_len ⟨s, nm, ⟨#[]⟩⟩ (L.take k); rw [List.length_take] at this; omega
      obtain ⟨va, vc, rfl, _⟩ := HW.out.slice
      have HT : Hid (remR ⟨s, nm, ⟨#[]⟩⟩ (L.take (k + 1)) = remR ⟨s, nm, ⟨#[]⟩⟩ (L.take k) ++ if decide (cmpK L[k] ⟨s, nm, ⟨#[]⟩⟩ ≠ 0) = true then [L[k]] else []) := filter_take hkL
      clear RL
      generalize L[k] = y at *
      obtain ⟨ys, yn, yt⟩ := y
      by_cases e1 : ys.toList = s.toList
      · by_cases e2 : yn.toList = nm.toList
        · have e1b : (ys.toList == s.toList) = true := by simpa using e1
          have e2b : (yn.toList == nm.toList) = true := by simpa using e2
          have HT2 : Hid (remR ⟨s, nm, ⟨#[]⟩⟩ (L.take (k + 1)) = remR ⟨s, nm, ⟨#[]⟩⟩ (L.take k)) := by show _ = _; rw [HT.out, if_neg (by simp [cmpK_zero, e1, e2])]; simp
          have HWa : Hid (OwnM w.heap.size (wr.alloc (nmO ⟨ys, yn, yt⟩)) (.slice va (remR ⟨s, nm, ⟨#[]⟩⟩ (L.take k)).length vc) (remR ⟨s, nm, ⟨#[]⟩⟩ (L.take k))) := HW.out.below (bel_alloc (Below.refl _ _) _)
          clear e1 e2 HT HW RL2
          go_wp2_with (first
            | (refine nl_load rfl 24 _ rfl _ _ rfl RLh.out ?_; clear RLh)
            | (refine nl_store rfl 24 _ _ rfl _ _ _ rfl rfl RS.out ?_; clear RS))
          go_roundw
          case rel => exact ⟨k + 1, by omega, by go_num, by rw [HT2.out]; exact HWa, HBa⟩
          case measure => simp [intOf]; omega
        · have e1b : (ys.toList == s.toList) = true := by simpa using e1
          have e2b := beq_l e2
          have RB : Hid _ := nslice_box wr ⟨ys, yn, yt⟩
          obtain ⟨v', w', RA, o1, g1, b1⟩ := ownM_box HW.out ⟨ys, yn, yt⟩ (by omega) HB.out.size
          have HB2 : Hid (Below w.heap.size w w') := (bel_alloc HBa.out _).trans b1
          have HO2 : Hid (OwnM w.heap.size w' v' (remR ⟨s, nm, ⟨#[]⟩⟩ (L.take (k + 1)))) := by show OwnM _ _ _ _; rw [HT.out, if_pos (by simp [cmpK_zero, e1, e2])]; exact o1
          clear e1 e2 HT HW o1 g1 b1
          go_wp2_with (first
            | (refine nl_load rfl 24 _ rfl _ _ rfl RLh.out ?_; clear RLh)
            | (refine nl_store rfl 24 _ _ rfl _ _ _ rfl rfl RS.out ?_; clear RS)
            | (refine nl_load rfl 24 _ rfl _ _ rfl RL2.out ?_; clear RL2)
            | (refine nl_bslice rfl 22 1 _ rfl _ _ _ (by go_simp) RB.out ?_; clear RB)
            | (at_builtin; refine nl_append rfl _ _ 22 22 rfl _ _ _ _ rfl rfl RA.out ?_; clear RA))
          go_roundw
          case rel => exact ⟨k + 1, by omega, by go_num, HO2, HB2⟩
          case measure => simp [intOf]; omega
      · have e1b := beq_l e1
        have e2 : True := trivial
        have RB : Hid _ := nslice_box wr ⟨ys, yn, yt⟩
        obtain ⟨v', w', RA, o1, g1, b1⟩ := ownM_box HW.out ⟨ys, yn, yt⟩ (by omega) HB.out.size
        have HB2 : Hid (Below w.heap.size w w') := (bel_alloc HBa.out _).trans b1
        have HO2 : Hid (OwnM w.heap.size w' v' (remR ⟨s, nm, ⟨#[]⟩⟩ (L.take (k + 1)))) := by show OwnM _ _ _ _; rw [HT.out, if_pos (by simp [cmpK_zero, e1])]; exact o1
        clear e1 e2 HT HW o1 g1 b1
        go_wp2_with (first
          | (refine nl_load rfl 24 _ rfl _ _ rfl RLh.out ?_; clear RLh)
          | (refine nl_store rfl 24 _ _ rfl _ _ _ rfl rfl RS.out ?_; clear RS)
          | (refine nl_load rfl 24 _ rfl _ _ rfl RL2.out ?_; clear RL2)
          | (refine nl_bslice rfl 22 1 _ rfl _ _ _ (by go_simp) RB.out ?_; clear RB)
          | (at_builtin; refine nl_append rfl _ _ 22 22 rfl _ _ _ _ rfl rfl RA.out ?_; clear RA))
        go_roundw
        case rel => exact ⟨k + 1, by omega, by go_num, HO2, HB2⟩
        case measure => simp [intOf]; omega
    · have hki : ¬ (k : Int) < m := by omega
      have HE0 := HW.out
      rw [List.take_of_length_le (by rw [← HN.out]; omega)] at HE0
      have HE : Hid _ := HE0
      clear HE0
      go_wp2
      go_ret2
      exact ⟨⟨_, rfl, HE.out⟩, HB.out⟩
end Go.Proofs.YtlndkjcincflpaaGreatDoor

namespace Go.Proofs.YtlndkjcincflpaaGreatDoor
open Go.RowKit Go.Fm
set_option maxRecDepth 100000
abbrev rpO (v : Value) (x : Bool) : Obj := .cells #[v, .bool x] 120
structure QR (W : World) (b : Nat) (L : List Tk.Tok) (w : World) : Prop where
  tab : Tab9 W
  bel : Below W.heap.size W w
  lo : W.heap.size ≤ b
  ok : OkL L
  blk : ∃ v, w.heap[b]? = some (rpO v false) ∧ TS W v (L.map tk)
structure QW (W : World) (b : Nat) (w : World) : Prop where
  tab : Tab9 W
  bel : Below W.heap.size W w
  lo : W.heap.size ≤ b
  blk : w.heap[b]? = some (rpO (.slice none 0 0) true)
structure QB (W : World) (b : Nat) (w : World) : Prop where
  tab : Tab9 W
  bel : Below W.heap.size W w
  lo : W.heap.size ≤ b
  blk : ∃ v x, w.heap[b]? = some (rpO v x)
theorem QR.b {W w : World} {b : Nat} {L : List Tk.Tok} (h : QR W b L w) : QB W b w := by obtain ⟨v, h1, _⟩ := h.blk; exact ⟨h.tab, h.bel, h.lo, _, _, h1⟩
theorem QW.b {W w : World} {b : Nat} (h : QW W b w) : QB W b w := ⟨h.tab, h.bel, h.lo, _, _, h.blk⟩
theorem QB.lt {W w : World} {b : Nat} (h : QB W b w) : b < w.heap.size := by obtain ⟨v, x, h1⟩ := h.blk; exact lt_of h1
theorem QR.lt {W w : World} {b : Nat} {L : List Tk.Tok} (h : QR W b L w) : b < w.heap.size := h.b.lt
theorem QW.lt {W w : World} {b : Nat} (h : QW W b w) : b < w.heap.size := h.b.lt
theorem QR.t {W w : World} {b : Nat} {L : List Tk.Tok} (h : QR W b L w) : Tab9 w := h.tab.below h.bel
theorem QR.grown {W w w' : World} {b : Nat} {L : List Tk.Tok} (h : QR W b L w) {row : Option Nat} (hg : w.grownBy w' row) (hr : ∀ k, row = some k → W.heap.size ≤ k ∧ k ≠ b) : QR W b L w' := by
  obtain ⟨v, h1, h2⟩ := h.blk
  exact ⟨h.tab, h.bel.grown hg h.bel.size (fun k hk => (hr k hk).1), h.lo, h.ok, v, (hg.block b h.lt (fun e => (hr b e.symm).2 rfl)).trans h1, h2⟩
theorem QW.grown {W w w' : World} {b : Nat} (h : QW W b w) {row : Option Nat} (hg : w.grownBy w' row) (hr : ∀ k, row = some k → W.heap.size ≤ k ∧ k ≠ b) : QW W b w' :=
  ⟨h.tab, h.bel.grown hg h.bel.size (fun k hk => (hr k hk).1), h.lo, (hg.block b h.lt (fun e => (hr b e.symm).2 rfl)).trans h.blk⟩
theorem QR.below {W w w' : World} {b : Nat} {L : List Tk.Tok} (h : QR W b L w) (hb : Below w.heap.size w w') : QR W b L w' := h.grown (grown_below (row := none) hb) (fun k e => by cases e)
theorem QW.below {W w w' : World} {b : Nat} (h : QW W b w) (hb : Below w.heap.size w w') : QW W b w' := h.grown (grown_below (row := none) hb) (fun k e => by cases e)
theorem QR.alloc {W w : World} {b : Nat} {L : List Tk.Tok} (h : QR W b L w) (o : Obj) : QR W b L (w.alloc o) := h.below (bel_alloc (Below.refl _ _) o)
theorem QR.drew {W w : World} {b : Nat} {L : List Tk.Tok} (h : QR W b L w) : QR W b L w.drew := h.below (Below.refl _ _).drew
def Sq (W : World) (b : Nat) (L : List Tk.Tok) (w w' : World) : Prop := QR W b L w' ∧ w.grownBy w' (some b)
def Sw (W : World) (b : Nat) (w w' : World) : Prop := QW W b w' ∧ w.grownBy w' (some b)
theorem Sq.step {W w w1 w2 : World} {b : Nat} {L M : List Tk.Tok} (h : Sq W b L w w1) (k : Sq W b M w1 w2) : Sq W b M w w2 := ⟨k.1, grown_trans h.2 k.2⟩
theorem Sq.bad {W w w1 w2 : World} {b : Nat} {L : List Tk.Tok} (h : Sq W b L w w1) (k : Sw W b w1 w2) : Sw W b w w2 := ⟨k.1, grown_trans h.2 k.2⟩
theorem Sw.step {W w w1 w2 : World} {b : Nat} (h : Sw W b w w1) (k : Sw W b w1 w2) : Sw W b w w2 := ⟨k.1, grown_trans h.2 k.2⟩
theorem Sq.refl {W w : World} {b : Nat} {L : List Tk.Tok} (h : QR W b L w) : Sq W b L w w := ⟨h, World.grownBy.refl _ _⟩
theorem Sq.bel {W w w1 w2 : World} {b : Nat} {L : List Tk.Tok} (h : Sq W b L w w1) (hb : Below w1.heap.size w1 w2) : Sq W b L w w2 := ⟨h.1.below hb, grown_trans h.2 (grown_below hb)⟩
theorem Sw.bel {W w w1 w2 : World} {b : Nat} (h : Sw W b w w1) (hb : Below w1.heap.size w1 w2) : Sw W b w w2 := ⟨h.1.below hb, grown_trans h.2 (grown_below hb)⟩
theorem Sq.alloc {W w w1 : World} {b : Nat} {L : List Tk.Tok} (h : Sq W b L w w1) (o : Obj) : Sq W b L w (w1.alloc o) := h.bel (bel_alloc (Below.refl _ _) o)
theorem Sw.alloc {W w w1 : World} {b : Nat} (h : Sw W b w w1) (o : Obj) : Sw W b w (w1.alloc o) := h.bel (bel_alloc (Below.refl _ _) o)
theorem Sq.unalloc {W w w1 : World} {b : Nat} {L : List Tk.Tok} {o : Obj} (h : Sq W b L (w.alloc o) w1) : Sq W b L w w1 := ⟨h.1, grown_trans (World.grownBy_alloc w o _) h.2⟩
theorem Sw.unalloc {W w w1 : World} {b : Nat} {o : Obj} (h : Sw W b (w.alloc o) w1) : Sw W b w w1 := ⟨h.1, grown_trans (World.grownBy_alloc w o _) h.2⟩
theorem Sq.kept {W w w1 : World} {b : Nat} {L : List Tk.Tok} (h : Sq W b L w w1) {i : Nat} {o : Obj} (hi : w.heap[i]? = some o) (hb : i ≠ b) : w1.heap[i]? = some o :=
  (h.2.block i (lt_of hi) (fun e => hb (Option.some.inj e))).trans hi
theorem Sw.kept {W w w1 : World} {b : Nat} (h : Sw W b w w1) {i : Nat} {o : Obj} (hi : w.heap[i]? = some o) (hb : i ≠ b) : w1.heap[i]? = some o :=
  (h.2.block i (lt_of hi) (fun e => hb (Option.some.inj e))).trans hi
theorem Sq.grown {W w w1 w2 : World} {b g : Nat} {L : List Tk.Tok} (h : Sq W b L w w1) (hg : w1.grownBy w2 (some g)) (h1 : w.heap.size ≤ g) (h2 : b < w.heap.size) : Sq W b L w w2 :=
  ⟨h.1.grown hg (fun k hk => by cases hk; exact ⟨by have := h.1.lo; omega, by omega⟩), World.grownBy.andThen h.2 hg (fun j hj => by cases hj; exact .inl h1)⟩
theorem Sw.grown {W w w1 w2 : World} {b g : Nat} (h : Sw W b w w1) (hg : w1.grownBy w2 (some g)) (h1 : w.heap.size ≤ g) (h2 : b < w.heap.size) : Sw W b w w2 :=
  ⟨h.1.grown hg (fun k hk => by cases hk; exact ⟨by have := h.1.lo; omega, by omega⟩), World.grownBy.andThen h.2 hg (fun j hj => by cases hj; exact .inl h1)⟩
def NA (es : Array Value) : Prop := ∃ a p n c, es = lcs a (.slice p n c)
theorem NK.na {K : Nat → Prop} {w : World} {es : Array Value} {t : T} (h : NK K w es t) : NA es := by obtain ⟨p, n, c, e, _⟩ := h; exact ⟨_, _, _, _, e⟩
theorem NA.size {es : Array Value} (h : NA es) : es.size = 18 := by obtain ⟨a, p, n, c, e⟩ := h; rw [e]; rfl
theorem NA.one {es : Array Value} (h : NA es) : es.all (·.oneCell') = true := by obtain ⟨a, p, n, c, e⟩ := h; rw [e]; exact lcs_all _ _ _ _
theorem NA.sto {u : World} {es : Array Value} (h : NA es) {g : Nat} {zs : Array Value} (hg : u.heap[g]? = some (.cells zs 50)) (hz : zs.size = 18) :
    Hid ((Instr.storeAt 50 (.pointer (some ⟨g, 0, none⟩)) (.agg es)).run Tryz.prog u = .ok () (u.setRow g es)) := YtlndkjcincflpaaGreatDoor.sto hg (by rw [h.size]; exact inf50) (by rw [h.size]; exact hz) h.one
theorem NA.lod {u : World} {es : Array Value} (h : NA es) {g : Nat} (hg : u.heap[g]? = some (.cells es 50)) :
    Hid ((Instr.loadAt 50 (.pointer (some ⟨g, 0, none⟩))).run Tryz.prog u = .ok (.agg es) u) := YtlndkjcincflpaaGreatDoor.lod (z := (0, 0)) hg rfl Tryz.underlying50 (by rw [h.size]; exact inf50)
theorem NA.zero : NA nd0 := ⟨lab0 0 nb, none, 0, 0, rfl⟩
def RA (W : World) (b : Nat) (w : World) (o : Option (T × List Tk.Tok)) (es : Array Value) (w' : World) : Prop :=
  match o with
  | none => Sw W b w w'
  | some p => NK (fun i => w.heap.size ≤ i) w' es p.1 ∧ Sq W b p.2 w w'
def RO (W : World) (b : Nat) (w : World) (o : Option (T × List Tk.Tok)) (e : Ending) (w' : World) : Prop := ∃ es, e = .returned (.agg es) ∧ NA es ∧ RA W b w o es w'
theorem RA.grow {W w w' : World} {b : Nat} {o : Option (T × List Tk.Tok)} {es : Array Value} (h : RA W b w o es w') : w.grownBy w' (some b) := by
  cases o with
  | none => exact h.2
  | some p => exact h.2.2
theorem RA.kept {W w w' : World} {b : Nat} {o : Option (T × List Tk.Tok)} {es : Array Value} (h : RA W b w o es w') {i : Nat} {x : Obj} (hi : w.heap[i]? = some x) (hb : i ≠ b) : w'.heap[i]? = some x :=
  (h.grow.block i (lt_of hi) (fun e => hb (Option.some.inj e))).trans hi
theorem RA.fin {W w w1 : World} {b : Nat} {o : Option (T × List Tk.Tok)} {es : Array Value} (hb : b < w.heap.size) (hn : NA es) (h : RA W b (w.alloc (.cells nd0 50)) o es w1) :
    Hid ((Instr.storeAt 50 (.pointer (some ⟨w.heap.size, 0, none⟩)) (.agg es)).run Tryz.prog w1 = .ok () (w1.setRow w.heap.size es)) ∧ Hid (w1.heap[w.heap.size]? = some (.cells nd0 50)) ∧ Hid (es.size = 18) ∧
    Hid (RA W b w o es (w1.setRow w.heap.size es)) := by
  have hg := h.kept (heap_alloc_new w _) (by omega)
  refine ⟨hn.sto hg rfl, hg, hn.size, ?_⟩
  cases o with
  | none =>
    have h' : Sw W b (w.alloc (.cells nd0 50)) w1 := h
    show Sw W b w _
    exact h'.unalloc.grown (setRow_grown _ _ _) (Nat.le_refl _) hb
  | some p =>
    obtain ⟨h1, h2⟩ := h
    show NK _ _ _ _ ∧ Sq _ _ _ _ _
    exact ⟨((new_gt h1).grown (setRow_grown _ _ _) (fun g e hk => by cases e; exact Nat.lt_irrefl _ hk)).mono (fun i hi _ => Nat.le_of_lt hi), h2.unalloc.grown (setRow_grown _ _ _) (Nat.le_refl _) hb⟩
set_option maxHeartbeats 1000000 in
theorem rop_none {w : World} {b : Nat} {a : Option Addr} {c : Nat} {x : Bool} (hv : w.heap[b]? = some (rpO (.slice a 0 c) x)) : Calls Tryz.prog 125 #[.pointer (some ⟨b, 0, none⟩)] w fun e w' => e = .returned (.string noB) ∧ w' = w := by
  have hc : w.cell? ⟨b, 0, none⟩ = some (.slice a 0 c) := by rw [cell_of_row w b 0 _ 120 (0, 0) hv]; rfl
  go_enter Tryz.func125, Tryz.ntmps125
  go_wp2
  go_ret
  exact ⟨rfl, rfl⟩
theorem rop_bad {W w : World} {b : Nat} (X : QW W b w) : Calls Tryz.prog 125 #[.pointer (some ⟨b, 0, none⟩)] w fun e w' => e = .returned (.string noB) ∧ w' = w := rop_none X.blk
theorem rop_nil {W w : World} {b : Nat} (X : QR W b [] w) : Calls Tryz.prog 125 #[.pointer (some ⟨b, 0, none⟩)] w fun e w' => e = .returned (.string noB) ∧ w' = w := by
  obtain ⟨v, hv, hs⟩ := X.blk
  obtain ⟨a, c, rfl⟩ := hs.slice
  exact rop_none hv
set_option maxHeartbeats 1000000 in
theorem rop_cons {W w : World} {b : Nat} {t : Tk.Tok} {L : List Tk.Tok} (X : QR W b (t :: L) w) (hn : L.length ≤ 255) : Calls Tryz.prog 125 #[.pointer (some ⟨b, 0, none⟩)] w fun e w' => e = .returned (.string (if (tk t).k = 5 then (tk t).s else noB)) ∧ w' = w := by
  obtain ⟨v, hv, hs⟩ := X.blk
  rw [List.map_cons] at hs
  obtain ⟨g, o, c, rfl, hlc, hcs, _⟩ := hs.cons
  rw [List.length_map] at hv hlc
  have hc : w.cell? ⟨b, 0, none⟩ = some (.slice (some ⟨g, o, none⟩) (L.length + 1) c) := by rw [cell_of_row w b 0 _ 120 (0, 0) hv]; rfl
  have h0 : w.cell? ⟨g, o, none⟩ = some (.int .i64 (tk t).k) := cell_bel X.bel (hcs 0 _ rfl)
  have h2 : w.cell? ⟨g, o + 2, none⟩ = some (.string (tk t).s) := cell_bel X.bel (hcs 2 _ rfl)
  have hl : (0 : Int) < (L.length : Int) + 1 := by omega
  generalize (tk t).k = k at *
  generalize (tk t).s = s at *
  generalize L.length = n at *
  clear hs hcs X hv
  by_cases h5 : k = 5
  · subst h5
    rw [if_pos rfl]
    go_enter Tryz.func125, Tryz.ntmps125
    go_wp2
    all_goals (go_ret; exact ⟨rfl, rfl⟩)
  · rw [if_neg h5]
    have h5b : (k == 5) = false := by simpa using h5
    go_enter Tryz.func125, Tryz.ntmps125
    go_wp2
    all_goals (go_ret; exact ⟨rfl, rfl⟩)
theorem rop_any {W w : World} {b : Nat} {L : List Tk.Tok} (X : QR W b L w) (hn : L.length ≤ 256) : Calls Tryz.prog 125 #[.pointer (some ⟨b, 0, none⟩)] w fun e w' => e = .returned (.string (ba (opOf L))) ∧ w' = w := by
  rw [← op_val L]
  cases L with
  | nil => exact rop_nil X
  | cons t L => exact rop_cons X (by simpa using hn)
end Go.Proofs.YtlndkjcincflpaaGreatDoor

namespace Go.Proofs.YtlndkjcincflpaaGreatDoor
open Go.RowKit Go.Fm
set_option maxRecDepth 100000
theorem rp_facts {u : World} {b : Nat} {v : Value} {x : Bool} (h : u.heap[b]? = some (rpO v x)) : u.cell? ⟨b, 0, none⟩ = some v ∧ u.cell? ⟨b, 1, none⟩ = some (.bool x) ∧ u.frozen? ⟨b, 0, none⟩ = false ∧ u.frozen? ⟨b, 1, none⟩ = false ∧
    (∀ y, (u.setCell ⟨b, 1, none⟩ (.bool y)).heap[b]? = some (rpO v y)) ∧ ∀ y, (u.setCell ⟨b, 0, none⟩ y).heap[b]? = some (rpO y x) := by
  refine ⟨by rw [cell_of_row u b 0 _ 120 (0, 0) h]; rfl, by rw [cell_of_row u b 1 _ 120 (0, 0) h]; rfl, by unfold World.frozen?; rw [h]; rfl, by unfold World.frozen?; rw [h]; rfl, fun y => ?_, fun y => ?_⟩
  · simp [World.setCell, Array.getElem?_modify, h]
  · simp [World.setCell, Array.getElem?_modify, h]
abbrev wrongW (u : World) (b : Nat) : World := (u.setCell ⟨b, 1, none⟩ (.bool true)).setCell ⟨b, 0, none⟩ (.slice none 0 0)
theorem wrong_sw {W w u : World} {b : Nat} (X : QB W b w) (hg : ∀ row, w.grownBy u row) : Sw W b w (wrongW u b) ∧ ∃ v, (u.setCell ⟨b, 1, none⟩ (.bool true)).heap[b]? = some (rpO v true) := by
  obtain ⟨v, x, hv⟩ := X.blk
  have hu : u.heap[b]? = some (rpO v x) := ((hg none).block b (lt_of hv) (by simp)).trans hv
  have f1 := (rp_facts hu).2.2.2.2.1 true
  have f2 := (rp_facts f1).2.2.2.2.2 (.slice none 0 0)
  have hB : Below W.heap.size W u := X.bel.grown (hg none) X.bel.size (fun k hk => by cases hk)
  refine ⟨⟨⟨X.tab, (hB.setCell X.lo _).setCell X.lo _, X.lo, f2⟩, ?_⟩, v, f1⟩
  exact grown_trans (grown_trans (hg _) (Lib.grownBy_setCell _ _ _ _)) (Lib.grownBy_setCell _ _ _ _)
theorem qb_rp {W w : World} {b : Nat} (X : QB W b w) {u : World} (hg : ∀ row, w.grownBy u row) : ∃ v x, u.heap[b]? = some (rpO v x) := by
  obtain ⟨v, x, hv⟩ := X.blk
  exact ⟨v, x, ((hg none).block b (lt_of hv) (by simp)).trans hv⟩
set_option maxHeartbeats 1000000 in
theorem rtake_core {W w : World} {b : Nat} {S A : ByteArray} (X : QB W b w) (O : Calls Tryz.prog 125 #[.pointer (some ⟨b, 0, none⟩)] w fun e w' => e = .returned (.string A) ∧ w' = w) (hne : (A.toList == S.toList) = false) :
    Calls Tryz.prog 126 #[.pointer (some ⟨b, 0, none⟩), .string S] w fun e w' => e = .returned (.tuple #[]) ∧ Sw W b w w' := by
  obtain ⟨h1, v1, h2⟩ := wrong_sw (u := w) X (fun _ => World.grownBy.refl _ _)
  obtain ⟨v, x, h0⟩ := X.blk
  obtain ⟨c0, c1, f0, f1, _⟩ := rp_facts h0
  obtain ⟨d0, d1, g0, g1, _⟩ := rp_facts h2
  have HF : Hid (Sw W b w (wrongW w b)) := h1
  clear h1 h2 h0 X
  go_enter Tryz.func126, Tryz.ntmps126
  go_wp2_with (go_at_call 125; refine O.mono ?_; rintro e w' ⟨rfl, hw⟩; obtain rfl := hw.symm; clear hw)
  exact bodyPost_ret (results_none rfl _ _ _) rfl ⟨rfl, HF.out⟩
theorem ne_toL {l m : List UInt8} (h : l ≠ m) : ((ba l).toList == (ba m).toList) = false := by
  rw [ByteArray.toList_eq, ByteArray.toList_eq]
  simpa using h
theorem eq_toL (l : List UInt8) : ((ba l).toList == (ba l).toList) = true := by simp
theorem rtake_no {W w : World} {b : Nat} {L : List Tk.Tok} (X : QR W b L w) (hn : L.length ≤ 256) {s : List UInt8} (h : opOf L ≠ s) : Calls Tryz.prog 126 #[.pointer (some ⟨b, 0, none⟩), .string (ba s)] w fun e w' => e = .returned (.tuple #[]) ∧ Sw W b w w' :=
  rtake_core X.b (rop_any X hn) (ne_toL h)
theorem rtake_bad {W w : World} {b : Nat} (X : QW W b w) {s : List UInt8} (h : s ≠ []) : Calls Tryz.prog 126 #[.pointer (some ⟨b, 0, none⟩), .string (ba s)] w fun e w' => e = .returned (.tuple #[]) ∧ Sw W b w w' :=
  rtake_core X.b (rop_bad X) (ne_toL (l := []) (Ne.symm h))
set_option maxHeartbeats 2000000 in
theorem rtake_yes {W w : World} {b : Nat} {L : List Tk.Tok} (X : QR W b L w) (hn : L.length ≤ 256) {s : List UInt8} (hs : s ≠ []) (h : opOf L = s) : Calls Tryz.prog 126 #[.pointer (some ⟨b, 0, none⟩), .string (ba s)] w fun e w' => e = .returned (.tuple #[]) ∧ Sq W b L.tail w w' := by
  have O := rop_any X hn
  rw [h] at O
  have heq := eq_toL s
  obtain ⟨h1, h2⟩ := op_tail (ts := L) h hs
  obtain ⟨v, hv, ht⟩ := X.blk
  rw [h2, List.map_cons] at ht
  obtain ⟨g, o, c, rfl, hlc, hcs, hts⟩ := ht.cons
  rw [List.length_map] at hv hlc hts
  obtain ⟨c0, c1, f0, f1, _, hset⟩ := rp_facts hv
  obtain ⟨A, hA⟩ : ∃ A, (if c = 1 then some (⟨g, o, none⟩ : Addr) else some ⟨g, o + 9, none⟩) = A := ⟨_, rfl⟩
  rw [hA] at hts
  have HF : Hid (Sq W b L.tail w (w.setCell ⟨b, 0, none⟩ (.slice A L.tail.length (c - 1)))) :=
    ⟨⟨X.tab, X.bel.setCell X.lo _, X.lo, fun x hx => X.ok x (List.mem_of_mem_tail hx), _, hset _, hts⟩, Lib.grownBy_setCell _ _ _ _⟩
  generalize L.tail.length = n at *
  generalize ba s = S at *
  clear hts hv ht hcs X h h1 h2 hset
  go_enter Tryz.func126, Tryz.ntmps126
  go_wp2_with (go_at_call 125; refine O.mono ?_; rintro e w' ⟨rfl, hw⟩; obtain rfl := hw.symm; clear hw)
  go_end0
  exact ⟨rfl, HF.out⟩
theorem build_none (u : World) : (Instr.build 50 #[]).run Tryz.prog u = .ok (.agg nd0) u := by kernel_rfl
set_option maxHeartbeats 1000000 in
theorem rfail_any {W w : World} {b : Nat} (X : QB W b w) : Calls Tryz.prog 206 #[.pointer (some ⟨b, 0, none⟩)] w fun e w' => e = .returned (.agg nd0) ∧ Sw W b w w' := by
  have hg : ∀ row, w.grownBy (w.alloc (.cells nd0 50)) row := fun _ => World.grownBy_alloc _ _ _
  have hb := X.lt
  obtain ⟨h1, v1, h2⟩ := wrong_sw (u := w.alloc (.cells nd0 50)) X hg
  obtain ⟨v, x, h0⟩ := qb_rp X hg
  obtain ⟨c0, c1, f0, f1, _⟩ := rp_facts h0
  obtain ⟨d0, d1, g0, g1, _⟩ := rp_facts h2
  have G1 := Lib.grownBy_setCell (w.alloc (.cells nd0 50)) b 1 (.bool true)
  have H1 := (G1.block w.heap.size (by simp) (by intro e; have := Option.some.inj e; omega)).trans (heap_alloc_new w (.cells nd0 50))
  obtain ⟨w2, hw2⟩ : ∃ w2, (w.alloc (.cells nd0 50)).setCell ⟨b, 1, none⟩ (.bool true) = w2 := ⟨_, rfl⟩
  have h1' : Sw W b w (w2.setCell ⟨b, 0, none⟩ (.slice none 0 0)) := by rw [← hw2]; exact h1
  rw [hw2] at H1 d0 d1 g0 g1
  have G2 := Lib.grownBy_setCell w2 b 0 (.slice none 0 0)
  have H2 := (G2.block w.heap.size (lt_of H1) (by intro e; have := Option.some.inj e; omega)).trans H1
  obtain ⟨w3, hw3⟩ : ∃ w3, w2.setCell ⟨b, 0, none⟩ (.slice none 0 0) = w3 := ⟨_, rfl⟩
  rw [hw3] at H2 h1'
  have RB : Hid _ := build_none w3
  have RS := NA.zero.sto H2 rfl
  have HF : Hid (Sw W b w (w3.setRow w.heap.size nd0)) := h1'.grown (setRow_grown _ _ _) (Nat.le_refl _) hb
  have HR : Hid (w3.heap[w.heap.size]? = some (.cells nd0 50)) := H2
  clear H1 H2 h1 h1' h2 h0 X hg G1 G2
  go_enter Tryz.func206, Tryz.ntmps206
  go_wp2_with (first
    | (refine wpList_build_run rfl 50 _ rfl _ _ rfl RB.out ?_)
    | (refine wpList_store_run rfl 50 _ _ rfl _ _ _ rfl rfl RS.out ?_))
  exact bodyPost_ret (nd_res HR.out rfl rfl rfl) rfl ⟨rfl, HF.out⟩
end Go.Proofs.YtlndkjcincflpaaGreatDoor
