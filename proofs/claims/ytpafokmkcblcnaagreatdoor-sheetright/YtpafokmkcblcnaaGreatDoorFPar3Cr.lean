/- FPar1, FPar2, FPar3. -/
import Derived.Test.YtpafokmkcblcnaaGreatDoorTName2Cr
import Derived.Test.YtpafokmkcblcnaaGreatDoorPTokCr
set_option linter.unusedVariables false
set_option linter.unusedSimpArgs false
namespace Go.Proofs.YtpafokmkcblcnaaGreatDoor
open Go.RowKit Go.Fm
set_option maxRecDepth 100000
abbrev parO (v : Value) : Obj := .cells #[v] 138
def TS (w : World) (v : Value) (L : List TT) : Prop := (L = [] ∧ ∃ a c, v = .slice a 0 c) ∨ ∃ g o c, v = .slice (some ⟨g, o, none⟩) L.length c ∧ 0 < L.length ∧ L.length ≤ c ∧ ∀ i j x (hi : i < L.length), L[i].cl[j]? = some x → w.cell? ⟨g, o + (i * 9 + j), none⟩ = some x
theorem TS.of {e : TypeId} {base : Nat} {w : World} {v : Value} {L : List TT} (h : OwnT e base w v L) : TS w v L := by
  have hc := fun g (hg : v.ownBlock = some g) => World.ownsRow.cells h hg
  rcases h.2 with ⟨rfl, h0⟩ | ⟨g, cap, cur, rfl, _, _, h1, h2, _⟩
  · have : L = [] := List.eq_nil_of_length_eq_zero h0
    exact .inl ⟨this, none, 0, rfl⟩
  · by_cases hl : L = []
    · subst hl; exact .inl ⟨rfl, _, _, rfl⟩
    · refine .inr ⟨g, 0, cap, rfl, List.length_pos_iff.2 hl, h1, fun i j x hi hx => ?_⟩
      have hadd : ∀ k, (⟨g, 0, none⟩ : Addr).add k = ⟨g, k, none⟩ := fun k => by unfold Addr.add; split <;> simp_all
      have := hc g rfl (i * 9 + j) x (flat_at L i j x hi hx)
      rw [hadd] at this
      rw [Nat.zero_add]; exact this
theorem TS.slice {w : World} {v : Value} {L : List TT} (h : TS w v L) : ∃ a c, v = .slice a L.length c := by
  rcases h with ⟨rfl, a, c, rfl⟩ | ⟨g, o, c, rfl, _⟩
  · exact ⟨a, c, rfl⟩
  · exact ⟨_, c, rfl⟩
theorem TS.below {w w' : World} {v : Value} {L : List TT} (h : TS w v L) (hb : Below w.heap.size w w') : TS w' v L := by
  rcases h with h | ⟨g, o, c, h1, h2, h3, h4⟩
  · exact .inl h
  · exact .inr ⟨g, o, c, h1, h2, h3, fun i j x hi hx => cell_bel hb (h4 i j x hi hx)⟩
theorem TS.cons {w : World} {v : Value} {t : TT} {L : List TT} (h : TS w v (t :: L)) : ∃ g o c, v = .slice (some ⟨g, o, none⟩) (L.length + 1) c ∧ L.length + 1 ≤ c ∧ (∀ j x, t.cl[j]? = some x → w.cell? ⟨g, o + j, none⟩ = some x) ∧
    TS w (.slice (if c = 1 then some ⟨g, o, none⟩ else some ⟨g, o + 9, none⟩) L.length (c - 1)) L := by
  rcases h with ⟨h, _⟩ | ⟨g, o, c, h1, h2, h3, h4⟩
  · cases h
  · refine ⟨g, o, c, h1, h3, fun j x hx => by simpa using h4 0 j x (by simp) hx, ?_⟩
    by_cases hl : L = []
    · subst hl; exact .inl ⟨rfl, _, _, rfl⟩
    · have hp := List.length_pos_iff.2 hl
      simp only [List.length_cons] at h3
      rw [if_neg (by omega)]
      refine .inr ⟨g, o + 9, c - 1, rfl, hp, by omega, fun i j x hi hx => ?_⟩
      have := h4 (i + 1) j x (by simpa using hi) hx
      rw [show o + 9 + (i * 9 + j) = o + ((i + 1) * 9 + j) by omega]
      exact this
def OkL (L : List Tk.Tok) : Prop := ∀ t ∈ L, Tk.okT gnF trB okN t ∧ smT t
structure PR (W : World) (b : Nat) (L : List Tk.Tok) (w : World) : Prop where
  tab : Tab9 W
  bel : Below W.heap.size W w
  lo : W.heap.size ≤ b
  ok : OkL L
  blk : ∃ v, w.heap[b]? = some (parO v) ∧ TS W v (L.map tk)
theorem PR.lt {W w : World} {b : Nat} {L : List Tk.Tok} (h : PR W b L w) : b < w.heap.size := by obtain ⟨v, h1, _⟩ := h.blk; exact lt_of h1
theorem PR.t {W w : World} {b : Nat} {L : List Tk.Tok} (h : PR W b L w) : Tab9 w := h.tab.below h.bel
theorem PR.grown {W w w' : World} {b : Nat} {L : List Tk.Tok} (h : PR W b L w) {row : Option Nat} (hg : w.grownBy w' row) (hr : ∀ k, row = some k → W.heap.size ≤ k ∧ k ≠ b) : PR W b L w' := by
  obtain ⟨v, h1, h2⟩ := h.blk
  exact ⟨h.tab, h.bel.grown hg h.bel.size (fun k hk => (hr k hk).1), h.lo, h.ok, v, (hg.block b h.lt (fun e => (hr b e.symm).2 rfl)).trans h1, h2⟩
theorem PR.below {W w w' : World} {b : Nat} {L : List Tk.Tok} (h : PR W b L w) (hb : Below w.heap.size w w') : PR W b L w' := h.grown (grown_below (row := none) hb) (fun k e => by cases e)
theorem PR.alloc {W w : World} {b : Nat} {L : List Tk.Tok} (h : PR W b L w) (o : Obj) : PR W b L (w.alloc o) := h.below (bel_alloc (Below.refl _ _) o)
theorem PR.drew {W w : World} {b : Nat} {L : List Tk.Tok} (h : PR W b L w) : PR W b L w.drew := h.below (Below.refl _ _).drew
def Sp (W : World) (b : Nat) (L : List Tk.Tok) (w w' : World) : Prop := PR W b L w' ∧ w.grownBy w' (some b)
theorem Sp.refl {W w : World} {b : Nat} {L : List Tk.Tok} (h : PR W b L w) : Sp W b L w w := ⟨h, World.grownBy.refl _ _⟩
theorem Sp.step {W w w1 w2 : World} {b : Nat} {L M : List Tk.Tok} (h : Sp W b L w w1) (k : Sp W b M w1 w2) : Sp W b M w w2 := ⟨k.1, grown_trans h.2 k.2⟩
theorem Sp.bel {W w w1 w2 : World} {b : Nat} {L : List Tk.Tok} (h : Sp W b L w w1) (hb : Below w1.heap.size w1 w2) : Sp W b L w w2 := ⟨h.1.below hb, grown_trans h.2 (grown_below hb)⟩
theorem Sp.alloc {W w w1 : World} {b : Nat} {L : List Tk.Tok} (h : Sp W b L w w1) (o : Obj) : Sp W b L w (w1.alloc o) := h.bel (bel_alloc (Below.refl _ _) o)
theorem Sp.unalloc {W w w1 : World} {b : Nat} {L : List Tk.Tok} {o : Obj} (h : Sp W b L (w.alloc o) w1) : Sp W b L w w1 := ⟨h.1, grown_trans (World.grownBy_alloc w o _) h.2⟩
theorem Sp.kept {W w w1 : World} {b : Nat} {L : List Tk.Tok} (h : Sp W b L w w1) {i : Nat} {o : Obj} (hi : w.heap[i]? = some o) (hb : i ≠ b) : w1.heap[i]? = some o :=
  (h.2.block i (lt_of hi) (fun e => hb (Option.some.inj e))).trans hi
theorem Sp.grown {W w w1 w2 : World} {b g : Nat} {L : List Tk.Tok} (h : Sp W b L w w1) (hg : w1.grownBy w2 (some g)) (h1 : w.heap.size ≤ g) (h2 : b < w.heap.size) : Sp W b L w w2 :=
  ⟨h.1.grown hg (fun k hk => by cases hk; exact ⟨by have := h.1.lo; omega, by omega⟩), World.grownBy.andThen h.2 hg (fun j hj => by cases hj; exact .inl h1)⟩
theorem InF.grown : ∀ {f : F} {w w' : World} {a : Addr} {b : Nat} {v : Value} {z : Nat × Nat}, InF w a f → w.grownBy w' (some b) → w.heap[b]? = some (.cells #[v] 138 z) → InF w' a f := by
  intro f
  induction f with
  | nil => intro w w' a b v z _ _ _; trivial
  | node b o l f r ihf ihr =>
    intro w w' a b v z h hg hb
    obtain ⟨⟨p, n, c, h1, h2, h3⟩, h4⟩ := h
    have hne : a.block ≠ b := by
      intro e
      have h5 := h1 5 _ rfl
      have hz := World.cell?_spot (h1 0 _ rfl)
      obtain ⟨ab, ao, sp⟩ := a
      simp only at e
      subst e
      have has : sp = none := by
        cases sp with
        | none => rfl
        | some x => unfold Addr.add at hz; split at hz <;> simp_all
      subst has
      have hadd : (⟨ab, ao, none⟩ : Addr).add 5 = ⟨ab, ao + 5, none⟩ := by unfold Addr.add; split <;> simp_all
      rw [hadd, cell_of_row w ab (ao + 5) #[v] 138 z hb] at h5
      simp at h5
    have hc : ∀ j x, w.cell? (a.add j) = some x → w'.cell? (a.add j) = some x := fun j x hx => by
      have hlt := World.block_lt_of_cell? w _ hx
      refine (World.cell?_of_block (hg.block _ hlt ?_)).trans hx
      rw [show (a.add j).block = a.block by unfold Addr.add; split <;> rfl]
      intro e; exact hne (Option.some.inj e)
    exact ⟨⟨p, n, c, fun j x hj => hc j x (h1 j x hj), h2, h3.imp id fun ⟨a', e, hi⟩ => ⟨a', e, ihf hi hg hb⟩⟩, ihr h4 hg hb⟩
theorem NT.sp {W w w1 : World} {b : Nat} {L M : List Tk.Tok} {es : Array Value} {t : T} (h : NT w es t) (hp : PR W b M w) (hs : Sp W b L w w1) : NT w1 es t := by
  obtain ⟨p, n, c, e, h1, h2⟩ := h
  obtain ⟨v, hv, _⟩ := hp.blk
  exact ⟨p, n, c, e, h1, h2.imp id fun ⟨a, e, hi⟩ => ⟨a, e, hi.grown hs.2 hv⟩⟩
abbrev formP : List PanicEntry := [{ v := .iface 33 (.int .i64 10), recovered := false }]
set_option maxHeartbeats 1000000 in
theorem op_nil {W w : World} {b : Nat} (X : PR W b [] w) : Calls Tryz.prog 235 #[.pointer (some ⟨b, 0, none⟩)] w fun e w' => e = .returned (.string noB) ∧ w' = w := by
  obtain ⟨v, hv, hs⟩ := X.blk
  obtain ⟨a, c, rfl⟩ := hs.slice
  have hc : w.cell? ⟨b, 0, none⟩ = some (.slice a 0 c) := by rw [cell_of_row w b 0 _ 138 (0, 0) hv]; rfl
  go_enter Tryz.func235, Tryz.ntmps235
  go_wp2
  go_ret
  exact ⟨rfl, rfl⟩
set_option maxHeartbeats 1000000 in
theorem op_cons {W w : World} {b : Nat} {t : Tk.Tok} {L : List Tk.Tok} (X : PR W b (t :: L) w) (hn : L.length ≤ 255) : Calls Tryz.prog 235 #[.pointer (some ⟨b, 0, none⟩)] w fun e w' => e = .returned (.string (if (tk t).k = 5 then (tk t).s else noB)) ∧ w' = w := by
  obtain ⟨v, hv, hs⟩ := X.blk
  rw [List.map_cons] at hs
  obtain ⟨g, o, c, rfl, hlc, hcs, _⟩ := hs.cons
  rw [List.length_map] at hv hlc
  have hc : w.cell? ⟨b, 0, none⟩ = some (.slice (some ⟨g, o, none⟩) (L.length + 1) c) := by rw [cell_of_row w b 0 _ 138 (0, 0) hv]; rfl
  have h0 : w.cell? ⟨g, o, none⟩ = some (.int .i64 (tk t).k) := cell_bel X.bel (hcs 0 _ rfl)
  have h2 : w.cell? ⟨g, o + 2, none⟩ = some (.string (tk t).s) := cell_bel X.bel (hcs 2 _ rfl)
  have hl : (((L.length : Int) + 1) == 0) = false := by simp; omega
  generalize (tk t).k = k at *
  generalize (tk t).s = s at *
  generalize L.length = n at *
  clear hs hcs X hv
  by_cases h5 : k = 5
  · subst h5
    rw [if_pos rfl]
    go_enter Tryz.func235, Tryz.ntmps235
    go_wp2
    all_goals (go_ret; exact ⟨rfl, rfl⟩)
  · rw [if_neg h5]
    have h5b : (k != 5) = true := by simpa using h5
    go_enter Tryz.func235, Tryz.ntmps235
    go_wp2
    all_goals (go_ret; exact ⟨rfl, rfl⟩)
theorem op_val (L : List Tk.Tok) : (match L with | [] => noB | t :: _ => if (tk t).k = 5 then (tk t).s else noB) = ba (opOf L) := by
  cases L with
  | nil => rfl
  | cons t L => cases t using Tk.Tok.cs <;> rfl
theorem op_any {W w : World} {b : Nat} {L : List Tk.Tok} (X : PR W b L w) (hn : L.length ≤ 256) : Calls Tryz.prog 235 #[.pointer (some ⟨b, 0, none⟩)] w fun e w' => e = .returned (.string (ba (opOf L))) ∧ w' = w := by
  rw [← op_val L]
  cases L with
  | nil => exact op_nil X
  | cons t L => exact op_cons X (by simpa using hn)
end Go.Proofs.YtpafokmkcblcnaaGreatDoor

namespace Go.Proofs.YtpafokmkcblcnaaGreatDoor
open Go.RowKit Go.Fm
set_option maxRecDepth 100000
set_option maxHeartbeats 1000000 in
theorem take_nil {W w : World} {b : Nat} (X : PR W b [] w) : Calls Tryz.prog 236 #[.pointer (some ⟨b, 0, none⟩)] w fun e w' => e = .panicked formP ∧ w.grownBy w' (some b) := by
  obtain ⟨v, hv, hs⟩ := X.blk
  obtain ⟨a, c, rfl⟩ := hs.slice
  have hc : (w.alloc (.cells tk0 156)).cell? ⟨b, 0, none⟩ = some (.slice a 0 c) := by rw [cell_of_row _ b 0 _ 138 (0, 0) ((Below.heap_alloc _ _ _ X.lt).trans hv)]; rfl
  go_enter Tryz.func236, Tryz.ntmps236
  go_wp2
  exact ⟨rfl, rfl, World.grownBy_alloc _ _ _⟩
set_option maxHeartbeats 2000000 in
theorem take_cons {W w : World} {b : Nat} {t : Tk.Tok} {L : List Tk.Tok} (X : PR W b (t :: L) w) (hn : L.length ≤ 255) : Calls Tryz.prog 236 #[.pointer (some ⟨b, 0, none⟩)] w fun e w' => e = .returned (.agg (tk t).cs) ∧ Sp W b L w w' := by
  obtain ⟨v, hv, hs⟩ := X.blk
  rw [List.map_cons] at hs
  obtain ⟨g, o, c, rfl, hlc, hcs, hts⟩ := hs.cons
  rw [List.length_map] at hv hlc hts
  have hb := X.lt
  have hc : ∀ u, Below w.heap.size w u → u.cell? ⟨b, 0, none⟩ = some (.slice (some ⟨g, o, none⟩) (L.length + 1) c) := fun u hu => by rw [cell_of_row u b 0 _ 138 (0, 0) ((hu.block _ hb).trans hv)]; rfl
  have hf : ∀ u, Below w.heap.size w u → u.frozen? ⟨b, 0, none⟩ = false := fun u hu => by unfold World.frozen?; rw [(hu.block _ hb).trans hv]; rfl
  have B1 : Below w.heap.size w (w.alloc (.cells tk0 156)) := bel_alloc (Below.refl _ _) _
  have RL : Hid ((Instr.loadAt 156 (.pointer (some ⟨g, o, none⟩))).run Tryz.prog (w.alloc (.cells tk0 156)) = .ok (.agg (tk t).cs) (w.alloc (.cells tk0 156))) :=
    run_loadAt_mid (P := Tryz.prog) _ g o 156 (tk t).cl _ (fun j x hx => cell_bel (bel_step X.bel B1) (hcs j x hx)) Tryz.underlying156 rfl inf156
  have hl : (((L.length : Int) + 1) == 0) = false := by simp; omega
  generalize htt : (tk t).cs = es at *
  have hes : es.size = 9 := by rw [← htt]; rfl
  have hone : es.all (·.oneCell') = true := by rw [← htt]; exact tcs_one _ _ _ _ _ _ _ _ _
  obtain ⟨k, n, s, bk, h, r, cc, fr, fc, hE⟩ : ∃ k n s bk h r cc fr fc, es = tcs k n s bk h r cc fr fc := ⟨_, _, _, _, _, _, _, _, _, htt.symm⟩
  have B2 : Below w.heap.size w ((w.alloc (.cells tk0 156)).alloc (.cells (tcs k n s bk h r cc fr fc) 156)) := bel_alloc B1 _
  have hc1 := hc _ B1
  have hc2 := hc _ B2
  have hf2 := hf _ B2
  obtain ⟨A, hA⟩ : ∃ A, (if c = 1 then some (⟨g, o, none⟩ : Addr) else some ⟨g, o + 9, none⟩) = A := ⟨_, rfl⟩
  rw [hA] at hts
  obtain ⟨w3, hw3⟩ : ∃ w3, ((w.alloc (.cells tk0 156)).alloc (.cells (tcs k n s bk h r cc fr fc) 156)).setCell ⟨b, 0, none⟩ (.slice A L.length (c - 1)) = w3 := ⟨_, rfl⟩
  have G3 : ((w.alloc (.cells tk0 156)).alloc (.cells (tcs k n s bk h r cc fr fc) 156)).grownBy w3 (some b) := by rw [← hw3]; exact Lib.grownBy_setCell _ _ _ _
  have H3a : w3.heap[w.heap.size]? = some (.cells tk0 156) := (G3.block _ (by simp; omega) (by intro e; have := Option.some.inj e; omega)).trans ((Below.heap_alloc _ _ _ (by simp)).trans (heap_alloc_new w _))
  have H3b : w3.heap[w.heap.size + 1]? = some (.cells (tcs k n s bk h r cc fr fc) 156) := (G3.block _ (by simp) (by intro e; have := Option.some.inj e; omega)).trans (by
    have := heap_alloc_new (w.alloc (.cells tk0 156)) (.cells (tcs k n s bk h r cc fr fc) 156)
    simpa using this)
  have P3 : PR W b L w3 := by
    refine ⟨X.tab, ?_, X.lo, fun x hx => X.ok x (List.mem_cons_of_mem _ hx), _, ?_, hts⟩
    · rw [← hw3]; exact (bel_step X.bel B2).setCell X.lo _
    · rw [← hw3]
      have : ((w.alloc (.cells tk0 156)).alloc (.cells (tcs k n s bk h r cc fr fc) 156)).heap[b]? = some (parO (.slice (some ⟨g, o, none⟩) (L.length + 1) c)) := (B2.block _ hb).trans hv
      simp [World.setCell, Array.getElem?_modify, this]
  have RL3 : Hid ((Instr.loadAt 156 (.pointer (some ⟨w.heap.size + 1, 0, none⟩))).run Tryz.prog w3 = .ok (.agg (tcs k n s bk h r cc fr fc)) w3) := lod H3b rfl Tryz.underlying156 inf156
  have RS3 : Hid ((Instr.storeAt 156 (.pointer (some ⟨w.heap.size, 0, none⟩)) (.agg (tcs k n s bk h r cc fr fc))).run Tryz.prog w3 = .ok () (w3.setRow w.heap.size (tcs k n s bk h r cc fr fc))) := sto H3a inf156 rfl (tcs_one k n s bk h r cc fr fc)
  have S3 : Sp W b L w w3 := ⟨P3, grown_trans (grown_trans (World.grownBy_alloc _ _ _) (World.grownBy_alloc _ _ _)) G3⟩
  have HF : Hid (Sp W b L w (w3.setRow w.heap.size (tcs k n s bk h r cc fr fc))) := S3.grown (setRow_grown _ _ _) (Nat.le_refl _) hb
  have HR : Hid ((w3.setRow w.heap.size (tcs k n s bk h r cc fr fc)).heap[w.heap.size]? = some (.cells (tcs k n s bk h r cc fr fc) 156)) := setRow_heap _ _ _ _ _ _ H3a
  rw [hE] at RL ⊢
  clear hE hone hes htt S3 P3 H3a H3b G3 hts hv hs hcs hc hf X B1 B2
  have hcl : L.length + 1 ≤ c := hlc
  have hci : (L.length : Int) + 1 ≤ c := by omega
  go_enter Tryz.func236, Tryz.ntmps236
  go_wp2_with (first
    | (refine wpList_load_run rfl 156 _ rfl _ _ rfl RL.out ?_)
    | (refine wpList_load_run rfl 156 _ rfl _ _ rfl RL3.out ?_)
    | (refine wpList_store_run rfl 156 _ _ rfl _ _ _ rfl rfl RS3.out ?_))
  exact bodyPost_ret (results_cell_row rfl _ _ w.heap.size 156 _ (0, 0) _ rfl HR.out Tryz.underlying156 rfl inf156) rfl ⟨rfl, HF.out⟩
theorem skip_no {W w : World} {b : Nat} {L : List Tk.Tok} (X : PR W b L w) (hn : L.length ≤ 256) (s : List UInt8) (h : opOf L ≠ s) : Calls Tryz.prog 311 #[.pointer (some ⟨b, 0, none⟩), .string (ba s)] w fun e w' => e = .returned (.bool false) ∧ w' = w := by
  have O := op_any X hn
  have hne : ((ba (opOf L)).toList == (ba s).toList) = false := by
    rw [ByteArray.toList_eq, ByteArray.toList_eq]
    simpa using h
  generalize ba (opOf L) = A at *
  generalize ba s = S at *
  clear h X
  go_enter Tryz.func311, Tryz.ntmps311
  go_wp2_with (go_at_call 235; refine O.mono ?_; rintro e w' ⟨rfl, hw⟩; obtain rfl := hw.symm; clear hw)
  go_ret
  exact ⟨rfl, rfl⟩
theorem skip_yes {W w : World} {b : Nat} {L : List Tk.Tok} (X : PR W b L w) (hn : L.length ≤ 256) (s : List UInt8) (hs : s ≠ []) (h : opOf L = s) : Calls Tryz.prog 311 #[.pointer (some ⟨b, 0, none⟩), .string (ba s)] w fun e w' => e = .returned (.bool true) ∧ Sp W b L.tail w w' := by
  have O := op_any X hn
  obtain ⟨h1, h2⟩ := op_tail (ts := L) h hs
  have TK : Calls Tryz.prog 236 #[.pointer (some ⟨b, 0, none⟩)] w fun e w' => e = .returned (.agg (tk (Tk.Tok.op s)).cs) ∧ Sp W b L.tail w w' := by
    rw [h2] at X
    exact take_cons X (by omega)
  rw [h] at O
  generalize (tk (Tk.Tok.op s)).cs = es at *
  generalize ba s = S at *
  clear h h2 X h1
  go_enter Tryz.func311, Tryz.ntmps311
  go_wp2_with (first
    | (go_at_call 235; refine O.mono ?_; rintro e w' ⟨rfl, hw⟩; obtain rfl := hw.symm; clear hw)
    | (go_at_call 236; refine TK.mono ?_; rintro e w1 ⟨rfl, hw⟩; have HS : Hid (Sp W b L.tail w w1) := hw; clear hw))
  go_ret
  exact ⟨rfl, HS.out⟩
theorem must_no {W w : World} {b : Nat} {L : List Tk.Tok} (X : PR W b L w) (hn : L.length ≤ 256) (s : List UInt8) (h : opOf L ≠ s) : Calls Tryz.prog 322 #[.pointer (some ⟨b, 0, none⟩), .string (ba s)] w fun e w' => e = .panicked formP ∧ w' = w := by
  have O := skip_no X hn s h
  generalize ba s = S at *
  clear h X
  go_enter Tryz.func322, Tryz.ntmps322
  go_wp2_with (go_at_call 311; refine O.mono ?_; rintro e w' ⟨rfl, hw⟩; obtain rfl := hw.symm; clear hw)
  exact ⟨rfl, rfl, rfl⟩
theorem must_yes {W w : World} {b : Nat} {L : List Tk.Tok} (X : PR W b L w) (hn : L.length ≤ 256) (s : List UInt8) (hs : s ≠ []) (h : opOf L = s) : Calls Tryz.prog 322 #[.pointer (some ⟨b, 0, none⟩), .string (ba s)] w fun e w' => e = .returned (.tuple #[]) ∧ Sp W b L.tail w w' := by
  have O := skip_yes X hn s hs h
  generalize ba s = S at *
  clear h X
  go_enter Tryz.func322, Tryz.ntmps322
  go_wp2_with (go_at_call 311; refine O.mono ?_; rintro e w1 ⟨rfl, hw⟩; have HS : Hid (Sp W b L.tail w w1) := hw; clear hw)
  go_end0
  exact ⟨rfl, HS.out⟩
end Go.Proofs.YtpafokmkcblcnaaGreatDoor

namespace Go.Proofs.YtpafokmkcblcnaaGreatDoor
open Go.RowKit Go.Fm
set_option maxRecDepth 100000
theorem build_lab (w : World) (k : Int) (s : ByteArray) (p : Option Addr) (n c : Nat) : (Instr.build 67 #[(0, .int .i64 k), (1, .string s), (5, .slice p n c)]).run Tryz.prog w = .ok (.agg (lcs (lab0 k s) (.slice p n c))) w := by kernel_rfl
theorem build_val (w : World) (k n : Int) (s : ByteArray) : (Instr.build 67 #[(0, .int .i64 1), (2, .agg #[.int .i64 k, .int .i64 n, .string s])]).run Tryz.prog w = .ok (.agg (lcs (labV k n s) (.slice none 0 0))) w := by kernel_rfl
theorem slice_one (w : World) (a : Lab) (p : Option Addr) (n c : Nat) : (Instr.buildSlice 65 1 #[(0, .agg (lcs a (.slice p n c)))]).run Tryz.prog w = .ok (.slice (some ⟨w.heap.size, 0, none⟩) 1 1) (w.alloc (.cells (lcs a (.slice p n c)) 67)) := by kernel_rfl
theorem slice_two (w : World) (a a' : Lab) (p p' : Option Addr) (n c n' c' : Nat) : (Instr.buildSlice 65 2 #[(0, .agg (lcs a (.slice p n c))), (1, .agg (lcs a' (.slice p' n' c')))]).run Tryz.prog w = .ok (.slice (some ⟨w.heap.size, 0, none⟩) 2 2) (w.alloc (.cells (lcl a (.slice p n c) ++ lcl a' (.slice p' n' c')).toArray 67)) := by kernel_rfl
theorem wpList_build_run {P : Program} {ops : Array Oper} {rest : List Oper} {o : Oper} {a : Act} {w : World} {Q : Exit → Act → World → Prop} (hgd : o.guard = none) (ty : TypeId) (xs : Array (Nat × Operand)) (ho : o.op = .build ty xs)
    (ps : Array (Nat × Value)) (v : Value) (hx : (xs.map fun (i, x) => (i, a.eval x)) = ps) (hrun : (Instr.build ty ps).run P w = .ok v w) (h : wpList P ops Q rest (a.put o.dst v) w) : wpList P ops Q (o :: rest) a w := by
  refine wpList_plain hgd fun K hK => ?_
  unfold Oper.wp execOp
  simp only [ho, hx, Sem.run_bind, Sem.run_pure, hrun, Result.andThen_ok]
  exact hK _ _ h
theorem wpList_bslice_run {P : Program} {ops : Array Oper} {rest : List Oper} {o : Oper} {a : Act} {w : World} {Q : Exit → Act → World → Prop} (hgd : o.guard = none) (ty : TypeId) (len : Nat) (xs : Array (Nat × Operand)) (ho : o.op = .buildSlice ty len xs)
    (ps : Array (Nat × Value)) (v : Value) (w' : World) (hx : (xs.map fun (i, x) => (i, a.eval x)) = ps) (hrun : (Instr.buildSlice ty len ps).run P w = .ok v w') (h : wpList P ops Q rest (a.put o.dst v) w') : wpList P ops Q (o :: rest) a w := by
  refine wpList_plain hgd fun K hK => ?_
  unfold Oper.wp execOp
  simp only [ho, hx, Sem.run_bind, Sem.run_pure, hrun, Result.andThen_ok]
  exact hK _ _ h
theorem nd_sto {u : World} {g : Nat} {zs : Array Value} (hg : u.heap[g]? = some (.cells zs 67)) (hz : zs.size = 18) (a : Lab) (p : Option Addr) (n c : Nat) :
    Hid ((Instr.storeAt 67 (.pointer (some ⟨g, 0, none⟩)) (.agg (lcs a (.slice p n c)))).run Tryz.prog u = .ok () (u.setRow g (lcs a (.slice p n c)))) :=
  sto hg (by rw [lcs_size]; exact inf67) hz (lcs_all _ _ _ _)
theorem nd_res {u : World} {g : Nat} {zs es : Array Value} (hg : u.heap[g]? = some (.cells zs 67)) (he : es.size = 18) {fn : Func} {i : Tmp} (hr : fn.results = #[.cell i 67]) {tmps : Array Value} (hp : tmps.getD i undef = .pointer (some ⟨g, 0, none⟩)) :
    (results fn tmps).run Tryz.prog (u.setRow g es) = .ok (.agg es) (u.setRow g es) :=
  results_cell_row hr _ _ g 67 _ (0, 0) _ hp (setRow_heap _ _ _ _ _ _ hg) Tryz.underlying67 rfl (by rw [he]; exact inf67)
def InK (K : Nat → Prop) (w : World) : Addr → F → Prop
  | _, .nil => True
  | a, .node _ _ l f r => (∃ p n c, K a.block ∧ (∀ j v, (lcl l (.slice p n c))[j]? = some v → w.cell? (a.add j) = some v) ∧ n = (kids f).length ∧ (f = .nil ∨ ∃ a', p = some a' ∧ InK K w a' f)) ∧ InK K w (a.add 18) r
def NK (K : Nat → Prop) (w : World) (es : Array Value) (t : T) : Prop := ∃ p n c, es = lcs t.1 (.slice p n c) ∧ n = (kids t.2).length ∧ (t.2 = .nil ∨ ∃ a, p = some a ∧ InK K w a t.2)
theorem InK.inf {K : Nat → Prop} : ∀ {f : F} {w : World} {a : Addr}, InK K w a f → InF w a f := by
  intro f
  induction f with
  | nil => intro w a _; trivial
  | node b o l f r ihf ihr =>
    intro w a h
    obtain ⟨⟨p, n, c, h0, h1, h2, h3⟩, h4⟩ := h
    exact ⟨⟨p, n, c, h1, h2, h3.imp id fun ⟨a', e, hi⟩ => ⟨a', e, ihf hi⟩⟩, ihr h4⟩
theorem NK.nt {K : Nat → Prop} {w : World} {es : Array Value} {t : T} (h : NK K w es t) : NT w es t := by
  obtain ⟨p, n, c, e, h1, h2⟩ := h
  exact ⟨p, n, c, e, h1, h2.imp id fun ⟨a, e, hi⟩ => ⟨a, e, hi.inf⟩⟩
theorem InK.mono {K K' : Nat → Prop} : ∀ {f : F} {w : World} {a : Addr}, InK K w a f → (∀ i, K i → i < w.heap.size → K' i) → InK K' w a f := by
  intro f
  induction f with
  | nil => intro w a _ _; trivial
  | node b o l f r ihf ihr =>
    intro w a h hK
    obtain ⟨⟨p, n, c, h0, h1, h2, h3⟩, h4⟩ := h
    have hlt : a.block < w.heap.size := by
      have := World.block_lt_of_cell? w (a.add 0) (h1 0 _ rfl)
      rwa [show (a.add 0).block = a.block by unfold Addr.add; split <;> rfl] at this
    exact ⟨⟨p, n, c, hK _ h0 hlt, h1, h2, h3.imp id fun ⟨a', e, hi⟩ => ⟨a', e, ihf hi hK⟩⟩, ihr h4 hK⟩
theorem NK.mono {K K' : Nat → Prop} {w : World} {es : Array Value} {t : T} (h : NK K w es t) (hK : ∀ i, K i → i < w.heap.size → K' i) : NK K' w es t := by
  obtain ⟨p, n, c, e, h1, h2⟩ := h
  exact ⟨p, n, c, e, h1, h2.imp id fun ⟨a, e, hi⟩ => ⟨a, e, hi.mono hK⟩⟩
theorem InK.grown {K : Nat → Prop} : ∀ {f : F} {w w' : World} {a : Addr} {row : Option Nat}, InK K w a f → w.grownBy w' row → (∀ g, row = some g → ¬ K g) → InK K w' a f := by
  intro f
  induction f with
  | nil => intro w w' a row _ _ _; trivial
  | node b o l f r ihf ihr =>
    intro w w' a row h hg hr
    obtain ⟨⟨p, n, c, h0, h1, h2, h3⟩, h4⟩ := h
    have hc : ∀ j x, w.cell? (a.add j) = some x → w'.cell? (a.add j) = some x := fun j x hx => by
      have hlt := World.block_lt_of_cell? w _ hx
      refine (World.cell?_of_block (hg.block _ hlt ?_)).trans hx
      rw [show (a.add j).block = a.block by unfold Addr.add; split <;> rfl]
      intro e; exact hr _ e.symm h0
    exact ⟨⟨p, n, c, h0, fun j x hj => hc j x (h1 j x hj), h2, h3.imp id fun ⟨a', e, hi⟩ => ⟨a', e, ihf hi hg hr⟩⟩, ihr h4 hg hr⟩
theorem NK.grown {K : Nat → Prop} {w w' : World} {es : Array Value} {t : T} {row : Option Nat} (h : NK K w es t) (hg : w.grownBy w' row) (hr : ∀ g, row = some g → ¬ K g) : NK K w' es t := by
  obtain ⟨p, n, c, e, h1, h2⟩ := h
  exact ⟨p, n, c, e, h1, h2.imp id fun ⟨a, e, hi⟩ => ⟨a, e, hi.grown hg hr⟩⟩
theorem NK.below {K : Nat → Prop} {w w' : World} {es : Array Value} {t : T} (h : NK K w es t) (hb : Below w.heap.size w w') : NK K w' es t := h.grown (grown_below (row := none) hb) (fun g e => by cases e)
theorem InK.row {K : Nat → Prop} {u : World} {g : Nat} (hK : K g) : ∀ (l : List (Array Value × T)) (o : Nat), (∀ x ∈ l, NK K u x.1 x.2) → (∀ j v, (l.flatMap (·.1.toList))[j]? = some v → u.cell? ⟨g, o + j, none⟩ = some v) → InK K u ⟨g, o, none⟩ (mk (l.map (·.2)))
  | [], o, _, _ => trivial
  | x :: l, o, h1, h2 => by
    obtain ⟨p, n, c, e, hs⟩ := h1 x (by simp)
    have hadd : ∀ k, (⟨g, o, none⟩ : Addr).add k = ⟨g, o + k, none⟩ := fun k => by unfold Addr.add; split <;> simp_all
    have hlen : x.1.toList.length = 18 := by rw [e]; rfl
    rw [List.flatMap_cons] at h2
    refine ⟨⟨p, n, c, hK, fun j v hj => ?_, hs.1, hs.2⟩, ?_⟩
    · rw [hadd]
      refine h2 j v ?_
      have hjl : j < x.1.toList.length := by rw [hlen]; exact (List.getElem?_eq_some_iff.1 hj).1
      rw [List.getElem?_append_left hjl, e]
      exact hj
    · rw [hadd]
      refine InK.row hK l (o + 18) (fun y hy => h1 y (by simp [hy])) (fun j v hj => ?_)
      have := h2 (18 + j) v (by rw [List.getElem?_append_right (by omega), hlen, Nat.add_sub_cancel_left]; exact hj)
      rw [Nat.add_assoc]; exact this
theorem NK.newAt {K : Nat → Prop} {u : World} {g : Nat} (hK : K g) {k : Int} {s : ByteArray} (l : List (Array Value × T)) (h : ∀ x ∈ l, NK K u x.1 x.2) {es : Array Value} {z : Nat × Nat} (hg : u.heap[g]? = some (.cells es 67 z)) {o : Nat} (he : ∀ j v, (l.flatMap (·.1.toList))[j]? = some v → es[o + j]? = some v) (c : Nat) :
    NK K u (lcs (lab0 k s) (.slice (some ⟨g, o, none⟩) l.length c)) (tree (lab0 k s) (l.map (·.2))) := by
  refine ⟨_, _, _, rfl, ?_, .inr ⟨_, rfl, InK.row hK l o h (fun j v hj => ?_)⟩⟩
  · show l.length = (kids (mk (l.map (·.2)))).length
    rw [kids_mk, List.length_map]
  · rw [cell_of_row _ _ _ es 67 z hg]
    exact he j v hj
theorem NK.leaf {K : Nat → Prop} {w : World} {a : Lab} : NK K w (lcs a (.slice none 0 0)) (tree a []) := ⟨_, _, _, rfl, rfl, .inl rfl⟩
theorem NK.size {K : Nat → Prop} {w : World} {es : Array Value} {t : T} (h : NK K w es t) : es.size = 18 := by obtain ⟨p, n, c, e, _⟩ := h; rw [e]; rfl
theorem NK.one {K : Nat → Prop} {w : World} {es : Array Value} {t : T} (h : NK K w es t) : es.all (·.oneCell') = true := by obtain ⟨p, n, c, e, _⟩ := h; rw [e]; exact lcs_all _ _ _ _
theorem NK.sto {K : Nat → Prop} {w u : World} {es : Array Value} {t : T} (h : NK K w es t) {g : Nat} {zs : Array Value} (hg : u.heap[g]? = some (.cells zs 67)) (hz : zs.size = 18) :
    Hid ((Instr.storeAt 67 (.pointer (some ⟨g, 0, none⟩)) (.agg es)).run Tryz.prog u = .ok () (u.setRow g es)) := YtpafokmkcblcnaaGreatDoor.sto hg (by rw [h.size]; exact inf67) (by rw [h.size]; exact hz) h.one
theorem NK.lod {K : Nat → Prop} {w u : World} {es : Array Value} {t : T} (h : NK K w es t) {g : Nat} (hg : u.heap[g]? = some (.cells es 67)) :
    Hid ((Instr.loadAt 67 (.pointer (some ⟨g, 0, none⟩))).run Tryz.prog u = .ok (.agg es) u) := YtpafokmkcblcnaaGreatDoor.lod (z := (0, 0)) hg rfl Tryz.underlying67 (by rw [h.size]; exact inf67)
set_option maxHeartbeats 1000000 in
theorem const_any (k n : Int) (s : ByteArray) (w : World) : Calls Tryz.prog 323 #[.agg #[.int .i64 k, .int .i64 n, .string s]] w fun e w' => e = .returned (.agg (lcs (labV k n s) (.slice none 0 0))) ∧ Below w.heap.size w w' := by
  obtain ⟨w2, hw2⟩ : ∃ w2, (w.alloc (.cells #[.int .i64 k, .int .i64 n, .string s] 62)).alloc (.cells nd0 67) = w2 := ⟨_, rfl⟩
  have H2 : w2.heap[w.heap.size + 1]? = some (.cells nd0 67) := by
    rw [← hw2]
    have := heap_alloc_new (w.alloc (.cells #[.int .i64 k, .int .i64 n, .string s] 62)) (.cells nd0 67)
    simpa using this
  have H1 : w2.heap[w.heap.size]? = some (.cells #[.int .i64 k, .int .i64 n, .string s] 62) := by
    rw [← hw2]; exact (Below.heap_alloc _ _ _ (by simp)).trans (heap_alloc_new w _)
  have HB : Hid (Below w.heap.size w w2) := by show Below _ _ _; rw [← hw2]; exact bel_alloc (bel_alloc (Below.refl _ _) _) _
  have RL : Hid ((Instr.loadAt 62 (.pointer (some ⟨w.heap.size, 0, none⟩))).run Tryz.prog w2 = .ok (.agg #[.int .i64 k, .int .i64 n, .string s]) w2) := lod H1 rfl Tryz.underlying62 (by kernel_rfl)
  have RB : Hid _ := build_val w2 k n s
  have RS := nd_sto H2 rfl (labV k n s) none 0 0
  have HR : Hid (w2.heap[w.heap.size + 1]? = some (.cells nd0 67)) := H2
  have HF : Hid (Below w.heap.size w (w2.setRow (w.heap.size + 1) (lcs (labV k n s) (.slice none 0 0)))) := HB.out.grown (setRow_grown _ _ _) HB.out.size (fun j e => by cases e; omega)
  clear H1 H2 HB
  have hes := lcs_size (labV k n s) (.slice none 0 0)
  go_enter Tryz.func323, Tryz.ntmps323
  go_wp2_with (first
    | (refine wpList_load_run rfl 62 _ rfl _ _ rfl RL.out ?_)
    | (refine wpList_build_run rfl 67 _ rfl _ _ rfl RB.out ?_)
    | (refine wpList_store_run rfl 67 _ _ rfl _ _ _ rfl rfl RS.out ?_))
  exact bodyPost_ret (nd_res HR.out hes rfl rfl) rfl ⟨rfl, HF.out⟩
end Go.Proofs.YtpafokmkcblcnaaGreatDoor
