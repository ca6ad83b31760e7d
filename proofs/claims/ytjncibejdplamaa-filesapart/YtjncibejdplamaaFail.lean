/- The contracts of Sync's closure and of fail: what a failure of the power leaves of each file. -/
import Derived.Test.YtjncibejdplamaaClo
import Derived.Maps.RangeWalk
namespace Go.Proofs.Ytjncibejdplamaa
open Go.RowKit Go.Maps
open Go.WideMaps

theorem clo49_end {K : Nat → Prop} {base : Nat} {w : World} {b bm : Nat} {s : WS} {D : DataW Value} {F : List UInt8 → Option FileS} (h : S K base w b bm s D F) {nm : List UInt8} {f : FileS} (hf : F nm = some f) :
    S K base ((w.setCell ⟨f.fb, 1, none⟩ (.int .i64 f.data.length)).drew) b bm s D (upd F nm (some ⟨f.fb, f.v, f.data, f.data.length⟩)) ∧ Bel K base w ((w.setCell ⟨f.fb, 1, none⟩ (.int .i64 f.data.length)).drew) := by
  obtain ⟨g1, g2, g3, g4, g5⟩ := h.files nm f hf
  refine ⟨(h.setF (f' := ⟨f.fb, f.v, f.data, f.data.length⟩) hf rfl ?_ ⟨g1, ?_, ?_, Nat.le_refl _, g5⟩ (fun g hg => .inl hg)).drew, (h.refl.setCell g1.1 _).drew⟩
  · intro i _ hne _; exact heap_set_other _ _ hne
  · have := heap_set (i := 1) g2 (.int .i64 f.data.length)
    simpa using this
  · refine ownsRow_of_block g3 fun g hg => heap_set_other _ _ ?_
    obtain ⟨_, cur, hc⟩ := ownsRow_type g3 hg
    rintro e; rw [e, g2] at hc; simp at hc

set_option maxHeartbeats 1000000 in
theorem clo49 {K : Nat → Prop} {base : Nat} {w : World} {b bm : Nat} {s : WS} {D : DataW Value} {F : List UInt8 → Option FileS} (h : S K base w b bm s D F) {nm : List UInt8} {f : FileS} (hf : F nm = some f)
    (x : Nat) (hx : w.heap[x]? = some (.cells #[ptrOf f.fb] 73 (0, 0))) :
    Calls Try.prog 49 #[ptrOf x] w fun e w' => e = .returned (.tuple #[]) ∧ S K base w' b bm s D (upd F nm (some ⟨f.fb, f.v, f.data, f.data.length⟩)) ∧ Bel K base w w' := by
  have E : Hid (S K base ((w.setCell ⟨f.fb, 1, none⟩ (.int .i64 f.data.length)).drew) b bm s D (upd F nm (some ⟨f.fb, f.v, f.data, f.data.length⟩)) ∧ Bel K base w ((w.setCell ⟨f.fb, 1, none⟩ (.int .i64 f.data.length)).drew)) := clo49_end h hf
  obtain ⟨g1, g2, g3, g4, g5⟩ := h.files nm f hf
  obtain ⟨d1, d2, hvl⟩ := ownsRow_slice g3
  have cx := cell0 hx
  obtain ⟨cf0, cf1, -, fz1⟩ := fcells g2
  rw [hvl] at cf0
  clear h hx g2 g3 hf hvl
  go_enter Try.func49, Try.ntmps49
  go_wp2
  go_region
  all_goals (go_end0)
  all_goals exact ⟨rfl, E.out⟩

/-! ### fail -/
def reslice : Value → Nat → Value
  | .slice a _ c, n => .slice a n c
  | v, _ => v
def cutN (keep : Int) (f : FileS) : Nat := f.sy + min keep.toNat (f.data.length - f.sy)
def cutf (keep : Int) (f : FileS) : FileS := ⟨f.fb, reslice f.v (cutN keep f), f.data.take (cutN keep f), cutN keep f⟩
def cutF (keep : Int) (left : Lit → Bool) (F : List UInt8 → Option FileS) : List UInt8 → Option FileS := fun l => if left (.string l) then F l else (F l).map (cutf keep)

theorem cutN_le (keep : Int) (f : FileS) (h : f.sy ≤ f.data.length) : cutN keep f ≤ f.data.length := by unfold cutN; omega

theorem S.iter {K : Nat → Prop} {base : Nat} {w w' : World} {b bm r : Nat} {s : WS} {D : DataW Value} {F : List UInt8 → Option FileS} (h : S K base w b bm s D F) {m : Option Nat} {x : Nat} {seen : Array Nat} {c : Nat} (hr : w.heap[r]? = some (.mapIter m x seen c)) (hKr : ¬ K r)
    (hk : ∀ i, i < w.heap.size → i ≠ r → w'.heap[i]? = w.heap[i]?) : S K base w' b bm s D F := {
  kb := kb_of h.kb fun i hi => hk i (h.kb i hi) (fun e => hKr (e ▸ hi))
  hb := h.hb
  hbm := h.hbm
  hB := (hk b (lt_of_some h.hB) (by rintro rfl; rw [h.hB] at hr; simp [blk] at hr)).trans h.hB
  own := ownsMap_of_block h.own (hk bm h.own.lt (by rintro rfl; obtain ⟨es, cl, h1, _⟩ := h.own; rw [h1] at hr; simp at hr))
  at_ := h.at_
  apart := h.apart
  files := fun l f hf => by
    obtain ⟨h1, h2, h3, h4⟩ := h.files l f hf
    refine ⟨h1, (hk _ (lt_of_some h2) (by rintro e; rw [e, hr] at h2; simp at h2)).trans h2, ownsRow_of_block h3 fun g hg => ?_, h4⟩
    obtain ⟨_, cur, hc⟩ := ownsRow_type h3 hg
    exact hk g (lt_of_some hc) (by rintro rfl; rw [hr] at hc; simp at hc) }

theorem wpList_next_files {K : Nat → Prop} {base : Nat} {w : World} {b bm r cnt : Nat} {s : WS} {D : DataW Value} {F : List UInt8 → Option FileS} (hS : S K base w b bm s D F) {left : Lit → Bool}
    {ops : Array Oper} {rest : List Oper} {o : Oper} {a : Act} {Q : Exit → Act → World → Prop} (hg : o.guard = none) (it : Operand) (hop : o.op = Op.next it false)
    (hit : a.eval it = .pointer (some ⟨r, 0, none⟩)) (h : w.ranges Try.prog 9 RV bm r 16 D left cnt)
    (hDone : cnt = 0 → (∀ kl, left kl = false) → wpList Try.prog ops Q rest (a.put o.dst (.tuple #[.bool false])) w)
    (hMore : ∀ (x : ByteArray) (f : FileS) (w' : World) (cnt' : Nat), F x.data.toList = some f → left (.string x.data.toList) = true → w'.ranges Try.prog 9 RV bm r 16 D (fun z => left z && !z.sameKey (.string x.data.toList)) cnt' → cnt' < cnt →
      w.grownBy w' (some r) → w'.heap.size = w.heap.size → (Instr.entry (.pointer (some ⟨r, 0, none⟩))).run Try.prog w' = .ok (.tuple #[.string x, ptrOf f.fb]) w' → wpList Try.prog ops Q rest (a.put o.dst (.tuple #[.bool true, .string x, ptrOf f.fb])) w') :
    wpList Try.prog ops Q (o :: rest) a w := by
  refine wpList_next_ranges (α := ByteArray) (β := Value) w hg it hop 9 K9 RV Value.string id (fun key kl hk => by obtain ⟨x, rfl, _⟩ := string_of_keyOf Try.underlying9 hk; exact ⟨x, rfl⟩) (fun v y _ => ⟨v, rfl⟩) bm r 16 D left cnt hit h hDone ?_
  intro x c kl y w' cnt' hkey hlk hv hat hrg hlt hgr hsz hen
  obtain ⟨x', ex, rfl, _⟩ := string_of_keyOf Try.underlying9 hkey
  cases ex
  have hy : y.1 = .held c := by simp only [RV, id, Option.some.injEq] at hv; rw [← hv]
  cases e : F x.data.toList with
  | none =>
    exfalso
    have h1 := hat (.held (.bool true)); rw [hS.at_, e] at h1
    have h2 := hat (.held (.bool false)); rw [hS.at_, e] at h2
    rw [← h2] at h1; simp at h1
  | some f =>
    have h1 := hat (.held (.bool true)); rw [hS.at_, e, hy] at h1
    simp only [DataW.held.injEq] at h1
    subst h1
    exact hMore x f w' cnt' e hlk hrg hlt hgr hsz hen

theorem cutF_start {K : Nat → Prop} {base : Nat} {w : World} {b bm : Nat} {s : WS} {D : DataW Value} {F : List UInt8 → Option FileS} (h : S K base w b bm s D F) (keep : Int) : cutF keep (Maps.has D) F = F := by
  funext l
  unfold cutF
  rw [has_of_at h.at_]
  cases e : F l <;> simp
theorem cutF_end (keep : Int) {left : Lit → Bool} (h : ∀ kl, left kl = false) (F : List UInt8 → Option FileS) : cutF keep left F = fun l => (F l).map (cutf keep) := by
  funext l; simp [cutF, h]
theorem cutF_hit {keep : Int} {left : Lit → Bool} {F : List UInt8 → Option FileS} {l : List UInt8} (h : left (.string l) = true) : cutF keep left F l = F l := by simp [cutF, h]
theorem cutF_step {keep : Int} {left : Lit → Bool} {F : List UInt8 → Option FileS} {l : List UInt8} {f : FileS} (hf : F l = some f) :
    upd (cutF keep left F) l (some (cutf keep f)) = cutF keep (fun z => left z && !z.sameKey (.string l)) F := by
  funext l'
  unfold upd cutF
  by_cases e : l' = l
  · subst e; simp [Lit.sameKey, hf]
  · simp [Lit.sameKey, e]

theorem fail_end {K : Nat → Prop} {base : Nat} {w : World} {b bm : Nat} {s : WS} {D : DataW Value} {F : List UInt8 → Option FileS} (h : S K base w b bm s D F) :
    S K base ((w.setCell ⟨b, 1, none⟩ (.bool true)).setCell ⟨b, 3, none⟩ (.int .i64 0)) b bm { s with off := true, keep := 0 } D F := by
  have s1 : S K base (w.setCell ⟨b, 1, none⟩ (.bool true)) b bm { s with off := true } D F := by
    refine h.setB (fun i _ hne => heap_set_other _ _ hne) ?_
    have := heap_set (i := 1) (w := w) (b := b) (arr := #[.map (some bm), .bool s.off, .int .i64 s.left, .int .i64 s.keep, .int .i64 s.ops, .int .i64 s.written]) (t := 51) (z := (0, 0)) h.hB (.bool true)
    simpa [blk] using this
  refine s1.setB (fun i _ hne => heap_set_other _ _ hne) ?_
  have := heap_set (i := 3) (w := w.setCell ⟨b, 1, none⟩ (.bool true)) (b := b) (arr := #[.map (some bm), .bool true, .int .i64 s.left, .int .i64 s.keep, .int .i64 s.ops, .int .i64 s.written]) (t := 51) (z := (0, 0)) s1.hB (.int .i64 0)
  simpa [blk] using this

theorem reslice_own {w : World} {base : Nat} {v : Value} {l : List UInt8} (h : w.ownsRow base 5 1 v l.length (bcells l)) {n : Nat} (hn : n ≤ l.length) : w.ownsRow base 5 1 (reslice v n) (l.take n).length (bcells (l.take n)) := by
  have hl : (l.take n).length = n := by simp; omega
  have hb : bcells (l.take n) = (bcells l).take n := by simp [bcells]
  refine ⟨by rw [hl]; simp [bcells]; omega, ?_⟩
  rw [hl, hb]
  rcases h.2 with ⟨rfl, h0⟩ | ⟨g, cap, cur, rfl, h1, h2, h3, h4, h5, h6⟩
  · left; refine ⟨?_, by omega⟩
    have : n = 0 := by omega
    subst this; rfl
  · right
    refine ⟨g, cap, cur, rfl, h1, h2, by omega, h4, h5, ?_⟩
    rw [← h6, List.take_take]
    congr 1; omega
theorem reslice_block (v : Value) (n : Nat) : (reslice v n).ownBlock = v.ownBlock := by
  cases v with
  | slice a n c => cases a <;> rfl
  | _ => rfl
theorem cut_end {K : Nat → Prop} {base : Nat} {w : World} {b bm : Nat} {s : WS} {D : DataW Value} {F : List UInt8 → Option FileS} (h : S K base w b bm s D F) {l : List UInt8} {f : FileS} (hf : F l = some f) (keep : Int) :
    S K base (((w.setCell ⟨f.fb, 1, none⟩ (.int .i64 (cutN keep f))).setCell ⟨f.fb, 0, none⟩ (reslice f.v (cutN keep f))).drew.drew) b bm s D (upd F l (some (cutf keep f))) ∧
    Bel K base w (((w.setCell ⟨f.fb, 1, none⟩ (.int .i64 (cutN keep f))).setCell ⟨f.fb, 0, none⟩ (reslice f.v (cutN keep f))).drew.drew) := by
  obtain ⟨g1, g2, g3, g4, g5⟩ := h.files l f hf
  have hc := cutN_le keep f g4
  refine ⟨(h.setF (f' := cutf keep f) hf rfl ?_ ⟨⟨g1.1, fun g hg hK => g1.2 g (by simpa [cutf, reslice_block] using hg) hK⟩, ?_, ?_, ?_, ?_⟩ ?_).drew.drew, ((h.refl.setCell g1.1 _).setCell g1.1 _).drew.drew⟩
  · intro i _ hne _
    rw [heap_set_other _ _ hne]; exact heap_set_other _ _ hne
  · have h1 := heap_set (i := 1) g2 (.int .i64 (cutN keep f))
    have h2 := heap_set (i := 0) h1 (reslice f.v (cutN keep f))
    simpa [cutf] using h2
  · refine ownsRow_of_block (reslice_own g3 hc) fun g hg => ?_
    have hg : (reslice f.v (cutN keep f)).ownBlock = some g := hg
    rw [reslice_block] at hg
    obtain ⟨_, cur, hcc⟩ := ownsRow_type g3 hg
    have hne : g ≠ f.fb := by rintro e; rw [e, g2] at hcc; simp at hcc
    rw [heap_set_other _ _ hne]; exact heap_set_other _ _ hne
  · simp [cutf]; omega
  · simp [cutf]; omega
  · intro g hg
    left
    simpa [cutf, reslice_block] using hg

theorem round_end {K : Nat → Prop} {base : Nat} {w w1 wr : World} {b bm fb cnt cnt1 : Nat} {s : WS} {D : DataW Value} {F : List UInt8 → Option FileS} {keep : Int} {left : Lit → Bool} {v u : Value}
    (hE : S K base (((w1.setCell ⟨fb, 1, none⟩ v).setCell ⟨fb, 0, none⟩ u).drew.drew) b bm s D (cutF keep left F) ∧ Bel K base w1 (((w1.setCell ⟨fb, 1, none⟩ v).setCell ⟨fb, 0, none⟩ u).drew.drew))
    (hR : w1.ranges Try.prog 9 RV bm w.heap.size 16 D left cnt1) (h1 : w.heap.size ≠ fb) (h2 : bm ≠ fb) (hB : Bel K base w wr) (hG : wr.grownBy w1 (some w.heap.size)) (hL : wr.rangeLeft bm w.heap.size = cnt) (hbase : base ≤ w.heap.size) (hlt : cnt1 < cnt) :
    (∃ left cnt, (((w1.setCell ⟨fb, 1, none⟩ v).setCell ⟨fb, 0, none⟩ u).drew.drew).ranges Try.prog 9 RV bm w.heap.size 16 D left cnt ∧ S K base (((w1.setCell ⟨fb, 1, none⟩ v).setCell ⟨fb, 0, none⟩ u).drew.drew) b bm s D (cutF keep left F) ∧
      Bel K base w (((w1.setCell ⟨fb, 1, none⟩ v).setCell ⟨fb, 0, none⟩ u).drew.drew)) ∧ (((w1.setCell ⟨fb, 1, none⟩ v).setCell ⟨fb, 0, none⟩ u).drew.drew).rangeLeft bm w.heap.size < wr.rangeLeft bm w.heap.size := by
  have hg : w1.grownBy (((w1.setCell ⟨fb, 1, none⟩ v).setCell ⟨fb, 0, none⟩ u).drew.drew) (some fb) :=
    ⟨rfl, rfl, rfl, by simp [World.setCell], fun k _ hk => by
      have hne : k ≠ fb := by simpa using hk
      show ((w1.setCell ⟨fb, 1, none⟩ v).setCell ⟨fb, 0, none⟩ u).heap[k]? = _
      rw [heap_set_other _ _ hne]; exact heap_set_other _ _ hne⟩
  have hR' := hR.kept hg (by simpa using h2) (by simpa using h1)
  refine ⟨⟨left, cnt1, hR', hE.1, (hB.grown hG (Nat.le_trans hbase hB.size) (by intro k hk; cases hk; exact ⟨hbase, fun hi => absurd (hB.kb _ hi) (Nat.lt_irrefl _)⟩)).trans hE.2⟩, ?_⟩
  rw [hR'.left_eq, hL]; exact hlt

set_option maxHeartbeats 1000000 in
theorem fail_any {K : Nat → Prop} {base : Nat} {w : World} {b bm : Nat} {s : WS} {D : DataW Value} {F : List UInt8 → Option FileS} (h : S K base w b bm s D F) (hkeep : 0 ≤ s.keep) (hkeep' : s.keep ≤ 9223372036854775807) (hbase : base ≤ w.heap.size) :
    Calls Try.prog 61 #[ptrOf b] w fun e w' => e = .returned (.tuple #[]) ∧ S K base w' b bm { s with off := true, keep := 0 } D (fun l => (F l).map (cutf s.keep)) ∧ Bel K base w w' := by
  obtain ⟨c0, -⟩ := blk_cells h.hB
  have H : Hid (S K base w b bm s D F) := h
  clear h
  go_enter Try.func61, Try.ntmps61
  go_wp2_with (first
    | (at_range; refine wpList_range_own _ rfl _ 49 rfl 9 73 K9 Try.underlying49 RV bm 16 D rfl H.out.own ?_; intro w0 hrg0 hg0 hs0)
    | go_in)
  go_frame
  go_loopw [9] (fun _ wr => ∃ (left : Lit → Bool) (cnt : Nat), wr.ranges Try.prog 9 RV bm w.heap.size 16 D left cnt ∧ S K base wr b bm s D (cutF s.keep left F) ∧ Bel K base w wr)
    (fun _ wr => wr.rangeLeft bm w.heap.size)
  case atStart =>
    exact ⟨_, _, hrg0, by rw [cutF_start H.out]; exact H.out.grown fun i hi => hg0.block i hi (by simp), H.out.refl.grown hg0 hbase (by simp)⟩
  case round =>
    obtain ⟨left, cnt, hrg, hS, hbel⟩ := hrel
    clear hrg0 hg0 hs0
    go_wp2_with (first
      | (at_next; refine wpList_next_files hS rfl _ rfl rfl hrg ?_ ?_)
      | go_in)
    · intro _ hl0
      have E : Hid _ := fail_end hS
      rw [cutF_end s.keep hl0] at E
      have HB : Hid (Bel K base w wr) := hbel
      have hb := H.out.hb
      obtain ⟨-, cb1, -, cb3, -⟩ := blk_cells hS.hB
      have f1 := blk_frozen hS.hB 1
      have f3 := blk_frozen hS.hB 3
      clear hrg hS hbel H c0
      go_wp2
      go_end0
      exact ⟨rfl, E.out, (HB.out.setCell hb _).setCell hb _⟩
    · intro x f w1 cnt1 hf hlx hrg1 hlt hg1 hs1 hen
      rw [cutF_hit hlx] at hf
      have hiter : ∃ m x seen c, wr.heap[w.heap.size]? = some (.mapIter m x seen c) := by obtain ⟨es, cl, si, se, c00, _, _, _, _, hr, _⟩ := hrg; exact ⟨_, _, _, _, hr⟩
      obtain ⟨_, _, _, _, hr⟩ := hiter
      have hS1 := hS.iter hr (fun hi => absurd (H.out.kb _ hi) (Nat.lt_irrefl _)) (fun i hi hne => hg1.block i hi (by simpa using hne))
      have hf1 : cutF s.keep left F x.data.toList = some f := by rw [cutF_hit hlx]; exact hf
      have E := cut_end hS1 hf1 s.keep
      rw [cutF_step hf] at E
      have HE : Hid (S K base (((w1.setCell ⟨f.fb, 1, none⟩ (.int .i64 (cutN s.keep f))).setCell ⟨f.fb, 0, none⟩ (reslice f.v (cutN s.keep f))).drew.drew) b bm s D (cutF s.keep (fun z => left z && !z.sameKey (.string x.data.toList)) F) ∧
        Bel K base w1 (((w1.setCell ⟨f.fb, 1, none⟩ (.int .i64 (cutN s.keep f))).setCell ⟨f.fb, 0, none⟩ (reslice f.v (cutN s.keep f))).drew.drew)) := E
      obtain ⟨g1, g2, g3, g4, g5⟩ := hS1.files _ _ hf1
      obtain ⟨-, -, -, cb3, -⟩ := blk_cells hS1.hB
      obtain ⟨cf0, cf1, fz0, fz1⟩ := fcells g2
      have HR : Hid (w1.ranges Try.prog 9 RV bm w.heap.size 16 D (fun z => left z && !z.sameKey (.string x.data.toList)) cnt1) := hrg1
      have hne1 : w.heap.size ≠ f.fb ∧ bm ≠ f.fb := by
        obtain ⟨es, cl, si, se, c00, hm, _, _, _, hr1, _⟩ := hrg1
        exact ⟨by rintro e; rw [← e, hr1] at g2; simp at g2, by rintro e; rw [← e, hm] at g2; simp at g2⟩
      have HRl : Hid (wr.rangeLeft bm w.heap.size = cnt) := hrg.left_eq
      have HB : Hid (Bel K base w wr) := hbel
      have HG : Hid (wr.grownBy w1 (some w.heap.size)) := hg1
      have hcN := cutN_le s.keep f g4
      have hcS : f.sy ≤ cutN s.keep f := by unfold cutN; omega
      have HN : Hid ((s.keep ≤ (f.data.length : Int) - f.sy → (f.sy : Int) + s.keep = (cutN s.keep f : Int)) ∧ (¬ s.keep ≤ (f.data.length : Int) - f.sy → (f.sy : Int) + ((f.data.length : Int) - f.sy) = (cutN s.keep f : Int))) := by
        unfold cutN
        constructor
        · intro h; omega
        · intro h; omega
      generalize hcut : cutN s.keep f = N at HE HN hcN hcS
      have HC : Hid (cutN s.keep f = N) := hcut
      clear hcut
      have HV : Hid ((f.v = .slice none 0 0 ∧ f.data.length = 0) ∨ ∃ g cap, f.v = .slice (some ⟨g, 0, none⟩) f.data.length cap ∧ f.data.length ≤ cap ∧ cap ≤ maxLen) := by
        rcases g3.2 with h1 | ⟨g, cap, cur, h1, _, _, h2, h3, _⟩
        · exact .inl h1
        · exact .inr ⟨g, cap, h1, h2, h3⟩
      clear hS hbel hg1 hS1 hf hf1 g2 g3 hlx hrg hrg1 hr E H c0
      obtain ⟨hn1, hn2⟩ := hne1
      rcases HV.out with ⟨e1, e2⟩ | ⟨g, cap, e1, h2, h3⟩
      · have hN0 : N = 0 := by omega
        have hs0 : f.sy = 0 := by omega
        subst hN0
        rw [e1] at cf0 HE
        rw [hs0] at cf1
        clear e1 HV HN g4 g5 hcN hcS e2 hs0
        by_cases hk0 : s.keep = 0
        · go_wp2
          go_region
          go_wp2
          go_region
          go_wp2
          exact round_end HE.out HR.out hn1 hn2 HB.out HG.out HRl.out hbase hlt
        · have hk1 : ¬ s.keep ≤ 0 := by omega
          clear hk0
          go_wp2
          go_region
          go_wp2
          go_region
          go_wp2
          exact round_end HE.out HR.out hn1 hn2 HB.out HG.out HRl.out hbase hlt
      · rw [e1] at cf0 HE
        unfold maxLen at h3
        by_cases hmin : s.keep ≤ (f.data.length : Int) - f.sy
        · have HN1 : Hid ((f.sy : Int) + s.keep = (N : Int)) := HN.out.1 hmin
          clear e1 HV HN
          go_wp2
          go_region
          rw [HN1.out]
          go_wp2
          go_region
          go_wp2
          exact round_end HE.out HR.out hn1 hn2 HB.out HG.out HRl.out hbase hlt
        · have HN1 : Hid ((f.sy : Int) + ((f.data.length : Int) - f.sy) = (N : Int)) := HN.out.2 hmin
          clear e1 HV HN
          go_wp2
          go_region
          rw [HN1.out]
          go_wp2
          go_region
          go_wp2
          exact round_end HE.out HR.out hn1 hn2 HB.out HG.out HRl.out hbase hlt
end Go.Proofs.Ytjncibejdplamaa
