/- The contract of split. -/
import Derived.Test.YthomhaegdlglhaaDoorOpen
import Derived.WalkMore
namespace Go.Proofs.YthomhaegdlglhaaDoor
open Go.RowKit
set_option maxRecDepth 100000

/-- An append whose run is known, as one step of a region that draws. -/
theorem step_append_run {P : Program} {ops : Array Oper} {o : Oper} {a : Act} {w : World} {K : Act → World → Prop} {Q : Exit → Act → World → Prop} {E : Prop}
    (hg : o.guard = none) (n : Nat) (hdst : o.dst = some n) (s x : Operand) (t : TypeId) (hop : o.op = Op.call { callee := Callee.builtin Builtin.append, args := #[s, x], argTypes := #[t, t] })
    (v bv v' : Value) (w' : World) (hs : a.eval s = v) (hx : a.eval x = bv) (hrun : (Builtin.append_ #[t, t] o.type #[v, bv]).run P w = .ok v' w')
    (hK : K (a.put (some n) v') w') : if Region.wanted o (yielded ops a.tmps) = true then Oper.wp P o a w K Q else E := by
  have hw : Region.wanted o (yielded ops a.tmps) = true := by simp [Region.wanted, hg]
  rw [if_pos hw]
  unfold Oper.wp
  simp [execOp, hop, resolve, invoke, builtin, hs, hx, hrun, Result.andThen]
  show K (a.put o.dst v') w'
  rw [hdst]
  exact hK

def lenV : Value → Nat
  | .slice _ n _ => n
  | _ => 0

theorem Own.mono_base {b b' : Nat} {w : World} {v : Value} {l : List UInt8} (h : Own b w v l) (hb : b' ≤ b) : Own b' w v l := by
  refine ⟨h.1, ?_⟩
  rcases h.2 with hn | ⟨g, cap, cur, rfl, h1, rest⟩
  · exact .inl hn
  · exact .inr ⟨g, cap, cur, rfl, Nat.le_trans hb h1, rest⟩
theorem add_zero_addr (a : Addr) : a.add 0 = a := by unfold Addr.add; rfl
theorem Bts.tail {w : World} {a : Addr} {m cap : Nat} {l : List UInt8} (h2 : m ≤ l.length) (h3 : l.length ≤ cap) (h4 : cap ≤ maxLen) (h : ∀ j u, (bcells l)[j]? = some u → w.cell? (a.add j) = some u) :
    Bts w (.slice (if cap = m then some a else some (a.add m)) (l.length - m) (cap - m)) (l.drop m) := by
  by_cases hc : cap = m
  · rw [if_pos hc]
    have e : l.drop m = [] := List.drop_eq_nil_of_le (by omega)
    rw [e]
    refine .inr ⟨a, cap - m, ?_, by simp, by omega, fun j u hj => by simp [bcells] at hj⟩
    have : l.length - m = 0 := by omega
    rw [this]; rfl
  · rw [if_neg hc]
    by_cases hm : m = 0
    · subst hm
      rw [add_zero_addr]
      exact .inr ⟨a, cap, rfl, h3, h4, h⟩
    · have := Bts.later (n := l.length - m) hm (by omega) (by omega) h4 h
      rwa [List.take_of_length_le (by simp)] at this
theorem tail_some (c m : Nat) (a b : Addr) : ∃ x, (if c = m then some a else some b) = some x := by split <;> exact ⟨_, rfl⟩

theorem split_short {en da : List UInt8} (h : en.length < 12) : splitB en da = if en.length = 0 ∧ da.length = 0 then some [] else none := by
  rw [splitB_eq, if_pos h]
  by_cases h1 : en = [] <;> by_cases h2 : da = [] <;> simp [h1, h2]
theorem split_great {en da : List UInt8} (h : 12 ≤ en.length) (hc : da.length < wordOf en 4) : splitB en da = none := by
  rw [splitB_eq, if_neg (by omega), if_pos hc]
theorem split_sum {en da : List UInt8} (h : 12 ≤ en.length) (hs : sumB (da.take (wordOf en 4)) ≠ wordOf en 8) : splitB en da = none := by
  rw [splitB_eq, if_neg (by omega), if_pos hs]
  simp
theorem split_go {en da : List UInt8} (h : 12 ≤ en.length) (hc : wordOf en 4 ≤ da.length) (hs : sumB (da.take (wordOf en 4)) = wordOf en 8) :
    splitB en da = (splitB (en.drop 12) (da.drop (wordOf en 4))).map fun L => ((⟨(en.take 4).toArray⟩, da.take (wordOf en 4)) : Chk) :: L := by
  rw [splitB_eq, if_neg (by omega), if_neg (by omega), if_neg (by simpa using hs)]

set_option maxHeartbeats 4000000 in
theorem split_any {w : World} {ev dv : Value} {en da : List UInt8} (he : Bts w ev en) (hd : Bts w dv da) (hds : ∃ a n c, dv = .slice (some a) n c) (T : Tab w) (hl : en.length ≤ 131072) :
    Calls Tryd.prog 31 #[ev, dv] w fun e w' => ∃ lv ok L, e = .returned (.tuple #[lv, .bool ok]) ∧ OwnC 49 w.heap.size w' lv L ∧ Below w.heap.size w w' ∧ L.length ≤ 131072 ∧ splitB en da = if ok then some L else none := by
  have HT : Hid (∀ u : World, Below w.heap.size w u → Tab u) := fun u hb => T.below (Nat.le_refl _) hb
  have HE0 : Hid (Bts w ev en) := he
  have HD0 : Hid (Bts w dv da ∧ ∃ a n c, dv = .slice (some a) n c) := ⟨hd, hds⟩
  obtain ⟨ea, ec, rfl, he1, he2⟩ := he.slice
  clear he hd hds T
  go_enter Tryd.func31, Tryd.ntmps31
  go_wp2
  go_step3
  go_wp2
  go_step3
  go_wp2
  go_loopw [0, 1, 6] (fun e0 d0 l0 u => ∃ (en' da' : List UInt8) (L' : List Chk), Hid (Bts w e0 en') ∧ Hid (Bts w d0 da' ∧ ∃ a n c, d0 = .slice (some a) n c) ∧ Hid (OwnC 49 w.heap.size u l0 L') ∧ Hid (splitB en da = (splitB en' da').map (fun x => L' ++ x)) ∧ Below w.heap.size w u ∧ Hid (L'.length * 12 + en'.length = en.length)) (fun e0 _ _ _ => lenV e0)
  case atStart => exact ⟨en, da, [], HE0, HD0, OwnC.nil _ _ _, by simp [Hid], Below.refl _ _, by simp [Hid]⟩
  case round =>
    obtain ⟨en', da', L', HE, HD, HO, HS, hb, HL⟩ := hrel
    have hsz := hb.size
    obtain ⟨HD, a1, n1, c1, rfl⟩ := HD.out
    obtain ⟨a0, c0, rfl, e1, e2⟩ := HE.out.slice
    have e2' : c0 ≤ 9223372036854775807 := e2
    rcases HD with ⟨hx, _⟩ | ⟨a1', cap1, hx, d1, d2, d3⟩
    · cases hx
    cases hx
    have d2' : c1 ≤ 9223372036854775807 := d2
    have HDc : Hid (∀ j u, (bcells da')[j]? = some u → w.cell? (a1.add j) = some u) := d3
    clear d3 HE0 HD0 he1 he2
    by_cases h12 : en'.length < 12
    · have h12' : ¬ ((12 : Int) ≤ (en'.length : Int)) := by omega
      by_cases z1 : en'.length = 0
      · by_cases z2 : da'.length = 0
        · have hS : Hid (splitB en da = some L' ∧ L'.length ≤ 131072) := by
            have := HL.out
            refine ⟨?_, by omega⟩
            rw [HS.out, split_short h12, if_pos ⟨z1, z2⟩]; simp
          go_wp2
          go_ret2
          exact ⟨_, true, L', rfl, HO.out, hb, hS.out.2, by simp [hS.out.1]⟩
        · have hS : Hid (splitB en da = none ∧ L'.length ≤ 131072) := by
            have := HL.out
            refine ⟨?_, by omega⟩
            rw [HS.out, split_short h12, if_neg (fun h => z2 h.2)]; rfl
          have z2' : ¬ ((da'.length : Int) = 0) := by omega
          have z2'' : ((da'.length : Int) == 0) = false := by simpa using z2'
          go_wp2
          go_ret2
          exact ⟨_, false, L', rfl, HO.out, hb, hS.out.2, by simp [hS.out.1]⟩
      · have hS : Hid (splitB en da = none ∧ L'.length ≤ 131072) := by
          have := HL.out
          refine ⟨?_, by omega⟩
          rw [HS.out, split_short h12, if_neg (fun h => z1 h.1)]; rfl
        have z1' : ¬ ((en'.length : Int) = 0) := by omega
        have z1'' : decide ((en'.length : Int) = 0) = false := by simpa using z1'
        go_wp2
        go_ret2
        exact ⟨_, false, L', rfl, HO.out, hb, hS.out.2, by simp [hS.out.1]⟩
    · have h12n : 12 ≤ en'.length := by omega
      have h12' : (12 : Int) ≤ (en'.length : Int) := by omega
      have z1' : ¬ ((en'.length : Int) = 0) := by omega
      have z1'' : decide ((en'.length : Int) = 0) = false := by simpa using z1'
      have z1b : ((en'.length : Int) == 0) = false := by simpa using z1'
      have W4 := bword_any (HE.out.below hb) 4 (by omega)
      have W8 : Hid (∀ u : World, u.heap = wr.heap → Calls Tryd.prog 38 #[.slice a0 en'.length c0, .int .i64 8] u fun e w' => e = .returned (.int .u32 (wordOf en' 8)) ∧ w' = u.drew) :=
        fun u hu => bword_any ((HE.out.below hb).kept fun i _ => by rw [hu]) 8 (by omega)
      have hcl := wordOf_lt en' 4
      have hsl := wordOf_lt en' 8
      by_cases hcc : da'.length < wordOf en' 4
      · have hS : Hid (splitB en da = none ∧ L'.length ≤ 131072) := by
          have := HL.out
          refine ⟨?_, by omega⟩
          rw [HS.out, split_great h12n hcc]; rfl
        have hcc' : (da'.length : Int) < (wordOf en' 4 : Int) := by omega
        generalize wordOf en' 4 = cnt at *
        generalize wordOf en' 8 = sm at *
        go_wp2_with fail
        refine W4.mono ?_
        rintro e w' ⟨rfl, hw⟩; obtain rfl := hw.symm; clear hw
        go_wp2_with fail
        refine (W8.out _ ?hh).mono ?_
        (case hh => rfl)
        rintro e w' ⟨rfl, hw⟩; obtain rfl := hw.symm; clear hw
        go_wp2_with fail
        rw [Exit.noGoto_ret]
        go_ret2
        exact ⟨_, false, L', rfl, HO.out, hb.drew.drew, hS.out.2, by simp [hS.out.1]⟩
      · have hcn : wordOf en' 4 ≤ da'.length := by omega
        have BP := Bts.part (n := wordOf en' 4) hcn (by omega) d2 HDc.out
        have SM : Hid (∀ u : World, Below w.heap.size w u → Calls Tryd.prog 29 #[.slice (some a1) (wordOf en' 4) c1] u fun e w' => e = .returned (.int .u32 (sumB (da'.take (wordOf en' 4)))) ∧ w' = u) :=
          fun u hu => sum_any (BP.below hu) (HT.out u hu)
        have hcc' : ¬ ((da'.length : Int) < (wordOf en' 4 : Int)) := by omega
        have hcc2 : (wordOf en' 4 : Int) ≤ (c1 : Int) := by omega
        have hcc3 : wordOf en' 4 ≤ c1 := by omega
        by_cases hsum : sumB (da'.take (wordOf en' 4)) = wordOf en' 8
        · have HGo := split_go h12n hcn hsum
          rcases HE.out with ⟨hx, _⟩ | ⟨a0', cap0', hx, p1, p2, p3⟩
          · simp only [Value.slice.injEq] at hx; omega
          cases hx
          have CV : ∀ u : World, Below w.heap.size w u → (convert 25 9 (.slice (some a0') 4 c0)).run Tryd.prog u = .ok (.string ⟨(en'.take 4).toArray⟩) u := fun u hu => conv_bts ((Bts.part (n := 4) (by omega) (by omega) p2 p3).below hu)
          have ET : Hid (Bts w (.slice (if c0 = 12 then some a0' else some (a0'.add 12)) (en'.length - 12) (c0 - 12)) (en'.drop 12)) := Bts.tail (by omega) p1 p2 p3
          have DT : Hid (Bts w (.slice (if c1 = wordOf en' 4 then some a1 else some (a1.add (wordOf en' 4))) (da'.length - wordOf en' 4) (c1 - wordOf en' 4)) (da'.drop (wordOf en' 4))) := Bts.tail hcn d1 d2 HDc.out
          have hLn : L'.length + 1 ≤ 1099511627776 := by have := HL.out; omega
          have htl : (da'.take (wordOf en' 4)).length = wordOf en' 4 := by simp; omega
          have FR : Hid (∀ u : World, (u.os = wr.os ∧ u.tape = wr.tape ∧ u.output = wr.output ∧ u.heap = wr.heap) → Calls Tryd.prog 28 #[.slice (some a1) (wordOf en' 4) c1] u fun e w1 =>
              ∃ fa fc, e = .returned (.slice fa (wordOf en' 4) fc) ∧ (convert 25 9 (.slice (some a0') 4 c0)).run Tryd.prog w1 = .ok (.string ⟨(en'.take 4).toArray⟩) w1 ∧
                ∃ v2 w2, (Builtin.append_ #[22, 22] 22 #[u6, .slice (some ⟨w1.heap.size, 0, none⟩) 1 1]).run Tryd.prog (w1.alloc (.cells #[.string ⟨(en'.take 4).toArray⟩, .slice fa (wordOf en' 4) fc] 49)) = .ok v2 w2 ∧
                  Hid (OwnC 49 w.heap.size w2 v2 (L' ++ [((⟨(en'.take 4).toArray⟩, da'.take (wordOf en' 4)) : Chk)]) ∧ Below w.heap.size w w2)) := by
            rintro u ⟨x1, x2, x3, x4⟩
            have bu : Below w.heap.size w u := ⟨x1.trans hb.os, x2.trans hb.tape, x3.trans hb.output, by rw [x4]; exact hb.size, fun i hi => by rw [x4]; exact hb.block i hi⟩
            refine (fresh_any (BP.below bu) (by rw [htl]; omega)).mono ?_
            rintro e w1 ⟨v1, rfl, ap⟩
            obtain ⟨fa, fc, rfl⟩ := ap.own.slice
            have b1 : Below w.heap.size w w1 := bu.trans ((ap.below (Own.nil _ _) (Nat.le_refl _)).mono bu.size)
            have k1 : ∀ i, i < u.heap.size → w1.heap[i]? = u.heap[i]? := ap.new.1
            have ho1 : OwnC 49 w.heap.size w1 u6 L' := (HO.out.kept hsz (w' := u) fun i _ => by rw [x4]).kept bu.size k1
            have hd1 : DataOk w.heap.size w1 (.slice fa (da'.take (wordOf en' 4)).length fc) (da'.take (wordOf en' 4)) := .inl (ap.own.mono_base bu.size)
            rw [htl] at hd1 ⊢
            refine ⟨fa, fc, rfl, CV w1 b1, ?_⟩
            obtain ⟨v2, w2, r2, o2, _, b2⟩ := ownC_app (t := 49) (st := 22) (by decide) Tryd.underlying22 inf49 (ho1.kept b1.size fun i hi => Below.heap_alloc w1 (.cells #[.string ⟨(en'.take 4).toArray⟩, .slice fa (wordOf en' 4) fc] 49) i hi) (b := w1.heap.size) (heap_alloc_new w1 _)
              (hd1.kept (fun g _ _ hg _ => Below.heap_alloc w1 _ g hg) fun i hi => Below.heap_alloc w1 _ i (Nat.lt_of_lt_of_le hi b1.size)) (by show (List.take 4 en').toArray.size ≤ maxLen; simp [maxLen]; omega) hLn (by simp; exact Nat.le_succ_of_le b1.size)
            exact ⟨v2, w2, r2, o2, (b1.alloc b1.size _).trans b2⟩
          have CV1 := CV wr.drew.drew.drew hb.drew.drew.drew
          have HG2 : Hid (splitB en da = (splitB (en'.drop 12) (da'.drop (wordOf en' 4))).map (fun x => (L' ++ [((⟨(en'.take 4).toArray⟩, da'.take (wordOf en' 4)) : Chk)]) ++ x)) := by
            show _ = _
            rw [HS.out, HGo]
            cases splitB (en'.drop 12) (da'.drop (wordOf en' 4)) <;> simp
          have c12 : (12 : Int) ≤ (c0 : Int) := by omega
          have c12n : 12 ≤ c0 := by omega
          have c4 : (4 : Int) ≤ (c0 : Int) := by omega
          have c4n : 4 ≤ c0 := by omega
          have hcn' : (wordOf en' 4 : Int) ≤ (da'.length : Int) := by omega
          have LL : Hid ((L' ++ [((⟨(en'.take 4).toArray⟩, da'.take (wordOf en' 4)) : Chk)]).length * 12 + (en'.drop 12).length = en.length) := by
            show _ = _
            have := HL.out
            simp; omega
          have el : Hid ((en'.drop 12).length = en'.length - 12) := by simp [Hid]
          have dl : Hid ((da'.drop (wordOf en' 4)).length = da'.length - wordOf en' 4) := by simp [Hid]
          rw [hsum] at SM
          clear BP HGo CV hsum htl p3
          generalize da'.drop (wordOf en' 4) = da2 at *
          generalize en'.drop 12 = en2 at *
          generalize da'.take (wordOf en' 4) = dat at *
          generalize (⟨(en'.take 4).toArray⟩ : ByteArray) = tag at *
          generalize wordOf en' 4 = cnt at *
          generalize wordOf en' 8 = sm at *
          go_wp2_with fail
          refine W4.mono ?_
          rintro e w' ⟨rfl, hw⟩; obtain rfl := hw.symm; clear hw
          go_wp2_with fail
          refine (W8.out _ ?hh).mono ?_
          (case hh => rfl)
          rintro e w' ⟨rfl, hw⟩; obtain rfl := hw.symm; clear hw
          go_wp2_with fail
          refine (SM.out _ hb.drew.drew).mono ?_
          rintro e w' ⟨rfl, hw⟩; obtain rfl := hw.symm; clear hw
          go_wp2_with fail
          go_region_held_law (fun _ => True) (trivial) (first
            | (go_at_call 28; refine (FR.out _ ?hh).mono ?_; (case hh => exact ⟨rfl, rfl, rfl, rfl⟩); rintro e w1 ⟨fa, fc, rfl, hcv, v2, w2, hrun, hfin⟩)
            | (refine step_append_run (by rfl) 39 (by rfl) _ _ 22 (by rfl) _ _ _ _ (by rfl) (by rfl) hrun ?_))
          all_goals
            go_wp2_with fail
            go_region_held_law (fun _ => True) (trivial) (fail)
            go_wp2_with fail
            go_roundw
            case rel =>
              obtain ⟨x, hx⟩ := tail_some c1 cnt a1 (a1.add cnt)
              exact ⟨en2, da2, _, ET, ⟨DT.out, x, _, _, by rw [← hx]⟩, hfin.out.1, HG2, ⟨hfin.out.2.os, hfin.out.2.tape, hfin.out.2.output, hfin.out.2.size, hfin.out.2.block⟩, LL⟩
            case measure => simp [lenV]; omega
        · have hS : Hid (splitB en da = none ∧ L'.length ≤ 131072) := by
            have := HL.out
            refine ⟨?_, by omega⟩
            rw [HS.out, split_sum h12n hsum]; rfl
          have hsum' : ¬ ((sumB (da'.take (wordOf en' 4)) : Int) = (wordOf en' 8 : Int)) := by omega
          clear BP
          generalize sumB (da'.take (wordOf en' 4)) = sd at *
          generalize wordOf en' 4 = cnt at *
          generalize wordOf en' 8 = sm at *
          go_wp2_with fail
          refine W4.mono ?_
          rintro e w' ⟨rfl, hw⟩; obtain rfl := hw.symm; clear hw
          go_wp2_with fail
          refine (W8.out _ ?hh).mono ?_
          (case hh => rfl)
          rintro e w' ⟨rfl, hw⟩; obtain rfl := hw.symm; clear hw
          go_wp2_with fail
          refine (SM.out _ hb.drew.drew).mono ?_
          rintro e w' ⟨rfl, hw⟩; obtain rfl := hw.symm; clear hw
          go_wp2_with fail
          rw [Exit.noGoto_ret]
          go_ret2
          exact ⟨_, false, L', rfl, HO.out, hb.drew.drew, hS.out.2, by simp [hS.out.1]⟩
end Go.Proofs.YthomhaegdlglhaaDoor
