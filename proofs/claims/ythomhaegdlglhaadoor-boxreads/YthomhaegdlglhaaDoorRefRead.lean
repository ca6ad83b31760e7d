/- The contract of octavoref03.Read. -/
import Derived.Test.YthomhaegdlglhaaDoorWritesWalk
import Derived.Test.YthomhaegdlglhaaDoorParse
import Derived.Test.YthomhaegdlglhaaDoorSplit
namespace Go.Proofs.YthomhaegdlglhaaDoor
open Go.RowKit
set_option maxRecDepth 100000

set_option maxHeartbeats 1000000 in
theorem refRead_short {w : World} {v : Value} {b : List UInt8} (h : Bts w v b) (hl : b.length < 20) :
    Calls Tryd.prog 19 #[v] w fun e w' => e = .returned (.tuple #[.slice none 0 0, .int .i64 12]) ∧ w' = w := by
  obtain ⟨a, c, rfl, _, _⟩ := h.slice
  clear h
  have h8 : (b.length : Int) < 20 := by omega
  have h8' : decide ((b.length : Int) < 20) = true := by simpa using h8
  go_enter Tryd.func19, Tryd.ntmps19
  go_wp2
  go_ret2
  exact ⟨rfl, rfl⟩

set_option maxHeartbeats 1000000 in
theorem refRead_other {w : World} {v : Value} {b : List UInt8} (h : Bts w v b) (hl : 20 ≤ b.length) (hm : b.take 8 ≠ markB) :
    Calls Tryd.prog 19 #[v] w fun e w' => e = .returned (.tuple #[.slice none 0 0, .int .i64 12]) ∧ w' = w := by
  rcases h with ⟨rfl, rfl⟩ | ⟨a, cap, rfl, h1, h2, h3⟩
  · simp at hl
  have h2' : cap ≤ 9223372036854775807 := h2
  have CV := conv_bts (Bts.part (n := 8) (by omega) (by omega) h2 h3)
  have hs : ((⟨(b.take 8).toArray⟩ : ByteArray).toList == [79, 67, 84, 65, 86, 79, 49, 10]) = false := by rw [str_eq]; simpa [markB] using hm
  generalize (⟨(b.take 8).toArray⟩ : ByteArray) = s at *
  have h8 : ¬ ((b.length : Int) < 20) := by omega
  have h8' : decide ((b.length : Int) < 20) = false := by simpa using h8
  have hc8 : 8 ≤ cap := by omega
  have hc8' : (8 : Int) ≤ (cap : Int) := by omega
  clear h3 hm
  go_enter Tryd.func19, Tryd.ntmps19
  go_wp2
  go_ret2
  exact ⟨rfl, rfl⟩

theorem wordOf_end (b : List UInt8) (E : Nat) (h : b.length = E + 4) : wordOf (b.drop E) 0 = wordOf b E := by
  rw [← wordOf_drop b E, List.take_of_length_le (by simp; omega)]

set_option maxHeartbeats 4000000 in
theorem refRead_count {w : World} {v : Value} {b : List UInt8} (h : Bts w v b) (E : Nat) (hE : b.length = E + 4) (hl : 16 ≤ E) (hm : b.take 8 = markB) (hc : E < wordOf b E + 8) :
    Calls Tryd.prog 19 #[v] w fun e w' => e = .returned (.tuple #[.slice none 0 0, .int .i64 12]) ∧ w' = w.drew := by
  rcases h with ⟨rfl, rfl⟩ | ⟨a, cap, rfl, h1, h2, h3⟩
  · simp at hE
  have h2' : cap ≤ 9223372036854775807 := h2
  have CV := conv_bts (Bts.part (n := 8) (by omega) (by omega) h2 h3)
  have hs : ((⟨(b.take 8).toArray⟩ : ByteArray).toList == [79, 67, 84, 65, 86, 79, 49, 10]) = true := by rw [str_eq]; simpa [markB] using hm
  have BT := Bts.tail (m := E) (by omega) h1 h2 h3
  rw [if_neg (by omega)] at BT
  have W0 := fourth_any BT (by simp; omega)
  rw [wordOf_end b E hE] at W0
  have hwl := wordOf_lt b E
  generalize (⟨(b.take 8).toArray⟩ : ByteArray) = s at *
  generalize wordOf b E = x at *
  have e0 : Hid (b.length = E + 4) := hE
  have e1 : Hid (b.length - E = 4) := by show _ = _; omega
  have e4 : Hid ((b.length : Int) - 4 = (E : Int)) := by show _ = _; omega
  have h8 : ¬ ((b.length : Int) < 20) := by omega
  have h8' : decide ((b.length : Int) < 20) = false := by simpa using h8
  have hc8 : 8 ≤ cap := by omega
  have hc8' : (8 : Int) ≤ (cap : Int) := by omega
  have hx8 : (E : Int) - 8 < (x : Int) := by omega
  have hcE : ¬ cap = E := by omega
  have hEc : E ≤ b.length := by omega
  have hEc' : (E : Int) ≤ (b.length : Int) := by omega
  have g0 : Hid (b.length - 4 = E) := by show _ = _; omega
  have hx9 : (b.length : Int) - 4 - 8 < (x : Int) := by omega
  clear h3 hm BT hE
  go_enter Tryd.func19, Tryd.ntmps19
  go_upto_region 3 with fail
  go_wp2_with fail
  simp only [g0.out]
  refine W0.mono ?_
  rintro e w' ⟨rfl, hw⟩; obtain rfl := hw.symm; clear hw
  go_wp2_with fail
  go_ret2
  exact ⟨rfl, rfl⟩

theorem box_word {b : List UInt8} {L : List Chk} (h : readB b = some L) {E : Nat} (hE : b.length = E + 4) : wordOf b E = (dirB L).length + 8 := by
  obtain ⟨hw, rfl⟩ := of_read h
  have := box_last L hw
  rwa [hE, Nat.add_sub_cancel] at this

set_option maxHeartbeats 8000000 in
theorem refRead_full {w : World} {v : Value} {b : List UInt8} (h : Bts w v b) (hlen : b.length ≤ 20000) (E G : Nat) (hE : b.length = E + 4) (hm : b.take 8 = markB) (hG : E = G + wordOf b E) (hG8 : 8 ≤ G) :
    Calls Tryd.prog 19 #[v] w fun e w' => (readB b = none ∧ e = .returned (.tuple #[.slice none 0 0, .int .i64 12]) ∧ Below w.heap.size w w') ∨
      ∃ L lv, readB b = some L ∧ e = .returned (.tuple #[lv, .int .i64 0]) ∧ Chs w' lv L ∧ Below w.heap.size w w' := by
  by_cases hl20 : b.length < 20
  · refine (refRead_short h hl20).mono ?_
    rintro e w' ⟨rfl, rfl⟩
    exact .inl ⟨read_short hl20, rfl, Below.refl _ _⟩
  have HV : Hid (∀ u, Below w.heap.size w u → Bts u v b) := fun u hu => h.below hu
  rcases h with ⟨rfl, rfl⟩ | ⟨a, cap, rfl, h1, h2, h3⟩
  · simp at hE
  have h2' : cap ≤ 9223372036854775807 := h2
  have CV := conv_bts (Bts.part (n := 8) (by omega) (by omega) h2 h3)
  have hs : ((⟨(b.take 8).toArray⟩ : ByteArray).toList == [79, 67, 84, 65, 86, 79, 49, 10]) = true := by rw [str_eq]; simpa [markB] using hm
  have BT := Bts.tail (m := E) (by omega) h1 h2 h3
  rw [if_neg (by omega)] at BT
  have W0 := fourth_any BT (by simp; omega)
  rw [wordOf_end b E hE] at W0
  have hwl := wordOf_lt b E
  have HBW : Hid (∀ L, readB b = some L → wordOf b E = (dirB L).length + 8) := fun L hr => box_word hr hE
  have BL : Hid (∀ m n : Nat, m ≠ 0 → m + n ≤ b.length → Bts w (.slice (some (a.add m)) n (cap - m)) ((b.drop m).take n)) := fun m n h0 hmn => Bts.later h0 hmn (by omega) h2 h3
  have U := refUn_any ((BL.out G (wordOf b E) (by omega) (by omega)).drew)
  have HOp : Hid (openB b = if (unframeB ((b.drop G).take (wordOf b E))).2.2 = 0 ∧ (unframeB ((b.drop G).take (wordOf b E))).2.1 = wordOf b E then some ((unframeB ((b.drop G).take (wordOf b E))).1, (b.drop 8).take (b.length - 12 - wordOf b E)) else none) := by
    show _ = _
    unfold openB
    have e1 : b.length - 4 = E := by omega
    have e2 : E - wordOf b E = G := by omega
    rw [if_neg (by omega), if_neg (by simp [hm]), e1, if_neg (by omega)]
    simp only [e2]
  have HU := unframe_codes ((b.drop G).take (wordOf b E))
  generalize (⟨(b.take 8).toArray⟩ : ByteArray) = s at *
  generalize unframeB ((b.drop G).take (wordOf b E)) = un at *
  generalize wordOf b E = x at *
  obtain ⟨uc, un1, un2⟩ := un
  simp only at *
  have HU' : Hid _ := HU
  have g0 : Hid (b.length - 4 = E) := by show _ = _; omega
  have g1 : Hid (E - x = G) := by show _ = _; omega
  have g2 : Hid (E - G = x) := by show _ = _; omega
  have g3 : Hid ((E : Int) - (x : Int) = (G : Int)) := by show _ = _; omega
  have e4 : Hid ((b.length : Int) - 4 = (E : Int)) := by show _ = _; omega
  have HEL : Hid (b.length = E + 4 ∧ E = G + x) := ⟨hE, hG⟩
  have h8 : ¬ ((b.length : Int) < 20) := by omega
  have h8' : decide ((b.length : Int) < 20) = false := by simpa using h8
  have hc8 : 8 ≤ cap := by omega
  have hc8' : (8 : Int) ≤ (cap : Int) := by omega
  have hx9 : ¬ ((b.length : Int) - 4 - 8 < (x : Int)) := by omega
  have hcE : ¬ cap = E := by omega
  have hEc' : (E : Int) ≤ (b.length : Int) := by omega
  have hGc : (G : Int) ≤ (cap : Int) := by omega
  clear h3 hm BT hE hG HU hl20
  go_enter Tryd.func19, Tryd.ntmps19
  go_upto_region 3 with fail
  go_wp2_with fail
  simp only [g0.out]
  refine W0.mono ?_
  rintro e w' ⟨rfl, hw⟩; obtain rfl := hw.symm; clear hw
  go_wp2_with fail
  simp only [g0.out, g1.out, g2.out, e4.out, g3.out]
  refine U.mono ?_
  rintro e w5 ⟨c, rfl, oc, bc⟩
  have B5 : Hid (Below w.heap.size w w5) := (Below.refl _ w).drew.trans bc
  have OC : Hid (Own w.heap.size w5 c uc) := oc
  obtain ⟨ca, cc, rfl⟩ := oc.slice
  clear oc bc U W0 CV
  by_cases k2 : un2 = 0
  rotate_left
  · have hR : Hid (readB b = none) := read_of_open (by rw [HOp.out, if_neg (fun h => k2 h.1)])
    rcases HU'.out with rfl | rfl | rfl | rfl
    · exact absurd rfl k2
    all_goals
      go_wp2_with fail
      go_ret2
      exact .inl ⟨hR.out, rfl, B5.out⟩
  subst k2
  by_cases k1 : un1 = x
  rotate_left
  · have hR : Hid (readB b = none) := read_of_open (by rw [HOp.out, if_neg (fun h => k1 h.2)])
    have k1' : ¬ ((un1 : Int) = (x : Int)) := by omega
    go_wp2_with fail
    go_ret2
    exact .inl ⟨hR.out, rfl, B5.out⟩
  subst k1
  have HO2 : Hid (openB b = some (uc, (b.drop 8).take (b.length - 12 - un1))) := by show _ = _; rw [HOp.out, if_pos ⟨rfl, rfl⟩]
  by_cases k3 : uc.length % 12 = 0
  rotate_left
  · have hR : Hid (readB b = none) := read_rem HO2.out k3
    have k3' : ¬ ((uc.length : Int) % 12 = 0) := by omega
    go_wp2_with fail
    go_ret2
    exact .inl ⟨hR.out, rfl, B5.out⟩
  have k3' : (uc.length : Int) % 12 = 0 := by omega
  have HP0 : Hid (Parsed b [] uc 8) := parsed_start HO2.out
  have HUL : Hid (uc.length ≤ 131072) := (of_open HO2.out).2
  clear HOp HU'
  go_wp2
  go_loopw [6, 9, 10] (fun d0 l0 p0 u => ∃ (dir : List UInt8) (L' : List Chk) (A : Nat), p0 = .int .i64 A ∧ 8 ≤ A ∧ A ≤ G ∧ Hid (Bts w5 d0 dir) ∧ Hid (OwnC 55 w5.heap.size u l0 L') ∧ Hid (Parsed b L' dir A) ∧ Hid (dir.length % 12 = 0) ∧ Hid (L'.length * 12 + dir.length ≤ 131072) ∧ Below w5.heap.size w5 u) (fun d0 _ _ _ => lenV d0)
  case atStart => exact ⟨uc, [], 8, rfl, by omega, by omega, OC.out.bts, OwnC.nil _ _ _, HP0, k3, by have := HUL.out; simp [Hid]; omega, Below.refl _ _⟩
  case round =>
    clear HP0 HUL k3 k3' OC
    obtain ⟨dir, L', A, rfl, hA8, hAG, HD, HO, HP, HM, HL, hb⟩ := hrel
    have hsz := hb.size
    have BW : Hid (Below w.heap.size w wr) := B5.out.trans (hb.mono B5.out.size)
    obtain ⟨da, dc, rfl, hd1, hd2⟩ := HD.out.slice
    have hd2' : dc ≤ 9223372036854775807 := hd2
    by_cases h0 : dir.length = 0
    · obtain rfl := List.eq_nil_of_length_eq_zero h0
      have hR := parsed_end HP.out
      have W := refWrite_any HO.out.chs (by have := HL.out; simp at this; omega)
      have HCh : Hid (Chs wr u9 L') := HO.out.chs
      simp only [List.length_nil] at *
      go_wp2_with fail
      refine W.mono ?_
      rintro e w6 ⟨bv, rfl, ob, bb⟩
      have B6 : Hid (Below w.heap.size w w6) := BW.out.trans (bb.mono BW.out.size)
      have HC6 : Hid (Chs w6 u9 L') := HCh.out.below bb
      have CB := conv_bts ob.bts
      have CB2 := conv_bts (HV.out w6 B6.out)
      clear ob bb W
      by_cases hcode : (writeB L').2 = 0
      · rw [hcode]
        by_cases heq : (writeB L').1 = b
        · have hR' : Hid (readB b = some L') := by
            show _ = _
            rw [hR, if_pos (Prod.ext heq hcode)]
          rw [heq] at CB
          have ss := str_self ⟨b.toArray⟩
          generalize (⟨b.toArray⟩ : ByteArray) = sb at *
          go_wp2_with fail
          go_ret2
          exact .inr ⟨L', _, hR'.out, rfl, HC6.out, B6.out⟩
        · have hR' : Hid (readB b = none) := by
            show _ = _
            rw [hR, if_neg (fun e => heq (congrArg Prod.fst e))]
          have ss := str_ne (s := ⟨(writeB L').1.toArray⟩) (t := ⟨b.toArray⟩) (fun e => heq (by
            have := congrArg (fun z : ByteArray => z.data.toList) e
            simpa using this))
          generalize (⟨b.toArray⟩ : ByteArray) = sb at *
          generalize (⟨(writeB L').1.toArray⟩ : ByteArray) = sc at *
          go_wp2_with fail
          go_ret2
          exact .inl ⟨hR'.out, rfl, B6.out⟩
      · have hR' : Hid (readB b = none) := by
          show _ = _
          rw [hR, if_neg (fun e => hcode (congrArg Prod.snd e))]
        generalize (writeB L').2 = code at *
        have hc' : ¬ ((code : Int) = 0) := by omega
        have hc'' : decide ((code : Int) = 0) = false := by simpa using hc'
        go_wp2_with fail
        go_ret2
        exact .inl ⟨hR'.out, rfl, B6.out⟩
    · have h12 : 12 ≤ dir.length := by have := HM.out; omega
      rcases HD.out with ⟨hx, _⟩ | ⟨a0, cap0, hx, p1, p2, p3⟩
      · simp only [Value.slice.injEq] at hx; omega
      cases hx
      have B48 := Bts.later (m := 4) (n := 4) (by decide) (by omega) (by omega) p2 p3
      have W4 := fourth_any (B48.below hb) (by simp; omega)
      rw [wordOf_drop] at W4
      obtain ⟨HN1, HN2⟩ := parsed_next HP.out h12
      have hzl := wordOf_lt dir 4
      have hpos : (0 : Int) < (dir.length : Int) := by omega
      have d8 : (8 : Int) ≤ (dc : Int) := by omega
      have d8n : 8 ≤ dc := by omega
      by_cases hbig : G < A + wordOf dir 4
      · have hR : Hid (readB b = none) := by
          show _ = _
          cases e : readB b with
          | none => rfl
          | some L =>
            have q1 := HN2 L e
            have q2 := HBW.out L e
            have q3 := HEL.out
            omega
        have hbig' : (G : Int) - (A : Int) < (wordOf dir 4 : Int) := by omega
        have g3v := g3.out
        clear HN1 HN2 B48 p3
        generalize wordOf dir 4 = z at *
        go_wp2_with fail
        refine W4.mono ?_
        rintro e w' ⟨rfl, hw⟩; obtain rfl := hw.symm; clear hw
        go_wp2_with fail
        go_ret2
        exact .inl ⟨hR.out, rfl, BW.out.drew⟩
      · have hbig' : ¬ ((G : Int) - (A : Int) < (wordOf dir 4 : Int)) := by omega
        have g3v := g3.out
        have hHb : A + wordOf dir 4 ≤ b.length := by have := HEL.out; omega
        have BD := BL.out A (wordOf dir 4) (by omega) hHb
        have CV : ∀ u : World, Below w5.heap.size w5 u → (convert 25 9 (.slice (some a0) 4 dc)).run Tryd.prog u = .ok (.string ⟨(dir.take 4).toArray⟩) u := fun u hu => conv_bts ((Bts.part (n := 4) (by omega) (by omega) p2 p3).below hu)
        have ET : Hid (Bts w5 (.slice (if dc = 12 then some a0 else some (a0.add 12)) (dir.length - 12) (dc - 12)) (dir.drop 12)) := Bts.tail (by omega) p1 p2 p3
        have htl : ((b.drop A).take (wordOf dir 4)).length = wordOf dir 4 := by simp; omega
        have bu : Below w5.heap.size w5 wr.drew.drew := hb.drew.drew
        have o0 : Own w5.heap.size (wr.drew.drew.alloc (.cells #[] 5)) (.slice (some ⟨wr.heap.size, 0, none⟩) 0 0) [] := World.ownsRow_made wr.drew.drew #[] 0 hsz (by decide) rfl
        have bu1 : Below w5.heap.size w5 (wr.drew.drew.alloc (.cells #[] 5)) := bu.alloc hsz _
        have s1 : w5.heap.size ≤ (wr.drew.drew.alloc (.cells #[] 5)).heap.size := bu1.size
        have BW1 : Below w.heap.size w (wr.drew.drew.alloc (.cells #[] 5)) := B5.out.trans (bu1.mono B5.out.size)
        obtain ⟨v1, w1, r1, a1⟩ := own_app 25 o0 (BD.below BW1) (by rw [htl]; simp; omega) s1
        rw [List.nil_append] at a1
        have b1 : Below w5.heap.size w5 w1 := bu1.trans (a1.below o0 s1)
        obtain ⟨fa, fc, rfl⟩ := a1.own.slice
        have k1 : ∀ i, i < wr.heap.size → w1.heap[i]? = wr.heap[i]? := fun i hi => by
          rw [a1.gr.block i (by simp; omega) (by simp [Value.ownBlock]; omega)]
          exact Below.heap_alloc wr.drew.drew _ i hi
        have ho1 : OwnC 55 w5.heap.size w1 u9 L' := HO.out.kept hsz k1
        have hd0 : DataOk w5.heap.size w1 (.slice fa ((b.drop A).take (wordOf dir 4)).length fc) ((b.drop A).take (wordOf dir 4)) := .inl a1.own
        rw [htl] at hd0 r1
        obtain ⟨v2, w2, r2, o2, _, b2⟩ := ownC_app (t := 55) (st := 31) (by decide) Tryd.underlying31 inf55 (ho1.kept b1.size fun i hi => Below.heap_alloc w1 (.cells #[.string ⟨(dir.take 4).toArray⟩, .slice fa (wordOf dir 4) fc] 55) i hi) (b := w1.heap.size) (heap_alloc_new w1 _)
          (hd0.kept (fun g _ _ hg _ => Below.heap_alloc w1 _ g hg) fun i hi => Below.heap_alloc w1 _ i (Nat.lt_of_lt_of_le hi b1.size)) (by show (List.take 4 dir).toArray.size ≤ maxLen; simp [maxLen]; omega) (by have := HL.out; omega) (by simp; exact Nat.le_succ_of_le b1.size)
        have E2 : Hid (OwnC 55 w5.heap.size w2 v2 (L' ++ [((⟨(dir.take 4).toArray⟩, (b.drop A).take (wordOf dir 4)) : Chk)]) ∧ Below w5.heap.size w5 w2) := ⟨o2, (b1.alloc b1.size _).trans b2⟩
        have R2 : Hid _ := r2
        have c0 := CV wr.drew.drew bu
        have c1 := CV _ bu1
        have c1b : (convert 25 9 (.slice (some a0) 4 dc)).run Tryd.prog (wr.alloc (.cells #[] 5)).drew.drew = .ok (.string ⟨(dir.take 4).toArray⟩) (wr.alloc (.cells #[] 5)).drew.drew := c1
        have c2 := CV w1 b1
        have LL : Hid ((L' ++ [((⟨(dir.take 4).toArray⟩, (b.drop A).take (wordOf dir 4)) : Chk)]).length * 12 + (dir.drop 12).length ≤ 131072) := by
          have := HL.out
          show _ ≤ _
          simp; omega
        have MM : Hid ((dir.drop 12).length % 12 = 0) := by
          have := HM.out
          show _ = _
          simp; omega
        have NN : Hid _ := HN1
        have hlow : ¬ cap = A := by have := HEL.out; omega
        have hA0 : (0 : Int) ≤ (A : Int) := by omega
        obtain ⟨Hh, hHh⟩ : ∃ Hh, Hh = A + wordOf dir 4 := ⟨_, rfl⟩
        have hH1 : (A : Int) + (wordOf dir 4 : Int) = (Hh : Int) := by omega
        have hH2 : IntKind.i64.wrap (Hh : Int) = (Hh : Int) := by rw [IntKind.wrap_i64]; omega
        have hH3 : (Hh : Int) ≤ (cap : Int) := by omega
        have hH4 : (A : Int) ≤ (Hh : Int) := by omega
        have hH5 : Hh ≤ cap := by omega
        have hH6 : A ≤ Hh := by omega
        have hzA : Hid (Hh - A = wordOf dir 4) := by show _ = _; omega
        have HHh : Hid (Hh = A + wordOf dir 4) := hHh
        have d4 : (4 : Int) ≤ (dc : Int) := by omega
        have d4n : 4 ≤ dc := by omega
        have d12 : (12 : Int) ≤ (dir.length : Int) := by omega
        have hAG' : A + wordOf dir 4 ≤ G := by omega
        have R1 : Hid ((Builtin.append_ #[25, 25] 25 #[.slice (some ⟨wr.heap.size, 0, none⟩) 0 0, .slice (some (a.add A)) (Hh - A) (cap - A)]).run Tryd.prog (wr.drew.drew.alloc (.cells #[] 5)) = .ok (.slice fa (wordOf dir 4) fc) w1) := by
          show _ = _
          rw [hzA.out]
          exact r1
        clear hHh
        clear HN1 HN2 B48 p3 BD CV o0 bu bu1 s1 BW1 r1 r2 a1 b1 k1 ho1 hd0 o2 b2 htl
        generalize (b.drop A).take (wordOf dir 4) = dat at *
        generalize dir.drop 12 = dir2 at *
        generalize (⟨(dir.take 4).toArray⟩ : ByteArray) = tag at *
        generalize wordOf dir 4 = z at *
        go_wp2_with fail
        refine W4.mono ?_
        rintro e w' ⟨rfl, hw⟩; obtain rfl := hw.symm; clear hw
        go_wp2_with fail
        go_region_held_law (fun _ => True) (trivial) (first
          | (refine step_append_run (by rfl) 85 (by rfl) _ _ 25 (by rfl) _ _ _ _ (by rfl) (by rfl) R1.out ?_)
          | (refine step_append_run (by rfl) 88 (by rfl) _ _ 31 (by rfl) _ _ _ _ (by rfl) (by rfl) R2.out ?_))
        all_goals
          go_wp2_with fail
          go_roundw
          case rel => exact ⟨dir2, _, A + z, by go_num, by omega, hAG', ET, E2.out.1, NN, MM, LL, ⟨E2.out.2.os, E2.out.2.tape, E2.out.2.output, E2.out.2.size, E2.out.2.block⟩⟩
          case measure => simp [lenV]; omega
end Go.Proofs.YthomhaegdlglhaaDoor
