/- onRing: does each number read one of its group? -/
import Derived.Test.YtbbcnjagndfmbaaXRead
import Derived.Test.YtbbcnjagndfmbaaVDraw
namespace Go.Proofs.Ytbbcnjagndfmbaa
open Go.RowKit Go.Dp
set_option maxRecDepth 100000
set_option linter.unusedVariables false
set_option linter.unusedSimpArgs false
/-- The groups in memory. -/
def GrC (w : World) (G : Addr) (n : Nat) (gr : Nat → Nat) : Prop := ∀ i, i < n → w.cell? (G.add i) = some (.int .i64 (gr i : Nat))
theorem GrC.below {w w' : World} {G : Addr} {n : Nat} {gr : Nat → Nat} (h : GrC w G n gr) (hb : Below w.heap.size w w') : GrC w' G n gr := fun i hi => cell_bel hb (h i hi)
set_option maxHeartbeats 4000000 in
theorem alike_any {w : World} {G : Addr} {n c gb ab a b : Nat} {gr : Nat → Nat} (h1 : w.cell? ⟨gb, 0, none⟩ = some (.slice (some G) n c)) (h2 : w.cell? ⟨ab, 0, none⟩ = some (.int .i64 (a : Nat))) (hg : GrC w G n gr) (ha : a < n) (hb : b < n) :
    Calls Try.prog 23 #[.int .i64 (b : Nat), .pointer (some ⟨gb, 0, none⟩), .pointer (some ⟨ab, 0, none⟩)] w fun e w' => e = .returned (.bool (gr b == gr a)) ∧ Below w.heap.size w w' := by
  have c1 := hg a ha
  have c2 := hg b hb
  have hai : (a : Int) < n := by omega
  have hbi : (b : Int) < n := by omega
  have HB : Hid (Below w.heap.size w w.drew) := (Below.refl _ _).drew
  clear hg
  generalize hx : gr a = x at *
  generalize hy : gr b = y at *
  clear hx hy
  by_cases e : y = x
  · subst e
    rw [show (y == y) = true by simp]
    go_enter Try.func23, Try.ntmps23
    go_wp2
    go_region
    go_wp2
    go_ret
    exact ⟨rfl, HB.out⟩
  · rw [show (y == x) = false by simpa using e]
    have e' : ((y : Int) == (x : Int)) = false := by simpa using (show ¬ (y : Int) = x by omega)
    clear e
    go_enter Try.func23, Try.ntmps23
    go_wp2
    go_region
    go_wp2
    go_ret
    exact ⟨rfl, HB.out⟩
set_option maxHeartbeats 4000000 in
theorem index_any {w : World} {G : Addr} {n c gb ab a : Nat} {gr : Nat → Nat} {sv : Value} {l : List Nat} (h1 : w.cell? ⟨gb, 0, none⟩ = some (.slice (some G) n c)) (h2 : w.cell? ⟨ab, 0, none⟩ = some (.int .i64 (a : Nat))) (hg : GrC w G n gr) (ha : a < n)
    (hs : Rd w sv l.length (nV l)) (hl : ∀ b ∈ l, b < n) (hlen : l.length ≤ 1099511627776) :
    Calls Try.prog 28 #[sv, .func (.func 23) #[] #[.pointer (some ⟨gb, 0, none⟩), .pointer (some ⟨ab, 0, none⟩)]] w fun e w' => (∃ r : Int, e = .returned (.int .i64 r) ∧ decide (0 ≤ r) = l.any (fun b => gr b == gr a)) ∧ Below w.heap.size w w' := by
  have HS : Hid (Rd w sv l.length (nV l)) := hs
  obtain ⟨a0, c0, rfl⟩ := hs.slice
  have HC : Hid (∀ u, Below w.heap.size w u → ∀ b ∈ l, Calls Try.prog 23 #[.int .i64 (b : Nat), .pointer (some ⟨gb, 0, none⟩), .pointer (some ⟨ab, 0, none⟩)] u fun e w' => e = .returned (.bool (gr b == gr a)) ∧ Below u.heap.size u w') :=
    fun u hu b hb => alike_any (cell_bel hu h1) (cell_bel hu h2) (hg.below hu) ha (hl b hb)
  have HY : Hid (∀ k (hk : k < l.length), (gr l[k] == gr a) = true → (decide (0 ≤ ((k : Nat) : Int)) = l.any (fun b => gr b == gr a))) := fun k hk e => by
    rw [decide_eq_true (by omega)]
    exact (List.any_eq_true.2 ⟨_, List.getElem_mem hk, e⟩).symm
  have HN : Hid ((∀ k (hk : k < l.length), (gr l[k] == gr a) = false) → (decide ((0 : Int) ≤ -1) = l.any (fun b => gr b == gr a))) := fun h => by
    rw [decide_eq_false (by omega)]
    refine (List.any_eq_false.2 fun b hb => ?_).symm
    obtain ⟨k, hk, rfl⟩ := List.getElem_of_mem hb
    rw [h k hk]
    simp
  generalize (l.any fun b => gr b == gr a) = R at *
  clear h1 h2 hg hs hl
  go_enter Try.func28, Try.ntmps28
  go_wp2_with fail
  go_loopw [8] (fun v8 wr => ∃ k : Nat, v8 = .int .i64 (k : Nat) ∧ k ≤ l.length ∧ Hid (∀ j (hj : j < l.length), j < k → (gr l[j] == gr a) = false) ∧ Hid (Below w.heap.size w wr)) (fun v8 _ => l.length - (intOf v8).toNat)
  case atStart => exact ⟨0, rfl, Nat.zero_le _, fun j hj h => absurd h (Nat.not_lt_zero _), Below.refl _ _⟩
  case round =>
    obtain ⟨k, rfl, hk, HK, HB⟩ := hrel
    by_cases hkl : k < l.length
    · have hki : (k : Int) < l.length := by omega
      obtain ⟨a', c', e', q1⟩ := (HS.out.below HB.out).at (j := k) (by simpa using hkl)
      cases e'
      rw [List.getElem_map] at q1
      have C1 := HC.out wr HB.out l[k] (List.getElem_mem hkl)
      have HY1 := HY.out k hkl
      have HK1 : (gr l[k] == gr a) = false → Hid (∀ j (hj : j < l.length), j < k + 1 → (gr l[j] == gr a) = false) := fun e j hj h => by
        rcases Nat.lt_succ_iff_lt_or_eq.1 h with h | rfl
        · exact HK.out j hj h
        · exact e
      generalize l[k] = b at *
      clear HC HK HY
      cases e : (gr b == gr a)
      · have HK2 := HK1 e
        rw [e] at C1
        have C2 : Hid _ := C1
        clear HK1 HY1 C1 e
        go_wp2_with (go_at_call 23; refine Calls.mono C2.out ?_; clear C2; rintro e u ⟨rfl, hb⟩; have HB2 : Hid (Below w.heap.size w u) := bel_step HB.out hb; clear hb)
        go_roundw
        case rel => exact ⟨k + 1, by go_num, by omega, HK2, HB2.out⟩
        case measure => simp [intOf]; omega
      · have HY2 := HY1 e
        rw [e] at C1
        have C2 : Hid _ := C1
        have HY3 : Hid _ := HY2
        clear HK1 HY1 HY2 C1 e
        go_wp2_with (go_at_call 23; refine Calls.mono C2.out ?_; clear C2; rintro e u ⟨rfl, hb⟩; have HB2 : Hid (Below w.heap.size w u) := bel_step HB.out hb; clear hb)
        go_ret
        exact ⟨⟨_, rfl, HY3.out⟩, HB2.out⟩
    · have hki : ¬ (k : Int) < l.length := by omega
      have HN1 : Hid (decide ((0 : Int) ≤ -1) = R) := HN.out fun j hj => HK.out j hj (by omega)
      clear HC HY HN HK
      go_wp2_with fail
      go_ret
      exact ⟨⟨_, rfl, HN1.out⟩, HB.out⟩
set_option maxHeartbeats 4000000 in
theorem contains_any {w : World} {G : Addr} {n c gb ab a : Nat} {gr : Nat → Nat} {sv : Value} {l : List Nat} (h1 : w.cell? ⟨gb, 0, none⟩ = some (.slice (some G) n c)) (h2 : w.cell? ⟨ab, 0, none⟩ = some (.int .i64 (a : Nat))) (hg : GrC w G n gr) (ha : a < n)
    (hs : Rd w sv l.length (nV l)) (hl : ∀ b ∈ l, b < n) (hlen : l.length ≤ 1099511627776) :
    Calls Try.prog 22 #[sv, .func (.func 23) #[] #[.pointer (some ⟨gb, 0, none⟩), .pointer (some ⟨ab, 0, none⟩)]] w fun e w' => e = .returned (.bool (l.any (fun b => gr b == gr a))) ∧ Below w.heap.size w w' := by
  have C : Hid _ := index_any h1 h2 hg ha hs hl hlen
  generalize (l.any fun b => gr b == gr a) = R at *
  clear h1 h2 hg hl
  obtain ⟨a0, c0, rfl⟩ := hs.slice
  clear hs
  go_enter Try.func22, Try.ntmps22
  go_wp2_with (go_at_call 28; refine Calls.mono C.out ?_; clear C; rintro e u ⟨⟨r, rfl, hr⟩, hb⟩; have HB : Hid (Below w.heap.size w u) := hb; have HR : Hid _ := hr; clear hb hr)
  go_ret
  refine ⟨?_, HB.out⟩
  have := HR.out
  rw [← this]
  rfl
set_option maxHeartbeats 8000000 in
theorem onring_any {w : World} {A G : Addr} {n c gc : Nat} {gr : Nat → Nat} {E : List (Nat × Nat)} (H : GR n E gr) (hr : RdR w (.slice (some A) n c) n (reads E)) (hg : GrC w G n gr) (hn : n ≤ 4096) (hE : E.length ≤ 1099511627776) :
    Calls Try.prog 14 #[.slice (some A) n c, .slice (some G) n gc] w fun e w' => (∃ rv, e = .returned rv ∧ w'.ownsRow w.heap.size 4 1 rv n (bV (ringB n E))) ∧ Below w.heap.size w w' := by
  have hB0 := bel_alloc (w1 := w) (Below.refl w.heap.size w) (.cells #[.slice (some G) n gc] 24)
  have HBW : Hid (Below w.heap.size w (w.alloc (.cells #[.slice (some G) n gc] 24))) := hB0
  have HR : Hid (RdR (w.alloc (.cells #[.slice (some G) n gc] 24)) (.slice (some A) n c) n (reads E)) := hr.below hB0
  have HG : Hid (GrC (w.alloc (.cells #[.slice (some G) n gc] 24)) G n gr) := hg.below hB0
  have hbox : (w.alloc (.cells #[.slice (some G) n gc] 24)).cell? ⟨w.heap.size, 0, none⟩ = some (.slice (some G) n gc) := by
    rw [cell_of_row _ w.heap.size 0 _ _ _ (heap_alloc_new w _)]; rfl
  have HX : Hid ((w.alloc (.cells #[.slice (some G) n gc] 24)).cell? ⟨w.heap.size, 0, none⟩ = some (.slice (some G) n gc)) := hbox
  obtain ⟨O, w2, RM, hR2, hB2⟩ := ro_make (w.alloc (.cells #[.slice (some G) n gc] 24)) 25 4 (.bool false) 1 Try.underlying25 (by kernel_rfl) rfl n (by omega) (by omega)
  have hbl : bl n (fun j => decide (j < 0) && farB n E j j) = List.replicate n (.bool false) := by
    rw [bl_congr (g := fun _ => false) (fun j _ => by simp), bl_zero]
  rw [← hbl] at hR2
  have HO0 : Hid (Ro (w.alloc (.cells #[.slice (some G) n gc] 24)).heap.size w2 4 O n n (bl n (fun j => decide (j < 0) && farB n E j j))) := hR2
  have HB2 : Hid _ := hB2
  clear hbl hR2 hB2 hbox hB0 hr hg
  go_enter Try.func14, Try.ntmps14
  generalize hW1 : w.alloc (.cells #[.slice (some G) n gc] 24) = W1 at *
  go_wp2_with (first
    | (refine nl_make rfl 25 _ _ rfl _ _ _ _ rfl rfl RM.out ?_; clear RM))
  go_loopw [13] (fun v13 wr => ∃ k : Nat, v13 = .int .i64 (k : Nat) ∧ k ≤ n ∧ Hid (Ro W1.heap.size wr 4 O n n (bl n (fun j => decide (j < k) && farB n E j j))) ∧ Hid (Below W1.heap.size W1 wr)) (fun v13 _ => n - (intOf v13).toNat)
  case atStart => exact ⟨0, rfl, Nat.zero_le _, HO0.out, HB2.out⟩
  case round =>
    clear HO0 HB2
    obtain ⟨k, rfl, hk, HO, HB⟩ := hrel
    by_cases hkn : k < n
    · have hki : (k : Int) < n := by omega
      obtain ⟨A', c', a2, d2, e', q1, q2⟩ := (HR.out.below HB.out).at hkn
      cases e'
      have hBA := bel_alloc (w1 := wr) (Below.refl wr.heap.size wr) (.cells #[.int .i64 (k : Nat)] 3)
      have hbx : (wr.alloc (.cells #[.int .i64 (k : Nat)] 3)).cell? ⟨wr.heap.size, 0, none⟩ = some (.int .i64 (k : Nat)) := by
        rw [cell_of_row _ wr.heap.size 0 _ _ _ (heap_alloc_new wr _)]; rfl
      have HOD : Hid (∀ u, Below (wr.alloc (.cells #[.int .i64 (k : Nat)] 3)).heap.size (wr.alloc (.cells #[.int .i64 (k : Nat)] 3)) u → u.cell? ⟨wr.heap.size, 0, none⟩ = some (.int .i64 (k : Nat)) ∧ u.cell? (O.add k) = some (.bool (decide (k < k) && farB n E k k)) ∧ u.frozen? (O.add k) = false) := fun u hu => by
        have := ((HO.out.below hBA).below hu).cell (j := k) (bl_at hkn)
        exact ⟨cell_bel hu hbx, this.1, this.2⟩
      have HCC : Hid (∀ u, Below (wr.alloc (.cells #[.int .i64 (k : Nat)] 3)).heap.size (wr.alloc (.cells #[.int .i64 (k : Nat)] 3)) u → Calls Try.prog 22 #[.slice a2 (reads E k).length d2, .func (.func 23) #[] #[.pointer (some ⟨w.heap.size, 0, none⟩), .pointer (some ⟨wr.heap.size, 0, none⟩)]] u fun e w' => e = .returned (.bool (farB n E k k)) ∧ Below u.heap.size u w') := fun u hu => by
        have h2 := bel_step hBA hu
        have h3 := bel_step HB.out h2
        rw [← H.ring hkn]
        exact contains_any (cell_bel h3 HX.out) (cell_bel hu hbx) (HG.out.below h3) hkn (q2.below h2) (fun b hb => (H.lt _ (mem_reads.1 hb)).2) (by have := reads_len (E := E) (a := k); omega)
      have HFin : Hid (∀ u, Below (wr.alloc (.cells #[.int .i64 (k : Nat)] 3)).heap.size (wr.alloc (.cells #[.int .i64 (k : Nat)] 3)) u → Ro W1.heap.size (u.setCell (O.add k) (.bool (farB n E k k))) 4 O n n (bl n (fun j => decide (j < k + 1) && farB n E j j)) ∧ Below W1.heap.size W1 (u.setCell (O.add k) (.bool (farB n E k k)))) := fun u hu => by
        have o1 := (HO.out.below hBA).below hu
        have h3 := bel_step HB.out (bel_step hBA hu)
        refine ⟨?_, bel_set o1 h3 (Nat.le_refl _) _ _⟩
        have := o1.set k (.bool (farB n E k k))
        rw [bl_set] at this
        rw [bl_congr (g := fun j => if j = k then farB n E k k else decide (j < k) && farB n E j j) (fun j hj => by
          by_cases e : j = k
          · subst e; simp
          · rw [if_neg e]
            by_cases l : j < k
            · simp [l, Nat.lt_succ_of_lt l]
            · have : ¬ j < k + 1 := by omega
              simp [l, this])]
        exact this
      have HD : Hid (Below (wr.alloc (.cells #[.int .i64 (k : Nat)] 3)).heap.size (wr.alloc (.cells #[.int .i64 (k : Nat)] 3)) (wr.alloc (.cells #[.int .i64 (k : Nat)] 3)).drew) := (Below.refl _ _).drew
      have HST : Hid (∀ (u : World) v, u.cell? ⟨wr.heap.size, 0, none⟩ = some (.int .i64 (k : Nat)) → (u.setCell (O.add k) v).cell? ⟨wr.heap.size, 0, none⟩ = some (.int .i64 (k : Nat))) := fun u v hu => by
        obtain ⟨g, rfl, _, hg⟩ := HO.out.form
        rw [Addr.add_mid]
        rw [World.cell?_of_block (heap_setCell_other u ⟨g, 0 + k, none⟩ wr.heap.size v (by show wr.heap.size ≠ g; omega))]
        exact hu
      have HD0 : Hid _ := (HOD.out _ HD.out).1
      generalize (reads E k).length = m at *
      generalize hrg : farB n E k k = rg at *
      clear HR HG HX H hrg hBA hbx q2 HO HB
      go_wp2_with fail
      go_region_held_law (fun u => u.cell? ⟨wr.heap.size, 0, none⟩ = some (.int .i64 (k : Nat))) (first | exact HD0.out | exact HST.out _ _ HD0.out) ((go_at_call 22; refine (HCC.out _ HD.out).mono ?_; rintro e w3 ⟨rfl, hb⟩; have HD3 : Hid (Below (wr.alloc (.cells #[.int .i64 (k : Nat)] 3)).heap.size (wr.alloc (.cells #[.int .i64 (k : Nat)] 3)) w3) := bel_step HD.out hb; clear hb; obtain ⟨x0, x1, x2⟩ := HOD.out _ HD3.out; have HD0 : Hid _ := x0; clear x0))
      have HF3 : Hid _ := HFin.out _ HD3.out
      clear HFin HOD HCC HST
      go_wp2
      go_roundw
      case rel => exact ⟨k + 1, by go_num, by omega, HF3.out.1, HF3.out.2⟩
      case measure => simp [intOf]; omega
    · have hki : ¬ (k : Int) < n := by omega
      obtain rfl : k = n := by omega
      have HF : Hid (w.heap.size ≤ W1.heap.size ∧ wr.ownsRow W1.heap.size 4 1 (.slice (some O) k k) k (bV (ringB k E)) ∧ Below w.heap.size w wr) := by
        refine ⟨HBW.out.size, ?_, bel_step HBW.out HB.out⟩
        have : bV (ringB k E) = bl k (fun j => decide (j < k) && farB k E j j) := by
          unfold bV ringB
          rw [List.map_map]
          unfold bl
          refine List.map_congr_left fun j hj => ?_
          simp [List.mem_range.1 hj]
        rw [this]
        exact HO.out.own
      clear HR HG HX HO HB HBW
      go_wp2_with fail
      go_ret
      exact ⟨⟨_, rfl, World.ownsRow.mono HF.out.2.1 HF.out.1⟩, HF.out.2.2⟩
end Go.Proofs.Ytbbcnjagndfmbaa
