/- The reference's Names, plainly. -/
import Derived.Test.YtmeecjedikechaaRRename
namespace Go.Proofs.Ytmeecjedikechaa
open Go.RowKit Go.Maps
set_option maxRecDepth 100000
set_option linter.unusedVariables false
set_option linter.unusedSimpArgs false
theorem tinf9 : (Try.prog.info? 9).map (fun i => (i.zero, i.size, i.bytes)) = some (some (.string ⟨#[]⟩), 1, 16) := by kernel_rfl
def tcells (l : List ByteArray) : List Value := l.map fun t => .string t
theorem tcells_app (l m : List ByteArray) : tcells (l ++ m) = tcells l ++ tcells m := by simp [tcells]
/-- A row of texts of one's own. -/
def OwnT (base : Nat) (w : World) (v : Value) (l : List ByteArray) : Prop := w.ownsRow base 9 1 v l.length (tcells l)
theorem OwnT.alloc {w : World} {base : Nat} {v : Value} {l : List ByteArray} (h : OwnT base w v l) (o : Obj) : OwnT base (w.alloc o) v l := ownsRow_of_block h fun g hg => Below.heap_alloc w o g (World.ownsRow.lt h g hg).2
theorem OwnT.nil (w : World) (base : Nat) : OwnT base w (.slice none 0 0) [] := World.ownsRow_nil w base 9 1
theorem OwnT.slice {w : World} {base : Nat} {v : Value} {l : List ByteArray} (h : OwnT base w v l) : ∃ a c, v = .slice a l.length c := by
  rcases h.2 with ⟨h1, h2⟩ | ⟨g, cap, cur, h1, _⟩
  · exact ⟨none, 0, by rw [h1, h2]⟩
  · exact ⟨_, _, h1⟩
/-- One text more. -/
theorem own_text {base : Nat} {w : World} {v : Value} {l : List ByteArray} (h : OwnT base w v l) (hb : base ≤ w.heap.size) (t : ByteArray) (hl : l.length + 1 ≤ 1000000) :
    ∃ v' w', (Builtin.append_ #[46, 46] 46 #[v, .slice (some ⟨w.heap.size, 0, none⟩) 1 1]).run Try.prog (w.alloc (.cells #[.string t] 9)) = .ok v' w' ∧ OwnT base w' v' (l ++ [t]) ∧ Below base w w' := by
  obtain ⟨i0, hi, hz0, hz1, hz2⟩ := info_parts tinf9
  have hbx := heap_alloc_new w (.cells #[.string t] 9)
  have hadd : ∀ k, (⟨w.heap.size, 0, none⟩ : Addr).add k = ⟨w.heap.size, k, none⟩ := fun k => by unfold Addr.add; split <;> simp_all
  obtain ⟨v', w', h1, h2, h3, _, h5⟩ := run_append_own_at (w.alloc (.cells #[.string t] 9)) base 46 46 9 i0 (.string ⟨#[]⟩) 1 16 Try.underlying46 hi hz0 hz1 hz2 rfl (by decide) v _ _ (h.alloc _) ⟨w.heap.size, 0, none⟩ 1 1 [.string t] rfl
    (fun j u hj => by rw [hadd, cell_of_row _ _ j _ _ _ hbx]; simpa using hj) (by intro u hu; simp at hu; rw [hu]; rfl) (by simp only [maxLen]; omega) (by omega) (by simp; omega)
  refine ⟨v', w', h1, ?_, ?_⟩
  · unfold OwnT
    rw [List.length_append, tcells_app]
    simpa [tcells] using h2
  · exact ((Below.refl base w).alloc hb _).grown h3 (by simp; omega) fun k hk => (World.ownsRow.lt h k hk).1
set_option maxHeartbeats 2000000 in
theorem rnames_any {K : Nat → Prop} {w : World} {rb : Nat} {s : RS} {P : List PF} (h : RefP K w rb s P) (hl : P.length ≤ 1000) :
    Calls Try.prog 42 #[ptrOf rb] w fun e w' => ∃ v, e = .returned v ∧ OwnT w.heap.size w' v (P.map fun t => t.nm) ∧ Below w.heap.size w w' := by
  obtain ⟨L, hW, hA⟩ := h
  have hnm : L.map (fun t => t.nm) = P.map fun t => t.nm := by
    clear hW hl
    induction hA using All2.ind with
    | nil => rfl
    | cons a _ ih => simp [a.nm, ih]
  have hlL : L.length ≤ 1000 := by rw [hA.len]; exact hl
  obtain ⟨fa, fc, hB, hF, -⟩ := hW.slice
  obtain ⟨⟨c0, -⟩, -⟩ := rbS_cells hB
  have HF : Hid (Fls w (.slice fa L.length fc) L) := hF
  rw [← hnm]
  clear hW hA hB hF hnm hl
  go_enter Try.func42, Try.ntmps42
  go_wp2_with fail
  go_loopw [3, 11] (fun lv i wr => ∃ k : Nat, i = .int .i64 k ∧ k ≤ L.length ∧ Hid (Below w.heap.size w wr) ∧ Hid (OwnT w.heap.size wr lv ((L.take k).map fun t => t.nm))) (fun _ i _ => L.length - (intOf i).toNat)
  case atStart => exact ⟨0, rfl, Nat.zero_le _, Below.refl _ _, OwnT.nil _ _⟩
  case round =>
    obtain ⟨k, rfl, hk, HB, HO⟩ := hrel
    by_cases hlt : k < L.length
    · obtain ⟨a', rfl, hrun⟩ := HF.out.load HB.out hlt
      have htk : (L.take (k + 1)).map (fun t => t.nm) = (L.take k).map (fun t => t.nm) ++ [L[k].nm] := by
        rw [List.take_succ_eq_append_getElem hlt, List.map_append]; rfl
      have HR : Hid _ := hrun
      have HK : Hid _ := htk
      clear hrun htk
      generalize L[k] = t at *
      obtain ⟨tn, ta, tb, tc, ts⟩ := t
      dsimp only at HR HK
      have HB2 : Hid (Below w.heap.size w (wr.alloc (.cells #[.string tn, .slice ta tb tc, .int .i64 ts] 70))) := HB.out.alloc HB.out.size _
      obtain ⟨v3, w3, run, o3, b3⟩ := own_text (HO.out.alloc (.cells #[.string tn, .slice ta tb tc, .int .i64 ts] 70)) HB2.out.size tn (by simp; omega)
      have HX : Hid (OwnT w.heap.size w3 v3 ((L.take (k + 1)).map fun t => t.nm)) := by
        show OwnT _ _ _ _; rw [HK.out]; exact o3
      have HR3 : Hid ((Builtin.append_ #[46, 46] 46 #[u3, .slice (some ⟨wr.heap.size + 1, 0, none⟩) 1 1]).run Try.prog ((wr.alloc (.cells #[.string tn, .slice ta tb tc, .int .i64 ts] 70)).alloc (.cells #[.string tn] 9)) = .ok v3 w3) := by
        have := run
        rw [show (wr.alloc (.cells #[.string tn, .slice ta tb tc, .int .i64 ts] 70)).heap.size = wr.heap.size + 1 by simp] at this
        exact this
      have HB3 : Hid (Below w.heap.size w w3) := HB2.out.trans b3
      clear run o3 b3 HO HK HB2
      go_wp2_with (first | (refine wpList_loadR rfl 70 _ rfl _ _ rfl HR.out ?_) | (at_builtin; refine wpList_appR rfl _ _ 46 rfl _ _ _ _ rfl rfl HR3.out ?_))
      go_roundw
      case rel => exact ⟨k + 1, by go_num, by omega, HB3, HX⟩
      case measure => simp [intOf]; omega
    · have HE : Hid (OwnT w.heap.size wr u3 (L.map fun t => t.nm)) := by
        have ho := HO.out
        rw [List.take_of_length_le (by omega)] at ho
        exact ho
      clear HO
      go_wp2
      go_ret
      exact ⟨_, rfl, HE.out, HB.out⟩
end Go.Proofs.Ytmeecjedikechaa
