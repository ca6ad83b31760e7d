/- The walk of FilesMoves, over what Names tells. -/
import Derived.Test.YtdhobgnclmmikaaRename
import Derived.Test.YtdhobgnclmmikaaKeepsWalk
namespace Go.Proofs.Ytdhobgnclmmikaa
open Go.RowKit Go.Maps
open Go.WideMaps

/-- What is wanted of Names: as many names as the map has entries. -/
def NamesSaid : Prop := ∀ (base : Nat) (w : World) (b bm : Nat) (s : WS) (D : DataW Value) (F : List UInt8 → Option FileS), S base w b bm s D F → base ≤ w.heap.size →
  Calls Try.prog 24 #[ptrOf b] w fun e w' => ∃ a c, e = .returned (.slice a (Maps.size D) c) ∧ Below base w w'

set_option maxHeartbeats 1000000 in
theorem read_keeps {base : Nat} {w : World} {b bm : Nat} {s : WS} {D : DataW Value} {F : List UInt8 → Option FileS} (h : S base w b bm s D F) (hbase : base ≤ w.heap.size) (ho : s.off = false) (nm : ByteArray) (hnm : nm.size ≤ maxLen) (hg : goodB nm = true) {f : FileS} (hf : F nm.data.toList = some f) :
    Calls Try.prog 21 #[ptrOf b, .string nm] w fun e w' => ∃ v, e = .returned (.tuple #[v, .int .i64 0]) ∧ w'.ownsRow base 5 1 v f.data.length (bcells f.data) ∧ S base w' b bm s D F ∧ Below base w w' ∧ (∀ g, v.ownBlock = some g → w.heap.size ≤ g) ∧ (∀ i, i < w.heap.size → w'.heap[i]? = w.heap[i]?) := by
  have FD := find_some h ho nm hnm hg hf
  have HC : Hid _ := fun o => copied_any base ((h.alloc o).src hf) (h.files _ _ hf).2.2.2.2 (by simp; omega)
  have cf : Hid (∀ o, (w.alloc o).cell? ⟨f.fb, 0, none⟩ = some f.v) := fun o => cell_alloc (fcells (h.files _ _ hf).2.1).1 o
  have H : Hid (S base w b bm s D F) := h
  clear h ho hf hnm hg
  go_enter Try.func21, Try.ntmps21
  go_wp2_with (first
    | (go_at_call 47; refine FD.mono ?_; rintro e w' ⟨rfl, o, rfl⟩; have cfo := cf.out o)
    | (go_at_call 51; refine (HC.out _).mono ?_; rintro e w' ⟨v, rfl, h2, h3, h4⟩))
  go_ret2
  exact ⟨v, rfl, h2, (H.out.alloc o).grown fun i hi => h3.block i hi (by simp), ((Below.refl base w).alloc hbase o).grown h3 (by simp; omega) (by simp), (fun g hg => by have := h4 g hg; simp at this; omega),
    fun i hi => (h3.block i (by simp; omega) (by simp)).trans (Below.heap_alloc w o i hi)⟩

theorem size_zero {D : DataW Value} (hD : Maps.IsMap D) (h : Maps.size D = 0) (k : Lit) : Maps.has D k = false := by
  obtain ⟨es, rfl⟩ := hD
  have : es = [] := List.eq_nil_of_length_eq_zero h
  subst this; rfl
theorem size_moved (la lb : List UInt8) (x y : DataW Value) : Maps.size (((DataW.put (.map []) (.string la) x).del (.string la)).put (.string lb) y) = 1 := by
  have hkl : ∀ z : List UInt8, WideAt.IsKeyLit (.string z) := fun z => by simp [WideAt.IsKeyLit]
  have t1 : Maps.Tidy (DataW.put (.map []) (.string la) x) := Maps.tidy_empty.put (hkl la) x
  have h1 : Maps.size (DataW.put (.map []) (.string la) x) = 1 := by rw [Maps.size_put Maps.tidy_empty]; rfl
  have h2 := Maps.size_del (k := .string la) t1
  rw [h1, Maps.has_put_same Maps.isMap_empty (hkl la)] at h2
  have h3 : Maps.size ((DataW.put (.map []) (.string la) x).del (.string la)) = 0 := by simpa using h2
  rw [Maps.size_put (t1.del _), size_zero (t1.del _).isMap h3, h3]
  rfl

theorem neq_toList {a b : ByteArray} (h : ¬ a = b) : a.data.toList ≠ b.data.toList := by
  intro e
  apply h
  cases a; cases b
  simp at e
  rw [e]

set_option maxRecDepth 100000 in
set_option maxHeartbeats 2000000 in
theorem moves_no (a b : ByteArray) (ha : a.size ≤ maxLen) (hb : b.size ≤ maxLen) (a2 : Option Addr) (len cap : Nat) (hl : len ≤ maxLen) (w : World) (h : goodB a = false ∨ goodB b = false ∨ 1048576 < len) :
    Calls Try.prog 6 #[.string a, .string b, .slice a2 len cap] w fun e w' => e = .returned (.bool true) ∧ Below w.heap.size w w' := by
  have N := new_any w
  have HA : Hid (a.size ≤ maxLen) := ha
  have HB : Hid (b.size ≤ maxLen) := hb
  clear ha hb
  unfold maxLen at hl
  cases ga : goodB a with
  | false =>
    have GA : Hid (goodB a = false) := ga
    clear ga h
    go_enter Try.func6, Try.ntmps6
    go_wp2_with fail
    refine N.mono ?_
    rintro e w1 ⟨p, pm, rfl, s1, b1⟩
    clear N
    go_wp2_with fail
    refine (good_any a _ HA.out).mono ?_
    rw [GA.out]
    rintro e w' ⟨rfl, rfl⟩
    go_wp2_with fail
    refine (rename_bad s1 b1.size rfl a b HA.out HB.out (.inl GA.out)).mono ?_
    rintro e w2 ⟨rfl, b2⟩
    have B2 : Hid (Below w.heap.size w w2) := b1.trans b2
    have L := lives_any w2
    clear s1 b1 b2
    go_wp2_with (go_at_call 12; refine L.mono ?_; rintro e w'' ⟨rfl, hb⟩)
    go_ret
    exact ⟨rfl, B2.out.trans (hb.mono B2.out.size)⟩
  | true =>
    cases gb : goodB b with
    | false =>
      have GA : Hid (goodB a = true) := ga
      have GB : Hid (goodB b = false) := gb
      clear ga gb h
      go_enter Try.func6, Try.ntmps6
      go_wp2_with fail
      refine N.mono ?_
      rintro e w1 ⟨p, pm, rfl, s1, b1⟩
      clear N
      go_wp2_with fail
      refine (good_any a _ HA.out).mono ?_
      rw [GA.out]
      rintro e w' ⟨rfl, rfl⟩
      go_wp2_with fail
      refine (good_any b _ HB.out).mono ?_
      rw [GB.out]
      rintro e w' ⟨rfl, rfl⟩
      go_wp2_with fail
      refine (rename_bad s1 b1.size rfl a b HA.out HB.out (.inr GB.out)).mono ?_
      rintro e w2 ⟨rfl, b2⟩
      have B2 : Hid (Below w.heap.size w w2) := b1.trans b2
      have L := lives_any w2
      clear s1 b1 b2
      go_wp2_with (go_at_call 12; refine L.mono ?_; rintro e w'' ⟨rfl, hb⟩)
      go_ret
      exact ⟨rfl, B2.out.trans (hb.mono B2.out.size)⟩
    | true =>
      have hlen : 1048576 < len := by simpa [ga, gb] using h
      have GA : Hid (goodB a = true) := ga
      have GB : Hid (goodB b = true) := gb
      clear ga gb h
      go_enter Try.func6, Try.ntmps6
      go_wp2_with fail
      refine N.mono ?_
      rintro e w1 ⟨p, pm, rfl, s1, b1⟩
      clear N
      go_wp2_with fail
      refine (good_any a _ HA.out).mono ?_
      rw [GA.out]
      rintro e w' ⟨rfl, rfl⟩
      go_wp2_with fail
      refine (good_any b _ HB.out).mono ?_
      rw [GB.out]
      rintro e w' ⟨rfl, rfl⟩
      go_wp2_with fail
      refine (rename_none s1 b1.size rfl a b HA.out HB.out GA.out GB.out rfl).mono ?_
      rintro e w2 ⟨rfl, b2⟩
      have B2 : Hid (Below w.heap.size w w2) := b1.trans b2
      have L := lives_any w2
      clear s1 b1 b2
      go_wp2_with (go_at_call 12; refine L.mono ?_; rintro e w'' ⟨rfl, hb⟩)
      go_ret
      exact ⟨rfl, B2.out.trans (hb.mono B2.out.size)⟩
end Go.Proofs.Ytdhobgnclmmikaa
