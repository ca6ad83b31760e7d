/- Names, links, sheets and books in memory; no walk. -/
import Derived.Test.YtohndhmhgdelmaaDoorBkPure
import Derived.Test.YtohndhmhgdelmaaDoorOpRuns
namespace Go.Proofs.YtohndhmhgdelmaaDoor
open Go.RowKit
set_option maxRecDepth 100000
set_option linter.unusedVariables false

def nameC (x : NameT) : List Value := [.string x.scope, .string x.name, .string x.text]
def linkC (x : LinkT) : List Value := [.string x.book, .string x.sheet, .int .i64 x.row, .int .i64 x.col, .int .i64 x.value.kind, .int .i64 x.value.n, .string x.value.s]
def sheetC (s : SheetT) (cv : Value) : List Value := [.string s.name, cv]
abbrev sheetV (s : SheetT) (cv : Value) : Value := .agg #[.string s.name, cv]
def namesC (L : List NameT) : Nat → List Value := fun j => (L[j]?.map nameC).getD []
def linksC (L : List LinkT) : Nat → List Value := fun j => (L[j]?.map linkC).getD []
def sheetsC (L : List SheetT) (cv : Nat → Value) : Nat → List Value := fun j => (L[j]?.map fun o => sheetC o (cv j)).getD []
def Nms (lo hi : Nat) (w : World) (v : Value) (L : List NameT) : Prop := Rws lo hi 3 w v L.length (namesC L)
def Lks (lo hi : Nat) (w : World) (v : Value) (L : List LinkT) : Prop := Rws lo hi 7 w v L.length (linksC L)
def Shs (lo hi : Nat) (w : World) (v : Value) (L : List SheetT) : Prop := ∃ cv : Nat → Value, Rws lo hi 2 w v L.length (sheetsC L cv) ∧ ∀ j o, L[j]? = some o → Cls lo hi w (cv j) o.cells
structure BkM (lo hi : Nat) (w : World) (sv nv lv : Value) (x : BookT) : Prop where
  sh : Shs lo hi w sv x.sheets
  nm : Nms lo hi w nv x.names
  lk : Lks lo hi w lv x.links

section
variable {lo hi : Nat} {w w' : World} {v : Value}
theorem Nms.kept {L : List NameT} (h : Nms lo hi w v L) (hk : ∀ i, lo ≤ i → i < hi → w'.heap[i]? = w.heap[i]?) : Nms lo hi w' v L := Rws.kept h hk
theorem Lks.kept {L : List LinkT} (h : Lks lo hi w v L) (hk : ∀ i, lo ≤ i → i < hi → w'.heap[i]? = w.heap[i]?) : Lks lo hi w' v L := Rws.kept h hk
theorem Shs.kept {L : List SheetT} (h : Shs lo hi w v L) (hk : ∀ i, lo ≤ i → i < hi → w'.heap[i]? = w.heap[i]?) : Shs lo hi w' v L := by
  obtain ⟨cv, h1, h2⟩ := h
  exact ⟨cv, h1.kept hk, fun j o hj => (h2 j o hj).kept hk⟩
theorem Nms.mono {L : List NameT} {lo' hi' : Nat} (h : Nms lo hi w v L) (h1 : lo' ≤ lo) (h2 : hi ≤ hi') : Nms lo' hi' w v L := Rws.mono h h1 h2
theorem Lks.mono {L : List LinkT} {lo' hi' : Nat} (h : Lks lo hi w v L) (h1 : lo' ≤ lo) (h2 : hi ≤ hi') : Lks lo' hi' w v L := Rws.mono h h1 h2
theorem Shs.mono {L : List SheetT} {lo' hi' : Nat} (h : Shs lo hi w v L) (h1 : lo' ≤ lo) (h2 : hi ≤ hi') : Shs lo' hi' w v L := by
  obtain ⟨cv, g1, g2⟩ := h
  exact ⟨cv, g1.mono h1 h2, fun j o hj => (g2 j o hj).mono h1 h2⟩
theorem Nms.below {base : Nat} {L : List NameT} (h : Nms lo hi w v L) (hh : hi ≤ base) (hb : Below base w w') : Nms lo hi w' v L := h.kept fun i _ hi => hb.block i (by omega)
theorem Lks.below {base : Nat} {L : List LinkT} (h : Lks lo hi w v L) (hh : hi ≤ base) (hb : Below base w w') : Lks lo hi w' v L := h.kept fun i _ hi => hb.block i (by omega)
theorem Shs.below {base : Nat} {L : List SheetT} (h : Shs lo hi w v L) (hh : hi ≤ base) (hb : Below base w w') : Shs lo hi w' v L := h.kept fun i _ hi => hb.block i (by omega)
theorem Nms.slice {L : List NameT} (h : Nms lo hi w v L) : ∃ a c, v = .slice a L.length c ∧ L.length ≤ c ∧ c ≤ maxLen := Rws.slice h
theorem Lks.slice {L : List LinkT} (h : Lks lo hi w v L) : ∃ a c, v = .slice a L.length c ∧ L.length ≤ c ∧ c ≤ maxLen := Rws.slice h
theorem Shs.slice {L : List SheetT} (h : Shs lo hi w v L) : ∃ a c, v = .slice a L.length c ∧ L.length ≤ c ∧ c ≤ maxLen := by
  obtain ⟨_, h, _⟩ := h
  exact h.slice
theorem BkM.below {base : Nat} {sv nv lv : Value} {x : BookT} (h : BkM lo hi w sv nv lv x) (hh : hi ≤ base) (hb : Below base w w') : BkM lo hi w' sv nv lv x := ⟨h.sh.below hh hb, h.nm.below hh hb, h.lk.below hh hb⟩
theorem BkM.mono {sv nv lv : Value} {x : BookT} {lo' hi' : Nat} (h : BkM lo hi w sv nv lv x) (h1 : lo' ≤ lo) (h2 : hi ≤ hi') : BkM lo' hi' w sv nv lv x := ⟨h.sh.mono h1 h2, h.nm.mono h1 h2, h.lk.mono h1 h2⟩
theorem BkM.nil (w : World) (lo hi : Nat) : BkM lo hi w (.slice none 0 0) (.slice none 0 0) (.slice none 0 0) ⟨[], [], []⟩ := ⟨⟨fun _ => .slice none 0 0, .inl ⟨rfl, rfl⟩, fun j o hj => by simp at hj⟩, .inl ⟨rfl, rfl⟩, .inl ⟨rfl, rfl⟩⟩
end

theorem inf52 : (Tryd.prog.info? 52).map (fun i => (i.zero, i.size, i.bytes)) = some (some (.agg #[strE, .slice none 0 0]), 2, 40) := by kernel_rfl
theorem inf64 : (Tryd.prog.info? 64).map (fun i => (i.zero, i.size, i.bytes)) = some (some (.agg #[strE, strE, strE]), 3, 48) := by kernel_rfl
theorem inf69 : (Tryd.prog.info? 69).map (fun i => (i.zero, i.size, i.bytes)) = some (some (.agg #[strE, strE, int0, int0, int0, int0, strE]), 7, 80) := by kernel_rfl
theorem inf26 : (Tryd.prog.info? 26).map (fun i => (i.zero, i.size, i.bytes)) = some (some (.agg #[.slice none 0 0, .slice none 0 0, .slice none 0 0]), 3, 72) := by kernel_rfl

/-- An element of a list: loaded, and laid as a copy of one's own. -/
theorem Rws.runs {lo hi sz : Nat} {w : World} {a : Option Addr} {n c : Nat} {C : Nat → List Value} (h : Rws lo hi sz w (.slice a n c) n C) {k : Nat} (hk : k < n) {t : TypeId} {d : TypeDesc} (hu : Tryd.prog.underlying t = some d) (hd : d.isRow = true) {zv : Value} {bytes : Nat}
    (hinf : (Tryd.prog.info? t).map (fun i => (i.zero, i.size, i.bytes)) = some (some zv, sz, bytes)) {cs : List Value} (hC : C k = cs) (hl : cs.length = sz) (h1 : cs.toArray.all (·.oneCell') = true) (zs : Array Value) (hz : zs.size = sz) :
    ∃ a' ov W, a = some a' ∧ ov = .agg cs.toArray ∧ W = w.alloc (.cells cs.toArray t) ∧
      Hid ((Instr.loadAt t (.pointer (some (a'.add (k * sz))))).run Tryd.prog w = .ok ov w) ∧
      Hid ((Instr.storeAt t (.pointer (some ⟨w.heap.size, 0, none⟩)) ov).run Tryd.prog (w.alloc (.cells zs t)) = .ok () W) ∧
      Hid ((Instr.loadAt t (.pointer (some ⟨w.heap.size, 0, none⟩))).run Tryd.prog W = .ok ov W) := by
  have hi : (Tryd.prog.info? t).map (·.size) = some cs.length := by
    cases hq : Tryd.prog.info? t with
    | none => simp [hq] at hinf
    | some i => simp [hq] at hinf ⊢; omega
  obtain ⟨a', e1, e2⟩ := Rws.load h hk (t := t) hu hd (by rw [hC]; exact hi)
  rw [hC] at e2
  obtain ⟨b1, b2⟩ := box_runs hu hd hinf w zs cs.toArray hz (by simpa using hl) h1
  exact ⟨a', _, _, e1, rfl, rfl, e2, b1, b2⟩
theorem getD_some {α : Type} {L : List α} {f : α → List Value} {k : Nat} (hk : k < L.length) : (L[k]?.map f).getD [] = f L[k] := by simp [List.getElem?_eq_getElem hk]
theorem Nms.runs {lo hi : Nat} {w : World} {a : Option Addr} {c : Nat} {L : List NameT} (h : Nms lo hi w (.slice a L.length c) L) {k : Nat} (hk : k < L.length) :
    ∃ a' ov W, a = some a' ∧ ov = nameV L[k] ∧ W = w.alloc (.cells (nameC L[k]).toArray 64) ∧
      Hid ((Instr.loadAt 64 (.pointer (some (a'.add (k * 3))))).run Tryd.prog w = .ok ov w) ∧
      Hid ((Instr.storeAt 64 (.pointer (some ⟨w.heap.size, 0, none⟩)) ov).run Tryd.prog (w.alloc (.cells #[strE, strE, strE] 64)) = .ok () W) ∧
      Hid ((Instr.loadAt 64 (.pointer (some ⟨w.heap.size, 0, none⟩))).run Tryd.prog W = .ok ov W) :=
  Rws.runs h hk Tryd.underlying64 rfl inf64 (getD_some hk) rfl (by simp [nameC, Value.oneCell']) _ rfl
theorem Lks.runs {lo hi : Nat} {w : World} {a : Option Addr} {c : Nat} {L : List LinkT} (h : Lks lo hi w (.slice a L.length c) L) {k : Nat} (hk : k < L.length) :
    ∃ a' ov W, a = some a' ∧ ov = linkV L[k] ∧ W = w.alloc (.cells (linkC L[k]).toArray 69) ∧
      Hid ((Instr.loadAt 69 (.pointer (some (a'.add (k * 7))))).run Tryd.prog w = .ok ov w) ∧
      Hid ((Instr.storeAt 69 (.pointer (some ⟨w.heap.size, 0, none⟩)) ov).run Tryd.prog (w.alloc (.cells #[strE, strE, int0, int0, int0, int0, strE] 69)) = .ok () W) ∧
      Hid ((Instr.loadAt 69 (.pointer (some ⟨w.heap.size, 0, none⟩))).run Tryd.prog W = .ok ov W) :=
  Rws.runs h hk Tryd.underlying69 rfl inf69 (getD_some hk) rfl (by simp [linkC, Value.oneCell']) _ rfl
theorem Shs.runs {lo hi : Nat} {w : World} {a : Option Addr} {c : Nat} {L : List SheetT} (h : Shs lo hi w (.slice a L.length c) L) {k : Nat} (hk : k < L.length) :
    ∃ a' cv ov W, a = some a' ∧ ov = sheetV L[k] cv ∧ Cls lo hi w cv L[k].cells ∧ W = w.alloc (.cells (sheetC L[k] cv).toArray 52) ∧
      Hid ((Instr.loadAt 52 (.pointer (some (a'.add (k * 2))))).run Tryd.prog w = .ok ov w) ∧
      Hid ((Instr.storeAt 52 (.pointer (some ⟨w.heap.size, 0, none⟩)) ov).run Tryd.prog (w.alloc (.cells #[strE, .slice none 0 0] 52)) = .ok () W) ∧
      Hid ((Instr.loadAt 52 (.pointer (some ⟨w.heap.size, 0, none⟩))).run Tryd.prog W = .ok ov W) := by
  obtain ⟨cv, hr, hc⟩ := h
  have hcs := hc k _ (List.getElem?_eq_getElem hk)
  obtain ⟨ca, cc, e1, _, _⟩ := hcs.slice
  obtain ⟨a', ov, W, q⟩ := Rws.runs hr hk Tryd.underlying52 rfl inf52 (getD_some (f := fun o => sheetC o (cv k)) hk) rfl (by rw [e1]; simp [sheetC, Value.oneCell']) #[strE, .slice none 0 0] rfl
  exact ⟨a', cv k, ov, W, q.1, q.2.1, hcs, q.2.2⟩

end Go.Proofs.YtohndhmhgdelmaaDoor
