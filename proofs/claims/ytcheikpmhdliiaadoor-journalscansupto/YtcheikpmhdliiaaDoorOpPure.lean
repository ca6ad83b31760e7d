import Derived.Test.YtcheikpmhdliiaaDoorTake
import Derived.Test.YtcheikpmhdliiaaDoorWhole
/- What is written is read: numbers, and lists of them. No walk. -/
namespace Go.Proofs.YtcheikpmhdliiaaDoor

theorem numAux_digits (r : List UInt8) : ∀ (u i acc : Nat), i ≤ 9 → u * 128 ^ i < 18446744073709551616 → (0 < i → 0 < u) → numAux i acc (digits u ++ r) = some (acc + u * 128 ^ i, r) := by
  intro u
  induction u using Nat.strongRecOn with
  | _ u ih =>
    intro i acc hi hu h0
    have e9 : (128 : Nat) ^ 9 = 9223372036854775808 := by decide
    by_cases hs : u < 128
    · rw [digits_small hs]
      have ht : (UInt8.ofNat u).toNat = u := by simp; omega
      have h9 : ¬ (i = 9 ∧ 1 < u) := by
        rintro ⟨rfl, h⟩
        have : 2 * 128 ^ 9 ≤ u * 128 ^ 9 := Nat.mul_le_mul_right _ h
        omega
      show numAux i acc (UInt8.ofNat u :: r) = _
      rw [numAux_end (by rw [ht]; exact h9) (by rw [ht]; exact hs) (by rw [ht]; omega), ht, Nat.mod_eq_of_lt hs]
    · rw [digits_big (by omega)]
      have ht : (UInt8.ofNat (u % 128 + 128)).toNat = u % 128 + 128 := by simp; omega
      have h9 : i < 9 := by
        rcases Nat.lt_or_ge i 9 with h | h
        · exact h
        · have : i = 9 := by omega
          subst this
          have : 128 * 128 ^ 9 ≤ u * 128 ^ 9 := Nat.mul_le_mul_right _ (by omega)
          omega
      have hp : u = 128 * (u / 128) + u % 128 := by omega
      have hm : u * 128 ^ i = u % 128 * 128 ^ i + u / 128 * 128 ^ (i + 1) := by
        rw [Nat.pow_succ]
        generalize 128 ^ i = p
        conv => lhs; rw [hp, Nat.add_mul]
        rw [Nat.add_comm, Nat.mul_comm p 128, Nat.mul_comm 128 (u / 128), Nat.mul_assoc]
      show numAux i acc (UInt8.ofNat (u % 128 + 128) :: (digits (u / 128) ++ r)) = _
      rw [numAux, ht, if_neg (by omega), if_pos (by omega), ih (u / 128) (by omega) (i + 1) _ (by omega) (by omega) (by omega), hm]
      congr 2
      have : (u % 128 + 128) % 128 = u % 128 := by omega
      rw [this]
      omega

theorem numAux_numB {n : Int} (h : In64 n) (r : List UInt8) : numAux 0 0 (numB n ++ r) = some (foldN n, r) := by
  have := numAux_digits r (foldN n) 0 0 (by omega) (by have := foldN_lt h; simpa using this) (by omega)
  simpa [numB] using this
theorem unfold_fold (n : Int) : unfoldI (foldN n) = n := by
  unfold unfoldI foldN
  split <;> split <;> omega
theorem digits_pos (u : Nat) : 1 ≤ (digits u).length := by
  rw [digits]
  split <;> simp
theorem flat_ge (ns : List Int) : ns.length ≤ (ns.flatMap numB).length := by
  induction ns with
  | nil => simp
  | cons n r ih =>
    have := digits_pos (foldN n)
    simp only [List.flatMap_cons, List.length_append, List.length_cons, numB]
    omega
theorem takeN_flat (ns : List Int) (h : ∀ n ∈ ns, In64 n) (r : List UInt8) : takeN ns.length (ns.flatMap numB ++ r) = some (ns, r) := by
  induction ns with
  | nil => rfl
  | cons n t ih =>
    have h1 := ih fun m hm => h m (by simp [hm])
    have h2 := numAux_numB (h n (by simp)) (t.flatMap numB ++ r)
    rw [List.flatMap_cons, List.append_assoc, List.length_cons, takeN_cons h2, h1, unfold_fold]
    rfl
theorem read_list (ns : List Int) (h : ∀ n ∈ ns, In64 n) (hl : ns.length ≤ 9223372036854775807) : readI (listB ns) = some ns := by
  have e : listR (listB ns) = some (ns, []) := by
    unfold listR countR listB
    rw [numAux_numB (by constructor <;> omega)]
    dsimp only
    rw [unfold_fold, if_neg (by have := flat_ge ns; omega)]
    dsimp only
    have := takeN_flat ns h []
    simpa using this
  unfold readI
  rw [e]
end Go.Proofs.YtcheikpmhdliiaaDoor

/- Values of layer 2 as plain data: their bytes, and how bytes are read; no walk. -/
namespace Go.Proofs.YtcheikpmhdliiaaDoor

structure CellT where
  row : Int
  col : Int
  text : ByteArray
structure NameT where
  scope : ByteArray
  name : ByteArray
  text : ByteArray
structure ValT where
  kind : Int
  n : Int
  s : ByteArray
structure LinkT where
  book : ByteArray
  sheet : ByteArray
  row : Int
  col : Int
  value : ValT
structure OpT where
  kind : Int
  book : ByteArray
  sheet : ByteArray
  at1 : Int
  n : Int
  row : Int
  col : Int
  text : ByteArray
  name : NameT
  link : LinkT
  cells : List CellT

def CellT.Ok (c : CellT) : Prop := In64 c.row ∧ In64 c.col
def ValT.Ok (v : ValT) : Prop := In64 v.kind ∧ In64 v.n
def LinkT.Ok (x : LinkT) : Prop := In64 x.row ∧ In64 x.col ∧ x.value.Ok
def OpT.Ok (o : OpT) : Prop := In64 o.kind ∧ In64 o.at1 ∧ In64 o.n ∧ In64 o.row ∧ In64 o.col ∧ o.link.Ok ∧ ∀ c ∈ o.cells, c.Ok

def textB (s : ByteArray) : List UInt8 := numB s.size ++ s.data.toList
def cellB (c : CellT) : List UInt8 := numB c.row ++ (numB c.col ++ textB c.text)
def nameB (x : NameT) : List UInt8 := textB x.scope ++ (textB x.name ++ textB x.text)
def valB (v : ValT) : List UInt8 := numB v.kind ++ (numB v.n ++ textB v.s)
def linkB (x : LinkT) : List UInt8 := textB x.book ++ (textB x.sheet ++ (numB x.row ++ (numB x.col ++ valB x.value)))
def lstB {α : Type} (B : α → List UInt8) (l : List α) : List UInt8 := numB l.length ++ l.flatMap B
def opB (o : OpT) : List UInt8 := numB o.kind ++ (textB o.book ++ (textB o.sheet ++ (numB o.at1 ++ (numB o.n ++ (numB o.row ++ (numB o.col ++ (textB o.text ++ (nameB o.name ++ (linkB o.link ++ lstB cellB o.cells)))))))))
def opsB (l : List OpT) : List UInt8 := lstB opB l

theorem numB_pos (n : Int) : 1 ≤ (numB n).length := digits_pos _
theorem textB_length (s : ByteArray) : (textB s).length = (numB s.size).length + s.size := by simp [textB]
theorem cellB_pos (c : CellT) : 1 ≤ (cellB c).length := by have := numB_pos c.row; simp [cellB]; omega
theorem nameB_pos (c : NameT) : 1 ≤ (nameB c).length := by have := numB_pos c.scope.size; simp [nameB, textB]; omega
theorem linkB_pos (c : LinkT) : 1 ≤ (linkB c).length := by have := numB_pos c.row; simp [linkB]; omega
theorem opB_pos (c : OpT) : 1 ≤ (opB c).length := by have := numB_pos c.kind; simp [opB]; omega
theorem flatMap_ge {α : Type} {B : α → List UInt8} (hB : ∀ x, 1 ≤ (B x).length) (l : List α) : l.length ≤ (l.flatMap B).length := by
  induction l with
  | nil => simp
  | cons x r ih => have := hB x; simp only [List.flatMap_cons, List.length_append, List.length_cons]; omega
theorem flatMap_snoc {α : Type} (B : α → List UInt8) (l : List α) (k : Nat) (h : k < l.length) : (l.take (k + 1)).flatMap B = (l.take k).flatMap B ++ B l[k] := by
  rw [List.take_add_one, List.getElem?_eq_getElem h, List.flatMap_append]
  simp
theorem flatMap_split {α : Type} (B : α → List UInt8) (l : List α) (k : Nat) (h : k < l.length) : l.flatMap B = (l.take k).flatMap B ++ (B l[k] ++ (l.drop (k + 1)).flatMap B) := by
  conv => lhs; rw [← List.take_append_drop (k + 1) l, List.flatMap_append, flatMap_snoc B l k h, List.append_assoc]
theorem flatMap_part {α : Type} (B : α → List UInt8) (l : List α) (k : Nat) (h : k < l.length) : ((l.take k).flatMap B).length + (B l[k]).length ≤ (l.flatMap B).length := by
  rw [flatMap_split B l k h]
  simp only [List.length_append]
  omega

/-! ### Reading -/
abbrev Rdr (α : Type) := List UInt8 → Option (α × List UInt8)
def numR : Rdr Int := fun l => (numAux 0 0 l).map fun p => (unfoldI p.1, p.2)
def textR : Rdr ByteArray := fun l => (countR l).map fun p => (⟨(p.2.take p.1).toArray⟩, p.2.drop p.1)
def cellR : Rdr CellT := fun l => (numR l).bind fun a => (numR a.2).bind fun b => (textR b.2).bind fun t => some (⟨a.1, b.1, t.1⟩, t.2)
def nameR : Rdr NameT := fun l => (textR l).bind fun a => (textR a.2).bind fun b => (textR b.2).bind fun t => some (⟨a.1, b.1, t.1⟩, t.2)
def valR : Rdr ValT := fun l => (numR l).bind fun a => (numR a.2).bind fun b => (textR b.2).bind fun t => some (⟨a.1, b.1, t.1⟩, t.2)
def linkR : Rdr LinkT := fun l => (textR l).bind fun a => (textR a.2).bind fun b => (numR b.2).bind fun c => (numR c.2).bind fun d => (valR d.2).bind fun v => some (⟨a.1, b.1, c.1, d.1, v.1⟩, v.2)
def itemsR {α : Type} (R : Rdr α) : Nat → Rdr (List α)
  | 0, l => some ([], l)
  | n + 1, l => (R l).bind fun p => (itemsR R n p.2).bind fun q => some (p.1 :: q.1, q.2)
def lstR {α : Type} (R : Rdr α) : Rdr (List α) := fun l => (countR l).bind fun p => itemsR R p.1 p.2
def opR : Rdr OpT := fun l => (numR l).bind fun a => (textR a.2).bind fun b => (textR b.2).bind fun c => (numR c.2).bind fun d => (numR d.2).bind fun e => (numR e.2).bind fun f => (numR f.2).bind fun g => (textR g.2).bind fun t =>
  (nameR t.2).bind fun x => (linkR x.2).bind fun y => (lstR cellR y.2).bind fun z => some (⟨a.1, b.1, c.1, d.1, e.1, f.1, g.1, t.1, x.1, y.1, z.1⟩, z.2)
def opsR : Rdr (List OpT) := lstR opR
def readO (l : List UInt8) : Option (List OpT) :=
  match opsR l with
  | some (os, []) => some os
  | _ => none

/-! ### What is written is read -/
theorem numR_B {n : Int} (h : In64 n) (r : List UInt8) : numR (numB n ++ r) = some (n, r) := by
  unfold numR
  rw [numAux_numB h]
  simp [unfold_fold]
theorem countR_B {n : Nat} (h : n ≤ 9223372036854775807) {r : List UInt8} (hr : n ≤ r.length) : countR (numB n ++ r) = some (n, r) := by
  unfold countR
  rw [numAux_numB (by constructor <;> omega)]
  dsimp only
  rw [unfold_fold, if_neg (by omega)]
  simp
theorem textR_B {s : ByteArray} (h : (textB s).length ≤ 9223372036854775807) (r : List UInt8) : textR (textB s ++ r) = some (s, r) := by
  rw [textB_length] at h
  unfold textR textB
  rw [List.append_assoc, countR_B (by omega) (by simp)]
  have e : s.size = s.data.toList.length := by simp
  simp only [Option.map_some, e, List.take_left, List.drop_left]
theorem cellR_B {c : CellT} (h : c.Ok) (hl : (cellB c).length ≤ 9223372036854775807) (r : List UInt8) : cellR (cellB c ++ r) = some (c, r) := by
  simp only [cellB, List.length_append] at hl
  simp only [cellR, cellB, List.append_assoc, numR_B h.1, numR_B h.2, Option.bind_some, textR_B (s := c.text) (by omega)]
theorem nameR_B {c : NameT} (hl : (nameB c).length ≤ 9223372036854775807) (r : List UInt8) : nameR (nameB c ++ r) = some (c, r) := by
  simp only [nameB, List.length_append] at hl
  simp only [nameR, nameB, List.append_assoc, Option.bind_some, textR_B (s := c.scope) (by omega), textR_B (s := c.name) (by omega), textR_B (s := c.text) (by omega)]
theorem valR_B {c : ValT} (h : c.Ok) (hl : (valB c).length ≤ 9223372036854775807) (r : List UInt8) : valR (valB c ++ r) = some (c, r) := by
  simp only [valB, List.length_append] at hl
  simp only [valR, valB, List.append_assoc, numR_B h.1, numR_B h.2, Option.bind_some, textR_B (s := c.s) (by omega)]
theorem linkR_B {c : LinkT} (h : c.Ok) (hl : (linkB c).length ≤ 9223372036854775807) (r : List UInt8) : linkR (linkB c ++ r) = some (c, r) := by
  simp only [linkB, List.length_append] at hl
  simp only [linkR, linkB, List.append_assoc, numR_B h.1, numR_B h.2.1, Option.bind_some, textR_B (s := c.book) (by omega), textR_B (s := c.sheet) (by omega), valR_B (c := c.value) h.2.2 (by omega)]
theorem itemsR_B {α : Type} {R : Rdr α} {B : α → List UInt8} (l : List α) (h : ∀ x ∈ l, ∀ r, R (B x ++ r) = some (x, r)) (r : List UInt8) : itemsR R l.length (l.flatMap B ++ r) = some (l, r) := by
  induction l with
  | nil => rfl
  | cons x t ih =>
    have h1 := ih fun y hy => h y (by simp [hy])
    rw [List.flatMap_cons, List.append_assoc, List.length_cons, itemsR, h x (by simp)]
    simp only [Option.bind_some]
    rw [h1]
    rfl
theorem lstR_B {α : Type} {R : Rdr α} {B : α → List UInt8} (hB : ∀ x, 1 ≤ (B x).length) (l : List α) (h : ∀ x ∈ l, ∀ r, R (B x ++ r) = some (x, r)) (hl : (lstB B l).length ≤ 9223372036854775807) (r : List UInt8) : lstR R (lstB B l ++ r) = some (l, r) := by
  have hg := flatMap_ge hB l
  simp only [lstB, List.length_append] at hl
  unfold lstR lstB
  rw [List.append_assoc, countR_B (by omega) (by rw [List.length_append]; omega)]
  simp only [Option.bind_some]
  exact itemsR_B l h r
theorem part_le {α : Type} {B : α → List UInt8} {l : List α} {x : α} (h : x ∈ l) : (B x).length ≤ (l.flatMap B).length := by
  induction l with
  | nil => cases h
  | cons y t ih =>
    simp only [List.flatMap_cons, List.length_append]
    rcases List.mem_cons.1 h with rfl | h
    · omega
    · have := ih h; omega
theorem opR_B {o : OpT} (h : o.Ok) (hl : (opB o).length ≤ 9223372036854775807) (r : List UInt8) : opR (opB o ++ r) = some (o, r) := by
  obtain ⟨h1, h2, h3, h4, h5, h6, h7⟩ := h
  simp only [opB, List.length_append] at hl
  have hc : ∀ r, lstR cellR (lstB cellB o.cells ++ r) = some (o.cells, r) := lstR_B cellB_pos o.cells (fun c hc r => cellR_B (h7 c hc) (by
    have := part_le (B := cellB) hc
    simp only [lstB, List.length_append] at hl
    omega) r) (by omega)
  simp only [opR, opB, List.append_assoc, Option.bind_some, numR_B h1, numR_B h2, numR_B h3, numR_B h4, numR_B h5, textR_B (s := o.book) (by omega), textR_B (s := o.sheet) (by omega), textR_B (s := o.text) (by omega), nameR_B (c := o.name) (by omega), linkR_B h6 (by omega), hc]
theorem opsR_B {l : List OpT} (h : ∀ o ∈ l, o.Ok) (hl : (opsB l).length ≤ 9223372036854775807) (r : List UInt8) : opsR (opsB l ++ r) = some (l, r) :=
  lstR_B opB_pos l (fun o ho r => opR_B (h o ho) (by
    have := part_le (B := opB) ho
    simp only [opsB, lstB, List.length_append] at hl
    omega) r) hl r
theorem readO_B {l : List OpT} (h : ∀ o ∈ l, o.Ok) (hl : (opsB l).length ≤ 9223372036854775807) : readO (opsB l) = some l := by
  have := opsR_B h hl []
  rw [List.append_nil] at this
  unfold readO
  rw [this]

/-! ### What is read was written so -/
theorem numAux_inv : ∀ (l : List UInt8) (i acc : Nat) {v : Nat} {r : List UInt8}, numAux i acc l = some (v, r) → ∃ k, v = acc + k * 128 ^ i ∧ l = digits k ++ r ∧ (0 < i → 0 < k) := by
  intro l
  induction l with
  | nil => intro i acc v r h; cases h
  | cons d l ih =>
    intro i acc v r h
    have hd := d.toNat_lt
    rw [numAux] at h
    split at h
    · cases h
    · split at h
      · rename_i hbig
        obtain ⟨k, h1, h2, h3⟩ := ih _ _ h
        have hk := h3 (by omega)
        refine ⟨d.toNat % 128 + 128 * k, ?_, ?_, by omega⟩
        · rw [h1, Nat.pow_succ, Nat.add_mul, Nat.mul_comm 128 k, Nat.mul_assoc, Nat.mul_comm (128 ^ i) 128, Nat.add_assoc]
        · rw [digits_big (by omega), h2]
          have e1 : (d.toNat % 128 + 128 * k) % 128 + 128 = d.toNat := by omega
          have e2 : (d.toNat % 128 + 128 * k) / 128 = k := by omega
          rw [e1, e2]
          simp
      · split at h
        · cases h
        · rename_i h1 h2 h3
          cases h
          refine ⟨d.toNat, by rw [Nat.mod_eq_of_lt (by omega)], ?_, by omega⟩
          rw [digits_small (by omega)]
          simp
theorem fold_unfold {u : Nat} : foldN (unfoldI u) = u := by
  unfold unfoldI foldN
  split <;> split <;> omega
theorem numR_inv {l : List UInt8} {n : Int} {r : List UInt8} (h : numR l = some (n, r)) : l = numB n ++ r ∧ In64 n := by
  unfold numR at h
  rcases hq : numAux 0 0 l with _ | ⟨u, r'⟩
  · rw [hq] at h; cases h
  · rw [hq] at h
    cases h
    obtain ⟨k, h1, h2, _⟩ := numAux_inv l 0 0 hq
    refine ⟨?_, unfoldI_in (numAux_lt l 0 0 (by decide) (by decide) hq)⟩
    rw [h2, numB, fold_unfold, h1]
    simp
theorem countR_inv {l : List UInt8} {n : Nat} {r : List UInt8} (h : countR l = some (n, r)) : l = numB n ++ r ∧ n ≤ r.length ∧ In64 n := by
  unfold countR at h
  rcases hq : numAux 0 0 l with _ | ⟨u, r'⟩
  · rw [hq] at h; cases h
  · rw [hq] at h
    dsimp only at h
    have hn : numR l = some (unfoldI u, r') := by unfold numR; rw [hq]; rfl
    obtain ⟨h1, h2⟩ := numR_inv hn
    split at h
    · cases h
    · cases h
      have e : ((unfoldI u).toNat : Int) = unfoldI u := by omega
      rw [e]
      exact ⟨h1, by omega, h2⟩
theorem textR_inv {l : List UInt8} {s : ByteArray} {r : List UInt8} (h : textR l = some (s, r)) : l = textB s ++ r := by
  unfold textR at h
  rcases hq : countR l with _ | ⟨n, r'⟩
  · rw [hq] at h; cases h
  · rw [hq] at h
    cases h
    obtain ⟨h1, h2, _⟩ := countR_inv hq
    unfold textB
    have e : (ByteArray.mk (r'.take n).toArray).size = n := by simp [ByteArray.size]; omega
    rw [e, h1]
    simp
theorem itemsR_inv {α : Type} {R : Rdr α} {B : α → List UInt8} {P : α → Prop} (hR : ∀ l x r, R l = some (x, r) → l = B x ++ r ∧ P x) : ∀ (n : Nat) (l : List UInt8) {xs : List α} {r : List UInt8}, itemsR R n l = some (xs, r) → l = xs.flatMap B ++ r ∧ xs.length = n ∧ ∀ x ∈ xs, P x := by
  intro n
  induction n with
  | zero => intro l xs r h; cases h; simp
  | succ n ih =>
    intro l xs r h
    rw [itemsR] at h
    rcases hq : R l with _ | ⟨x, r1⟩
    · rw [hq] at h; cases h
    · rw [hq] at h
      simp only [Option.bind_some] at h
      rcases hq2 : itemsR R n r1 with _ | ⟨ys, r2⟩
      · rw [hq2] at h; cases h
      · rw [hq2] at h
        cases h
        obtain ⟨h1, h2⟩ := hR _ _ _ hq
        obtain ⟨h3, h4, h5⟩ := ih _ hq2
        refine ⟨by rw [h1, h3]; simp, by simp [h4], fun y hy => ?_⟩
        rcases List.mem_cons.1 hy with rfl | hy
        · exact h2
        · exact h5 y hy
theorem lstR_inv {α : Type} {R : Rdr α} {B : α → List UInt8} {P : α → Prop} (hR : ∀ l x r, R l = some (x, r) → l = B x ++ r ∧ P x) {l : List UInt8} {xs : List α} {r : List UInt8} (h : lstR R l = some (xs, r)) : l = lstB B xs ++ r ∧ ∀ x ∈ xs, P x := by
  unfold lstR at h
  rcases hq : countR l with _ | ⟨n, r1⟩
  · rw [hq] at h; cases h
  · rw [hq] at h
    simp only [Option.bind_some] at h
    obtain ⟨h1, _, _⟩ := countR_inv hq
    obtain ⟨h3, h4, h5⟩ := itemsR_inv hR n r1 h
    refine ⟨?_, h5⟩
    unfold lstB
    rw [h4, h1, h3, List.append_assoc]
theorem bind_inv {α β : Type} {o : Option α} {f : α → Option β} {y : β} (h : o.bind f = some y) : ∃ x, o = some x ∧ f x = some y := Option.bind_eq_some_iff.1 h
theorem cellR_inv (l : List UInt8) (x : CellT) (r : List UInt8) (h : cellR l = some (x, r)) : l = cellB x ++ r ∧ x.Ok := by
  unfold cellR at h
  obtain ⟨⟨a, l1⟩, ha, h⟩ := bind_inv h
  obtain ⟨⟨b, l2⟩, hb, h⟩ := bind_inv h
  obtain ⟨⟨t, l3⟩, ht, h⟩ := bind_inv h
  cases h
  obtain ⟨e1, i1⟩ := numR_inv ha
  obtain ⟨e2, i2⟩ := numR_inv hb
  have e3 := textR_inv ht
  dsimp only at *
  refine ⟨?_, i1, i2⟩
  simp only [cellB, List.append_assoc]
  rw [← e3, ← e2, ← e1]
theorem nameR_inv (l : List UInt8) (x : NameT) (r : List UInt8) (h : nameR l = some (x, r)) : l = nameB x ++ r ∧ True := by
  unfold nameR at h
  obtain ⟨⟨a, l1⟩, ha, h⟩ := bind_inv h
  obtain ⟨⟨b, l2⟩, hb, h⟩ := bind_inv h
  obtain ⟨⟨t, l3⟩, ht, h⟩ := bind_inv h
  cases h
  have e1 := textR_inv ha
  have e2 := textR_inv hb
  have e3 := textR_inv ht
  dsimp only at *
  refine ⟨?_, trivial⟩
  simp only [nameB, List.append_assoc]
  rw [← e3, ← e2, ← e1]
theorem valR_inv (l : List UInt8) (x : ValT) (r : List UInt8) (h : valR l = some (x, r)) : l = valB x ++ r ∧ x.Ok := by
  unfold valR at h
  obtain ⟨⟨a, l1⟩, ha, h⟩ := bind_inv h
  obtain ⟨⟨b, l2⟩, hb, h⟩ := bind_inv h
  obtain ⟨⟨t, l3⟩, ht, h⟩ := bind_inv h
  cases h
  obtain ⟨e1, i1⟩ := numR_inv ha
  obtain ⟨e2, i2⟩ := numR_inv hb
  have e3 := textR_inv ht
  dsimp only at *
  refine ⟨?_, i1, i2⟩
  simp only [valB, List.append_assoc]
  rw [← e3, ← e2, ← e1]
theorem linkR_inv (l : List UInt8) (x : LinkT) (r : List UInt8) (h : linkR l = some (x, r)) : l = linkB x ++ r ∧ x.Ok := by
  unfold linkR at h
  obtain ⟨⟨a, l1⟩, ha, h⟩ := bind_inv h
  obtain ⟨⟨b, l2⟩, hb, h⟩ := bind_inv h
  obtain ⟨⟨c, l3⟩, hc, h⟩ := bind_inv h
  obtain ⟨⟨d, l4⟩, hd, h⟩ := bind_inv h
  obtain ⟨⟨v, l5⟩, hv, h⟩ := bind_inv h
  cases h
  have e1 := textR_inv ha
  have e2 := textR_inv hb
  obtain ⟨e3, i3⟩ := numR_inv hc
  obtain ⟨e4, i4⟩ := numR_inv hd
  obtain ⟨e5, i5⟩ := valR_inv _ _ _ hv
  dsimp only at *
  refine ⟨?_, i3, i4, i5⟩
  simp only [linkB, List.append_assoc]
  rw [← e5, ← e4, ← e3, ← e2, ← e1]
theorem opR_inv (l : List UInt8) (x : OpT) (r : List UInt8) (h : opR l = some (x, r)) : l = opB x ++ r ∧ x.Ok := by
  unfold opR at h
  obtain ⟨⟨a, l1⟩, ha, h⟩ := bind_inv h
  obtain ⟨⟨b, l2⟩, hb, h⟩ := bind_inv h
  obtain ⟨⟨c, l3⟩, hc, h⟩ := bind_inv h
  obtain ⟨⟨d, l4⟩, hd, h⟩ := bind_inv h
  obtain ⟨⟨e, l5⟩, he, h⟩ := bind_inv h
  obtain ⟨⟨f, l6⟩, hf, h⟩ := bind_inv h
  obtain ⟨⟨g, l7⟩, hg, h⟩ := bind_inv h
  obtain ⟨⟨t, l8⟩, ht, h⟩ := bind_inv h
  obtain ⟨⟨y, l9⟩, hy, h⟩ := bind_inv h
  obtain ⟨⟨z, l10⟩, hz, h⟩ := bind_inv h
  obtain ⟨⟨v, l11⟩, hv, h⟩ := bind_inv h
  cases h
  obtain ⟨e1, i1⟩ := numR_inv ha
  have e2 := textR_inv hb
  have e3 := textR_inv hc
  obtain ⟨e4, i4⟩ := numR_inv hd
  obtain ⟨e5, i5⟩ := numR_inv he
  obtain ⟨e6, i6⟩ := numR_inv hf
  obtain ⟨e7, i7⟩ := numR_inv hg
  have e8 := textR_inv ht
  obtain ⟨e9, _⟩ := nameR_inv _ _ _ hy
  obtain ⟨e10, i10⟩ := linkR_inv _ _ _ hz
  obtain ⟨e11, i11⟩ := lstR_inv cellR_inv hv
  dsimp only at *
  refine ⟨?_, i1, i4, i5, i6, i7, i10, i11⟩
  simp only [opB, List.append_assoc]
  rw [← e11, ← e10, ← e9, ← e8, ← e7, ← e6, ← e5, ← e4, ← e3, ← e2, ← e1]
theorem opsR_inv {l : List UInt8} {xs : List OpT} {r : List UInt8} (h : opsR l = some (xs, r)) : l = opsB xs ++ r ∧ ∀ x ∈ xs, x.Ok := lstR_inv opR_inv h
theorem readO_inv {l : List UInt8} {xs : List OpT} (h : readO l = some xs) : l = opsB xs ∧ ∀ x ∈ xs, x.Ok := by
  unfold readO at h
  split at h
  · rename_i os hq
    cases h
    have := opsR_inv hq
    simpa using this
  · cases h
end Go.Proofs.YtcheikpmhdliiaaDoor
