/- FBackG. -/
import Derived.Test.YtljfkkpkcjigpaaGreatDoorFBackPa
set_option linter.unusedVariables false
set_option linter.unusedSimpArgs false
namespace Go.Proofs.YtljfkkpkcjigpaaGreatDoor
open Go.RowKit Go.Fm
set_option maxRecDepth 100000
theorem gT_one : ∀ t : T, ∀ d, gT okL d t = true → gT okL (d + 1) t = true := by
  refine ind ?_
  intro t ih d h
  rw [gT_eq, Bool.and_eq_true, Bool.and_eq_true] at h ⊢
  refine ⟨⟨by simp, h.1.2⟩, List.all_eq_true.2 fun s hs => ?_⟩
  have h1 := List.all_eq_true.1 h.2 s hs
  have h0 : d ≠ 0 := of_decide_eq_true h.1.1
  have := ih s hs (d - 1) h1
  rw [show d - 1 + 1 = d + 1 - 1 by omega] at this
  exact this
theorem gT_up {t : T} : ∀ {d e : Nat}, d ≤ e → gT okL d t = true → gT okL e t = true := by
  intro d e h hd
  obtain ⟨k, rfl⟩ : ∃ k, e = d + k := ⟨e - d, by omega⟩
  clear h
  induction k with
  | zero => exact hd
  | succ k ih => exact gT_one t _ ih
theorem dT_in : ∀ {l : List T} {s : T}, s ∈ l → dT s ≤ depth (mk l)
  | t :: r, s, h => by
    rw [mk, depth]
    rcases List.mem_cons.1 h with rfl | h
    · unfold dT; omega
    · have := dT_in h; omega
def GG (t : T) : Prop := gT okL (dT t) t = true
theorem GG.tree {a : Lab} {l : List T} (h : okL a l.length = true) (hl : ∀ s ∈ l, GG s) : GG (tree a l) := by
  unfold GG
  rw [gT_eq]
  show (decide (depth (mk l) + 1 ≠ 0) && okL a (kids (mk l)).length && (kids (mk l)).all (gT okL (depth (mk l) + 1 - 1))) = true
  rw [kids_mk, h]
  simp only [Bool.and_eq_true, Bool.and_true, decide_eq_true_eq]
  exact ⟨by omega, List.all_eq_true.2 fun s hs => gT_up (by have := dT_in hs; omega) (hl s hs)⟩
theorem bare_same {a : Lab} {n : Nat} (h : a = namL a) (hn : isLeaf a = true → n = 0) : bareB a n = true := by
  unfold bareB
  rw [← h, labB_refl, Bool.true_and]
  unfold namN
  cases hl : isLeaf a
  · simp
  · rw [hn hl]; decide
theorem ok_bin {s : List UInt8} (h : strn s ≠ 0) : okL (lab0 6 (bs s)) 2 = true := by
  unfold okL
  rw [bare_same (a := lab0 6 (bs s)) (n := 2) rfl (fun h => by cases h), Bool.true_and]
  unfold partsB
  show (((2 : Nat) : Int) == 2 && !((strn (bs s).toList : Int) == 0)) = true
  rw [show (bs s).toList = s by unfold bs; rw [ByteArray.toList_eq]]
  simp; omega
theorem ok_un {s : List UInt8} (h : s = [45] ∨ s = [37]) : okL (lab0 5 (bs s)) 1 = true := by
  unfold okL
  rw [bare_same (a := lab0 5 (bs s)) (n := 1) rfl (fun h => by cases h), Bool.true_and]
  unfold partsB
  show (((1 : Nat) : Int) == 1 && ((bs s).toList == [45] || (bs s).toList == [37])) = true
  rw [show (bs s).toList = s by unfold bs; rw [ByteArray.toList_eq]]
  rcases h with rfl | rfl <;> decide
theorem toL (l : List UInt8) : (bs l).toList = l := by unfold bs; rw [ByteArray.toList_eq]
theorem dtoL (l : List UInt8) : (bs l).data.toList = l := by unfold bs; rfl
theorem leaf_ok {a : Lab} (h : a = namL a) (hp : partsB a 0 = true) : okL a 0 = true := by
  unfold okL
  rw [bare_same h (fun _ => rfl), hp]; rfl
theorem em_nb : emB nb = true := by unfold emB; rw [ByteArray.toList_eq]; rfl
theorem ok_num {n : Int} (h : okN n) : okL (labV 1 n nb) 0 = true := by
  refine leaf_ok rfl ?_
  show gcB 1 n nb = true
  unfold gcB goodF gd
  obtain ⟨h1, h2⟩ := h
  simp [em_nb]; omega
theorem ok_str {s : List UInt8} (h : s.length ≤ 255) : okL (labV 2 0 (bs s)) 0 = true := by
  refine leaf_ok rfl ?_
  show gcB 2 0 (bs s) = true
  unfold gcB goodF lenB
  have : (bs s).size = s.length := by unfold bs; simp [ByteArray.size]
  simp; omega
theorem ok_truth {n : Int} (h : n = 0 ∨ n = 1) : okL (labV 3 n nb) 0 = true := by
  refine leaf_ok rfl ?_
  show gcB 3 n nb = true
  unfold gcB goodF
  rcases h with rfl | rfl <;> simp [em_nb]
theorem ok_bad {n : Nat} (h : 1 ≤ n ∧ n ≤ 8) : okL (labV 4 n nb) 0 = true := by
  refine leaf_ok rfl ?_
  show gcB 4 n nb = true
  unfold gcB goodF knB
  simp [em_nb]; omega
theorem good_ref {x : Ad.Ref} (h : Ad.goodR gnF x) : goodB (bs x.book) (bs x.sheet) x.cell.row x.cell.col = true := by
  obtain ⟨⟨h1, h2, h3, h4⟩, hs, hb⟩ := h
  unfold goodB inB
  rw [toL, toL, dtoL, dtoL]
  have e : (decide (1 ≤ (x.cell.row : Int)) && decide ((x.cell.row : Int) ≤ 64) && decide (1 ≤ (x.cell.col : Int)) && decide ((x.cell.col : Int) ≤ 26)) = true := by
    simp only [Bool.and_eq_true, decide_eq_true_eq]; omega
  rw [e, Bool.true_and]
  by_cases e1 : x.sheet = []
  · rw [if_pos e1]
    rcases hb with hb | ⟨_, hb⟩
    · simp [hb]
    · exact absurd e1 hb
  · rw [if_neg e1, hs.resolve_left e1, Bool.true_and]
    rcases hb with hb | ⟨hb, _⟩
    · simp [hb]
    · rw [hb]; simp
theorem ok_ref {x : Ad.Ref} (h : Ad.goodR gnF x) : okL (labR x) 0 = true := leaf_ok rfl (good_ref h)
theorem ok_area {x y : Ad.Ref} (h : Ad.goodR gnF x) (h' : Ad.goodR gnF y) (hy : y.sheet = []) : okL (labA x y) 0 = true := by
  refine leaf_ok rfl ?_
  show (!(paB (bs x.book) (bs x.sheet) x.cell.row x.cell.col x.cell.fr x.cell.fc (bs y.book) (bs y.sheet) y.cell.row y.cell.col y.cell.fr y.cell.fc).toList.isEmpty) = true
  unfold paB
  rw [if_pos ⟨good_ref h, good_ref h', by rw [toL]; exact hy⟩, ByteArray.toList_eq]
  simp
theorem ok_name {b s : List UInt8} (hs : gnF s = true) (hb : b = [] ∨ gnF b = true) : okL (labN b s) 0 = true := by
  refine leaf_ok rfl ?_
  show (gnF (bs s).data.toList && ((bs b).toList.isEmpty || gnF (bs b).data.toList)) = true
  rw [dtoL, dtoL, toL, hs, Bool.true_and]
  rcases hb with rfl | hb
  · rfl
  · rw [hb]; simp
theorem u8_all {P : UInt8 → Prop} (h : ∀ n : Fin 256, P (UInt8.ofNat n.1)) : ∀ c, P c := fun c => by
  have := h ⟨c.toNat, c.toNat_lt⟩
  rwa [UInt8.ofNat_toNat] at this
theorem szB_idem : ∀ c : UInt8, szB 97 65 (szB 97 65 c) = szB 97 65 c := u8_all (by decide +kernel)
theorem szF_idem (l : List UInt8) : szF 97 65 (szF 97 65 l) = szF 97 65 l := by
  unfold szF
  rw [List.map_map]
  exact List.map_congr_left fun c _ => szB_idem c
theorem szB_okC : ∀ c : UInt8, okC (szB 97 65 c) = okC c ∧ Ad.isL (szB 97 65 c) = Ad.isL c ∧ Ad.isD (szB 97 65 c) = Ad.isD c := u8_all (by decide +kernel)
theorem gn_up {l : List UInt8} (h : gnF l = true) : gnF (upF l) = true := by
  unfold gnF spF lcF at h ⊢
  unfold upF
  have e1 : (szF 97 65 l).length = l.length := by unfold szF; rw [List.length_map]
  have e2 : headL (szF 97 65 l) = headL l := by
    cases l with
    | nil => rfl
    | cons c r => exact (szB_okC c).2.1
  have e3 : (szF 97 65 l).all okC = l.all okC := by
    unfold szF
    rw [List.all_map]
    congr 1
    funext c; exact (szB_okC c).1
  have e4 : ((szF 97 65 l).drop 1).all Ad.isD = (l.drop 1).all Ad.isD := by
    unfold szF
    rw [← List.map_drop, List.all_map]
    congr 1
    funext c; exact (szB_okC c).2.2
  have e5 : truF ⟨(szF 97 65 l).toArray⟩ = truF ⟨l.toArray⟩ := by
    unfold truF
    show truL (szF 97 65 (szF 97 65 l)) = truL (szF 97 65 l)
    rw [szF_idem]
  rw [e1, e2, e3, e4, e5]; exact h
theorem tr_up {l : List UInt8} (h : trB l = true) : upF l = [84, 82, 85, 69] ∨ upF l = [70, 65, 76, 83, 69] := by
  unfold trB truF at h
  rcases tru_cases (szF 97 65 (ba l).data.toList) with ⟨e, _⟩ | ⟨e, _⟩ | ⟨_, _, e, _⟩
  · exact .inl e
  · exact .inr e
  · rw [e] at h; cases h
theorem typed_true : (typedF ⟨#[84, 82, 85, 69]⟩).1 = 3 := by kernel_rfl
theorem typed_false : (typedF ⟨#[70, 65, 76, 83, 69]⟩).1 = 3 := by kernel_rfl
theorem gf_up {s : List UInt8} (h : gnF s = true ∨ trB s = true) : gfB (bs (upF s)) = true := by
  unfold gfB
  rw [dtoL, toL]
  have e : (⟨(szF 97 65 (upF s)).toArray⟩ : ByteArray).toList = upF s := by
    rw [ByteArray.toList_eq]
    show szF 97 65 (upF s) = upF s
    exact szF_idem s
  rw [e]
  simp only [beq_self_eq_true, Bool.true_and, Bool.or_eq_true]
  rcases h with h | h
  · exact .inl (gn_up h)
  · right
    rcases tr_up h with e | e <;> rw [e]
    · show ((typedF ⟨#[84, 82, 85, 69]⟩).1 == 3) = true
      rw [typed_true]; rfl
    · show ((typedF ⟨#[70, 65, 76, 83, 69]⟩).1 == 3) = true
      rw [typed_false]; rfl
theorem ok_call {s : List UInt8} {n : Nat} (hn : n ≤ 16) (h : gnF s = true ∨ trB s = true) : okL (lab0 7 (bs (upF s))) n = true := by
  unfold okL
  rw [bare_same (a := lab0 7 (bs (upF s))) (n := n) rfl (fun h => by cases h), Bool.true_and]
  unfold partsB
  show (decide (n ≤ 16) && gfB (bs (upF s))) = true
  rw [gf_up h]; simp [hn]
def GoodP (part : Part) : Prop := ∀ ts n r, OkL ts → part ts = some (n, r) → GG n ∧ OkL r
theorem OkL.tail {ts : List Tk.Tok} (h : OkL ts) : OkL ts.tail := fun x hx => h x (List.mem_of_mem_tail hx)
theorem OkL.of_cons {t : Tk.Tok} {ts : List Tk.Tok} (h : OkL (t :: ts)) : OkL ts := fun x hx => h x (by simp [hx])
theorem loop_good {part : Part} (hp : GoodP part) {lv : Nat} (hlv : lv ≠ 0) : ∀ (k : Nat) (n : T) (ts : List Tk.Tok) (m : T) (r : List Tk.Tok), GG n → OkL ts → loopF part lv k n ts = some (m, r) → GG m ∧ OkL r
  | 0, n, ts, m, r, hn, ht, h => by cases h; exact ⟨hn, ht⟩
  | k + 1, n, ts, m, r, hn, ht, h => by
    unfold loopF at h
    split at h
    · rename_i hs
      cases hq : part ts.tail with
      | none => rw [hq] at h; cases h
      | some p =>
        rw [hq] at h
        obtain ⟨h1, h2⟩ := hp _ p.1 p.2 ht.tail hq
        refine loop_good hp hlv k _ _ _ _ ?_ h2 h
        exact GG.tree (ok_bin (by omega)) (by simp only [List.mem_cons, List.not_mem_nil, or_false]; rintro s (rfl | rfl) <;> assumption)
    · cases h; exact ⟨hn, ht⟩
theorem pct_good : ∀ (k : Nat) (n : T) (ts : List Tk.Tok), GG n → OkL ts → GG (pctF k n ts).1 ∧ OkL (pctF k n ts).2
  | 0, n, ts, hn, ht => ⟨hn, ht⟩
  | k + 1, n, ts, hn, ht => by
    unfold pctF
    split
    · exact pct_good k _ _ (GG.tree (ok_un (.inr rfl)) (by simp only [List.mem_cons, List.not_mem_nil, or_false]; rintro s rfl; exact hn)) ht.tail
    · exact ⟨hn, ht⟩
theorem args_good {part : Part} (hp : GoodP part) : ∀ (k : Nat) (acc : List T) (ts : List Tk.Tok) (m : List T) (r : List Tk.Tok), (∀ s ∈ acc, GG s) → OkL ts → argsF part k acc ts = some (m, r) → (∀ s ∈ m, GG s) ∧ OkL r
  | 0, acc, ts, m, r, hn, ht, h => by cases h
  | k + 1, acc, ts, m, r, hn, ht, h => by
    unfold argsF at h
    split at h
    · cases h; exact ⟨hn, ht.tail⟩
    · split at h
      · cases hq : part ts.tail with
        | none => rw [hq] at h; cases h
        | some p =>
          rw [hq] at h
          obtain ⟨h1, h2⟩ := hp _ p.1 p.2 ht.tail hq
          refine args_good hp k _ _ _ _ ?_ h2 h
          intro s hs
          rcases List.mem_append.1 hs with hs | hs
          · exact hn s hs
          · rw [List.mem_singleton.1 hs]; exact h1
      · cases h
theorem call_good {part : Part} (hp : GoodP part) {s : List UInt8} (hs : gnF s = true ∨ trB s = true) {ts : List Tk.Tok} (ht : OkL ts) {m : T} {r : List Tk.Tok} (h : callF upF part s ts = some (m, r)) : GG m ∧ OkL r := by
  unfold callF at h
  split at h
  · cases h
    exact ⟨GG.tree (ok_call (by simp) hs) (fun s hs => by cases hs), ht.tail⟩
  · cases hq : part ts with
    | none => rw [hq] at h; cases h
    | some p =>
      rw [hq] at h
      obtain ⟨h1, h2⟩ := hp _ p.1 p.2 ht hq
      simp only [Option.bind_some] at h
      cases ha : argsF part (ts.length + 1) [p.1] p.2 with
      | none => rw [ha] at h; cases h
      | some q =>
        rw [ha] at h
        simp only [Option.bind_some] at h
        obtain ⟨h3, h4⟩ := args_good hp _ _ _ q.1 q.2 (by simp only [List.mem_cons, List.not_mem_nil, or_false]; rintro s rfl; exact h1) h2 ha
        split at h
        · rename_i hl
          cases h
          exact ⟨GG.tree (ok_call hl hs) h3, h4⟩
        · cases h
theorem GG.leaf {a : Lab} (h : okL a 0 = true) : GG (Go.Fm.tree a []) := GG.tree h (fun s hs => by cases hs)
theorem tr_ways {s : List UInt8} {n : Int} (h : trF s = some n) : n = 0 ∨ n = 1 := by
  unfold trF at h
  split at h
  · split at h <;> cases h
    · exact .inr rfl
    · exact .inl rfl
  · cases h
theorem tr_none {s : List UInt8} (h : trF s = none) : trB s = false := by
  unfold trF at h
  unfold trB
  split at h
  · cases h
  · rename_i hh; simpa using hh
theorem one_good {part : Part} (hp : GoodP part) : GoodP (oneF upF trF part) := by
  intro ts m r ht h
  cases ts with
  | nil => cases h
  | cons t q =>
    obtain ⟨hok, hsm⟩ := ht t (by simp)
    have hq' := ht.of_cons
    cases t using Tk.Tok.cs with
    | num n => cases h; exact ⟨.leaf (ok_num hok), hq'⟩
    | str s => cases h; exact ⟨.leaf (ok_str hsm), hq'⟩
    | bad n => cases h; exact ⟨.leaf (ok_bad hok), hq'⟩
    | ref x =>
      simp only [oneF] at h
      split at h
      · split at h
        · rename_i y q' he
          split at h
          · rename_i hy
            cases h
            have hy2 : OkL (Tk.Tok.ref y :: r) := by rw [← he]; exact hq'.tail
            have hy3 : Ad.goodR gnF y := (hy2 (Tk.Tok.ref y) (by simp)).1
            exact ⟨.leaf (ok_area hok hy3 hy), hy2.of_cons⟩
          · cases h
        · cases h
      · cases h; exact ⟨.leaf (ok_ref hok), hq'⟩
    | word b s =>
      simp only [oneF] at h
      split at h
      · rename_i hs
        refine call_good hp ?_ hq'.tail h
        rcases hok with ⟨_, h1⟩ | ⟨_, h1⟩
        · exact h1
        · exact .inl h1
      · split at h
        · rename_i n hn
          cases h; exact ⟨.leaf (ok_truth (tr_ways hn)), hq'⟩
        · rename_i hn
          cases h
          refine ⟨.leaf (ok_name ?_ ?_), hq'⟩
          · rcases hok with ⟨_, h1 | h1⟩ | ⟨_, h1⟩
            · exact h1
            · exact absurd h1 (by rw [tr_none hn]; decide)
            · exact h1
          · rcases hok with ⟨h1, _⟩ | ⟨h1, _⟩
            · exact .inl h1
            · exact .inr h1
    | op s =>
      simp only [oneF] at h
      split at h
      · cases hq : part q with
        | none => rw [hq] at h; cases h
        | some p =>
          rw [hq] at h
          obtain ⟨h1, h2⟩ := hp _ p.1 p.2 hq' hq
          simp only [Option.bind_some] at h
          split at h
          · cases h; exact ⟨h1, h2.tail⟩
          · cases h
      · cases h
theorem psN_good : ∀ (f lv : Nat), 1 ≤ lv → GoodP (psN upF trF f lv)
  | 0, lv, _ => fun ts n r _ h => by cases h
  | f + 1, lv, hlv => fun ts n r ht h => by
    unfold psN at h
    split at h
    · cases hq : psN upF trF f (lv + 1) ts with
      | none => rw [hq] at h; cases h
      | some p =>
        rw [hq] at h
        obtain ⟨h1, h2⟩ := psN_good f (lv + 1) (by omega) _ p.1 p.2 ht hq
        exact loop_good (psN_good f (lv + 1) (by omega)) (by omega) _ _ _ _ _ h1 h2 h
    · split at h
      · split at h
        · cases hq : psN upF trF f 6 ts.tail with
          | none => rw [hq] at h; cases h
          | some p =>
            rw [hq] at h
            obtain ⟨h1, h2⟩ := psN_good f 6 (by omega) _ p.1 p.2 ht.tail hq
            cases h
            exact ⟨GG.tree (ok_un (.inl rfl)) (by simp only [List.mem_cons, List.not_mem_nil, or_false]; rintro s rfl; exact h1), h2⟩
        · exact psN_good f 7 (by omega) _ n r ht h
      · split at h
        · cases hq : psN upF trF f 8 ts with
          | none => rw [hq] at h; cases h
          | some p =>
            rw [hq] at h
            obtain ⟨h1, h2⟩ := psN_good f 8 (by omega) _ p.1 p.2 ht hq
            have h3 := pct_good ts.length p.1 p.2 h1 h2
            simp only [Option.map_some, Option.some.injEq] at h
            rw [h] at h3
            exact h3
        · exact one_good (psN_good f 1 (Nat.le_refl _)) _ n r ht h
theorem PP_good {lv : Nat} (hlv : 1 ≤ lv) : GoodP (PP lv) := fun ts n r ht h => psN_good _ lv hlv ts n r ht h
theorem all_good {ts : List Tk.Tok} {t : T} (ht : OkL ts) (h : allF ts = some t) : gT okL 24 t = true := by
  unfold allF at h
  split at h
  · rename_i t' hp
    split at h
    · rename_i hd
      cases h
      exact gT_up hd (PP_good (Nat.le_refl _) _ _ _ ht hp).1
    · cases h
  · cases h
end Go.Proofs.YtljfkkpkcjigpaaGreatDoor
