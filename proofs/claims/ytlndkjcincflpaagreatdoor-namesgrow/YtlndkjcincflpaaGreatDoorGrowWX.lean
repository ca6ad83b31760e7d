/- NamesGrow: names that are defined and removed are always right. -/
import Derived.Test.YtlndkjcincflpaaGreatDoorNmOpenX
import Derived.Test.YtlndkjcincflpaaGreatDoorNmSameX
namespace Go.Proofs.YtlndkjcincflpaaGreatDoor
open Go.RowKit Go.Nm
set_option maxRecDepth 100000
set_option linter.unusedVariables false
set_option linter.unusedSimpArgs false
/-- Names that are right. -/
structure GM (M : List NM) : Prop where
  w : ∀ z ∈ M, wrN z = 0
  z : ∀ z ∈ M, ZN z
  l : M.length ≤ 32
  r : Rise M
theorem GM.nil : GM [] := ⟨fun z h => absurd h List.not_mem_nil, fun z h => absurd h List.not_mem_nil, Nat.zero_le _, List.Pairwise.nil⟩
theorem GM.chk {M : List NM} (h : GM M) : chkN true M = 0 := by
  have := h.l
  rw [chk_last h.w, if_neg (by simp; omega)]
theorem GM.define {M : List NM} (h : GM M) {x : NM} (hz : ZN x) {er : Int} {M' : List NM} (hD : DefR M x er M') (he : er = 0) : GM M' ∧ findK x M' = some x := by
  rcases def_rise h.r hD with ⟨_, hw, hM, hr, hf, hm, hl, hlen⟩ | ⟨h0, _⟩
  · refine ⟨⟨fun z hz' => ?_, fun z hz' => ?_, ?_, hr⟩, hf⟩
    · rcases hm z hz' with rfl | hz'
      · exact hw
      · exact h.w z hz'
    · rcases hm z hz' with rfl | hz'
      · exact hz
      · exact h.z z hz'
    · rcases hD with ⟨hw', _⟩ | ⟨_, k, b, hP, ⟨_, _, e, _⟩ | ⟨hb, _, rfl⟩⟩
      · exact absurd hw hw'
      · omega
      · have := h.l
        rcases hb with rfl | hb
        · have hk := place_lt hP
          unfold insP
          simp only [List.length_append, List.length_cons, List.length_take, List.length_drop, if_true]
          omega
        · omega
  · exact absurd he h0
theorem GM.remove {M : List NM} (h : GM M) {x : NM} {er : Int} {M' : List NM} (hR : RemR M x er M') : (er = 0 ∧ GM M' ∧ findK x M' = none) ∨ ((er == 0) = false ∧ findK x M = none) := by
  obtain ⟨k, b, hP, ⟨rfl, rfl, rfl⟩ | ⟨rfl, rfl, rfl⟩⟩ := hR
  · refine .inr ⟨by decide, ?_⟩
    rcases find_place hP with ⟨_, e⟩ | ⟨y, e, _⟩
    · exact e
    · cases e
  · obtain ⟨h1, h2, h3, h4⟩ := rem_same h.r hP
    refine .inl ⟨rfl, ⟨fun z hz => h.w z (h4 z hz), fun z hz => h.z z (h4 z hz), ?_, h2⟩, h3⟩
    have := h.l
    unfold remP
    simp only [List.length_append, List.length_take, List.length_drop]
    omega
/-- What is there, and the world behind it. -/
structure GZ (w : World) (q : Option Addr) (n d : Nat) (M : List NM) (u : World) : Prop where
  s : Slc u q n d M
  g : GM M
  b : Below w.heap.size w u
theorem GZ.below {w u u' : World} {q : Option Addr} {n d : Nat} {M : List NM} (h : GZ w q n d M u) (hb : Below u.heap.size u u') : GZ w q n d M u' := ⟨h.s.below hb, h.g, bel_step h.b hb⟩
section
variable {w : World} {q : Option Addr} {n d : Nat} {M : List NM} {u : World}
theorem GZ.rem (h : GZ w q n d M u) (x : NM) : Calls Tryz.prog 12 #[.slice q n d, .string x.s, .string x.n] u fun e w' =>
    (∃ q' n' d' M', e = .returned (.tuple #[.slice q' n' d', .int .i64 0]) ∧ Hid (GZ w q' n' d' M' w' ∧ findK ⟨x.s, x.n, ⟨#[]⟩⟩ M' = none ∧ Below u.heap.size u w')) ∨ (∃ v er, e = .returned (.tuple #[v, .int .i64 er]) ∧ (er == 0) = false ∧ Hid (GZ w q n d M w' ∧ findK ⟨x.s, x.n, ⟨#[]⟩⟩ M = none ∧ Below u.heap.size u w')) := by
  obtain ⟨er, M', hR, C⟩ := remove_any M x.s x.n u q n d h.s (by have := h.g.l; omega)
  refine C.mono ?_
  rintro e w' ⟨⟨v, rfl, ho⟩, hb⟩
  rcases h.g.remove hR with ⟨rfl, hg, hf⟩ | ⟨he, hf⟩
  · obtain ⟨q', d', rfl, hs⟩ := ho.slc
    exact .inl ⟨q', _, d', M', rfl, ⟨hs, hg, bel_step h.b hb⟩, hf, hb⟩
  · exact .inr ⟨v, er, rfl, he, h.below hb, hf, hb⟩
theorem GZ.def (h : GZ w q n d M u) (T : Tab9 w) {x : NM} (hz : ZN x) : Calls Tryz.prog 10 #[.slice q n d, nmV x] u fun e w' =>
    (∃ q' n' d' M', e = .returned (.tuple #[.slice q' n' d', .int .i64 0]) ∧ Hid (GZ w q' n' d' M' w' ∧ findK ⟨x.s, x.n, ⟨#[]⟩⟩ M' = some x ∧ Below u.heap.size u w')) ∨ (∃ v er, e = .returned (.tuple #[v, .int .i64 er]) ∧ (er != 0) = true ∧ Hid (GZ w q n d M w' ∧ Below u.heap.size u w')) := by
  obtain ⟨er, M', hD, C⟩ := define_any M x hz u (T.below h.b) q n d h.s (by have := h.g.l; omega)
  refine C.mono ?_
  rintro e w' ⟨⟨v, rfl, ho⟩, hb⟩
  by_cases he : er = 0
  · obtain ⟨hg, hf⟩ := h.g.define hz hD he
    subst he
    obtain ⟨q', d', rfl, hs⟩ := ho.slc
    exact .inl ⟨q', _, d', M', rfl, ⟨hs, hg, bel_step h.b hb⟩, by rw [find_kn _ _ x.t]; exact hf, hb⟩
  · exact .inr ⟨v, er, rfl, by simpa using he, h.below hb, hb⟩
theorem GZ.find (h : GZ w q n d M u) (x : NM) {o : Option NM} (hf : findK ⟨x.s, x.n, ⟨#[]⟩⟩ M = o) : Calls Tryz.prog 17 #[.slice q n d, .string x.s, .string x.n] u fun e w' => e = .returned (fndV o) ∧ Below u.heap.size u w' := by
  have := find_any M x.s x.n (by have := h.g.l; omega) u q n d h.s.r
  rw [hf] at this
  exact this
theorem GZ.check (h : GZ w q n d M u) (T : Tab9 w) : Calls Tryz.prog 21 #[.slice q n d] u fun e w' => e = .returned (.int .i64 0) ∧ Below u.heap.size u w' := by
  have := check_any M (by have := h.g.l; omega) h.g.z true ⟨fun _ => h.g.r, fun _ => rfl⟩ u (T.below h.b) q n d h.s.r
  rw [h.g.chk] at this
  exact this
end
set_option maxHeartbeats 16000000 in
theorem grow_small (L : List NM) (hn : L.length ≤ 100) (hz : ∀ z ∈ L, ZN z) (w : World) (T : Tab9 w) (p : Option Addr) (m c : Nat) (h : Rds w p m L) :
    Calls Tryz.prog 5 #[.slice p m c] w fun e w' => e = .returned (.bool true) ∧ Below w.heap.size w w' := by
  have HR : Hid (Rds w p m L) := h
  have HN : Hid (m = L.length) := h.1
  have hn2 : m ≤ 100 := by rw [h.1]; exact hn
  have HZ : Hid (∀ z ∈ L, ZN z) := hz
  have HT : Hid (Tab9 w) := T
  have CL : Hid (∀ u, Below w.heap.size w u → Calls Tryz.prog 8 #[] u fun e w' => e = .returned (.bool true) ∧ Below u.heap.size u w') := fun u hu => nlives_any u (T.below hu)
  have hmi : ¬ (100 : Int) < m := by omega
  have NE := fun x W => nrun_ne x W
  clear h hn hz T
  go_enter Tryz.func5, Tryz.ntmps5
  go_wp2
  go_loopw [3, 20] (fun v i wr => ∃ (k : Nat) (q : Option Addr) (n d : Nat) (M : List NM), k ≤ m ∧ v = .slice q n d ∧ i = .int .i64 (k : Nat) ∧ Hid (GZ w q n d M wr)) (fun _ i _ => m - (intOf i).toNat)
  case atStart => exact ⟨0, none, 0, 0, [], Nat.zero_le _, rfl, rfl, slc_nil w, GM.nil, Below.refl _ _⟩
  case round =>
    obtain ⟨k, q, n, d, M, hk, rfl, rfl, HG⟩ := hrel
    by_cases hlt : k < m
    · have hki : (k : Int) < m := by omega
      have hkL : k < L.length := by rw [← HN.out]; exact hlt
      obtain ⟨a', rfl, RL⟩ := (HR.out.below HG.out.b).load hkL
      have RLh : Hid _ := RL
      have RS : Hid _ := mbox wr L[k]
      have HX : Hid _ := heap_alloc_new wr (nmO L[k])
      have hcc := n_cells HX.out
      have RX : Hid _ := nload HX.out
      have HG1 : Hid (GZ w q n d M (wr.alloc (nmO L[k]))) := HG.out.below (bel_alloc (Below.refl _ _) _)
      have hzx := HZ.out _ (List.getElem_mem hkL)
      have CR := HG1.out.rem L[k]
      have CD := HG1.out.def HT.out hzx
      clear RL HG hzx
      generalize L[k] = x at *
      obtain ⟨xs, xn, xt⟩ := x
      rcases Bool.eq_false_or_eq_true ((k : Int) % 4 == 3) with hr | hr
      · clear CD RX
        go_wp2_with (first
          | (refine nl_load rfl 24 _ rfl _ _ rfl RLh.out ?_; clear RLh)
          | (refine nl_store rfl 24 _ _ rfl _ _ _ rfl rfl RS.out ?_; clear RS))
        · go_at_call 12
          refine CR.mono ?_
          clear CR
          rintro e w2 (⟨q', n', d', M', rfl, HZ2⟩ | ⟨v, er, rfl, he, HZ2⟩)
          · have hx2 : Hid _ := (HZ2.out.2.2.block _ (lt_of HX.out)).trans HX.out
            have hc2 := n_cells hx2.out
            go_wp2_with (first
              | (go_at_call 17; refine (HZ2.out.1.find ⟨xs, xn, xt⟩ HZ2.out.2.1).mono ?_; rintro e w3 ⟨rfl, hb3⟩; unfold fndV fnd; have RS3 : Hid _ := mbox w3 nm0; have HZ3 : Hid (GZ w q' n' d' M' (w3.alloc (nmO nm0))) := (HZ2.out.1.below hb3).below (bel_alloc (Below.refl _ _) _); clear HZ2 hb3)
              | (refine nl_store rfl 24 _ _ rfl _ _ _ rfl rfl RS3.out ?_; clear RS3))
            go_roundw
            case rel => exact ⟨k + 1, _, _, _, _, by omega, rfl, by go_num, HZ3⟩
            case measure => simp [intOf]; omega
          · have hx2 : Hid _ := (HZ2.out.2.2.block _ (lt_of HX.out)).trans HX.out
            have hc2 := n_cells hx2.out
            go_wp2_with (first
              | (go_at_call 17; refine (HZ2.out.1.find ⟨xs, xn, xt⟩ HZ2.out.2.1).mono ?_; rintro e w3 ⟨rfl, hb3⟩; unfold fndV fnd; have RS3 : Hid _ := mbox w3 nm0; have HZ3 : Hid (GZ w q n d M (w3.alloc (nmO nm0))) := (HZ2.out.1.below hb3).below (bel_alloc (Below.refl _ _) _); clear HZ2 hb3)
              | (refine nl_store rfl 24 _ _ rfl _ _ _ rfl rfl RS3.out ?_; clear RS3))
            go_roundw
            case rel => exact ⟨k + 1, _, _, _, _, by omega, rfl, by go_num, HZ3⟩
            case measure => simp [intOf]; omega
      · clear CR
        go_wp2_with (first
          | (refine nl_load rfl 24 _ rfl _ _ rfl RLh.out ?_; clear RLh)
          | (refine nl_store rfl 24 _ _ rfl _ _ _ rfl rfl RS.out ?_; clear RS)
          | (refine nl_load rfl 24 _ rfl _ _ rfl RX.out ?_; clear RX))
        · go_at_call 10
          refine CD.mono ?_
          clear CD
          rintro e w2 (⟨q', n', d', M', rfl, HZ2⟩ | ⟨v, er, rfl, he, HZ2⟩)
          · have hx2 : Hid _ := (HZ2.out.2.2.block _ (lt_of HX.out)).trans HX.out
            have hc2 := n_cells hx2.out
            go_wp2_with (first
              | (go_at_call 17; refine (HZ2.out.1.find ⟨xs, xn, xt⟩ HZ2.out.2.1).mono ?_; rintro e w3 ⟨rfl, hb3⟩; unfold fndV fnd; have RS3 : Hid _ := mbox w3 ⟨xs, xn, xt⟩; have HZ3 : Hid (GZ w q' n' d' M' (w3.alloc (nmO ⟨xs, xn, xt⟩))) := (HZ2.out.1.below hb3).below (bel_alloc (Below.refl _ _) _); have hx3 : Hid ((w3.alloc (nmO ⟨xs, xn, xt⟩)).heap[wr.heap.size]? = some (nmO ⟨xs, xn, xt⟩)) := (heap_alloc_old w3 _ (by have := hb3.size; have := lt_of hx2.out; omega)).trans ((hb3.block _ (lt_of hx2.out)).trans hx2.out); have RL3 : Hid _ := nload (heap_alloc_new w3 (nmO ⟨xs, xn, xt⟩)); have RX3 : Hid _ := nload hx3.out; clear HZ2 hb3)
              | (refine nl_store rfl 24 _ _ rfl _ _ _ rfl rfl RS3.out ?_; clear RS3)
              | (refine nl_loadg 24 _ rfl _ _ rfl RL3.out (by go_simp) ?_; clear RL3)
              | (refine nl_loadg 24 _ rfl _ _ rfl RX3.out (by go_simp) ?_; clear RX3)
              | (go_at_call 21; refine (HZ3.out.check HT.out).mono ?_; rintro e w4 ⟨rfl, hb4⟩; have HZ4 : Hid (GZ w q' n' d' M' w4) := HZ3.out.below hb4; clear HZ3 hb4))
            go_roundw
            case rel => exact ⟨k + 1, _, _, _, _, by omega, rfl, by go_num, HZ4⟩
            case measure => simp [intOf]; omega
          · go_wp2
            go_roundw
            case rel => exact ⟨k + 1, _, _, _, _, by omega, rfl, by go_num, HZ2.out.1⟩
            case measure => simp [intOf]; omega
    · have hki : ¬ (k : Int) < m := by omega
      go_wp2_with (first
        | (go_at_call 21; refine (HG.out.check HT.out).mono ?_; rintro e w4 ⟨rfl, hb4⟩; have HZ4 : Hid (GZ w q n d M w4) := HG.out.below hb4; clear HG hb4)
        | (go_at_call 8; refine (CL.out _ HZ4.out.b).mono ?_; rintro e w5 ⟨rfl, hb5⟩; have HB5 : Hid (Below w.heap.size w w5) := bel_step HZ4.out.b hb5; clear hb5))
      go_ret
      exact ⟨rfl, HB5.out⟩
theorem grow_big (L : List NM) (hn : 100 < L.length) (w : World) (T : Tab9 w) (p : Option Addr) (m c : Nat) (h : Rds w p m L) :
    Calls Tryz.prog 5 #[.slice p m c] w fun e w' => e = .returned (.bool true) ∧ Below w.heap.size w w' := by
  have C := nlives_any w T
  have hmi : (100 : Int) < m := by have := h.1; omega
  clear h hn T
  go_enter Tryz.func5, Tryz.ntmps5
  go_wp2_with (go_at_call 8; refine C.mono ?_; rintro e w1 ⟨rfl, hb⟩; have HB : Hid _ := hb; clear hb)
  go_ret
  exact ⟨rfl, HB.out⟩
theorem grow_walk {L : List NM} {w : World} (T : Tab9 w) {p : Option Addr} {m c : Nat} (h : Slc w p m c L) (hz : ∀ z ∈ L, ZN z) :
    Calls Tryz.prog 5 #[.slice p m c] w fun e w' => e = .returned (.bool true) ∧ Below w.heap.size w w' := by
  by_cases hn : 100 < L.length
  · exact grow_big L hn w T p m c h.r
  · exact grow_small L (by omega) hz w T p m c h.r
end Go.Proofs.YtlndkjcincflpaaGreatDoor
