/- octavolaw01.act, of any kind below 6. -/
import Derived.Test.YtjncibejdplamaaAct0
import Derived.Test.YtjncibejdplamaaAct1
import Derived.Test.YtjncibejdplamaaAct2
import Derived.Test.YtjncibejdplamaaAct3
import Derived.Test.YtjncibejdplamaaAct4
import Derived.Test.YtjncibejdplamaaAct5
namespace Go.Proofs.Ytjncibejdplamaa
open Go.RowKit Go.Maps
set_option maxRecDepth 100000
set_option linter.unusedVariables false
set_option linter.unusedSimpArgs false
set_option maxHeartbeats 4000000 in
theorem act_neg {base : Nat} {w : World} {b bm : Nat} {nm0 dat : List UInt8} {n : Int} {rb : Nat} (h : AP (fun i => i = rb) base b bm nm0 dat n w) (hb : base ≤ w.heap.size) (k : Int) (hk : k < 0) (nm to : ByteArray) (n1 m1 : Int) (dv : Value) :
    Calls Try.prog 10 #[ptrOf b, ptrOf rb, .agg #[.int .i64 k, .string nm, .string to, .int .i64 n1, .int .i64 m1, dv]] w (Ad base b bm nm0 dat n w) := by
  have HP : Hid (∀ o, AP K0 base b bm nm0 dat n (w.alloc o) ∧ Below base w (w.alloc o)) := fun o => ⟨h.reK (fun i hi => Below.heap_alloc w _ i hi) fun _ h => h.elim, (Below.refl base w).alloc hb _⟩
  clear h hb
  have e0 : k ≠ 0 := by omega
  have e1 : k ≠ 1 := by omega
  have e2 : k ≠ 2 := by omega
  have e3 : k ≠ 3 := by omega
  have e4 : k ≠ 4 := by omega
  have e5 : k ≠ 5 := by omega
  have e6 : k ≠ 6 := by omega
  have e7 : k ≠ 7 := by omega
  have e8 : k ≠ 8 := by omega
  go_enter Try.func10, Try.ntmps10
  go_wp2
  go_ret
  exact ⟨⟨_, rfl⟩, .inl (HP.out _).1, (HP.out _).2⟩

theorem act_any {base : Nat} {w : World} {b bm : Nat} {nm0 dat : List UInt8} {n : Int} {rb : Nat} (h : AP (fun i => i = rb) base b bm nm0 dat n w) (hrb : w.heap[rb]? = some rblk) (hr0 : base ≤ rb) (hb : base ≤ w.heap.size) (h0 : 0 ≤ n) (h1 : n ≤ 1000000) (k : Int) (hk : k < 6) (nm to : ByteArray) (hne : nm.data.toList ≠ nm0) (hne2 : to.data.toList ≠ nm0) (hn : nm.size ≤ maxLen) (ht : to.size ≤ maxLen) (n1 m1 : Int) (da : Option Addr) (dn dc : Nat) {l : List UInt8} (hd : DB base w (.slice da dn dc) l) (hl : l.length ≤ 140737488351232) :
    Calls Try.prog 10 #[ptrOf b, ptrOf rb, .agg #[.int .i64 k, .string nm, .string to, .int .i64 n1, .int .i64 m1, .slice da dn dc]] w (Ad base b bm nm0 dat n w) := by
  rcases Int.lt_or_le k 0 with hneg | hpos
  · exact act_neg h hb k hneg nm to n1 m1 _
  · have : k = 0 ∨ k = 1 ∨ k = 2 ∨ k = 3 ∨ k = 4 ∨ k = 5 := by omega
    rcases this with rfl | rfl | rfl | rfl | rfl | rfl
    · exact act_0 h hrb hr0 hb h0 h1 nm to hne hne2 hn ht n1 m1 _
    · exact act_1 h hrb hr0 hb h0 h1 nm to hne hn n1 m1 da dn dc hd hl
    · exact act_2 h hrb hr0 hb h0 h1 nm to hne hne2 hn ht n1 m1 _
    · exact act_3 h hrb hr0 hb h0 h1 nm to hne hne2 hn ht n1 m1 _
    · exact act_4 h hrb hr0 hb h0 h1 nm to hne hne2 hn ht n1 m1 _
    · exact act_5 h hrb hr0 hb h0 h1 nm to hne hn n1 m1 da dn dc hd hl
end Go.Proofs.Ytjncibejdplamaa
