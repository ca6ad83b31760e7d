/- The contracts of takeCell, takeName, takeValue, takeLink. -/
import Derived.Test.YtohndhmhgdelmaaDoorTkBase
namespace Go.Proofs.YtohndhmhgdelmaaDoor
open Go.RowKit
set_option maxRecDepth 100000

theorem inf64 : (Tryd.prog.info? 64).map (fun i => (i.zero, i.size, i.bytes)) = some (some (.agg #[strE, strE, strE]), 3, 48) := by kernel_rfl
theorem inf67 : (Tryd.prog.info? 67).map (fun i => (i.zero, i.size, i.bytes)) = some (some (.agg #[int0, int0, strE]), 3, 32) := by kernel_rfl
theorem inf69 : (Tryd.prog.info? 69).map (fun i => (i.zero, i.size, i.bytes)) = some (some (.agg #[strE, strE, int0, int0, int0, int0, strE]), 7, 80) := by kernel_rfl

set_option maxHeartbeats 4000000 in
theorem takeCell_tk {B : Nat} {w : World} {rb : Nat} {l : List UInt8} (h : Rd B w rb l) (hB : B ≤ w.heap.size) (hrb : rb < w.heap.size) (hl : l.length ≤ 1099511627776) :
    Calls Tryd.prog 77 #[ptrOf rb] w fun e w' => Tk B w rb cellV (cellR l) e w' := by
  have rd0 : Hid (Rd B (w.alloc (.cells #[.int .i64 0, .int .i64 0, .string ⟨#[]⟩] 101)) rb l) := h.alloc hB hrb _
  have HB : Hid (B ≤ w.heap.size) := hB
  have C1 := number_tk rd0.out
  clear h hB
  go_enter Tryd.func77, Tryd.ntmps77
  go_wp2_with fail
  refine C1.mono ?_
  rintro e w1 (⟨x1, l1, q1, rfl, rd, g⟩ | ⟨q1, rfl, g⟩)
  rotate_left
  · exact ⟨rfl, .inr ⟨by simp only [cellR, q1, Option.bind_none], rfl, grown_trans grown_alloc g⟩⟩
  have t1 := numR_len q1
  have Q1 : Hid _ := q1
  have G1 : Hid _ := g
  have C2 := number_tk rd
  clear C1 rd q1 g rd0
  go_wp2_with fail
  refine C2.mono ?_
  rintro e w2 (⟨x2, l2, q2, rfl, rd, g⟩ | ⟨q2, rfl, g⟩)
  rotate_left
  · exact ⟨rfl, .inr ⟨by simp only [cellR, Q1.out, q2, Option.bind_some, Option.bind_none], rfl, grown_trans grown_alloc (grown_trans G1.out g)⟩⟩
  have t2 := numR_len q2
  have Q2 : Hid _ := q2
  have G2 : Hid _ := grown_trans G1.out g
  have C3 := text_tk rd (by omega)
  clear C2 rd q2 g G1
  go_wp2_with fail
  refine C3.mono ?_
  rintro e w3 (⟨x3, l3, q3, rfl, rd, g⟩ | ⟨q3, rfl, g⟩)
  rotate_left
  · exact ⟨rfl, .inr ⟨by simp only [cellR, Q1.out, Q2.out, q3, Option.bind_some, Option.bind_none], rfl, grown_trans grown_alloc (grown_trans G2.out g)⟩⟩
  have t3 := textR_len q3
  have Q3 : Hid _ := q3
  have G3 : Hid _ := grown_trans G2.out g
  obtain ⟨wz, RS, HZ, HE⟩ := take_end (es := #[.int .i64 x1, .int .i64 x2, .string x3]) (by simpa using HB.out) hrb G3.out rd inf101 rfl rfl (by simp [Value.oneCell'])
  clear C3 rd q3 g G2
  go_wp2_with (refine wpList_store_run rfl 101 _ _ rfl _ _ _ rfl rfl RS.out ?_)
  refine bodyPost_ret_by (results_cell_row rfl _ _ w.heap.size 101 _ (0, 0) _ rfl HZ.out Tryd.underlying101 rfl (by kernel_rfl)) rfl (.inl ⟨⟨x1, x2, x3⟩, l3, ?_, rfl, HE.out⟩)
  simp only [cellR, Q1.out, Q2.out, Q3.out, Option.bind_some]

set_option maxHeartbeats 4000000 in
theorem takeName_tk {B : Nat} {w : World} {rb : Nat} {l : List UInt8} (h : Rd B w rb l) (hB : B ≤ w.heap.size) (hrb : rb < w.heap.size) (hl : l.length ≤ 1099511627776) :
    Calls Tryd.prog 59 #[ptrOf rb] w fun e w' => Tk B w rb nameV (nameR l) e w' := by
  have rd0 : Hid (Rd B (w.alloc (.cells #[.string ⟨#[]⟩, .string ⟨#[]⟩, .string ⟨#[]⟩] 64)) rb l) := h.alloc hB hrb _
  have HB : Hid (B ≤ w.heap.size) := hB
  have C1 := text_tk rd0.out (by omega)
  clear h hB
  go_enter Tryd.func59, Tryd.ntmps59
  go_wp2_with fail
  refine C1.mono ?_
  rintro e w1 (⟨x1, l1, q1, rfl, rd, g⟩ | ⟨q1, rfl, g⟩)
  rotate_left
  · exact ⟨rfl, .inr ⟨by simp only [nameR, q1, Option.bind_none], rfl, grown_trans grown_alloc g⟩⟩
  have t1 := textR_len q1
  have Q1 : Hid _ := q1
  have G1 : Hid _ := g
  have C2 := text_tk rd (by omega)
  clear C1 rd q1 g rd0
  go_wp2_with fail
  refine C2.mono ?_
  rintro e w2 (⟨x2, l2, q2, rfl, rd, g⟩ | ⟨q2, rfl, g⟩)
  rotate_left
  · exact ⟨rfl, .inr ⟨by simp only [nameR, Q1.out, q2, Option.bind_some, Option.bind_none], rfl, grown_trans grown_alloc (grown_trans G1.out g)⟩⟩
  have t2 := textR_len q2
  have Q2 : Hid _ := q2
  have G2 : Hid _ := grown_trans G1.out g
  have C3 := text_tk rd (by omega)
  clear C2 rd q2 g G1
  go_wp2_with fail
  refine C3.mono ?_
  rintro e w3 (⟨x3, l3, q3, rfl, rd, g⟩ | ⟨q3, rfl, g⟩)
  rotate_left
  · exact ⟨rfl, .inr ⟨by simp only [nameR, Q1.out, Q2.out, q3, Option.bind_some, Option.bind_none], rfl, grown_trans grown_alloc (grown_trans G2.out g)⟩⟩
  have t3 := textR_len q3
  have Q3 : Hid _ := q3
  have G3 : Hid _ := grown_trans G2.out g
  obtain ⟨wz, RS, HZ, HE⟩ := take_end (es := #[.string x1, .string x2, .string x3]) (by simpa using HB.out) hrb G3.out rd inf64 rfl rfl (by simp [Value.oneCell'])
  clear C3 rd q3 g G2
  go_wp2_with (refine wpList_store_run rfl 64 _ _ rfl _ _ _ rfl rfl RS.out ?_)
  refine bodyPost_ret_by (results_cell_row rfl _ _ w.heap.size 64 _ (0, 0) _ rfl HZ.out Tryd.underlying64 rfl (by kernel_rfl)) rfl (.inl ⟨⟨x1, x2, x3⟩, l3, ?_, rfl, HE.out⟩)
  simp only [nameR, Q1.out, Q2.out, Q3.out, Option.bind_some]

set_option maxHeartbeats 4000000 in
theorem takeValue_tk {B : Nat} {w : World} {rb : Nat} {l : List UInt8} (h : Rd B w rb l) (hB : B ≤ w.heap.size) (hrb : rb < w.heap.size) (hl : l.length ≤ 1099511627776) :
    Calls Tryd.prog 78 #[ptrOf rb] w fun e w' => Tk B w rb valV (valR l) e w' := by
  have rd0 : Hid (Rd B (w.alloc (.cells #[.int .i64 0, .int .i64 0, .string ⟨#[]⟩] 67)) rb l) := h.alloc hB hrb _
  have HB : Hid (B ≤ w.heap.size) := hB
  have C1 := number_tk rd0.out
  clear h hB
  go_enter Tryd.func78, Tryd.ntmps78
  go_wp2_with fail
  refine C1.mono ?_
  rintro e w1 (⟨x1, l1, q1, rfl, rd, g⟩ | ⟨q1, rfl, g⟩)
  rotate_left
  · exact ⟨rfl, .inr ⟨by simp only [valR, q1, Option.bind_none], rfl, grown_trans grown_alloc g⟩⟩
  have t1 := numR_len q1
  have Q1 : Hid _ := q1
  have G1 : Hid _ := g
  have C2 := number_tk rd
  clear C1 rd q1 g rd0
  go_wp2_with fail
  refine C2.mono ?_
  rintro e w2 (⟨x2, l2, q2, rfl, rd, g⟩ | ⟨q2, rfl, g⟩)
  rotate_left
  · exact ⟨rfl, .inr ⟨by simp only [valR, Q1.out, q2, Option.bind_some, Option.bind_none], rfl, grown_trans grown_alloc (grown_trans G1.out g)⟩⟩
  have t2 := numR_len q2
  have Q2 : Hid _ := q2
  have G2 : Hid _ := grown_trans G1.out g
  have C3 := text_tk rd (by omega)
  clear C2 rd q2 g G1
  go_wp2_with fail
  refine C3.mono ?_
  rintro e w3 (⟨x3, l3, q3, rfl, rd, g⟩ | ⟨q3, rfl, g⟩)
  rotate_left
  · exact ⟨rfl, .inr ⟨by simp only [valR, Q1.out, Q2.out, q3, Option.bind_some, Option.bind_none], rfl, grown_trans grown_alloc (grown_trans G2.out g)⟩⟩
  have t3 := textR_len q3
  have Q3 : Hid _ := q3
  have G3 : Hid _ := grown_trans G2.out g
  obtain ⟨wz, RS, HZ, HE⟩ := take_end (es := #[.int .i64 x1, .int .i64 x2, .string x3]) (by simpa using HB.out) hrb G3.out rd inf67 rfl rfl (by simp [Value.oneCell'])
  clear C3 rd q3 g G2
  go_wp2_with (refine wpList_store_run rfl 67 _ _ rfl _ _ _ rfl rfl RS.out ?_)
  refine bodyPost_ret_by (results_cell_row rfl _ _ w.heap.size 67 _ (0, 0) _ rfl HZ.out Tryd.underlying67 rfl (by kernel_rfl)) rfl (.inl ⟨⟨x1, x2, x3⟩, l3, ?_, rfl, HE.out⟩)
  simp only [valR, Q1.out, Q2.out, Q3.out, Option.bind_some]

set_option maxHeartbeats 4000000 in
theorem takeLink_tk {B : Nat} {w : World} {rb : Nat} {l : List UInt8} (h : Rd B w rb l) (hB : B ≤ w.heap.size) (hrb : rb < w.heap.size) (hl : l.length ≤ 1099511627776) :
    Calls Tryd.prog 61 #[ptrOf rb] w fun e w' => Tk B w rb linkV (linkR l) e w' := by
  have rd0 : Hid (Rd B (w.alloc (.cells #[.string ⟨#[]⟩, .string ⟨#[]⟩, .int .i64 0, .int .i64 0, .int .i64 0, .int .i64 0, .string ⟨#[]⟩] 69)) rb l) := h.alloc hB hrb _
  have HB : Hid (B ≤ w.heap.size) := hB
  have C1 := text_tk rd0.out (by omega)
  clear h hB
  go_enter Tryd.func61, Tryd.ntmps61
  go_wp2_with fail
  refine C1.mono ?_
  rintro e w1 (⟨x1, l1, q1, rfl, rd, g⟩ | ⟨q1, rfl, g⟩)
  rotate_left
  · exact ⟨rfl, .inr ⟨by simp only [linkR, q1, Option.bind_none], rfl, grown_trans grown_alloc g⟩⟩
  have t1 := textR_len q1
  have Q1 : Hid _ := q1
  have G1 : Hid _ := g
  have C2 := text_tk rd (by omega)
  clear C1 rd q1 g rd0
  go_wp2_with fail
  refine C2.mono ?_
  rintro e w2 (⟨x2, l2, q2, rfl, rd, g⟩ | ⟨q2, rfl, g⟩)
  rotate_left
  · exact ⟨rfl, .inr ⟨by simp only [linkR, Q1.out, q2, Option.bind_some, Option.bind_none], rfl, grown_trans grown_alloc (grown_trans G1.out g)⟩⟩
  have t2 := textR_len q2
  have Q2 : Hid _ := q2
  have G2 : Hid _ := grown_trans G1.out g
  have C3 := number_tk rd
  clear C2 rd q2 g G1
  go_wp2_with fail
  refine C3.mono ?_
  rintro e w3 (⟨x3, l3, q3, rfl, rd, g⟩ | ⟨q3, rfl, g⟩)
  rotate_left
  · exact ⟨rfl, .inr ⟨by simp only [linkR, Q1.out, Q2.out, q3, Option.bind_some, Option.bind_none], rfl, grown_trans grown_alloc (grown_trans G2.out g)⟩⟩
  have t3 := numR_len q3
  have Q3 : Hid _ := q3
  have G3 : Hid _ := grown_trans G2.out g
  have C4 := number_tk rd
  clear C3 rd q3 g G2
  go_wp2_with fail
  refine C4.mono ?_
  rintro e w4 (⟨x4, l4, q4, rfl, rd, g⟩ | ⟨q4, rfl, g⟩)
  rotate_left
  · exact ⟨rfl, .inr ⟨by simp only [linkR, Q1.out, Q2.out, Q3.out, q4, Option.bind_some, Option.bind_none], rfl, grown_trans grown_alloc (grown_trans G3.out g)⟩⟩
  have t4 := numR_len q4
  have Q4 : Hid _ := q4
  have G4 : Hid _ := grown_trans G3.out g
  have C5 := takeValue_tk rd (Nat.le_trans (by simpa using Nat.le_succ_of_le HB.out) G4.out.size) (Nat.lt_of_lt_of_le (by simpa using Nat.lt_succ_of_lt hrb) G4.out.size) (by omega)
  clear C4 rd q4 g G3
  go_wp2_with fail
  refine C5.mono ?_
  rintro e w5 (⟨x5, l5, q5, rfl, rd, g⟩ | ⟨q5, rfl, g⟩)
  rotate_left
  · exact ⟨rfl, .inr ⟨by simp only [linkR, Q1.out, Q2.out, Q3.out, Q4.out, q5, Option.bind_some, Option.bind_none], rfl, grown_trans grown_alloc (grown_trans G4.out g)⟩⟩
  have t5 := inv_len valB_pos valR_inv q5
  have Q5 : Hid _ := q5
  have G5 : Hid _ := grown_trans G4.out g
  obtain ⟨wz, RS, HZ, HE⟩ := take_end (es := #[.string x1, .string x2, .int .i64 x3, .int .i64 x4, .int .i64 x5.kind, .int .i64 x5.n, .string x5.s]) (by simpa using HB.out) hrb G5.out rd inf69 rfl rfl (by simp [Value.oneCell'])
  clear C5 rd q5 g G4
  go_wp2_with (refine wpList_store_run rfl 69 _ _ rfl _ _ _ rfl rfl RS.out ?_)
  refine bodyPost_ret_by (results_cell_row rfl _ _ w.heap.size 69 _ (0, 0) _ rfl HZ.out Tryd.underlying69 rfl (by kernel_rfl)) rfl (.inl ⟨⟨x1, x2, x3, x4, x5⟩, l5, ?_, rfl, HE.out⟩)
  simp only [linkR, Q1.out, Q2.out, Q3.out, Q4.out, Q5.out, Option.bind_some]

end Go.Proofs.YtohndhmhgdelmaaDoor
