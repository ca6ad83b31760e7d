/- ARParseDt, ARParseDf, ARParse2, ARefP, ARIndex, AParseRef, ARParseRef, ARParseRefB, ARParseRefP, ARParseRefQ, ARParseRef2, TPure, TMem, TRune. -/
import Derived.Deep.MidRow
import Derived.Deep.WholeRow
import Derived.Laws.EntriesVeiled
import Derived.Laws.ResultCell
import Derived.Laws.Rows
import Derived.Lib.BufferOwn
import Derived.Maps.AppendAt
import Derived.Maps.Range
import Derived.Test.YtfedoljlipfhdaaGreatDoorARParseBPw
set_option linter.unusedVariables false
set_option linter.unusedSimpArgs false
set_option maxHeartbeats 16000000
set_option maxRecDepth 100000
open Go.RowKit renaming Hid->Z,Below->G
open Bool renaming true->J,false->H,false_eq_true->γ,eq_iff_iff->δ,and_eq_true->σ
open Go renaming bodyPost_ret->M,World->R,rounds_succ->E,wp_loop_rounds->α,Value->ε,heap_alloc_new->θ,TypeId->ρ,run_loadVar_row->τ,wpList->υ
open Nat renaming le_refl->I
open Go.RowKit.Below renaming refl->O
open List renaming length_cons->β,eq_nil_of_length_eq_zero->ζ,cons_append->ν,take_of_length_le->ξ,mem_cons_of_mem->ο,dropWhile_cons->π
open Go.Proofs.Tryz renaming prog->η
open Go.Result renaming andThen_ok->ι
open Go.Sem renaming run_pure->κ,run_bind->μ
namespace Go.Proofs.YtfedoljlipfhdaaGreatDoor
open Go.RowKit
theorem aCt {A A1 U V Y A2:ByteArray} {fc:Bool} {C:Int} {w:R} (hz:0 < A.size) (hA:jZ fc A A1 hz) (h2:2<=A1.size) (h0:0 < A1.size)
  (LT:∀u,CW 91 #[.int .u8 (A1[0].toNat:Nat)] u (.bool J)) (hU:A1.extract 0 1=U) (hV:A1.extract 1 A1.size=V)
  (UP:∀u,CR 142 #[.string U] u (.string Y)) (hY:0 < Y.size) (hy1:65<=(Y[0].toNat:Int)) (hy2:(Y[0].toNat:Int)<=90) (hC:(Y[0].toNat:Int) - 65+1=C)
  (hVz:0 < V.size) (h5:((V[0].toNat:Int)==36)=J) (h6:V.extract 1 V.size=A2) (h1:A2.size=1) (hq:0 < A2.size) (h48:((A2[0].toNat:Int)==48)=H) (G0:∀u,CW 93 #[.int .u8 (A2[0].toNat:Nat)] u (.bool H)):
  CR 242 #[.string A] w (.tuple #[gH,.bool H]):=by
 have c1:(0:Int) < A.size:=by omega
 have c3:(1:Int)<=A.size:=by omega
 have c2:¬(A1.size:Int) < 2:=by omega
 have c4:(1:Int)<=A1.size:=by omega
 have c5:(1:Int)<=V.size:=by omega
 have c6:¬(A2.size:Int) < 1:=by omega
 have c7:¬(2:Int) < A2.size:=by omega
 rcases hA with ⟨rfl,h3,h4⟩ | ⟨rfl,h3,rfl⟩;all_goals
  go_enter Tryz.func242,Tryz.ntmps242;go_wp2_with (go_at_call 91;refine mw (LT _) ?_)
  refine (UP _).mono ?_;rintro e w1 ⟨rfl,hb⟩;obtain⟨z1,z2⟩:=new2 hb;have HB1:Z (G w.heap.size w w1):=rP hb;have Z1:Z (w1.heap[w.heap.size]? =some aS):=z1;have Z2:Z _:=z2;obtain⟨k0,k1,k2,k3,k4,k5⟩:=aR z2;obtain⟨f0,f1,f2,f3,f4,f5⟩:=aV z2;clear hb z1 z2 UP LT;go_wp2;clear k0 k1 k2 k3 k4 k5 f0 f1 f2 f3 f4 f5;have x2:=xG (v:=.bool J) (nL (v:=.int .i64 C) Z2.out);have x1:=(eZ (u:=w1.setCell ⟨w.heap.size+1,3,none⟩ (.int .i64 C)) (k:=4) (v:=.bool J) (g:=w.heap.size+1) (j:=w.heap.size) (by omega)).trans ((eZ (by omega)).trans Z1.out);have HB3:Z (G w.heap.size w ((w1.setCell ⟨w.heap.size+1,3,none⟩ (.int .i64 C)).setCell ⟨w.heap.size+1,4,none⟩ (.bool J))):=(HB1.out.setCell (by simp) _).setCell (by simp) _;clear HB1;generalize (w1.setCell ⟨w.heap.size+1,3,none⟩ (.int .i64 C)).setCell ⟨w.heap.size+1,4,none⟩ (.bool J)=w3 at *;have X1:Z (w3.heap[w.heap.size]? =some aS):=x1;have X2:Z _:=x2;obtain⟨k0,k1,k2,k3,k4,k5⟩:=aR x2;obtain⟨f0,f1,f2,f3,f4,f5⟩:=aV x2;obtain⟨d0,d1,d2,d3,d4,d5⟩:=aR x1;obtain⟨e0,e1,e2,e3,e4,e5⟩:=aV x1;clear x1 x2 Z1 Z2;refine α 4 ?_;rw [E];go_wp2_with (first|(go_at_call 93;refine mw (G0 _) ?_))
  exact M (bM rfl rfl (iA X1.out) rfl) rfl ⟨rfl,bF HB3.out (I _)⟩
theorem aCu {A A1 U V Y A2:ByteArray} {fc:Bool} {C:Int} {w:R} (hz:0 < A.size) (hA:jZ fc A A1 hz) (h2:2<=A1.size) (h0:0 < A1.size)
  (LT:∀u,CW 91 #[.int .u8 (A1[0].toNat:Nat)] u (.bool J)) (hU:A1.extract 0 1=U) (hV:A1.extract 1 A1.size=V)
  (UP:∀u,CR 142 #[.string U] u (.string Y)) (hY:0 < Y.size) (hy1:65<=(Y[0].toNat:Int)) (hy2:(Y[0].toNat:Int)<=90) (hC:(Y[0].toNat:Int) - 65+1=C)
  (hVz:0 < V.size) (h5:((V[0].toNat:Int)==36)=J) (h6:V.extract 1 V.size=A2) (h1:A2.size=2) (hq:0 < A2.size) (h48:((A2[0].toNat:Int)==48)=H) (G0:∀u,CW 93 #[.int .u8 (A2[0].toNat:Nat)] u (.bool H)):
  CR 242 #[.string A] w (.tuple #[gH,.bool H]):=by
 have c1:(0:Int) < A.size:=by omega
 have c3:(1:Int)<=A.size:=by omega
 have c2:¬(A1.size:Int) < 2:=by omega
 have c4:(1:Int)<=A1.size:=by omega
 have c5:(1:Int)<=V.size:=by omega
 have c6:¬(A2.size:Int) < 1:=by omega
 have c7:¬(2:Int) < A2.size:=by omega
 rcases hA with ⟨rfl,h3,h4⟩ | ⟨rfl,h3,rfl⟩;all_goals
  go_enter Tryz.func242,Tryz.ntmps242;go_wp2_with (go_at_call 91;refine mw (LT _) ?_)
  refine (UP _).mono ?_;rintro e w1 ⟨rfl,hb⟩;obtain⟨z1,z2⟩:=new2 hb;have HB1:Z (G w.heap.size w w1):=rP hb;have Z1:Z (w1.heap[w.heap.size]? =some aS):=z1;have Z2:Z _:=z2;obtain⟨k0,k1,k2,k3,k4,k5⟩:=aR z2;obtain⟨f0,f1,f2,f3,f4,f5⟩:=aV z2;clear hb z1 z2 UP LT;go_wp2;clear k0 k1 k2 k3 k4 k5 f0 f1 f2 f3 f4 f5;have x2:=xG (v:=.bool J) (nL (v:=.int .i64 C) Z2.out);have x1:=(eZ (u:=w1.setCell ⟨w.heap.size+1,3,none⟩ (.int .i64 C)) (k:=4) (v:=.bool J) (g:=w.heap.size+1) (j:=w.heap.size) (by omega)).trans ((eZ (by omega)).trans Z1.out);have HB3:Z (G w.heap.size w ((w1.setCell ⟨w.heap.size+1,3,none⟩ (.int .i64 C)).setCell ⟨w.heap.size+1,4,none⟩ (.bool J))):=(HB1.out.setCell (by simp) _).setCell (by simp) _;clear HB1;generalize (w1.setCell ⟨w.heap.size+1,3,none⟩ (.int .i64 C)).setCell ⟨w.heap.size+1,4,none⟩ (.bool J)=w3 at *;have X1:Z (w3.heap[w.heap.size]? =some aS):=x1;have X2:Z _:=x2;obtain⟨k0,k1,k2,k3,k4,k5⟩:=aR x2;obtain⟨f0,f1,f2,f3,f4,f5⟩:=aV x2;obtain⟨d0,d1,d2,d3,d4,d5⟩:=aR x1;obtain⟨e0,e1,e2,e3,e4,e5⟩:=aV x1;clear x1 x2 Z1 Z2;refine α 4 ?_;rw [E];go_wp2_with (first|(go_at_call 93;refine mw (G0 _) ?_))
  exact M (bM rfl rfl (iA X1.out) rfl) rfl ⟨rfl,bF HB3.out (I _)⟩
end Go.Proofs.YtfedoljlipfhdaaGreatDoor
namespace Go.Proofs.YtfedoljlipfhdaaGreatDoor
open Go.RowKit
theorem aIC {A A1 U V Y A2:ByteArray} {fc:Bool} {C:Int} {w:R} (hz:0 < A.size) (hA:jZ fc A A1 hz) (h2:2<=A1.size) (h0:0 < A1.size)
  (LT:∀u,CW 91 #[.int .u8 (A1[0].toNat:Nat)] u (.bool J)) (hU:A1.extract 0 1=U) (hV:A1.extract 1 A1.size=V)
  (UP:∀u,CR 142 #[.string U] u (.string Y)) (hY:0 < Y.size) (hy1:65<=(Y[0].toNat:Int)) (hy2:(Y[0].toNat:Int)<=90) (hC:(Y[0].toNat:Int) - 65+1=C)
  (hVz:0 < V.size) (h5:((V[0].toNat:Int)==36)=J) (h6:V.extract 1 V.size=A2) (h1:A2.size=1) (hq:0 < A2.size) (h48:((A2[0].toNat:Int)==48)=H) (G0:∀u,CW 93 #[.int .u8 (A2[0].toNat:Nat)] u (.bool J)) {n:Int} (b1:48<=(A2[0].toNat:Int)) (b2:(A2[0].toNat:Int)<=57) (hn:(A2[0].toNat:Int) - 48=n) {ok:Bool}
  (IN:∀u,CW 145 #[.int .i64 n,.int .i64 C] u (.bool ok)):
  CR 242 #[.string A] w (.tuple #[if ok=J then dL ⟨#[]⟩ ⟨#[]⟩ n C J fc else gH,.bool ok]):=by
 have m1:IntKind.u8.wrap n=n:=wrap_u8 (by omega) (by omega);have m2:IntKind.i64.wrap n=n:=wrap_i64 (by omega) (by omega);have c1:(0:Int) < A.size:=by omega
 have c3:(1:Int)<=A.size:=by omega
 have c2:¬(A1.size:Int) < 2:=by omega
 have c4:(1:Int)<=A1.size:=by omega
 have c5:(1:Int)<=V.size:=by omega
 have c6:¬(A2.size:Int) < 1:=by omega
 have c7:¬(2:Int) < A2.size:=by omega
 rcases hA with ⟨rfl,h3,h4⟩ | ⟨rfl,h3,rfl⟩;all_goals
  go_enter Tryz.func242,Tryz.ntmps242;go_wp2_with (go_at_call 91;refine mw (LT _) ?_)
  refine (UP _).mono ?_;rintro e w1 ⟨rfl,hb⟩;obtain⟨z1,z2⟩:=new2 hb;have HB1:Z (G w.heap.size w w1):=rP hb;have Z1:Z (w1.heap[w.heap.size]? =some aS):=z1;have Z2:Z _:=z2;obtain⟨k0,k1,k2,k3,k4,k5⟩:=aR z2;obtain⟨f0,f1,f2,f3,f4,f5⟩:=aV z2;clear hb z1 z2 UP LT;go_wp2;clear k0 k1 k2 k3 k4 k5 f0 f1 f2 f3 f4 f5;have x2:=xG (v:=.bool J) (nL (v:=.int .i64 C) Z2.out);have x1:=(eZ (u:=w1.setCell ⟨w.heap.size+1,3,none⟩ (.int .i64 C)) (k:=4) (v:=.bool J) (g:=w.heap.size+1) (j:=w.heap.size) (by omega)).trans ((eZ (by omega)).trans Z1.out);have HB3:Z (G w.heap.size w ((w1.setCell ⟨w.heap.size+1,3,none⟩ (.int .i64 C)).setCell ⟨w.heap.size+1,4,none⟩ (.bool J))):=(HB1.out.setCell (by simp) _).setCell (by simp) _;clear HB1;generalize (w1.setCell ⟨w.heap.size+1,3,none⟩ (.int .i64 C)).setCell ⟨w.heap.size+1,4,none⟩ (.bool J)=w3 at *;have X1:Z (w3.heap[w.heap.size]? =some aS):=x1;have X2:Z _:=x2;obtain⟨k0,k1,k2,k3,k4,k5⟩:=aR x2;obtain⟨f0,f1,f2,f3,f4,f5⟩:=aV x2;obtain⟨d0,d1,d2,d3,d4,d5⟩:=aR x1;obtain⟨e0,e1,e2,e3,e4,e5⟩:=aV x1;clear x1 x2 Z1 Z2;refine α 4 ?_;rw [E];go_wp2_with (first|(go_at_call 93;refine mw (G0 _) ?_))
  go_region
  have y2:=show (w3.setCell ⟨w.heap.size+1,2,none⟩ (.int .i64 n)).drew.heap[w.heap.size+1]? =_ from sG (v:=.int .i64 n) X2.out
  have y1:(w3.setCell ⟨w.heap.size+1,2,none⟩ (.int .i64 n)).drew.heap[w.heap.size]? =some aS:=(eZ (u:=w3) (k:=2) (v:=.int .i64 n) (g:=w.heap.size+1) (j:=w.heap.size) (by omega)).trans X1.out;have HBn:Z (G w.heap.size w (w3.setCell ⟨w.heap.size+1,2,none⟩ (.int .i64 n)).drew):=(HB3.out.setCell (by simp) _).drew;clear k0 k1 k2 k3 k4 k5 f0 f1 f2 f3 f4 f5 d0 d1 d2 d3 d4 d5 e0 e1 e2 e3 e4 e5 HB3 X1 X2;generalize (w3.setCell ⟨w.heap.size+1,2,none⟩ (.int .i64 n)).drew=w4 at *;have HB3:Z _:=HBn.out;have X1:Z (w4.heap[w.heap.size]? =some aS):=y1;have X2:Z _:=y2;obtain⟨k0,k1,k2,k3,k4,k5⟩:=aR y2;obtain⟨f0,f1,f2,f3,f4,f5⟩:=aV y2;obtain⟨d0,d1,d2,d3,d4,d5⟩:=aR y1;obtain⟨e0,e1,e2,e3,e4,e5⟩:=aV y1;clear y1 y2 HBn;go_wp2;rw [E];go_wp2_with fail
  refine (IN _).mono ?_;rintro e w' ⟨rfl,hw⟩;obtain rfl:=hw.symm;clear hw;cases ok
  ·go_wp2;exact M (bM rfl rfl (iA X1.out) rfl) rfl ⟨rfl,bF HB3.out (I _)⟩
  ·go_wp2;exact M (bM rfl rfl (iA X1.out) rfl) rfl ⟨rfl,bF HB3.out (I _)⟩
end Go.Proofs.YtfedoljlipfhdaaGreatDoor
namespace Go.Proofs.YtfedoljlipfhdaaGreatDoor
open Go.RowKit
theorem aID {A A1 U V Y A2:ByteArray} {fc:Bool} {C:Int} {w:R} (hz:0 < A.size) (hA:jZ fc A A1 hz) (h2:2<=A1.size) (h0:0 < A1.size)
  (LT:∀u,CW 91 #[.int .u8 (A1[0].toNat:Nat)] u (.bool J)) (hU:A1.extract 0 1=U) (hV:A1.extract 1 A1.size=V)
  (UP:∀u,CR 142 #[.string U] u (.string Y)) (hY:0 < Y.size) (hy1:65<=(Y[0].toNat:Int)) (hy2:(Y[0].toNat:Int)<=90) (hC:(Y[0].toNat:Int) - 65+1=C)
  (hVz:0 < V.size) (h5:((V[0].toNat:Int)==36)=J) (h6:V.extract 1 V.size=A2) (h1:A2.size=2) (hq:0 < A2.size) (hq2:1 < A2.size) (h48:((A2[0].toNat:Int)==48)=H) (G0:∀u,CW 93 #[.int .u8 (A2[0].toNat:Nat)] u (.bool J)) (G1:∀u,CW 93 #[.int .u8 (A2[1].toNat:Nat)] u (.bool J)) {n1 n2 m n:Int} (b1:48<=(A2[0].toNat:Int)) (b2:(A2[0].toNat:Int)<=57) (b3:48<=(A2[1].toNat:Int)) (b4:(A2[1].toNat:Int)<=57) (hn1:(A2[0].toNat:Int) - 48=n1) (hn2:(A2[1].toNat:Int) - 48=n2) (hm:10 * n1=m) (hn:m+n2=n) {ok:Bool}
  (IN:∀u,CW 145 #[.int .i64 n,.int .i64 C] u (.bool ok)):
  CR 242 #[.string A] w (.tuple #[if ok=J then dL ⟨#[]⟩ ⟨#[]⟩ n C J fc else gH,.bool ok]):=by
 have m1:IntKind.u8.wrap n1=n1:=wrap_u8 (by omega) (by omega);have m2:IntKind.i64.wrap n1=n1:=wrap_i64 (by omega) (by omega);have m3:IntKind.u8.wrap n2=n2:=wrap_u8 (by omega) (by omega);have m4:IntKind.i64.wrap n2=n2:=wrap_i64 (by omega) (by omega);have m5:IntKind.i64.wrap m=m:=wrap_i64 (by omega) (by omega);have m6:IntKind.i64.wrap n=n:=wrap_i64 (by omega) (by omega);have c1:(0:Int) < A.size:=by omega
 have c3:(1:Int)<=A.size:=by omega
 have c2:¬(A1.size:Int) < 2:=by omega
 have c4:(1:Int)<=A1.size:=by omega
 have c5:(1:Int)<=V.size:=by omega
 have c6:¬(A2.size:Int) < 1:=by omega
 have c7:¬(2:Int) < A2.size:=by omega
 rcases hA with ⟨rfl,h3,h4⟩ | ⟨rfl,h3,rfl⟩;all_goals
  go_enter Tryz.func242,Tryz.ntmps242;go_wp2_with (go_at_call 91;refine mw (LT _) ?_)
  refine (UP _).mono ?_;rintro e w1 ⟨rfl,hb⟩;obtain⟨z1,z2⟩:=new2 hb;have HB1:Z (G w.heap.size w w1):=rP hb;have Z1:Z (w1.heap[w.heap.size]? =some aS):=z1;have Z2:Z _:=z2;obtain⟨k0,k1,k2,k3,k4,k5⟩:=aR z2;obtain⟨f0,f1,f2,f3,f4,f5⟩:=aV z2;clear hb z1 z2 UP LT;go_wp2;clear k0 k1 k2 k3 k4 k5 f0 f1 f2 f3 f4 f5;have x2:=xG (v:=.bool J) (nL (v:=.int .i64 C) Z2.out);have x1:=(eZ (u:=w1.setCell ⟨w.heap.size+1,3,none⟩ (.int .i64 C)) (k:=4) (v:=.bool J) (g:=w.heap.size+1) (j:=w.heap.size) (by omega)).trans ((eZ (by omega)).trans Z1.out);have HB3:Z (G w.heap.size w ((w1.setCell ⟨w.heap.size+1,3,none⟩ (.int .i64 C)).setCell ⟨w.heap.size+1,4,none⟩ (.bool J))):=(HB1.out.setCell (by simp) _).setCell (by simp) _;clear HB1;generalize (w1.setCell ⟨w.heap.size+1,3,none⟩ (.int .i64 C)).setCell ⟨w.heap.size+1,4,none⟩ (.bool J)=w3 at *;have X1:Z (w3.heap[w.heap.size]? =some aS):=x1;have X2:Z _:=x2;obtain⟨k0,k1,k2,k3,k4,k5⟩:=aR x2;obtain⟨f0,f1,f2,f3,f4,f5⟩:=aV x2;obtain⟨d0,d1,d2,d3,d4,d5⟩:=aR x1;obtain⟨e0,e1,e2,e3,e4,e5⟩:=aV x1;clear x1 x2 Z1 Z2;refine α 4 ?_;rw [E];go_wp2_with (first|(go_at_call 93;refine mw (G0 _) ?_))
  go_region
  have y2:=show (w3.setCell ⟨w.heap.size+1,2,none⟩ (.int .i64 n1)).drew.heap[w.heap.size+1]? =_ from sG (v:=.int .i64 n1) X2.out
  have y1:(w3.setCell ⟨w.heap.size+1,2,none⟩ (.int .i64 n1)).drew.heap[w.heap.size]? =some aS:=(eZ (u:=w3) (k:=2) (v:=.int .i64 n1) (g:=w.heap.size+1) (j:=w.heap.size) (by omega)).trans X1.out;have HBn:Z (G w.heap.size w (w3.setCell ⟨w.heap.size+1,2,none⟩ (.int .i64 n1)).drew):=(HB3.out.setCell (by simp) _).drew;clear k0 k1 k2 k3 k4 k5 f0 f1 f2 f3 f4 f5 d0 d1 d2 d3 d4 d5 e0 e1 e2 e3 e4 e5 HB3 X1 X2;generalize (w3.setCell ⟨w.heap.size+1,2,none⟩ (.int .i64 n1)).drew=w4 at *;have HB3:Z _:=HBn.out;have X1:Z (w4.heap[w.heap.size]? =some aS):=y1;have X2:Z _:=y2;obtain⟨k0,k1,k2,k3,k4,k5⟩:=aR y2;obtain⟨f0,f1,f2,f3,f4,f5⟩:=aV y2;obtain⟨d0,d1,d2,d3,d4,d5⟩:=aR y1;obtain⟨e0,e1,e2,e3,e4,e5⟩:=aV y1;clear y1 y2 HBn;go_wp2;rw [E];go_wp2_with (first|(go_at_call 93;refine mw (G1 _) ?_))
  go_region
  have y2:=show (w4.setCell ⟨w.heap.size+1,2,none⟩ (.int .i64 n)).drew.heap[w.heap.size+1]? =_ from sG (v:=.int .i64 n) X2.out
  have y1:(w4.setCell ⟨w.heap.size+1,2,none⟩ (.int .i64 n)).drew.heap[w.heap.size]? =some aS:=(eZ (u:=w4) (k:=2) (v:=.int .i64 n) (g:=w.heap.size+1) (j:=w.heap.size) (by omega)).trans X1.out;have HBn:Z (G w.heap.size w (w4.setCell ⟨w.heap.size+1,2,none⟩ (.int .i64 n)).drew):=(HB3.out.setCell (by simp) _).drew;clear k0 k1 k2 k3 k4 k5 f0 f1 f2 f3 f4 f5 d0 d1 d2 d3 d4 d5 e0 e1 e2 e3 e4 e5 HB3 X1 X2;generalize (w4.setCell ⟨w.heap.size+1,2,none⟩ (.int .i64 n)).drew=w5 at *;have HB3:Z _:=HBn.out;have X1:Z (w5.heap[w.heap.size]? =some aS):=y1;have X2:Z _:=y2;obtain⟨k0,k1,k2,k3,k4,k5⟩:=aR y2;obtain⟨f0,f1,f2,f3,f4,f5⟩:=aV y2;obtain⟨d0,d1,d2,d3,d4,d5⟩:=aR y1;obtain⟨e0,e1,e2,e3,e4,e5⟩:=aV y1;clear y1 y2 HBn;go_wp2;rw [E];go_wp2_with fail
  refine (IN _).mono ?_;rintro e w' ⟨rfl,hw⟩;obtain rfl:=hw.symm;clear hw;cases ok
  ·go_wp2;exact M (bM rfl rfl (iA X1.out) rfl) rfl ⟨rfl,bF HB3.out (I _)⟩
  ·go_wp2;exact M (bM rfl rfl (iA X1.out) rfl) rfl ⟨rfl,bF HB3.out (I _)⟩
end Go.Proofs.YtfedoljlipfhdaaGreatDoor
namespace Go.Proofs.YtfedoljlipfhdaaGreatDoor
open Go.RowKit
theorem aCv {A A1 U V Y A2:ByteArray} {fc:Bool} {C:Int} {w:R} (hz:0 < A.size) (hA:jZ fc A A1 hz) (h2:2<=A1.size) (h0:0 < A1.size)
  (LT:∀u,CW 91 #[.int .u8 (A1[0].toNat:Nat)] u (.bool J)) (hU:A1.extract 0 1=U) (hV:A1.extract 1 A1.size=V)
  (UP:∀u,CR 142 #[.string U] u (.string Y)) (hY:0 < Y.size) (hy1:65<=(Y[0].toNat:Int)) (hy2:(Y[0].toNat:Int)<=90) (hC:(Y[0].toNat:Int) - 65+1=C)
  (hVz:0 < V.size) (h5:((V[0].toNat:Int)==36)=J) (h6:V.extract 1 V.size=A2) (h1:A2.size=2) (hq:0 < A2.size) (hq2:1 < A2.size) (h48:((A2[0].toNat:Int)==48)=H) (G0:∀u,CW 93 #[.int .u8 (A2[0].toNat:Nat)] u (.bool J)) (G1:∀u,CW 93 #[.int .u8 (A2[1].toNat:Nat)] u (.bool H)) {n1:Int} (b1:48<=(A2[0].toNat:Int)) (b2:(A2[0].toNat:Int)<=57) (hn1:(A2[0].toNat:Int) - 48=n1):
  CR 242 #[.string A] w (.tuple #[gH,.bool H]):=by
 have m1:IntKind.u8.wrap n1=n1:=wrap_u8 (by omega) (by omega);have m2:IntKind.i64.wrap n1=n1:=wrap_i64 (by omega) (by omega);have c1:(0:Int) < A.size:=by omega
 have c3:(1:Int)<=A.size:=by omega
 have c2:¬(A1.size:Int) < 2:=by omega
 have c4:(1:Int)<=A1.size:=by omega
 have c5:(1:Int)<=V.size:=by omega
 have c6:¬(A2.size:Int) < 1:=by omega
 have c7:¬(2:Int) < A2.size:=by omega
 rcases hA with ⟨rfl,h3,h4⟩ | ⟨rfl,h3,rfl⟩;all_goals
  go_enter Tryz.func242,Tryz.ntmps242;go_wp2_with (go_at_call 91;refine mw (LT _) ?_)
  refine (UP _).mono ?_;rintro e w1 ⟨rfl,hb⟩;obtain⟨z1,z2⟩:=new2 hb;have HB1:Z (G w.heap.size w w1):=rP hb;have Z1:Z (w1.heap[w.heap.size]? =some aS):=z1;have Z2:Z _:=z2;obtain⟨k0,k1,k2,k3,k4,k5⟩:=aR z2;obtain⟨f0,f1,f2,f3,f4,f5⟩:=aV z2;clear hb z1 z2 UP LT;go_wp2;clear k0 k1 k2 k3 k4 k5 f0 f1 f2 f3 f4 f5;have x2:=xG (v:=.bool J) (nL (v:=.int .i64 C) Z2.out);have x1:=(eZ (u:=w1.setCell ⟨w.heap.size+1,3,none⟩ (.int .i64 C)) (k:=4) (v:=.bool J) (g:=w.heap.size+1) (j:=w.heap.size) (by omega)).trans ((eZ (by omega)).trans Z1.out);have HB3:Z (G w.heap.size w ((w1.setCell ⟨w.heap.size+1,3,none⟩ (.int .i64 C)).setCell ⟨w.heap.size+1,4,none⟩ (.bool J))):=(HB1.out.setCell (by simp) _).setCell (by simp) _;clear HB1;generalize (w1.setCell ⟨w.heap.size+1,3,none⟩ (.int .i64 C)).setCell ⟨w.heap.size+1,4,none⟩ (.bool J)=w3 at *;have X1:Z (w3.heap[w.heap.size]? =some aS):=x1;have X2:Z _:=x2;obtain⟨k0,k1,k2,k3,k4,k5⟩:=aR x2;obtain⟨f0,f1,f2,f3,f4,f5⟩:=aV x2;obtain⟨d0,d1,d2,d3,d4,d5⟩:=aR x1;obtain⟨e0,e1,e2,e3,e4,e5⟩:=aV x1;clear x1 x2 Z1 Z2;refine α 4 ?_;rw [E];go_wp2_with (first|(go_at_call 93;refine mw (G0 _) ?_))
  go_region
  have y2:=show (w3.setCell ⟨w.heap.size+1,2,none⟩ (.int .i64 n1)).drew.heap[w.heap.size+1]? =_ from sG (v:=.int .i64 n1) X2.out
  have y1:(w3.setCell ⟨w.heap.size+1,2,none⟩ (.int .i64 n1)).drew.heap[w.heap.size]? =some aS:=(eZ (u:=w3) (k:=2) (v:=.int .i64 n1) (g:=w.heap.size+1) (j:=w.heap.size) (by omega)).trans X1.out;have HBn:Z (G w.heap.size w (w3.setCell ⟨w.heap.size+1,2,none⟩ (.int .i64 n1)).drew):=(HB3.out.setCell (by simp) _).drew;clear k0 k1 k2 k3 k4 k5 f0 f1 f2 f3 f4 f5 d0 d1 d2 d3 d4 d5 e0 e1 e2 e3 e4 e5 HB3 X1 X2;generalize (w3.setCell ⟨w.heap.size+1,2,none⟩ (.int .i64 n1)).drew=w4 at *;have HB3:Z _:=HBn.out;have X1:Z (w4.heap[w.heap.size]? =some aS):=y1;have X2:Z _:=y2;obtain⟨k0,k1,k2,k3,k4,k5⟩:=aR y2;obtain⟨f0,f1,f2,f3,f4,f5⟩:=aV y2;obtain⟨d0,d1,d2,d3,d4,d5⟩:=aR y1;obtain⟨e0,e1,e2,e3,e4,e5⟩:=aV y1;clear y1 y2 HBn;go_wp2;rw [E];go_wp2_with (first|(go_at_call 93;refine mw (G1 _) ?_))
  exact M (bM rfl rfl (iA X1.out) rfl) rfl ⟨rfl,bF HB3.out (I _)⟩
end Go.Proofs.YtfedoljlipfhdaaGreatDoor
namespace Go.Proofs.YtfedoljlipfhdaaGreatDoor
open Go.RowKit
theorem aCw {A A1 U V Y:ByteArray} {fc:Bool} {C:Int} {w:R} (hz:0 < A.size) (hA:jZ fc A A1 hz) (h2:2<=A1.size) (h0:0 < A1.size)
  (LT:∀u,CW 91 #[.int .u8 (A1[0].toNat:Nat)] u (.bool J)) (hU:A1.extract 0 1=U) (hV:A1.extract 1 A1.size=V)
  (UP:∀u,CR 142 #[.string U] u (.string Y)) (hY:0 < Y.size) (hy1:65<=(Y[0].toNat:Int)) (hy2:(Y[0].toNat:Int)<=90) (hC:(Y[0].toNat:Int) - 65+1=C)
  (hVz:0 < V.size) (h5:((V[0].toNat:Int)==36)=H) (h1:V.size=1) (hq:0 < V.size) (h48:((V[0].toNat:Int)==48)=H) (G0:∀u,CW 93 #[.int .u8 (V[0].toNat:Nat)] u (.bool H)):
  CR 242 #[.string A] w (.tuple #[gH,.bool H]):=by
 have c1:(0:Int) < A.size:=by omega
 have c3:(1:Int)<=A.size:=by omega
 have c2:¬(A1.size:Int) < 2:=by omega
 have c4:(1:Int)<=A1.size:=by omega
 have c5:(1:Int)<=V.size:=by omega
 have c6:¬(V.size:Int) < 1:=by omega
 have c7:¬(2:Int) < V.size:=by omega
 rcases hA with ⟨rfl,h3,h4⟩ | ⟨rfl,h3,rfl⟩;all_goals
  go_enter Tryz.func242,Tryz.ntmps242;go_wp2_with (go_at_call 91;refine mw (LT _) ?_)
  refine (UP _).mono ?_;rintro e w1 ⟨rfl,hb⟩;obtain⟨z1,z2⟩:=new2 hb;have HB1:Z (G w.heap.size w w1):=rP hb;have Z1:Z (w1.heap[w.heap.size]? =some aS):=z1;have Z2:Z _:=z2;obtain⟨k0,k1,k2,k3,k4,k5⟩:=aR z2;obtain⟨f0,f1,f2,f3,f4,f5⟩:=aV z2;clear hb z1 z2 UP LT;go_wp2;clear k0 k1 k2 k3 k4 k5 f0 f1 f2 f3 f4 f5;have x2:=nL (v:=.int .i64 C) Z2.out;have x1:=(eZ (u:=w1) (k:=3) (v:=.int .i64 C) (g:=w.heap.size+1) (j:=w.heap.size) (by omega)).trans Z1.out;have HB3:Z (G w.heap.size w (w1.setCell ⟨w.heap.size+1,3,none⟩ (.int .i64 C))):=HB1.out.setCell (by simp) _;clear HB1;generalize w1.setCell ⟨w.heap.size+1,3,none⟩ (.int .i64 C)=w3 at *;have X1:Z (w3.heap[w.heap.size]? =some aS):=x1;have X2:Z _:=x2;obtain⟨k0,k1,k2,k3,k4,k5⟩:=aR x2;obtain⟨f0,f1,f2,f3,f4,f5⟩:=aV x2;obtain⟨d0,d1,d2,d3,d4,d5⟩:=aR x1;obtain⟨e0,e1,e2,e3,e4,e5⟩:=aV x1;clear x1 x2 Z1 Z2;refine α 4 ?_;rw [E];go_wp2_with (first|(go_at_call 93;refine mw (G0 _) ?_))
  exact M (bM rfl rfl (iA X1.out) rfl) rfl ⟨rfl,bF HB3.out (I _)⟩
theorem aCx {A A1 U V Y:ByteArray} {fc:Bool} {C:Int} {w:R} (hz:0 < A.size) (hA:jZ fc A A1 hz) (h2:2<=A1.size) (h0:0 < A1.size)
  (LT:∀u,CW 91 #[.int .u8 (A1[0].toNat:Nat)] u (.bool J)) (hU:A1.extract 0 1=U) (hV:A1.extract 1 A1.size=V)
  (UP:∀u,CR 142 #[.string U] u (.string Y)) (hY:0 < Y.size) (hy1:65<=(Y[0].toNat:Int)) (hy2:(Y[0].toNat:Int)<=90) (hC:(Y[0].toNat:Int) - 65+1=C)
  (hVz:0 < V.size) (h5:((V[0].toNat:Int)==36)=H) (h1:V.size=2) (hq:0 < V.size) (h48:((V[0].toNat:Int)==48)=H) (G0:∀u,CW 93 #[.int .u8 (V[0].toNat:Nat)] u (.bool H)):
  CR 242 #[.string A] w (.tuple #[gH,.bool H]):=by
 have c1:(0:Int) < A.size:=by omega
 have c3:(1:Int)<=A.size:=by omega
 have c2:¬(A1.size:Int) < 2:=by omega
 have c4:(1:Int)<=A1.size:=by omega
 have c5:(1:Int)<=V.size:=by omega
 have c6:¬(V.size:Int) < 1:=by omega
 have c7:¬(2:Int) < V.size:=by omega
 rcases hA with ⟨rfl,h3,h4⟩ | ⟨rfl,h3,rfl⟩;all_goals
  go_enter Tryz.func242,Tryz.ntmps242;go_wp2_with (go_at_call 91;refine mw (LT _) ?_)
  refine (UP _).mono ?_;rintro e w1 ⟨rfl,hb⟩;obtain⟨z1,z2⟩:=new2 hb;have HB1:Z (G w.heap.size w w1):=rP hb;have Z1:Z (w1.heap[w.heap.size]? =some aS):=z1;have Z2:Z _:=z2;obtain⟨k0,k1,k2,k3,k4,k5⟩:=aR z2;obtain⟨f0,f1,f2,f3,f4,f5⟩:=aV z2;clear hb z1 z2 UP LT;go_wp2;clear k0 k1 k2 k3 k4 k5 f0 f1 f2 f3 f4 f5;have x2:=nL (v:=.int .i64 C) Z2.out;have x1:=(eZ (u:=w1) (k:=3) (v:=.int .i64 C) (g:=w.heap.size+1) (j:=w.heap.size) (by omega)).trans Z1.out;have HB3:Z (G w.heap.size w (w1.setCell ⟨w.heap.size+1,3,none⟩ (.int .i64 C))):=HB1.out.setCell (by simp) _;clear HB1;generalize w1.setCell ⟨w.heap.size+1,3,none⟩ (.int .i64 C)=w3 at *;have X1:Z (w3.heap[w.heap.size]? =some aS):=x1;have X2:Z _:=x2;obtain⟨k0,k1,k2,k3,k4,k5⟩:=aR x2;obtain⟨f0,f1,f2,f3,f4,f5⟩:=aV x2;obtain⟨d0,d1,d2,d3,d4,d5⟩:=aR x1;obtain⟨e0,e1,e2,e3,e4,e5⟩:=aV x1;clear x1 x2 Z1 Z2;refine α 4 ?_;rw [E];go_wp2_with (first|(go_at_call 93;refine mw (G0 _) ?_))
  exact M (bM rfl rfl (iA X1.out) rfl) rfl ⟨rfl,bF HB3.out (I _)⟩
end Go.Proofs.YtfedoljlipfhdaaGreatDoor
namespace Go.Proofs.YtfedoljlipfhdaaGreatDoor
open Go.RowKit
theorem aIE {A A1 U V Y:ByteArray} {fc:Bool} {C:Int} {w:R} (hz:0 < A.size) (hA:jZ fc A A1 hz) (h2:2<=A1.size) (h0:0 < A1.size)
  (LT:∀u,CW 91 #[.int .u8 (A1[0].toNat:Nat)] u (.bool J)) (hU:A1.extract 0 1=U) (hV:A1.extract 1 A1.size=V)
  (UP:∀u,CR 142 #[.string U] u (.string Y)) (hY:0 < Y.size) (hy1:65<=(Y[0].toNat:Int)) (hy2:(Y[0].toNat:Int)<=90) (hC:(Y[0].toNat:Int) - 65+1=C)
  (hVz:0 < V.size) (h5:((V[0].toNat:Int)==36)=H) (h1:V.size=1) (hq:0 < V.size) (h48:((V[0].toNat:Int)==48)=H) (G0:∀u,CW 93 #[.int .u8 (V[0].toNat:Nat)] u (.bool J)) {n:Int} (b1:48<=(V[0].toNat:Int)) (b2:(V[0].toNat:Int)<=57) (hn:(V[0].toNat:Int) - 48=n) {ok:Bool}
  (IN:∀u,CW 145 #[.int .i64 n,.int .i64 C] u (.bool ok)):
  CR 242 #[.string A] w (.tuple #[if ok=J then dL ⟨#[]⟩ ⟨#[]⟩ n C H fc else gH,.bool ok]):=by
 have m1:IntKind.u8.wrap n=n:=wrap_u8 (by omega) (by omega);have m2:IntKind.i64.wrap n=n:=wrap_i64 (by omega) (by omega);have c1:(0:Int) < A.size:=by omega
 have c3:(1:Int)<=A.size:=by omega
 have c2:¬(A1.size:Int) < 2:=by omega
 have c4:(1:Int)<=A1.size:=by omega
 have c5:(1:Int)<=V.size:=by omega
 have c6:¬(V.size:Int) < 1:=by omega
 have c7:¬(2:Int) < V.size:=by omega
 rcases hA with ⟨rfl,h3,h4⟩ | ⟨rfl,h3,rfl⟩;all_goals
  go_enter Tryz.func242,Tryz.ntmps242;go_wp2_with (go_at_call 91;refine mw (LT _) ?_)
  refine (UP _).mono ?_;rintro e w1 ⟨rfl,hb⟩;obtain⟨z1,z2⟩:=new2 hb;have HB1:Z (G w.heap.size w w1):=rP hb;have Z1:Z (w1.heap[w.heap.size]? =some aS):=z1;have Z2:Z _:=z2;obtain⟨k0,k1,k2,k3,k4,k5⟩:=aR z2;obtain⟨f0,f1,f2,f3,f4,f5⟩:=aV z2;clear hb z1 z2 UP LT;go_wp2;clear k0 k1 k2 k3 k4 k5 f0 f1 f2 f3 f4 f5;have x2:=nL (v:=.int .i64 C) Z2.out;have x1:=(eZ (u:=w1) (k:=3) (v:=.int .i64 C) (g:=w.heap.size+1) (j:=w.heap.size) (by omega)).trans Z1.out;have HB3:Z (G w.heap.size w (w1.setCell ⟨w.heap.size+1,3,none⟩ (.int .i64 C))):=HB1.out.setCell (by simp) _;clear HB1;generalize w1.setCell ⟨w.heap.size+1,3,none⟩ (.int .i64 C)=w3 at *;have X1:Z (w3.heap[w.heap.size]? =some aS):=x1;have X2:Z _:=x2;obtain⟨k0,k1,k2,k3,k4,k5⟩:=aR x2;obtain⟨f0,f1,f2,f3,f4,f5⟩:=aV x2;obtain⟨d0,d1,d2,d3,d4,d5⟩:=aR x1;obtain⟨e0,e1,e2,e3,e4,e5⟩:=aV x1;clear x1 x2 Z1 Z2;refine α 4 ?_;rw [E];go_wp2_with (first|(go_at_call 93;refine mw (G0 _) ?_))
  go_region
  have y2:=show (w3.setCell ⟨w.heap.size+1,2,none⟩ (.int .i64 n)).drew.heap[w.heap.size+1]? =_ from sG (v:=.int .i64 n) X2.out
  have y1:(w3.setCell ⟨w.heap.size+1,2,none⟩ (.int .i64 n)).drew.heap[w.heap.size]? =some aS:=(eZ (u:=w3) (k:=2) (v:=.int .i64 n) (g:=w.heap.size+1) (j:=w.heap.size) (by omega)).trans X1.out;have HBn:Z (G w.heap.size w (w3.setCell ⟨w.heap.size+1,2,none⟩ (.int .i64 n)).drew):=(HB3.out.setCell (by simp) _).drew;clear k0 k1 k2 k3 k4 k5 f0 f1 f2 f3 f4 f5 d0 d1 d2 d3 d4 d5 e0 e1 e2 e3 e4 e5 HB3 X1 X2;generalize (w3.setCell ⟨w.heap.size+1,2,none⟩ (.int .i64 n)).drew=w4 at *;have HB3:Z _:=HBn.out;have X1:Z (w4.heap[w.heap.size]? =some aS):=y1;have X2:Z _:=y2;obtain⟨k0,k1,k2,k3,k4,k5⟩:=aR y2;obtain⟨f0,f1,f2,f3,f4,f5⟩:=aV y2;obtain⟨d0,d1,d2,d3,d4,d5⟩:=aR y1;obtain⟨e0,e1,e2,e3,e4,e5⟩:=aV y1;clear y1 y2 HBn;go_wp2;rw [E];go_wp2_with fail
  refine (IN _).mono ?_;rintro e w' ⟨rfl,hw⟩;obtain rfl:=hw.symm;clear hw;cases ok
  ·go_wp2;exact M (bM rfl rfl (iA X1.out) rfl) rfl ⟨rfl,bF HB3.out (I _)⟩
  ·go_wp2;exact M (bM rfl rfl (iA X1.out) rfl) rfl ⟨rfl,bF HB3.out (I _)⟩
end Go.Proofs.YtfedoljlipfhdaaGreatDoor
namespace Go.Proofs.YtfedoljlipfhdaaGreatDoor
open Go.RowKit
theorem aIF {A A1 U V Y:ByteArray} {fc:Bool} {C:Int} {w:R} (hz:0 < A.size) (hA:jZ fc A A1 hz) (h2:2<=A1.size) (h0:0 < A1.size)
  (LT:∀u,CW 91 #[.int .u8 (A1[0].toNat:Nat)] u (.bool J)) (hU:A1.extract 0 1=U) (hV:A1.extract 1 A1.size=V)
  (UP:∀u,CR 142 #[.string U] u (.string Y)) (hY:0 < Y.size) (hy1:65<=(Y[0].toNat:Int)) (hy2:(Y[0].toNat:Int)<=90) (hC:(Y[0].toNat:Int) - 65+1=C)
  (hVz:0 < V.size) (h5:((V[0].toNat:Int)==36)=H) (h1:V.size=2) (hq:0 < V.size) (hq2:1 < V.size) (h48:((V[0].toNat:Int)==48)=H) (G0:∀u,CW 93 #[.int .u8 (V[0].toNat:Nat)] u (.bool J)) (G1:∀u,CW 93 #[.int .u8 (V[1].toNat:Nat)] u (.bool J)) {n1 n2 m n:Int} (b1:48<=(V[0].toNat:Int)) (b2:(V[0].toNat:Int)<=57) (b3:48<=(V[1].toNat:Int)) (b4:(V[1].toNat:Int)<=57) (hn1:(V[0].toNat:Int) - 48=n1) (hn2:(V[1].toNat:Int) - 48=n2) (hm:10 * n1=m) (hn:m+n2=n) {ok:Bool}
  (IN:∀u,CW 145 #[.int .i64 n,.int .i64 C] u (.bool ok)):
  CR 242 #[.string A] w (.tuple #[if ok=J then dL ⟨#[]⟩ ⟨#[]⟩ n C H fc else gH,.bool ok]):=by
 have m1:IntKind.u8.wrap n1=n1:=wrap_u8 (by omega) (by omega);have m2:IntKind.i64.wrap n1=n1:=wrap_i64 (by omega) (by omega);have m3:IntKind.u8.wrap n2=n2:=wrap_u8 (by omega) (by omega);have m4:IntKind.i64.wrap n2=n2:=wrap_i64 (by omega) (by omega);have m5:IntKind.i64.wrap m=m:=wrap_i64 (by omega) (by omega);have m6:IntKind.i64.wrap n=n:=wrap_i64 (by omega) (by omega);have c1:(0:Int) < A.size:=by omega
 have c3:(1:Int)<=A.size:=by omega
 have c2:¬(A1.size:Int) < 2:=by omega
 have c4:(1:Int)<=A1.size:=by omega
 have c5:(1:Int)<=V.size:=by omega
 have c6:¬(V.size:Int) < 1:=by omega
 have c7:¬(2:Int) < V.size:=by omega
 rcases hA with ⟨rfl,h3,h4⟩ | ⟨rfl,h3,rfl⟩;all_goals
  go_enter Tryz.func242,Tryz.ntmps242;go_wp2_with (go_at_call 91;refine mw (LT _) ?_)
  refine (UP _).mono ?_;rintro e w1 ⟨rfl,hb⟩;obtain⟨z1,z2⟩:=new2 hb;have HB1:Z (G w.heap.size w w1):=rP hb;have Z1:Z (w1.heap[w.heap.size]? =some aS):=z1;have Z2:Z _:=z2;obtain⟨k0,k1,k2,k3,k4,k5⟩:=aR z2;obtain⟨f0,f1,f2,f3,f4,f5⟩:=aV z2;clear hb z1 z2 UP LT;go_wp2;clear k0 k1 k2 k3 k4 k5 f0 f1 f2 f3 f4 f5;have x2:=nL (v:=.int .i64 C) Z2.out;have x1:=(eZ (u:=w1) (k:=3) (v:=.int .i64 C) (g:=w.heap.size+1) (j:=w.heap.size) (by omega)).trans Z1.out;have HB3:Z (G w.heap.size w (w1.setCell ⟨w.heap.size+1,3,none⟩ (.int .i64 C))):=HB1.out.setCell (by simp) _;clear HB1;generalize w1.setCell ⟨w.heap.size+1,3,none⟩ (.int .i64 C)=w3 at *;have X1:Z (w3.heap[w.heap.size]? =some aS):=x1;have X2:Z _:=x2;obtain⟨k0,k1,k2,k3,k4,k5⟩:=aR x2;obtain⟨f0,f1,f2,f3,f4,f5⟩:=aV x2;obtain⟨d0,d1,d2,d3,d4,d5⟩:=aR x1;obtain⟨e0,e1,e2,e3,e4,e5⟩:=aV x1;clear x1 x2 Z1 Z2;refine α 4 ?_;rw [E];go_wp2_with (first|(go_at_call 93;refine mw (G0 _) ?_))
  go_region
  have y2:=show (w3.setCell ⟨w.heap.size+1,2,none⟩ (.int .i64 n1)).drew.heap[w.heap.size+1]? =_ from sG (v:=.int .i64 n1) X2.out
  have y1:(w3.setCell ⟨w.heap.size+1,2,none⟩ (.int .i64 n1)).drew.heap[w.heap.size]? =some aS:=(eZ (u:=w3) (k:=2) (v:=.int .i64 n1) (g:=w.heap.size+1) (j:=w.heap.size) (by omega)).trans X1.out;have HBn:Z (G w.heap.size w (w3.setCell ⟨w.heap.size+1,2,none⟩ (.int .i64 n1)).drew):=(HB3.out.setCell (by simp) _).drew;clear k0 k1 k2 k3 k4 k5 f0 f1 f2 f3 f4 f5 d0 d1 d2 d3 d4 d5 e0 e1 e2 e3 e4 e5 HB3 X1 X2;generalize (w3.setCell ⟨w.heap.size+1,2,none⟩ (.int .i64 n1)).drew=w4 at *;have HB3:Z _:=HBn.out;have X1:Z (w4.heap[w.heap.size]? =some aS):=y1;have X2:Z _:=y2;obtain⟨k0,k1,k2,k3,k4,k5⟩:=aR y2;obtain⟨f0,f1,f2,f3,f4,f5⟩:=aV y2;obtain⟨d0,d1,d2,d3,d4,d5⟩:=aR y1;obtain⟨e0,e1,e2,e3,e4,e5⟩:=aV y1;clear y1 y2 HBn;go_wp2;rw [E];go_wp2_with (first|(go_at_call 93;refine mw (G1 _) ?_))
  go_region
  have y2:=show (w4.setCell ⟨w.heap.size+1,2,none⟩ (.int .i64 n)).drew.heap[w.heap.size+1]? =_ from sG (v:=.int .i64 n) X2.out
  have y1:(w4.setCell ⟨w.heap.size+1,2,none⟩ (.int .i64 n)).drew.heap[w.heap.size]? =some aS:=(eZ (u:=w4) (k:=2) (v:=.int .i64 n) (g:=w.heap.size+1) (j:=w.heap.size) (by omega)).trans X1.out;have HBn:Z (G w.heap.size w (w4.setCell ⟨w.heap.size+1,2,none⟩ (.int .i64 n)).drew):=(HB3.out.setCell (by simp) _).drew;clear k0 k1 k2 k3 k4 k5 f0 f1 f2 f3 f4 f5 d0 d1 d2 d3 d4 d5 e0 e1 e2 e3 e4 e5 HB3 X1 X2;generalize (w4.setCell ⟨w.heap.size+1,2,none⟩ (.int .i64 n)).drew=w5 at *;have HB3:Z _:=HBn.out;have X1:Z (w5.heap[w.heap.size]? =some aS):=y1;have X2:Z _:=y2;obtain⟨k0,k1,k2,k3,k4,k5⟩:=aR y2;obtain⟨f0,f1,f2,f3,f4,f5⟩:=aV y2;obtain⟨d0,d1,d2,d3,d4,d5⟩:=aR y1;obtain⟨e0,e1,e2,e3,e4,e5⟩:=aV y1;clear y1 y2 HBn;go_wp2;rw [E];go_wp2_with fail
  refine (IN _).mono ?_;rintro e w' ⟨rfl,hw⟩;obtain rfl:=hw.symm;clear hw;cases ok
  ·go_wp2;exact M (bM rfl rfl (iA X1.out) rfl) rfl ⟨rfl,bF HB3.out (I _)⟩
  ·go_wp2;exact M (bM rfl rfl (iA X1.out) rfl) rfl ⟨rfl,bF HB3.out (I _)⟩
end Go.Proofs.YtfedoljlipfhdaaGreatDoor
namespace Go.Proofs.YtfedoljlipfhdaaGreatDoor
open Go.RowKit
theorem aCy {A A1 U V Y:ByteArray} {fc:Bool} {C:Int} {w:R} (hz:0 < A.size) (hA:jZ fc A A1 hz) (h2:2<=A1.size) (h0:0 < A1.size)
  (LT:∀u,CW 91 #[.int .u8 (A1[0].toNat:Nat)] u (.bool J)) (hU:A1.extract 0 1=U) (hV:A1.extract 1 A1.size=V)
  (UP:∀u,CR 142 #[.string U] u (.string Y)) (hY:0 < Y.size) (hy1:65<=(Y[0].toNat:Int)) (hy2:(Y[0].toNat:Int)<=90) (hC:(Y[0].toNat:Int) - 65+1=C)
  (hVz:0 < V.size) (h5:((V[0].toNat:Int)==36)=H) (h1:V.size=2) (hq:0 < V.size) (hq2:1 < V.size) (h48:((V[0].toNat:Int)==48)=H) (G0:∀u,CW 93 #[.int .u8 (V[0].toNat:Nat)] u (.bool J)) (G1:∀u,CW 93 #[.int .u8 (V[1].toNat:Nat)] u (.bool H)) {n1:Int} (b1:48<=(V[0].toNat:Int)) (b2:(V[0].toNat:Int)<=57) (hn1:(V[0].toNat:Int) - 48=n1):
  CR 242 #[.string A] w (.tuple #[gH,.bool H]):=by
 have m1:IntKind.u8.wrap n1=n1:=wrap_u8 (by omega) (by omega);have m2:IntKind.i64.wrap n1=n1:=wrap_i64 (by omega) (by omega);have c1:(0:Int) < A.size:=by omega
 have c3:(1:Int)<=A.size:=by omega
 have c2:¬(A1.size:Int) < 2:=by omega
 have c4:(1:Int)<=A1.size:=by omega
 have c5:(1:Int)<=V.size:=by omega
 have c6:¬(V.size:Int) < 1:=by omega
 have c7:¬(2:Int) < V.size:=by omega
 rcases hA with ⟨rfl,h3,h4⟩ | ⟨rfl,h3,rfl⟩;all_goals
  go_enter Tryz.func242,Tryz.ntmps242;go_wp2_with (go_at_call 91;refine mw (LT _) ?_)
  refine (UP _).mono ?_;rintro e w1 ⟨rfl,hb⟩;obtain⟨z1,z2⟩:=new2 hb;have HB1:Z (G w.heap.size w w1):=rP hb;have Z1:Z (w1.heap[w.heap.size]? =some aS):=z1;have Z2:Z _:=z2;obtain⟨k0,k1,k2,k3,k4,k5⟩:=aR z2;obtain⟨f0,f1,f2,f3,f4,f5⟩:=aV z2;clear hb z1 z2 UP LT;go_wp2;clear k0 k1 k2 k3 k4 k5 f0 f1 f2 f3 f4 f5;have x2:=nL (v:=.int .i64 C) Z2.out;have x1:=(eZ (u:=w1) (k:=3) (v:=.int .i64 C) (g:=w.heap.size+1) (j:=w.heap.size) (by omega)).trans Z1.out;have HB3:Z (G w.heap.size w (w1.setCell ⟨w.heap.size+1,3,none⟩ (.int .i64 C))):=HB1.out.setCell (by simp) _;clear HB1;generalize w1.setCell ⟨w.heap.size+1,3,none⟩ (.int .i64 C)=w3 at *;have X1:Z (w3.heap[w.heap.size]? =some aS):=x1;have X2:Z _:=x2;obtain⟨k0,k1,k2,k3,k4,k5⟩:=aR x2;obtain⟨f0,f1,f2,f3,f4,f5⟩:=aV x2;obtain⟨d0,d1,d2,d3,d4,d5⟩:=aR x1;obtain⟨e0,e1,e2,e3,e4,e5⟩:=aV x1;clear x1 x2 Z1 Z2;refine α 4 ?_;rw [E];go_wp2_with (first|(go_at_call 93;refine mw (G0 _) ?_))
  go_region
  have y2:=show (w3.setCell ⟨w.heap.size+1,2,none⟩ (.int .i64 n1)).drew.heap[w.heap.size+1]? =_ from sG (v:=.int .i64 n1) X2.out
  have y1:(w3.setCell ⟨w.heap.size+1,2,none⟩ (.int .i64 n1)).drew.heap[w.heap.size]? =some aS:=(eZ (u:=w3) (k:=2) (v:=.int .i64 n1) (g:=w.heap.size+1) (j:=w.heap.size) (by omega)).trans X1.out;have HBn:Z (G w.heap.size w (w3.setCell ⟨w.heap.size+1,2,none⟩ (.int .i64 n1)).drew):=(HB3.out.setCell (by simp) _).drew;clear k0 k1 k2 k3 k4 k5 f0 f1 f2 f3 f4 f5 d0 d1 d2 d3 d4 d5 e0 e1 e2 e3 e4 e5 HB3 X1 X2;generalize (w3.setCell ⟨w.heap.size+1,2,none⟩ (.int .i64 n1)).drew=w4 at *;have HB3:Z _:=HBn.out;have X1:Z (w4.heap[w.heap.size]? =some aS):=y1;have X2:Z _:=y2;obtain⟨k0,k1,k2,k3,k4,k5⟩:=aR y2;obtain⟨f0,f1,f2,f3,f4,f5⟩:=aV y2;obtain⟨d0,d1,d2,d3,d4,d5⟩:=aR y1;obtain⟨e0,e1,e2,e3,e4,e5⟩:=aV y1;clear y1 y2 HBn;go_wp2;rw [E];go_wp2_with (first|(go_at_call 93;refine mw (G1 _) ?_))
  exact M (bM rfl rfl (iA X1.out) rfl) rfl ⟨rfl,bF HB3.out (I _)⟩
end Go.Proofs.YtfedoljlipfhdaaGreatDoor
namespace Go.Proofs.YtfedoljlipfhdaaGreatDoor
open Go.RowKit
theorem aCz (l:List UInt8) (hz:0 < (⟨l.toArray⟩:ByteArray).size):jZ (Ad.strip 36 l).1 ⟨l.toArray⟩ ⟨(Ad.strip 36 l).2.toArray⟩ hz:=by
 cases l with
 | nil=>exact absurd hz (by simp [ByteArray.size])
 | cons c r=>
  obtain⟨k1,k2,k3,k4⟩:=qL c r;have e0:(⟨(c:: r).toArray⟩:ByteArray)[0]=c:=rfl;unfold jZ;rw [Ad.dO,e0];rcases eY c 36 with ⟨h1,h2⟩ | ⟨h1,h2⟩
  ·rw [if_pos h1];left;exact⟨rfl,h2,k2⟩
  ·rw [if_neg h1];right;exact⟨rfl,h2,rfl⟩
theorem aIG (a:UInt8) (h:Ad.isD a=J):48<=(a.toNat:Int)/\(a.toNat:Int)<=57:=by unfold Ad.isD at h;simp only [σ,decide_eq_true_eq] at h;omega
theorem gP (l:List UInt8) (hl:l.length<=140737488355328) (w:R):
  CR 242 #[.string ⟨l.toArray⟩] w (.tuple #[nQ (Ad.cellP l),.bool (Ad.cellP l).isSome]):=by
 by_cases hn:l=[]
 ·subst hn;exact aM6 rfl
 have hz:0 < (⟨l.toArray⟩:ByteArray).size:=by
  rw [size_mk];rcases Nat.eq_zero_or_pos l.length with e | e
  ·exact absurd (ζ e) hn
  ·exact e
 have hA:=aCz l hz;unfold Ad.cellP;generalize (Ad.strip 36 l).1=fc at *;cases hs:(Ad.strip 36 l).2 with
 | nil=>
  rw [hs] at hA;exact aCs hz hA (by rw [size_mk];decide)
 | cons c r=>
  rw [hs] at hA;obtain⟨k1,k2,k3,k4⟩:=qL c r;simp only;by_cases hr:r=[]
  ·subst hr;have:Ad.aAl fc c []=none:=by unfold Ad.aAl;rw [if_neg (by simp [Ad.strip,Ad.dR])]
   rw [this];exact aCs hz hA (by rw [size_mk];simp)
  have hrz:0 < (⟨r.toArray⟩:ByteArray).size:=by
   rw [size_mk];rcases Nat.eq_zero_or_pos r.length with e | e
   ·exact absurd (ζ e) hr
   ·exact e
  have h2:2<=(⟨(c:: r).toArray⟩:ByteArray).size:=by rw [size_mk] at hrz ⊢;simp;omega
  unfold Ad.aAl;have LT:=fun u=>jO c u;cases hL:Ad.isL c
  ·rw [hL] at LT;rw [if_neg (by simp)];exact aIB hz hA h2 k4 LT
  rw [hL] at LT;obtain⟨b1,b2,_⟩:=Ad.aAT hL;obtain⟨y1,y2,y3⟩:=aIA c hL;have UP:=fun u=>aK2 c u;have hW:=aCz r hrz;generalize (Ad.strip 36 r).1=fr at *;have no:∀m,¬(1<=Ad.dR m/\Ad.dR m<=64)->(if J=J/\1<=Ad.dR m/\Ad.dR m<=64 then some (⟨Ad.dR m,Ad.kQ c,fr,fc⟩:Ad.Cell) else none)=none:=fun m h=>if_neg fun q=>h q.2;have yes:∀m,(1<=Ad.dR m/\Ad.dR m<=64)->(if J=J/\1<=Ad.dR m/\Ad.dR m<=64 then some (⟨Ad.dR m,Ad.kQ c,fr,fc⟩:Ad.Cell) else none)=some ⟨Ad.dR m,Ad.kQ c,fr,fc⟩:=fun m h=>if_pos ⟨rfl,h⟩;have inF:∀(m:List UInt8) (n:Int),n=(Ad.dR m:Nat)->∀ok,inB n (Ad.kQ c:Nat)=ok->(ok=J->1<=Ad.dR m/\Ad.dR m<=64)/\(ok=H->¬(1<=Ad.dR m/\Ad.dR m<=64)):=fun m n e ok hok=>by
   have:=aA3 n (Ad.kQ c) b1 b2;rw [hok] at this;unfold Ad.rM at this;constructor
   ·intro h;have:=this.1 h;omega
   ·intro h q;have:=this.2 (by omega);rw [h] at this;cases this
  generalize hm:(Ad.strip 36 r).2=m at *
  match m with
  | []=>
   rw [no _ (by simp [Ad.dR])];exact aA4 hz hA h2 k4 LT k1 k2 UP (show 0 < 1 by decide) y1 y2 y3 hrz hW (.inl rfl)
  | x:: y:: z:: q=>
   rw [no _ (by simp [Ad.dR])];exact aA4 hz hA h2 k4 LT k1 k2 UP (show 0 < 1 by decide) y1 y2 y3 hrz hW (.inr (.inl (by rw [size_mk];simp)))
  | [x]=>
   rcases eY x 48 with ⟨e1,e2⟩ | ⟨e1,e2⟩
   ·rw [no _ (by rw [Ad.kR,if_neg (by simp [e1])];omega)];exact aA4 hz hA h2 k4 LT k1 k2 UP (show 0 < 1 by decide) y1 y2 y3 hrz hW (.inr (.inr ⟨show 0 < 1 by decide,show 1<=2 by decide,e2⟩))
   ·have G0:=fun u=>iH x u;cases hd:Ad.isD x
    ·rw [hd] at G0;rw [no _ (by rw [Ad.kR,if_neg (by simp [hd])];omega)];rcases hW with ⟨rfl,h5,h6⟩ | ⟨rfl,h5,h6⟩
     ·exact aCt hz hA h2 k4 LT k1 k2 UP (show 0 < 1 by decide) y1 y2 y3 hrz h5 h6 rfl (show 0 < 1 by decide) e2 G0
     ·obtain rfl:r=[x]:=by simpa using congrArg (fun b:ByteArray=>b.data.toList) h6
      exact aCw hz hA h2 k4 LT k1 k2 UP (show 0 < 1 by decide) y1 y2 y3 hrz h5 rfl (show 0 < 1 by decide) e2 G0
    ·rw [hd] at G0;obtain⟨g1,g2⟩:=aIG x hd;have en:(x.toNat:Int) - 48=(Ad.dR [x]:Nat):=by rw [Ad.kR,if_pos ⟨hd,e1⟩];omega
     have W:∀ok,inB ((Ad.dR [x]:Nat):Int) (Ad.kQ c:Nat)=ok->CR 242 #[.string ⟨l.toArray⟩] w (.tuple #[if ok=J then dL ⟨#[]⟩ ⟨#[]⟩ (Ad.dR [x]:Nat) (Ad.kQ c:Nat) fr fc else gH,.bool ok]):=fun ok hok=>by
      have IN:=fun u=>rO ((Ad.dR [x]:Nat):Int) (Ad.kQ c:Nat) u;rw [hok] at IN;rcases hW with ⟨rfl,h5,h6⟩ | ⟨rfl,h5,h6⟩
      ·exact aIC hz hA h2 k4 LT k1 k2 UP (show 0 < 1 by decide) y1 y2 y3 hrz h5 h6 rfl (show 0 < 1 by decide) e2 G0 g1 g2 en IN
      ·obtain rfl:r=[x]:=by simpa using congrArg (fun b:ByteArray=>b.data.toList) h6
       exact aIE hz hA h2 k4 LT k1 k2 UP (show 0 < 1 by decide) y1 y2 y3 hrz h5 rfl (show 0 < 1 by decide) e2 G0 g1 g2 en IN
     cases hok:inB ((Ad.dR [x]:Nat):Int) (Ad.kQ c:Nat)
     ·rw [no _ ((inF _ _ rfl _ hok).2 rfl)];exact W H hok
     ·rw [yes _ ((inF _ _ rfl _ hok).1 rfl)];exact W J hok
  | [x,y]=>
   rcases eY x 48 with ⟨e1,e2⟩ | ⟨e1,e2⟩
   ·rw [no _ (by rw [Ad.jN,if_neg (by simp [e1])];omega)];exact aA4 hz hA h2 k4 LT k1 k2 UP (show 0 < 1 by decide) y1 y2 y3 hrz hW (.inr (.inr ⟨show 0 < 2 by decide,show 2<=2 by decide,e2⟩))
   ·have G0:=fun u=>iH x u;have G1:=fun u=>iH y u;cases hd:Ad.isD x
    ·rw [hd] at G0;rw [no _ (by rw [Ad.jN,if_neg (by simp [hd])];omega)];rcases hW with ⟨rfl,h5,h6⟩ | ⟨rfl,h5,h6⟩
     ·exact aCu hz hA h2 k4 LT k1 k2 UP (show 0 < 1 by decide) y1 y2 y3 hrz h5 h6 rfl (show 0 < 2 by decide) e2 G0
     ·obtain rfl:r=[x,y]:=by simpa using congrArg (fun b:ByteArray=>b.data.toList) h6
      exact aCx hz hA h2 k4 LT k1 k2 UP (show 0 < 1 by decide) y1 y2 y3 hrz h5 rfl (show 0 < 2 by decide) e2 G0
    ·rw [hd] at G0;obtain⟨g1,g2⟩:=aIG x hd;cases hd2:Ad.isD y
     ·rw [hd2] at G1;rw [no _ (by rw [Ad.jN,if_neg (by simp [hd2])];omega)];rcases hW with ⟨rfl,h5,h6⟩ | ⟨rfl,h5,h6⟩
      ·exact aCv hz hA h2 k4 LT k1 k2 UP (show 0 < 1 by decide) y1 y2 y3 hrz h5 h6 rfl (show 0 < 2 by decide) (show 1 < 2 by decide) e2 G0 G1 g1 g2 rfl
      ·obtain rfl:r=[x,y]:=by simpa using congrArg (fun b:ByteArray=>b.data.toList) h6
       exact aCy hz hA h2 k4 LT k1 k2 UP (show 0 < 1 by decide) y1 y2 y3 hrz h5 rfl (show 0 < 2 by decide) (show 1 < 2 by decide) e2 G0 G1 g1 g2 rfl
     ·rw [hd2] at G1;obtain⟨g3,g4⟩:=aIG y hd2;have en:10 * ((x.toNat:Int) - 48)+((y.toNat:Int) - 48)=(Ad.dR [x,y]:Nat):=by rw [Ad.jN,if_pos ⟨hd,hd2,e1⟩];omega
      have W:∀ok,inB ((Ad.dR [x,y]:Nat):Int) (Ad.kQ c:Nat)=ok->CR 242 #[.string ⟨l.toArray⟩] w (.tuple #[if ok=J then dL ⟨#[]⟩ ⟨#[]⟩ (Ad.dR [x,y]:Nat) (Ad.kQ c:Nat) fr fc else gH,.bool ok]):=fun ok hok=>by
       have IN:=fun u=>rO ((Ad.dR [x,y]:Nat):Int) (Ad.kQ c:Nat) u;rw [hok] at IN;rcases hW with ⟨rfl,h5,h6⟩ | ⟨rfl,h5,h6⟩
       ·exact aID hz hA h2 k4 LT k1 k2 UP (show 0 < 1 by decide) y1 y2 y3 hrz h5 h6 rfl (show 0 < 2 by decide) (show 1 < 2 by decide) e2 G0 G1 g1 g2 g3 g4 rfl rfl rfl en IN
       ·obtain rfl:r=[x,y]:=by simpa using congrArg (fun b:ByteArray=>b.data.toList) h6
        exact aIF hz hA h2 k4 LT k1 k2 UP (show 0 < 1 by decide) y1 y2 y3 hrz h5 rfl (show 0 < 2 by decide) (show 1 < 2 by decide) e2 G0 G1 g1 g2 g3 g4 rfl rfl rfl en IN
      cases hok:inB ((Ad.dR [x,y]:Nat):Int) (Ad.kQ c:Nat)
      ·rw [no _ ((inF _ _ rfl _ hok).2 rfl)];exact W H hok
      ·rw [yes _ ((inF _ _ rfl _ hok).1 rfl)];exact W J hok
def aM7 (o:Option Ad.Ref):ε:=match o with
 | none=>gH
 | some r=>dL ⟨r.book.toArray⟩ ⟨r.fA.toArray⟩ r.cell.row r.cell.col r.cell.fr r.cell.fc
def xH (l:List UInt8):List UInt8 × List UInt8 × Bool:=
 if (Ad.strip 91 l).1=J then ((jW 93 (Ad.strip 91 l).2).1,(jW 93 (Ad.strip 91 l).2).2.1,gnF (jW 93 (Ad.strip 91 l).2).1 && gnF (jW 93 (Ad.strip 91 l).2).2.1) else ([],l,gnF l)
def aFk (l:List UInt8):Option Ad.Ref:=match Ad.at_ 33 l with
 | none=>(Ad.cellP l).map fun c=>⟨[],[],c⟩
 | some p=>if (xH p.1).2.2=J then (Ad.cellP p.2).map fun c=>⟨(xH p.1).1,(xH p.1).2.1,c⟩ else none
theorem aM8:gnF []=H:=rfl
theorem aK3 {l:List UInt8} (h:33 ∈ l):gnF l=H:=by
 cases hg:gnF l
 ·rfl
 ·exact absurd rfl ((aCq l hg).2 33 h).1
theorem aK4 (m:List UInt8):Ad.cellP (91:: m)=none:=rfl
theorem kS {c x:UInt8} {r:List UInt8} (h:x ≠ c):Ad.at_ c (x:: r)=(Ad.at_ c r).map fun p=>(x:: p.1,p.2):=by rw [Ad.at_,if_neg h]
theorem aA5 {c:UInt8}:∀{l m:List UInt8},(∀x ∈ l,x ≠ c)->Ad.at_ c (l++m)=(Ad.at_ c m).map fun p=>(l++p.1,p.2)
 | [],m,_=>by rw [List.nil_append];cases Ad.at_ c m <;> rfl
 | x:: l,m,h=>by rw [ν,kS (h x (List.mem_cons_self ..)),aA5 (l:=l) (m:=m) fun y hy=>h y (ο _ hy)];cases Ad.at_ c m <;> rfl
theorem aK5 (l:List UInt8):aFk l=Ad.lY gnF l:=by
 cases l with
 | nil=>rfl
 | cons x m=>
  by_cases hx:x=91
  ·subst hx;have e1:Ad.lY gnF (91:: m)=match Ad.at_ 93 m with
    | none=>none
    | some (a,r)=>if gnF a=J/\(Ad.at_ 33 r).isSome=J then Ad.jD gnF a r else none:=rfl
   rw [e1];unfold aFk;rw [kS (show (91:UInt8) ≠ 33 by decide)];cases h3:Ad.at_ 33 m with
   | none=>
    simp only [Option.map_none];rw [aK4];cases h9:Ad.at_ 93 m with
    | none=>rfl
    | some p=>
     obtain⟨a,r⟩:=p;have e2:=(Ad.iR h9).1;have:Ad.at_ 33 r=none:=by
      by_cases ha:33 ∈ a
      ·exfalso
       rw [e2] at h3;have key:∀l:List UInt8,(33:UInt8) ∈ l->Ad.at_ 33 l ≠ none:=by
        intro l;induction l with
        | nil=>intro h;cases h
        | cons y q ih=>
         intro h e;unfold Ad.at_ at e;by_cases hy:y=33
         ·rw [if_pos hy] at e;cases e
         ·rw [if_neg hy] at e;rcases List.mem_cons.1 h with h | h
          ·exact hy h.symm
          ·cases hq:Ad.at_ 33 q with
           | none=>exact ih h hq
           | some z=>rw [hq] at e;cases e
       exact key _ (List.mem_append_left _ ha) h3
      ·rw [e2,aA5 (c:=33) (l:=a) (fun y hy e=>ha (by rw [<-e];exact hy)),kS (show (93:UInt8) ≠ 33 by decide)] at h3;cases hr:Ad.at_ 33 r with
       | none=>rfl
       | some z=>rw [hr] at h3;cases h3
     simp only [this];rw [if_neg (by simp)];rfl
   | some p=>
    obtain⟨a',rest⟩:=p;obtain⟨e2,n2⟩:=Ad.iR h3;simp only [Option.map_some];have es:Ad.strip 91 (91:: a')=(J,a'):=Ad.aFZ 91 a';unfold xH;rw [es];simp only [if_true];cases h9:Ad.at_ 93 a' with
    | none=>
     rw [oN h9];simp only [aM8,Bool.and_false,γ,if_false];cases hm:Ad.at_ 93 m with
     | none=>rfl
     | some q=>
      obtain⟨a,r⟩:=q;have h33:33 ∈ a:=by
       rw [e2] at hm;have nA:∀x ∈ a',x ≠ 93:=by
        intro x hx e;subst e;have key:∀l:List UInt8,(93:UInt8) ∈ l->Ad.at_ 93 l ≠ none:=by
         intro l;induction l with
         | nil=>intro h;cases h
         | cons y q ih=>
          intro h e;unfold Ad.at_ at e;by_cases hy:y=93
          ·rw [if_pos hy] at e;cases e
          ·rw [if_neg hy] at e;rcases List.mem_cons.1 h with h | h
           ·exact hy h.symm
           ·cases hq:Ad.at_ 93 q with
            | none=>exact ih h hq
            | some z=>rw [hq] at e;cases e
        exact key _ hx h9
       rw [aA5 nA,kS (show (33:UInt8) ≠ 93 by decide)] at hm;cases hr:Ad.at_ 93 rest with
       | none=>rw [hr] at hm;cases hm
       | some z=>
        rw [hr] at hm;simp only [Option.map_some,Option.some.injEq,Prod.mk.injEq] at hm;rw [<-hm.1];exact List.mem_append_right _ (List.mem_cons_self ..)
      simp only [aK3 h33,γ,false_and,if_false]
    | some q=>
     obtain⟨b,s'⟩:=q;obtain⟨e3,n3⟩:=Ad.iR h9;rw [oO h9];have hm:Ad.at_ 93 m=some (b,s'++33:: rest):=by rw [e2,e3,List.append_assoc,ν];exact Ad.aAU _ n3
     have hs:Ad.at_ 33 (s'++33:: rest)=some (s',rest):=Ad.aAU _ fun y hy=>n2 y (by rw [e3];exact List.mem_append_right _ (ο _ hy));rw [hm];simp only [hs];unfold Ad.jD;simp only [hs];cases gnF b <;> cases gnF s' <;> simp
  ·rw [Ad.wO (by simpa using hx)];unfold aFk Ad.jD;cases h3:Ad.at_ 33 (x:: m) with
   | none=>rfl
   | some p=>
    obtain⟨a,r⟩:=p;obtain⟨e2,n2⟩:=Ad.iR h3;have es:xH a=([],a,gnF a):=by
     unfold xH;have:(Ad.strip 91 a).1=H:=by
      cases a with
      | nil=>rfl
      | cons y q=>
       simp only [ν,List.cons.injEq] at e2;rw [Ad.dO,if_neg (by rw [<-e2.1];exact hx)]
     rw [this];rfl
    simp only [es]
theorem jR {c:UInt8} {l a b:List UInt8} (h:Ad.at_ c l=some (a,b)):a.length+b.length+1=l.length:=by rw [(Ad.iR h).1];simp;omega
def vX (c:UInt8) (l:List UInt8):Int:=match Ad.at_ c l with
 | none=> -1
 | some p=>(p.1.length:Nat)
theorem aK6 {c:UInt8} (s:ByteArray) (k:Nat) (h:k < s.size) (hc:s[k]=c) (hn:∀x ∈ s.data.toList.take k,x ≠ c):vX c s.data.toList=k:=by
 have hl:=aX s;have e:s.data.toList=s.data.toList.take k++c:: s.data.toList.drop (k+1):=by
  rw [<-hc,byte_at s k h (by omega)];have:=List.take_append_drop k s.data.toList
  conv=>lhs;rw [<-this,List.drop_eq_getElem_cons (by omega)]
 unfold vX;rw [e,Ad.aAU _ hn];simp;omega
theorem aM9 {c:UInt8} {l:List UInt8} (hn:∀x ∈ l,x ≠ c):vX c l= -1:=by unfold vX;rw [Ad.aE7 hn]
theorem aIH (s:ByteArray) (c:UInt8) (hs:s.size<=9223372036854775807) (w:R):
  CW 269 #[.string s,.int .u8 (c.toNat:Nat)] w (.int .i64 (vX c s.data.toList)):=by
 have hl:=aX s;generalize hr:vX c s.data.toList=r;have HR:Z (vX c s.data.toList=r):=hr;clear hr;go_enter Tryz.func269,Tryz.ntmps269;go_wp2;go_loop [5] (fun i=>∃k:Nat,k<=s.size/\i=.int .i64 k/\Z (∀x ∈ s.data.toList.take k,x ≠ c)) (fun i=>s.size - (intOf i).toNat)
 case atStart=>exact⟨0,Nat.zero_le _,rfl,by intro x hx;simp at hx⟩
 case round=>
  obtain⟨k,hk,rfl,ha⟩:=hrel;by_cases hlt:k < s.size
  ·rcases eY s[k] c with ⟨h3,h4⟩ | ⟨h3,h4⟩
   ·have HE:Z (r=k):=by show _=_;rw [<-HR.out];exact aK6 s k hlt h3 ha.out
    clear h3;go_wp2;go_ret;exact⟨by rw [HE.out];rfl,rfl⟩
   ·have HA:Z (∀x ∈ s.data.toList.take (k+1),x ≠ c):=by
     intro x hx;rw [jF _ _ (by omega)] at hx;rcases List.mem_append.1 hx with hx | hx
     ·exact ha.out x hx
     ·simp only [List.mem_singleton] at hx;rw [hx,<-byte_at s k hlt (by omega)];exact h3
    clear h3;go_wp2;go_round
    case rel=>exact⟨k+1,by omega,by go_num,HA.out⟩
    case measure=>simp [intOf];omega
  ·have HE:Z (r= -1):=by show _=_;have hh:=ha.out;rw [ξ (by omega)] at hh;rw [<-HR.out];exact aM9 hh
   go_wp2;go_ret;exact⟨by rw [HE.out];rfl,rfl⟩
theorem aII {A A1:ByteArray} {g:Bool} {w:R} (CP:∀u,CW 73 #[.string A,.string ⟨#[91]⟩] u (.tuple #[.string A1,.bool H])) (GN:RC w 76 #[.string A] (.bool g)):
  CR 266 #[.string A] w (.tuple #[.string ⟨#[]⟩,.string A,.bool g]):=by
 have HB0:Z (G w.heap.size w w):=O _ _;go_enter Tryz.func266,Tryz.ntmps266;go_wp2_with (first|(go_at_call 73;refine mw (CP _) ?_) | (go_at_call 76;refine (GN _ HB0.out).mono ?_;rintro e w1 ⟨rfl,hb⟩;have HB1:Z (G w.heap.size w w1):=hb;clear hb))
 go_ret3
 exact⟨rfl,HB1.out⟩
theorem aK7 {A A1 B S:ByteArray} {x g h:Bool} {w:R} (CP:∀u,CW 73 #[.string A,.string ⟨#[91]⟩] u (.tuple #[.string A1,.bool J]))
  (CU:RC w 247 #[.string A1,.string ⟨#[93]⟩] (.tuple #[.string B,.string S,.bool x])) (GB:RC w 76 #[.string B] (.bool g)) (GS:RC w 76 #[.string S] (.bool h)):
  CR 266 #[.string A] w (.tuple #[.string B,.string S,.bool (g && h)]):=by
 have HB0:Z (G w.heap.size w w):=O _ _;cases g
 ·go_enter Tryz.func266,Tryz.ntmps266;go_wp2_with (first|(go_at_call 73;refine mw (CP _) ?_) | (go_at_call 247;refine (CU _ HB0.out).mono ?_;rintro e w1 ⟨rfl,hb⟩;have HB1:Z (G w.heap.size w w1):=hb;clear hb) | (go_at_call_of 76 B;refine (GB _ HB1.out).mono ?_;rintro e w2 ⟨rfl,hb⟩;have HB2:Z (G w.heap.size w w2):=hb;clear hb))
  go_ret3
  exact⟨rfl,HB2.out⟩
 ·go_enter Tryz.func266,Tryz.ntmps266;go_wp2_with (first|(go_at_call 73;refine mw (CP _) ?_) | (go_at_call 247;refine (CU _ HB0.out).mono ?_;rintro e w1 ⟨rfl,hb⟩;have HB1:Z (G w.heap.size w w1):=hb;clear hb) | (go_at_call_of 76 B;refine (GB _ HB1.out).mono ?_;rintro e w2 ⟨rfl,hb⟩;have HB2:Z (G w.heap.size w w2):=hb;clear hb) | (go_at_call_of 76 S;refine (GS _ HB2.out).mono ?_;rintro e w3 ⟨rfl,hb⟩;have HB3:Z (G w.heap.size w w3):=hb;clear hb))
  go_ret3
  exact⟨rfl,HB3.out⟩
theorem qM (l:List UInt8) (hl:l.length<=140737488355328) (w:R) (T:zO w):RC w 76 #[.string ⟨l.toArray⟩] (.bool (gnF l)):=
 RC.of fun u hu=>kI ⟨l.toArray⟩ (by rw [size_mk];omega) u (T.t.below hu)
theorem aCA (c:UInt8) (l:List UInt8):(jW c l).1.length<=l.length/\(jW c l).2.1.length<=l.length:=by
 cases h:Ad.at_ c l with
 | none=>rw [oN h];simp
 | some p=>
  obtain⟨a,b⟩:=p;have:=jR h;rw [oO h];simp only;omega
theorem aD0 (l:List UInt8) (hl:l.length<=140737488355328) (w:R) (T:zO w):
  CR 266 #[.string ⟨l.toArray⟩] w (.tuple #[.string ⟨(xH l).1.toArray⟩,.string ⟨(xH l).2.1.toArray⟩,.bool (xH l).2.2]):=by
 have CP:=fun u=>mD 91 l u;have hs:=Ad.lX 91 l;unfold xH;cases hx:(Ad.strip 91 l).1
 ·rw [hx] at CP;exact aII CP (qM l hl w T)
 ·rw [hx] at CP hs;rw [if_pos rfl];have hl2:=aCA 93 (Ad.strip 91 l).2;have g1:=qM (jW 93 (Ad.strip 91 l).2).1 (by omega) w T;have g2:=qM (jW 93 (Ad.strip 91 l).2).2.1 (by omega) w T;exact aK7 CP (RC.of fun u hu=>wV 93 (Ad.strip 91 l).2 u (by omega)) g1 g2
theorem aIJ {A N X:ByteArray} {o:Option Ad.Cell} {w:R} (CU:RC (w.alloc aS) 247 #[.string A,.string ⟨#[33]⟩] (.tuple #[.string N,.string X,.bool H]))
  (PC:∀u,G w.heap.size w u->CR 233 #[.string A] u (.tuple #[nQ o,.bool o.isSome])):
  CR 232 #[.string A] w (.tuple #[nQ o,.bool o.isSome]):=by
 have HB0:Z (G (w.alloc aS).heap.size (w.alloc aS) (w.alloc aS)):=O _ _;cases o with
 | none=>
  go_enter Tryz.func232,Tryz.ntmps232;go_wp2_with (go_at_call 247;refine (CU _ HB0.out).mono ?_;rintro e w1 ⟨rfl,hb⟩;have HB1:Z (G (w.alloc aS).heap.size (w.alloc aS) w1):=hb;clear hb)
  refine (PC _ (iC HB1.out)).mono ?_;rintro e w2 ⟨rfl,hb⟩;have z1:=(hb.block _ (bA (new1 HB1.out))).trans (new1 HB1.out);have Z1:Z (w2.heap[w.heap.size]? =some aS):=z1;have HB2:Z (G w.heap.size w w2):=aD (iC HB1.out) hb;obtain⟨d0,d1,d2,d3,d4,d5⟩:=aR z1;obtain⟨e0,e1,e2,e3,e4,e5⟩:=aV z1;clear z1 hb;unfold nQ;go_wp2;exact M (bM rfl rfl (iA Z1.out) rfl) rfl ⟨rfl,bF HB2.out (I _)⟩
 | some c=>
  go_enter Tryz.func232,Tryz.ntmps232;go_wp2_with (go_at_call 247;refine (CU _ HB0.out).mono ?_;rintro e w1 ⟨rfl,hb⟩;have HB1:Z (G (w.alloc aS).heap.size (w.alloc aS) w1):=hb;clear hb)
  refine (PC _ (iC HB1.out)).mono ?_;rintro e w2 ⟨rfl,hb⟩;have z1:=(hb.block _ (bA (new1 HB1.out))).trans (new1 HB1.out);have Z1:Z (w2.heap[w.heap.size]? =some aS):=z1;have HB2:Z (G w.heap.size w w2):=aD (iC HB1.out) hb;obtain⟨d0,d1,d2,d3,d4,d5⟩:=aR z1;obtain⟨e0,e1,e2,e3,e4,e5⟩:=aV z1;clear z1 hb;unfold nQ;go_wp2;exact M (bM rfl rfl (iA Z1.out) rfl) rfl ⟨rfl,bF HB2.out (I _)⟩
theorem iE {u:R} {g:Nat} {o:Obj} (h:u.heap[g]? =some o) (p:Obj):(u.alloc p).heap[g]? =some o:=(Below.heap_alloc u p _ (bA h)).trans h
theorem aIK {A N X B S:ByteArray} {g k:Bool} {b s:ByteArray} {r c:Int} {fr fc:Bool} {w:R} (CU:RC (w.alloc aS) 247 #[.string A,.string ⟨#[33]⟩] (.tuple #[.string N,.string X,.bool J]))
  (NM:RC (w.alloc aS) 266 #[.string N] (.tuple #[.string B,.string S,.bool g])) (PC:∀u,G w.heap.size w u->CR 233 #[.string X] u (.tuple #[dL b s r c fr fc,.bool k])) (hk:(g && k)=H):
  CR 232 #[.string A] w (.tuple #[gH,.bool H]):=by
 have HB0:Z (G (w.alloc aS).heap.size (w.alloc aS) (w.alloc aS)):=O _ _;cases g
 all_goals
  try (obtain rfl:k=H:=hk)
  go_enter Tryz.func232,Tryz.ntmps232;go_wp2_with (first|(go_at_call 247;refine (CU _ HB0.out).mono ?_;rintro e w1 ⟨rfl,hb⟩;have HB1:Z (G (w.alloc aS).heap.size (w.alloc aS) w1):=hb;clear hb) | (go_at_call 266;refine (NM _ HB1.out).mono ?_;rintro e w2 ⟨rfl,hb⟩;have HB2:Z (G (w.alloc aS).heap.size (w.alloc aS) w2):=hb;clear hb))
  refine (PC _ (iC HB2.out)).mono ?_;rintro e w3 ⟨rfl,hb⟩;have z1:=(hb.block _ (bA (new1 HB2.out))).trans (new1 HB2.out);have HB3:Z (G w.heap.size w (w3.alloc (dV b s r c fr fc))):=aC (aD (iC HB2.out) hb) _;have Z1:Z ((w3.alloc (dV b s r c fr fc)).heap[w.heap.size]? =some aS):=iE z1 _;obtain⟨d0,d1,d2,d3,d4,d5⟩:=aR Z1.out;obtain⟨e0,e1,e2,e3,e4,e5⟩:=aV Z1.out;clear z1 hb;go_wp2;exact M (bM rfl rfl (iA Z1.out) rfl) rfl ⟨rfl,bF HB3.out (I _)⟩
theorem aNa {A N X B S:ByteArray} {b s:ByteArray} {r c:Int} {fr fc:Bool} {w:R} (CU:RC (w.alloc aS) 247 #[.string A,.string ⟨#[33]⟩] (.tuple #[.string N,.string X,.bool J]))
  (NM:RC (w.alloc aS) 266 #[.string N] (.tuple #[.string B,.string S,.bool J])) (PC:∀u,G w.heap.size w u->CR 233 #[.string X] u (.tuple #[dL b s r c fr fc,.bool J])):
  CR 232 #[.string A] w (.tuple #[dL B S r c fr fc,.bool J]):=by
 have HB0:Z (G (w.alloc aS).heap.size (w.alloc aS) (w.alloc aS)):=O _ _;go_enter Tryz.func232,Tryz.ntmps232;go_wp2_with (first|(go_at_call 247;refine (CU _ HB0.out).mono ?_;rintro e w1 ⟨rfl,hb⟩;have HB1:Z (G (w.alloc aS).heap.size (w.alloc aS) w1):=hb;clear hb) | (go_at_call 266;refine (NM _ HB1.out).mono ?_;rintro e w2 ⟨rfl,hb⟩;have HB2:Z (G (w.alloc aS).heap.size (w.alloc aS) w2):=hb;clear hb))
 refine (PC _ (iC HB2.out)).mono ?_;rintro e w3 ⟨rfl,hb⟩;have z1:=(hb.block _ (bA (new1 HB2.out))).trans (new1 HB2.out);have HB3:Z (G w.heap.size w (w3.alloc (dV B S r c fr fc))):=aC (aD (iC HB2.out) hb) _;have Z1:Z ((w3.alloc (dV B S r c fr fc)).heap[w.heap.size]? =some aS):=iE z1 _;obtain⟨d0,d1,d2,d3,d4,d5⟩:=aR Z1.out;obtain⟨e0,e1,e2,e3,e4,e5⟩:=aV Z1.out;clear z1 hb;go_wp2;exact M (bM rfl rfl (iA Z1.out) rfl) rfl ⟨rfl,bF HB3.out (I _)⟩
theorem aA6 (l:List UInt8) (hl:l.length<=140737488355328) (w:R) (T:zO w):
  CR 232 #[.string ⟨l.toArray⟩] w (.tuple #[aM7 (Ad.lY gnF l),.bool (Ad.lY gnF l).isSome]):=by
 rw [<-aK5];unfold aFk;have CU:RC (w.alloc aS) 247 #[.string ⟨l.toArray⟩,.string ⟨#[33]⟩] _:=RC.of fun u hu=>wV 33 l u (by omega);have T1:zO (w.alloc aS):=T.below (aC (O _ _) _);cases h:Ad.at_ 33 l with
 | none=>
  rw [oN h] at CU;have:=aIJ (o:=Ad.cellP l) CU fun u hu=>lQ l hl u (T.below hu);cases hc:Ad.cellP l with
  | none=>rw [hc] at this;exact this
  | some c=>rw [hc] at this;exact this
 | some p=>
  obtain⟨a,x⟩:=p;have hlen:=jR h;rw [oO h] at CU;have NM:RC (w.alloc aS) 266 #[.string ⟨a.toArray⟩] _:=RC.of fun u hu=>aD0 a (by omega) u (T1.below hu);have PC:=fun u (hu:G w.heap.size w u)=>lQ x (by omega) u (T.below hu);simp only;cases hg:(xH a).2.2
  ·rw [hg] at NM;simp only [γ,if_false];cases hc:Ad.cellP x with
   | none=>rw [hc] at PC;exact aIK CU NM PC rfl
   | some c=>rw [hc] at PC;exact aIK CU NM PC rfl
  ·rw [hg] at NM;simp only [if_true];cases hc:Ad.cellP x with
   | none=>rw [hc] at PC;exact aIK CU NM PC rfl
   | some c=>rw [hc] at PC;exact aNa CU NM PC
abbrev CB (w:R) (f:Nat) (args:Array ε) (r:ε):Prop:=∀u,G w.heap.size w u->Calls η f args u fun e w'=>e=.returned r/\G u.heap.size u w'
abbrev CS (f:Nat) (args:Array ε) (r:ε):Prop:=∀u,Calls η f args u fun e w'=>e=.returned r/\w'=u
section
variable {S B S1 SH S2:ByteArray} {w:R}
theorem aD1 (hz:0 < S.size) (h91:((S[0].toNat:Int)==91)=J) (IX:CS 269 #[.string S,.int .u8 93] (.int .i64 (-1))):
  CR 241 #[.string S] w (.tuple #[gH,.bool H]):=by
 have c1:(0:Int) < S.size:=by omega
 go_enter Tryz.func241,Tryz.ntmps241;go_wp2_with (go_at_call 269;refine mw (IX _) ?_)
 refine M (v:=.tuple #[gH,.bool H]) (by simp [results,Tryz.results241,go_sem]) rfl ?_;refine ⟨rfl, ?_⟩;repeat (first | exact O _ _ | refine Below.drew ?_ | refine aC ?_ _ | refine Below.setCell ?_ (by simp) _)
theorem aD2 {k:Nat} (hz:0 < S.size) (h91:((S[0].toNat:Int)==91)=J) (IX:CS 269 #[.string S,.int .u8 93] (.int .i64 k)) (k1:1<=k) (k2:k<=S.size) (hB:S.extract 1 k=B) (GB:CB w 48 #[.string B] (.bool H)):
  CR 241 #[.string S] w (.tuple #[gH,.bool H]):=by
 have c1:(0:Int) < S.size:=by omega
 have c2:¬(k:Int) < 0:=by omega
 have c3:(1:Int)<=k:=by omega
 have c4:(k:Int)<=S.size:=by omega
 go_enter Tryz.func241,Tryz.ntmps241;go_wp2_with (go_at_call 269;refine mw (IX _) ?_)
 refine (GB _ (aC (O _ _) _)).mono ?_;rintro e w1 ⟨rfl,hb⟩;have z1:=new1 hb;have Z1:Z (w1.heap[w.heap.size]? =some aS):=z1;have HB1:Z (G w.heap.size w w1):=iC hb;obtain⟨d0,d1,d2,d3,d4,d5⟩:=aR z1;obtain⟨e0,e1,e2,e3,e4,e5⟩:=aV z1;clear z1 hb;go_wp2;exact M (bM rfl rfl (iA Z1.out) rfl) rfl ⟨rfl,bF HB1.out (I _)⟩
theorem aD3 {k m:Nat} (hz:0 < S.size) (h91:((S[0].toNat:Int)==91)=J) (IX:CS 269 #[.string S,.int .u8 93] (.int .i64 k)) (k1:1<=k) (k2:k<=S.size) (hm:(k:Int)+1=m) (m2:m<=S.size) (mx:S.size<=9223372036854775807) (hB:S.extract 1 k=B) (hS:S.extract m S.size=S1) (GB:CB w 48 #[.string B] (.bool J)) (IY:CS 269 #[.string S1,.int .u8 33] (.int .i64 (-1))):
  CR 241 #[.string S] w (.tuple #[gH,.bool H]):=by
 have c1:(0:Int) < S.size:=by omega
 have c2:¬(k:Int) < 0:=by omega
 have c3:(1:Int)<=k:=by omega
 have c4:(k:Int)<=S.size:=by omega
 have c5:(0:Int)<=m:=by omega
 have c6:(m:Int)<= ↑S.size:=by omega
 have c7:IntKind.i64.wrap (m:Int)=m:=wrap_i64 (by omega) (by omega);go_enter Tryz.func241,Tryz.ntmps241;go_wp2_with (go_at_call 269;refine mw (IX _) ?_)
 refine (GB _ (aC (O _ _) _)).mono ?_;rintro e w1 ⟨rfl,hb⟩;have Z1:Z (w1.drew.heap[w.heap.size]? =some aS):=new1 hb.drew;have HB1:Z (G w.heap.size w w1.drew):=(iC hb).drew;clear hb IX GB;go_wp2_with fail
 go_region
 generalize w1.drew=v1 at *;obtain⟨d0,d1,d2,d3,d4,d5⟩:=aR Z1.out;obtain⟨e0,e1,e2,e3,e4,e5⟩:=aV Z1.out;go_wp2_with (go_at_call 269;refine mw (IY _) ?_)
 exact M (bM rfl rfl (iA Z1.out) rfl) rfl ⟨rfl,bF HB1.out (I _)⟩
end
section
variable {S B S1 SH S2:ByteArray} {w:R}
theorem aCB {k m:Nat} (hz:0 < S.size) (h91:((S[0].toNat:Int)==91)=J) (IX:CS 269 #[.string S,.int .u8 93] (.int .i64 k)) (k1:1<=k) (k2:k<=S.size) (hm:(k:Int)+1=m) (m2:m<=S.size) (mx:S.size<=9223372036854775807) (hB:S.extract 1 k=B) (hS:S.extract m S.size=S1) (GB:CB w 48 #[.string B] (.bool J)) {j n:Nat} (IY:CS 269 #[.string S1,.int .u8 33] (.int .i64 j)) (j2:j<=S1.size) (hn:(j:Int)+1=n) (n2:n<=S1.size) (nx:S1.size<=9223372036854775807) (hH:S1.extract 0 j=SH) (hX:S1.extract n S1.size=S2) (GS:CB w 48 #[.string SH] (.bool H)):
  CR 241 #[.string S] w (.tuple #[gH,.bool H]):=by
 have f1:¬(j:Int) < 0:=by omega
 have f2:(0:Int)<=j:=by omega
 have f3:(j:Int)<=S1.size:=by omega
 have f4:(0:Int)<=n:=by omega
 have f5:(n:Int)<= ↑S1.size:=by omega
 have f6:IntKind.i64.wrap (n:Int)=n:=wrap_i64 (by omega) (by omega);have c1:(0:Int) < S.size:=by omega
 have c2:¬(k:Int) < 0:=by omega
 have c3:(1:Int)<=k:=by omega
 have c4:(k:Int)<=S.size:=by omega
 have c5:(0:Int)<=m:=by omega
 have c6:(m:Int)<= ↑S.size:=by omega
 have c7:IntKind.i64.wrap (m:Int)=m:=wrap_i64 (by omega) (by omega);go_enter Tryz.func241,Tryz.ntmps241;go_wp2_with (go_at_call 269;refine mw (IX _) ?_)
 refine (GB _ (aC (O _ _) _)).mono ?_;rintro e w1 ⟨rfl,hb⟩;have Z1:Z (w1.drew.heap[w.heap.size]? =some aS):=new1 hb.drew;have HB1:Z (G w.heap.size w w1.drew):=(iC hb).drew;clear hb IX GB;go_wp2_with fail
 go_region
 generalize w1.drew=v1 at *;go_wp2_with (go_at_call 269;refine mw (IY _) ?_)
 refine (GS _ HB1.out).mono ?_;rintro e w3 ⟨rfl,hb⟩;have Z3:Z (w3.heap[w.heap.size]? =some aS):=(hb.block _ (bA Z1.out)).trans Z1.out;have HB3:Z (G w.heap.size w w3):=aD HB1.out hb;clear hb GS;obtain⟨d0,d1,d2,d3,d4,d5⟩:=aR Z3.out;obtain⟨e0,e1,e2,e3,e4,e5⟩:=aV Z3.out;go_wp2;exact M (bM rfl rfl (iA Z3.out) rfl) rfl ⟨rfl,bF HB3.out (I _)⟩
theorem aD4 {k m:Nat} (hz:0 < S.size) (h91:((S[0].toNat:Int)==91)=J) (IX:CS 269 #[.string S,.int .u8 93] (.int .i64 k)) (k1:1<=k) (k2:k<=S.size) (hm:(k:Int)+1=m) (m2:m<=S.size) (mx:S.size<=9223372036854775807) (hB:S.extract 1 k=B) (hS:S.extract m S.size=S1) (GB:CB w 48 #[.string B] (.bool J)) {j n:Nat} (IY:CS 269 #[.string S1,.int .u8 33] (.int .i64 j)) (j2:j<=S1.size) (hn:(j:Int)+1=n) (n2:n<=S1.size) (nx:S1.size<=9223372036854775807) (hH:S1.extract 0 j=SH) (hX:S1.extract n S1.size=S2) (GS:CB w 48 #[.string SH] (.bool J)) {b s:ByteArray} {r c:Int} {fr fc:Bool} (PC:CB w 242 #[.string S2] (.tuple #[dL b s r c fr fc,.bool H])):
  CR 241 #[.string S] w (.tuple #[gH,.bool H]):=by
 have f1:¬(j:Int) < 0:=by omega
 have f2:(0:Int)<=j:=by omega
 have f3:(j:Int)<=S1.size:=by omega
 have f4:(0:Int)<=n:=by omega
 have f5:(n:Int)<= ↑S1.size:=by omega
 have f6:IntKind.i64.wrap (n:Int)=n:=wrap_i64 (by omega) (by omega);have c1:(0:Int) < S.size:=by omega
 have c2:¬(k:Int) < 0:=by omega
 have c3:(1:Int)<=k:=by omega
 have c4:(k:Int)<=S.size:=by omega
 have c5:(0:Int)<=m:=by omega
 have c6:(m:Int)<= ↑S.size:=by omega
 have c7:IntKind.i64.wrap (m:Int)=m:=wrap_i64 (by omega) (by omega);go_enter Tryz.func241,Tryz.ntmps241;go_wp2_with (go_at_call 269;refine mw (IX _) ?_)
 refine (GB _ (aC (O _ _) _)).mono ?_;rintro e w1 ⟨rfl,hb⟩;have Z1:Z (w1.drew.heap[w.heap.size]? =some aS):=new1 hb.drew;have HB1:Z (G w.heap.size w w1.drew):=(iC hb).drew;clear hb IX GB;go_wp2_with fail
 go_region
 generalize w1.drew=v1 at *;go_wp2_with (go_at_call 269;refine mw (IY _) ?_)
 refine (GS _ HB1.out).mono ?_;rintro e w3 ⟨rfl,hb⟩;have Z3:Z (w3.heap[w.heap.size]? =some aS):=(hb.block _ (bA Z1.out)).trans Z1.out;have HB3:Z (G w.heap.size w w3):=aD HB1.out hb;clear hb GS;go_wp2_with fail
 go_region
 have Z3d:Z (w3.drew.heap[w.heap.size]? =some aS):=Z3.out;have xI:Z (G w.heap.size w w3.drew):=HB3.out.drew;clear Z3 HB3;generalize w3.drew=v3 at *;go_wp2_with fail
 refine (PC _ xI.out).mono ?_;rintro e w4 ⟨rfl,hb⟩;have z4:=(hb.block _ (bA Z3d.out)).trans Z3d.out;have HB4:Z (G w.heap.size w (w4.alloc (dV b s r c fr fc))):=aC (aD xI.out hb) _;have Z4:Z ((w4.alloc (dV b s r c fr fc)).heap[w.heap.size]? =some aS):=iE z4 _;obtain⟨d0,d1,d2,d3,d4,d5⟩:=aR Z4.out;obtain⟨e0,e1,e2,e3,e4,e5⟩:=aV Z4.out;clear z4 hb;go_wp2;exact M (bM rfl rfl (iA Z4.out) rfl) rfl ⟨rfl,bF HB4.out (I _)⟩
theorem aCC {k m:Nat} (hz:0 < S.size) (h91:((S[0].toNat:Int)==91)=J) (IX:CS 269 #[.string S,.int .u8 93] (.int .i64 k)) (k1:1<=k) (k2:k<=S.size) (hm:(k:Int)+1=m) (m2:m<=S.size) (mx:S.size<=9223372036854775807) (hB:S.extract 1 k=B) (hS:S.extract m S.size=S1) (GB:CB w 48 #[.string B] (.bool J)) {j n:Nat} (IY:CS 269 #[.string S1,.int .u8 33] (.int .i64 j)) (j2:j<=S1.size) (hn:(j:Int)+1=n) (n2:n<=S1.size) (nx:S1.size<=9223372036854775807) (hH:S1.extract 0 j=SH) (hX:S1.extract n S1.size=S2) (GS:CB w 48 #[.string SH] (.bool J)) {b s:ByteArray} {r c:Int} {fr fc:Bool} (PC:CB w 242 #[.string S2] (.tuple #[dL b s r c fr fc,.bool J])):
  CR 241 #[.string S] w (.tuple #[dL B SH r c fr fc,.bool J]):=by
 have f1:¬(j:Int) < 0:=by omega
 have f2:(0:Int)<=j:=by omega
 have f3:(j:Int)<=S1.size:=by omega
 have f4:(0:Int)<=n:=by omega
 have f5:(n:Int)<= ↑S1.size:=by omega
 have f6:IntKind.i64.wrap (n:Int)=n:=wrap_i64 (by omega) (by omega);have c1:(0:Int) < S.size:=by omega
 have c2:¬(k:Int) < 0:=by omega
 have c3:(1:Int)<=k:=by omega
 have c4:(k:Int)<=S.size:=by omega
 have c5:(0:Int)<=m:=by omega
 have c6:(m:Int)<= ↑S.size:=by omega
 have c7:IntKind.i64.wrap (m:Int)=m:=wrap_i64 (by omega) (by omega);go_enter Tryz.func241,Tryz.ntmps241;go_wp2_with (go_at_call 269;refine mw (IX _) ?_)
 refine (GB _ (aC (O _ _) _)).mono ?_;rintro e w1 ⟨rfl,hb⟩;have Z1:Z (w1.drew.heap[w.heap.size]? =some aS):=new1 hb.drew;have HB1:Z (G w.heap.size w w1.drew):=(iC hb).drew;clear hb IX GB;go_wp2_with fail
 go_region
 generalize w1.drew=v1 at *;go_wp2_with (go_at_call 269;refine mw (IY _) ?_)
 refine (GS _ HB1.out).mono ?_;rintro e w3 ⟨rfl,hb⟩;have Z3:Z (w3.heap[w.heap.size]? =some aS):=(hb.block _ (bA Z1.out)).trans Z1.out;have HB3:Z (G w.heap.size w w3):=aD HB1.out hb;clear hb GS;go_wp2_with fail
 go_region
 have Z3d:Z (w3.drew.heap[w.heap.size]? =some aS):=Z3.out;have xI:Z (G w.heap.size w w3.drew):=HB3.out.drew;clear Z3 HB3;generalize w3.drew=v3 at *;go_wp2_with fail
 refine (PC _ xI.out).mono ?_;rintro e w4 ⟨rfl,hb⟩;have z4:=(hb.block _ (bA Z3d.out)).trans Z3d.out;have HB4:Z (G w.heap.size w (w4.alloc (dV B SH r c fr fc))):=aC (aD xI.out hb) _;have Z4:Z ((w4.alloc (dV B SH r c fr fc)).heap[w.heap.size]? =some aS):=iE z4 _;obtain⟨d0,d1,d2,d3,d4,d5⟩:=aR Z4.out;obtain⟨e0,e1,e2,e3,e4,e5⟩:=aV Z4.out;clear z4 hb;go_wp2;exact M (bM rfl rfl (iA Z4.out) rfl) rfl ⟨rfl,bF HB4.out (I _)⟩
end
section
variable {S B S1 SH S2:ByteArray} {w:R}
theorem aA7 (hq:(S.size=0)\/∃hz:0 < S.size,((S[0].toNat:Int)==91)=H) {j n:Nat} (IY:CS 269 #[.string S,.int .u8 33] (.int .i64 j)) (j2:j<=S.size) (hn:(j:Int)+1=n) (n2:n<=S.size) (nx:S.size<=9223372036854775807) (hH:S.extract 0 j=SH) (hX:S.extract n S.size=S2) (GS:CB w 48 #[.string SH] (.bool H)):
  CR 241 #[.string S] w (.tuple #[gH,.bool H]):=by
 have f1:¬(j:Int) < 0:=by omega
 have f2:(0:Int)<=j:=by omega
 have f3:(j:Int)<=S.size:=by omega
 have f4:(0:Int)<=n:=by omega
 have f5:(n:Int)<= ↑S.size:=by omega
 have f6:IntKind.i64.wrap (n:Int)=n:=wrap_i64 (by omega) (by omega);have hq':(¬(0:Int) < S.size)\/∃hz:0 < S.size,(0:Int) < S.size/\((S[0].toNat:Int)==91)=H:=by
  rcases hq with h | ⟨h,g⟩
  ·exact .inl (by omega)
  ·exact .inr ⟨h,by omega,g⟩
 clear hq;have HB0:Z (G w.heap.size w (w.alloc aS)):=aC (O _ _) _;have Z0:Z ((w.alloc aS).heap[w.heap.size]? =some aS):=θ w _;rcases hq' with h | ⟨hz,h,h'⟩
 ·exfalso
  omega
 ·go_enter Tryz.func241,Tryz.ntmps241;go_wp2_with (go_at_call 269;refine mw (IY _) ?_)
  refine (GS _ HB0.out).mono ?_;rintro e w3 ⟨rfl,hb⟩;have Z3:Z (w3.heap[w.heap.size]? =some aS):=(hb.block _ (bA Z0.out)).trans Z0.out;have HB3:Z (G w.heap.size w w3):=aD HB0.out hb;clear hb GS;obtain⟨d0,d1,d2,d3,d4,d5⟩:=aR Z3.out;obtain⟨e0,e1,e2,e3,e4,e5⟩:=aV Z3.out;go_wp2;exact M (bM rfl rfl (iA Z3.out) rfl) rfl ⟨rfl,bF HB3.out (I _)⟩
theorem aCD (hq:(S.size=0)\/∃hz:0 < S.size,((S[0].toNat:Int)==91)=H) {j n:Nat} (IY:CS 269 #[.string S,.int .u8 33] (.int .i64 j)) (j2:j<=S.size) (hn:(j:Int)+1=n) (n2:n<=S.size) (nx:S.size<=9223372036854775807) (hH:S.extract 0 j=SH) (hX:S.extract n S.size=S2) (GS:CB w 48 #[.string SH] (.bool J)) {b s:ByteArray} {r c:Int} {fr fc:Bool} (PC:CB w 242 #[.string S2] (.tuple #[dL b s r c fr fc,.bool H])):
  CR 241 #[.string S] w (.tuple #[gH,.bool H]):=by
 have f1:¬(j:Int) < 0:=by omega
 have f2:(0:Int)<=j:=by omega
 have f3:(j:Int)<=S.size:=by omega
 have f4:(0:Int)<=n:=by omega
 have f5:(n:Int)<= ↑S.size:=by omega
 have f6:IntKind.i64.wrap (n:Int)=n:=wrap_i64 (by omega) (by omega);have hq':(¬(0:Int) < S.size)\/∃hz:0 < S.size,(0:Int) < S.size/\((S[0].toNat:Int)==91)=H:=by
  rcases hq with h | ⟨h,g⟩
  ·exact .inl (by omega)
  ·exact .inr ⟨h,by omega,g⟩
 clear hq;have HB0:Z (G w.heap.size w (w.alloc aS)):=aC (O _ _) _;have Z0:Z ((w.alloc aS).heap[w.heap.size]? =some aS):=θ w _;rcases hq' with h | ⟨hz,h,h'⟩
 ·exfalso
  omega
 ·go_enter Tryz.func241,Tryz.ntmps241;go_wp2_with (go_at_call 269;refine mw (IY _) ?_)
  refine (GS _ HB0.out).mono ?_;rintro e w3 ⟨rfl,hb⟩;have Z3:Z (w3.heap[w.heap.size]? =some aS):=(hb.block _ (bA Z0.out)).trans Z0.out;have HB3:Z (G w.heap.size w w3):=aD HB0.out hb;clear hb GS;go_wp2_with fail
  go_region
  have Z3d:Z (w3.drew.heap[w.heap.size]? =some aS):=Z3.out;have xI:Z (G w.heap.size w w3.drew):=HB3.out.drew;clear Z3 HB3;generalize w3.drew=v3 at *;go_wp2_with fail
  refine (PC _ xI.out).mono ?_;rintro e w4 ⟨rfl,hb⟩;have z4:=(hb.block _ (bA Z3d.out)).trans Z3d.out;have HB4:Z (G w.heap.size w (w4.alloc (dV b s r c fr fc))):=aC (aD xI.out hb) _;have Z4:Z ((w4.alloc (dV b s r c fr fc)).heap[w.heap.size]? =some aS):=iE z4 _;obtain⟨d0,d1,d2,d3,d4,d5⟩:=aR Z4.out;obtain⟨e0,e1,e2,e3,e4,e5⟩:=aV Z4.out;clear z4 hb;go_wp2;exact M (bM rfl rfl (iA Z4.out) rfl) rfl ⟨rfl,bF HB4.out (I _)⟩
theorem aA8 (hq:(S.size=0)\/∃hz:0 < S.size,((S[0].toNat:Int)==91)=H) {j n:Nat} (IY:CS 269 #[.string S,.int .u8 33] (.int .i64 j)) (j2:j<=S.size) (hn:(j:Int)+1=n) (n2:n<=S.size) (nx:S.size<=9223372036854775807) (hH:S.extract 0 j=SH) (hX:S.extract n S.size=S2) (GS:CB w 48 #[.string SH] (.bool J)) {b s:ByteArray} {r c:Int} {fr fc:Bool} (PC:CB w 242 #[.string S2] (.tuple #[dL b s r c fr fc,.bool J])):
  CR 241 #[.string S] w (.tuple #[dL ⟨#[]⟩ SH r c fr fc,.bool J]):=by
 have f1:¬(j:Int) < 0:=by omega
 have f2:(0:Int)<=j:=by omega
 have f3:(j:Int)<=S.size:=by omega
 have f4:(0:Int)<=n:=by omega
 have f5:(n:Int)<= ↑S.size:=by omega
 have f6:IntKind.i64.wrap (n:Int)=n:=wrap_i64 (by omega) (by omega);have hq':(¬(0:Int) < S.size)\/∃hz:0 < S.size,(0:Int) < S.size/\((S[0].toNat:Int)==91)=H:=by
  rcases hq with h | ⟨h,g⟩
  ·exact .inl (by omega)
  ·exact .inr ⟨h,by omega,g⟩
 clear hq;have HB0:Z (G w.heap.size w (w.alloc aS)):=aC (O _ _) _;have Z0:Z ((w.alloc aS).heap[w.heap.size]? =some aS):=θ w _;rcases hq' with h | ⟨hz,h,h'⟩
 ·exfalso
  omega
 ·go_enter Tryz.func241,Tryz.ntmps241;go_wp2_with (go_at_call 269;refine mw (IY _) ?_)
  refine (GS _ HB0.out).mono ?_;rintro e w3 ⟨rfl,hb⟩;have Z3:Z (w3.heap[w.heap.size]? =some aS):=(hb.block _ (bA Z0.out)).trans Z0.out;have HB3:Z (G w.heap.size w w3):=aD HB0.out hb;clear hb GS;go_wp2_with fail
  go_region
  have Z3d:Z (w3.drew.heap[w.heap.size]? =some aS):=Z3.out;have xI:Z (G w.heap.size w w3.drew):=HB3.out.drew;clear Z3 HB3;generalize w3.drew=v3 at *;go_wp2_with fail
  refine (PC _ xI.out).mono ?_;rintro e w4 ⟨rfl,hb⟩;have z4:=(hb.block _ (bA Z3d.out)).trans Z3d.out;have HB4:Z (G w.heap.size w (w4.alloc (dV ⟨#[]⟩ SH r c fr fc))):=aC (aD xI.out hb) _;have Z4:Z ((w4.alloc (dV ⟨#[]⟩ SH r c fr fc)).heap[w.heap.size]? =some aS):=iE z4 _;obtain⟨d0,d1,d2,d3,d4,d5⟩:=aR Z4.out;obtain⟨e0,e1,e2,e3,e4,e5⟩:=aV Z4.out;clear z4 hb;go_wp2;exact M (bM rfl rfl (iA Z4.out) rfl) rfl ⟨rfl,bF HB4.out (I _)⟩
end
section
variable {S B S1 SH S2:ByteArray} {w:R}
theorem aD5 (hq:(S.size=0)\/∃hz:0 < S.size,((S[0].toNat:Int)==91)=H) (IY:CS 269 #[.string S,.int .u8 33] (.int .i64 (-1))) {b s:ByteArray} {r c:Int} {fr fc:Bool} (PC:CB w 242 #[.string S] (.tuple #[dL b s r c fr fc,.bool H])):
  CR 241 #[.string S] w (.tuple #[gH,.bool H]):=by
 have hq':(¬(0:Int) < S.size)\/∃hz:0 < S.size,(0:Int) < S.size/\((S[0].toNat:Int)==91)=H:=by
  rcases hq with h | ⟨h,g⟩
  ·exact .inl (by omega)
  ·exact .inr ⟨h,by omega,g⟩
 clear hq;have HB0:Z (G w.heap.size w (w.alloc aS)):=aC (O _ _) _;have Z0:Z ((w.alloc aS).heap[w.heap.size]? =some aS):=θ w _;rcases hq' with h | ⟨hz,h,h'⟩
 ·go_enter Tryz.func241,Tryz.ntmps241;go_wp2_with (go_at_call 269;refine mw (IY _) ?_)
  refine (PC _ HB0.out).mono ?_;rintro e w4 ⟨rfl,hb⟩;have z4:=(hb.block _ (bA Z0.out)).trans Z0.out;have HB4:Z (G w.heap.size w (w4.alloc (dV b s r c fr fc))):=aC (aD HB0.out hb) _;have Z4:Z ((w4.alloc (dV b s r c fr fc)).heap[w.heap.size]? =some aS):=iE z4 _;obtain⟨d0,d1,d2,d3,d4,d5⟩:=aR Z4.out;obtain⟨e0,e1,e2,e3,e4,e5⟩:=aV Z4.out;clear z4 hb;go_wp2;exact M (bM rfl rfl (iA Z4.out) rfl) rfl ⟨rfl,bF HB4.out (I _)⟩
 ·go_enter Tryz.func241,Tryz.ntmps241;go_wp2_with (go_at_call 269;refine mw (IY _) ?_)
  refine (PC _ HB0.out).mono ?_;rintro e w4 ⟨rfl,hb⟩;have z4:=(hb.block _ (bA Z0.out)).trans Z0.out;have HB4:Z (G w.heap.size w (w4.alloc (dV b s r c fr fc))):=aC (aD HB0.out hb) _;have Z4:Z ((w4.alloc (dV b s r c fr fc)).heap[w.heap.size]? =some aS):=iE z4 _;obtain⟨d0,d1,d2,d3,d4,d5⟩:=aR Z4.out;obtain⟨e0,e1,e2,e3,e4,e5⟩:=aV Z4.out;clear z4 hb;go_wp2;exact M (bM rfl rfl (iA Z4.out) rfl) rfl ⟨rfl,bF HB4.out (I _)⟩
theorem aCE (hq:(S.size=0)\/∃hz:0 < S.size,((S[0].toNat:Int)==91)=H) (IY:CS 269 #[.string S,.int .u8 33] (.int .i64 (-1))) {b s:ByteArray} {r c:Int} {fr fc:Bool} (PC:CB w 242 #[.string S] (.tuple #[dL b s r c fr fc,.bool J])):
  CR 241 #[.string S] w (.tuple #[dL ⟨#[]⟩ ⟨#[]⟩ r c fr fc,.bool J]):=by
 have hq':(¬(0:Int) < S.size)\/∃hz:0 < S.size,(0:Int) < S.size/\((S[0].toNat:Int)==91)=H:=by
  rcases hq with h | ⟨h,g⟩
  ·exact .inl (by omega)
  ·exact .inr ⟨h,by omega,g⟩
 clear hq;have HB0:Z (G w.heap.size w (w.alloc aS)):=aC (O _ _) _;have Z0:Z ((w.alloc aS).heap[w.heap.size]? =some aS):=θ w _;rcases hq' with h | ⟨hz,h,h'⟩
 ·go_enter Tryz.func241,Tryz.ntmps241;go_wp2_with (go_at_call 269;refine mw (IY _) ?_)
  refine (PC _ HB0.out).mono ?_;rintro e w4 ⟨rfl,hb⟩;have z4:=(hb.block _ (bA Z0.out)).trans Z0.out;have HB4:Z (G w.heap.size w (w4.alloc (dV ⟨#[]⟩ ⟨#[]⟩ r c fr fc))):=aC (aD HB0.out hb) _;have Z4:Z ((w4.alloc (dV ⟨#[]⟩ ⟨#[]⟩ r c fr fc)).heap[w.heap.size]? =some aS):=iE z4 _;obtain⟨d0,d1,d2,d3,d4,d5⟩:=aR Z4.out;obtain⟨e0,e1,e2,e3,e4,e5⟩:=aV Z4.out;clear z4 hb;go_wp2;exact M (bM rfl rfl (iA Z4.out) rfl) rfl ⟨rfl,bF HB4.out (I _)⟩
 ·go_enter Tryz.func241,Tryz.ntmps241;go_wp2_with (go_at_call 269;refine mw (IY _) ?_)
  refine (PC _ HB0.out).mono ?_;rintro e w4 ⟨rfl,hb⟩;have z4:=(hb.block _ (bA Z0.out)).trans Z0.out;have HB4:Z (G w.heap.size w (w4.alloc (dV ⟨#[]⟩ ⟨#[]⟩ r c fr fc))):=aC (aD HB0.out hb) _;have Z4:Z ((w4.alloc (dV ⟨#[]⟩ ⟨#[]⟩ r c fr fc)).heap[w.heap.size]? =some aS):=iE z4 _;obtain⟨d0,d1,d2,d3,d4,d5⟩:=aR Z4.out;obtain⟨e0,e1,e2,e3,e4,e5⟩:=aV Z4.out;clear z4 hb;go_wp2;exact M (bM rfl rfl (iA Z4.out) rfl) rfl ⟨rfl,bF HB4.out (I _)⟩
end
theorem xJ (l:List UInt8) (c:UInt8) (hl:l.length<=140737488355328):CS 269 #[.string ⟨l.toArray⟩,.int .u8 (c.toNat:Nat)] (.int .i64 (vX c l)):=fun u=>aIH ⟨l.toArray⟩ c (by rw [size_mk];omega) u
theorem xK {c:UInt8} {l:List UInt8} (h:Ad.at_ c l=none):vX c l= -1:=by unfold vX;rw [h]
theorem xL {c:UInt8} {l a b:List UInt8} (h:Ad.at_ c l=some (a,b)):vX c l=(a.length:Nat):=by unfold vX;rw [h]
theorem xM (a b:List UInt8) (c:UInt8):(⟨(a++c:: b).toArray⟩:ByteArray).extract 0 a.length=⟨a.toArray⟩/\(⟨(a++c:: b).toArray⟩:ByteArray).extract (a.length+1) (⟨(a++c:: b).toArray⟩:ByteArray).size=⟨b.toArray⟩:=by
 constructor
 ·apply ByteArray.ext;simp
 ·apply ByteArray.ext;rw [size_mk];simp;exact ξ (by omega)
theorem aIL (l:List UInt8) (hl:l.length<=140737488355328) (w:R):CB w 48 #[.string ⟨l.toArray⟩] (.bool (gnF l)):=fun u hu=>iD ⟨l.toArray⟩ (by rw [size_mk];omega) u
theorem pY (l:List UInt8) (hl:l.length<=140737488355328) (w:R):
  CR 241 #[.string ⟨l.toArray⟩] w (.tuple #[aM7 (Ad.lY gnF l),.bool (Ad.lY gnF l).isSome]):=by
 have plain:∀(hq:((⟨l.toArray⟩:ByteArray).size=0)\/∃hz:0 < (⟨l.toArray⟩:ByteArray).size,(((⟨l.toArray⟩:ByteArray)[0].toNat:Int)==91)=H),CR 241 #[.string ⟨l.toArray⟩] w (.tuple #[aM7 (Ad.jD gnF [] l),.bool (Ad.jD gnF [] l).isSome]):=fun hq=>by
  have IY:=xJ l 33 hl;unfold Ad.jD;cases h:Ad.at_ 33 l with
  | none=>
   rw [xK h] at IY;have PC:CB w 242 #[.string ⟨l.toArray⟩] _:=fun u hu=>gP l hl u;simp only;cases hc:Ad.cellP l with
   | none=>rw [hc] at PC;exact aD5 hq IY PC
   | some c=>rw [hc] at PC;exact aCE hq IY PC
  | some p=>
   obtain⟨a,x⟩:=p;have e:=(Ad.iR h).1;have hlen:=jR h;rw [xL h] at IY;obtain⟨x1,x2⟩:=xM a x 33;rw [<-e] at x1 x2;have GS:=aIL a (by omega) w;have PC:CB w 242 #[.string ⟨x.toArray⟩] _:=fun u hu=>gP x (by omega) u;have q1:a.length<=(⟨l.toArray⟩:ByteArray).size:=by rw [size_mk];omega
   have q2:a.length+1<=(⟨l.toArray⟩:ByteArray).size:=by rw [size_mk];omega
   have q3:(⟨l.toArray⟩:ByteArray).size<=9223372036854775807:=by rw [size_mk];omega
   simp only;cases hg:gnF a
   ·rw [hg] at GS;simp only [γ,if_false];exact aA7 hq IY q1 rfl q2 q3 x1 x2 GS
   ·rw [hg] at GS;simp only [if_true];cases hc:Ad.cellP x with
    | none=>rw [hc] at PC;exact aCD hq IY q1 rfl q2 q3 x1 x2 GS PC
    | some c=>rw [hc] at PC;exact aA8 hq IY q1 rfl q2 q3 x1 x2 GS PC
 cases l with
 | nil=>exact plain (.inl rfl)
 | cons c m=>
  have e0:(⟨(c:: m).toArray⟩:ByteArray)[0]'(by rw [size_mk];simp)=c:=rfl;have hz:0 < (⟨(c:: m).toArray⟩:ByteArray).size:=by rw [size_mk];simp
  rcases eY c 91 with ⟨h1,h2⟩ | ⟨h1,h2⟩
  ·subst h1;clear plain;simp only [β] at hl;have IX:=xJ (91:: m) 93 (by simp;omega);have e1:Ad.lY gnF (91:: m)=match Ad.at_ 93 m with
    | none=>none
    | some (a,r)=>if gnF a=J/\(Ad.at_ 33 r).isSome=J then Ad.jD gnF a r else none:=rfl
   rw [e1];have e9:=kS (c:=93) (x:=91) (r:=m) (by decide);cases h9:Ad.at_ 93 m with
   | none=>
    rw [h9] at e9;rw [xK e9] at IX;exact aD1 hz h2 IX
   | some p=>
    obtain⟨a,r⟩:=p;rw [h9] at e9;rw [xL (a:=91:: a) (b:=r) e9] at IX;have e:=(Ad.iR h9).1;have hlen:=jR h9;obtain⟨x1,x2⟩:=xM (91:: a) r 93;have ex:(91:UInt8):: m=(91:: a)++93:: r:=by rw [e];rfl
    rw [<-ex] at x1 x2;have q1:(91:: a).length<=(⟨(91:: m).toArray⟩:ByteArray).size:=by rw [size_mk];simp;omega
    have q2:(91:: a).length+1<=(⟨(91:: m).toArray⟩:ByteArray).size:=by rw [size_mk];simp;omega
    have q3:(⟨(91:: m).toArray⟩:ByteArray).size<=9223372036854775807:=by rw [size_mk];simp;omega
    have hB:(⟨(91:: m).toArray⟩:ByteArray).extract 1 (91:: a).length=⟨a.toArray⟩:=by apply ByteArray.ext;rw [e];simp
    have GB:=aIL a (by omega) w;simp only;cases hg:gnF a
    ·rw [hg] at GB;simp only [γ,false_and,if_false];exact aD2 hz h2 IX (by simp) q1 hB GB
    ·rw [hg] at GB;simp only [true_and];have IY:=xJ r 33 (by omega);cases h3:Ad.at_ 33 r with
     | none=>
      rw [xK h3] at IY;rw [if_neg (by simp)];exact aD3 hz h2 IX (by simp) q1 rfl q2 q3 hB x2 GB IY
     | some p=>
      obtain⟨s,x⟩:=p;rw [if_pos (by simp)];unfold Ad.jD;rw [h3];have e3:=(Ad.iR h3).1;have hlen3:=jR h3;rw [xL h3] at IY;obtain⟨y1,y2⟩:=xM s x 33;rw [<-e3] at y1 y2;have GS:=aIL s (by omega) w;have PC:CB w 242 #[.string ⟨x.toArray⟩] _:=fun u hu=>gP x (by omega) u;have j1:s.length<=(⟨r.toArray⟩:ByteArray).size:=by rw [size_mk];omega
      have j2:s.length+1<=(⟨r.toArray⟩:ByteArray).size:=by rw [size_mk];omega
      have j3:(⟨r.toArray⟩:ByteArray).size<=9223372036854775807:=by rw [size_mk];omega
      simp only;cases hg2:gnF s
      ·rw [hg2] at GS;simp only [γ,if_false];exact aCB hz h2 IX (by simp) q1 rfl q2 q3 hB x2 GB IY j1 rfl j2 j3 y1 y2 GS
      ·rw [hg2] at GS;simp only [if_true];cases hc:Ad.cellP x with
       | none=>rw [hc] at PC;exact aD4 hz h2 IX (by simp) q1 rfl q2 q3 hB x2 GB IY j1 rfl j2 j3 y1 y2 GS PC
       | some c=>rw [hc] at PC;exact aCC hz h2 IX (by simp) q1 rfl q2 q3 hB x2 GB IY j1 rfl j2 j3 y1 y2 GS PC
  ·rw [Ad.wO (by simpa using h1)];exact plain (.inr ⟨hz,h2⟩)
end Go.Proofs.YtfedoljlipfhdaaGreatDoor
namespace Go.Tk
open Go.Ad
def aQ (c:UInt8):Bool:=isL c || isD c || c==95 || c==36
def dB (c:UInt8):Bool:=isD c || c==46
abbrev Tok:=Sum Int (Sum (List UInt8) (Sum Ref (Sum (List UInt8 × List UInt8) (Sum (List UInt8) Nat))))
abbrev Tok.num (n:Int):Tok:=.inl n
abbrev Tok.str (s:List UInt8):Tok:=.inr (.inl s)
abbrev Tok.ref (r:Ref):Tok:=.inr (.inr (.inl r))
abbrev Tok.word (b s:List UInt8):Tok:=.inr (.inr (.inr (.inl (b,s))))
abbrev Tok.op (s:List UInt8):Tok:=.inr (.inr (.inr (.inr (.inl s))))
abbrev Tok.bad (n:Nat):Tok:=.inr (.inr (.inr (.inr (.inr n))))
theorem Tok.cs {motive:Tok->Prop} (num:∀n,motive (Tok.num n)) (str:∀s,motive (Tok.str s)) (ref:∀r,motive (Tok.ref r)) (word:∀b s,motive (Tok.word b s)) (op:∀s,motive (Tok.op s)) (bad:∀n,motive (Tok.bad n)) (t:Tok):motive t:=by
 rcases t with n | s | r | ⟨b,s⟩ | s | n
 ·exact num n
 ·exact str s
 ·exact ref r
 ·exact word b s
 ·exact op s
 ·exact bad n
def cZ:List UInt8->Option (List UInt8 × List UInt8)
 | []=>none
 | [c]=>if c=34 then some ([],[]) else none
 | c:: d:: r=>if c=34 then (if d=34 then (cZ r).map fun p=>(34:: p.1,p.2) else some ([],d:: r)) else (cZ (d:: r)).map fun p=>(c:: p.1,p.2)
def aD6:List UInt8->List UInt8
 | []=> [34]
 | c:: r=>if c=34 then 34:: 34:: aD6 r else c:: aD6 r
def eP:Nat->List UInt8
 | 1=> [35,68,73,86,47,48,33]
 | 2=> [35,86,65,76,85,69,33]
 | 3=> [35,82,69,70,33]
 | 4=> [35,78,65,77,69,63]
 | 5=> [35,78,85,77,33]
 | 6=> [35,78,47,65]
 | 7=> [35,67,89,67,76,69,33]
 | 8=> [35,76,73,78,75,33]
 | _=> []
def pV (l:List UInt8):Option (Tok × List UInt8):=([1,2,3,4,5,6,7,8].find? fun i=>(eP i).isPrefixOf l).map fun i=>(.bad i,l.drop (eP i).length)
def ones:List UInt8:=[43,45,42,47,94,38,61,60,62,37,40,41,44,58]
def two (c d:UInt8):Bool:=(c==60 && d==62) || (c==60 && d==61) || (c==62 && d==61)
def opF:List UInt8->Option (Tok × List UInt8)
 | []=>none
 | [c]=>if c ∈ ones then some (.op [c],[]) else none
 | c:: d:: r=>if two c d=J then some (.op [c,d],r) else if c ∈ ones then some (.op [c],d:: r) else none
section
variable (gn tru:List UInt8->Bool) (pn:List UInt8->Option Int) (wn:Int->List UInt8)
def gQ (b pre l:List UInt8):Option (Tok × List UInt8):=
 match l.dropWhile aQ with
 | 33:: r=>(lY gn (pre++l.takeWhile aQ++33:: r.takeWhile aQ)).map fun x=>(.ref x,r.dropWhile aQ)
 | r=>if b=[] then (match cellP (l.takeWhile aQ) with
   | some c=>some (.ref ⟨[],[],c⟩,r)
   | none=>if gn (l.takeWhile aQ)=J\/tru (l.takeWhile aQ)=J then some (.word [] (l.takeWhile aQ),r) else none)
  else if gn (l.takeWhile aQ)=J then some (.word b (l.takeWhile aQ),r) else none
def named (l:List UInt8):Option (Tok × List UInt8):=
 match l with
 | 91:: m=>match at_ 93 m with
  | none=>none
  | some (a,r)=>if gn a=J then gQ gn tru a (91:: (a++ [93])) r else none
 | l=>gQ gn tru [] [] l
def one (l:List UInt8):Option (Tok × List UInt8):=
 match l with
 | []=>none
 | c:: r=>
  if isD c=J then (pn ((c:: r).takeWhile dB)).map fun n=>(.num n,(c:: r).dropWhile dB)
  else if c=34 then (cZ r).map fun p=>(.str p.1,p.2)
  else if c=35 then pV (c:: r)
  else if c=91\/c=36\/isL c=J then named gn tru (c:: r)
  else opF (c:: r)
def blank (c:UInt8):Bool:=c==32 || c==9
def nR:Nat->List UInt8->Option (List Tok)
 | 0,_=>none
 | _+1,[]=>some []
 | k+1,c:: r=>if blank c=J then nR k r else match one gn tru pn (c:: r) with
  | none=>none
  | some (t,m)=>(nR k m).map (t:: ·)
def text:Tok->List UInt8
 | .inl n=>wn n
 | .inr (.inl s)=>34:: aD6 s
 | .inr (.inr (.inl r))=>aKR r
 | .inr (.inr (.inr (.inl (b,s))))=>if b=[] then s else 91:: (b++93:: s)
 | .inr (.inr (.inr (.inr (.inl s))))=>s
 | .inr (.inr (.inr (.inr (.inr n))))=>eP n
end
theorem aA9:∀(k:Nat) (l s r:List UInt8),l.length<=k->cZ l=some (s,r)->r.length < l.length
 | 0,l,s,r,hk,h=>by have:l=[]:=ζ (by omega);subst this;cases h
 | k+1,[],s,r,hk,h=>by cases h
 | k+1,[c],s,r,hk,h=>by
  unfold cZ at h;split at h
  ·cases h;simp
  ·cases h
 | k+1,c:: d:: l,s,r,hk,h=>by
  unfold cZ at h;simp only [β] at hk ⊢;split at h
  ·split at h
   ·cases hq:cZ l with
    | none=>rw [hq] at h;cases h
    | some p=>
     rw [hq] at h;cases h
     have:=aA9 k l p.1 p.2 (by omega) hq;omega
   ·cases h;simp
  ·cases hq:cZ (d:: l) with
   | none=>rw [hq] at h;cases h
   | some p=>
    rw [hq] at h;cases h
    have:=aA9 k (d:: l) p.1 p.2 (by simp only [β];omega) hq;simp only [β] at this;omega
theorem lD (p:UInt8->Bool):∀l:List UInt8,(l.dropWhile p).length<=l.length
 | []=>I _
 | c:: r=>by
  rw [π];split
  ·have:=lD p r;simp only [β];omega
  ·exact I _
theorem aFl (p:UInt8->Bool) {c:UInt8} {r:List UInt8} (h:p c=J):((c:: r).dropWhile p).length < (c:: r).length:=by rw [π,if_pos h];have:=lD p r;simp only [β];omega
theorem aK8 {l:List UInt8} {t:Tok} {r:List UInt8} (h:pV l=some (t,r)):r.length < l.length:=by
 unfold pV at h;cases hf: [1,2,3,4,5,6,7,8].find? fun i=>(eP i).isPrefixOf l with
 | none=>rw [hf] at h;cases h
 | some i=>
  rw [hf] at h;cases h
  have h1:=List.find?_some hf;have h2:=List.mem_of_find?_eq_some hf;have h3:0 < (eP i).length/\(eP i).length<=l.length:=by have:=List.IsPrefix.length_le (List.isPrefixOf_iff_prefix.1 h1);refine ⟨?_,this⟩;simp only [List.mem_cons,List.not_mem_nil,or_false] at h2;rcases h2 with rfl | rfl | rfl | rfl | rfl | rfl | rfl | rfl <;> decide
  rw [List.length_drop];omega
theorem aNb {l:List UInt8} {t:Tok} {r:List UInt8} (h:opF l=some (t,r)):r.length < l.length:=by
 match l,h with
 | [],h=>cases h
 | [c],h=>
  simp only [opF] at h;split at h
  ·cases h;simp
  ·cases h
 | c:: d:: m,h=>
  simp only [opF] at h;split at h
  ·cases h;simp;omega
  ·split at h
   ·cases h;simp
   ·cases h
theorem wW {gn tru:List UInt8->Bool} {b pre l:List UInt8} {t:Tok} {r:List UInt8} (h:gQ gn tru b pre l=some (t,r)):r.length<=l.length:=by
 have hd:=lD aQ l;unfold gQ at h;split at h
 ·rename_i m hm
  rw [hm] at hd;cases hr:lY gn (pre++l.takeWhile aQ++33:: m.takeWhile aQ) with
  | none=>rw [hr] at h;cases h
  | some x=>
   rw [hr] at h;cases h
   have:=lD aQ m;simp only [β] at hd;omega
 ·split at h
  ·split at h
   ·cases h;exact hd
   ·split at h
    ·cases h;exact hd
    ·cases h
  ·split at h
   ·cases h;exact hd
   ·cases h
structure aP7 (gn tru:List UInt8->Bool) (pn:List UInt8->Option Int) (wn:Int->List UInt8) (okN:Int->Prop):Prop where
 names:Names gn
 first:∀c r,gn (c:: r)=J->isL c=J
 signs:∀l,gn l=J->∀x ∈ l,aQ x=J
 aPc:∀l,gn l=J->cellP l=none
 truth:∀l,tru l=J->l ≠ []/\(∀x ∈ l,isL x=J)/\cellP l=none
 number:∀n,okN n->pn (wn n)=some n/\(∃c r,wn n=c:: r/\isD c=J)/\∀x ∈ wn n,dB x=J
section
variable (gn tru:List UInt8->Bool) (okN:Int->Prop)
def okT:Tok->Prop
 | .inl n=>okN n
 | .inr (.inl _)=>True
 | .inr (.inr (.inl r))=>aMD gn r
 | .inr (.inr (.inr (.inl (b,s))))=>(b=[]/\(gn s=J\/tru s=J))\/(gn b=J/\gn s=J)
 | .inr (.inr (.inr (.inr (.inl s))))=>(∃c,c ∈ ones/\s=[c])\/(∃c d,two c d=J/\s=[c,d])
 | .inr (.inr (.inr (.inr (.inr n))))=>1<=n/\n<=8
end
theorem aK9 {c:UInt8} (h:isL c=J):aQ c=J:=by unfold aQ;rw [h];rfl
theorem aIM {c:UInt8} (h:isL c=J):isD c=H/\c ≠ 34/\c ≠ 35/\c ≠ 91:=by
 unfold isL at h;simp only [Bool.or_eq_true,σ,decide_eq_true_eq] at h;refine ⟨?_, ?_, ?_, ?_⟩
 ·unfold isD;rw [Bool.and_eq_false_iff,decide_eq_false_iff_not,decide_eq_false_iff_not];omega
 ·rintro rfl;revert h;decide
 ·rintro rfl;revert h;decide
 ·rintro rfl;revert h;decide
section
variable {gn tru:List UInt8->Bool} {pn:List UInt8->Option Int} {wn:Int->List UInt8} {okN:Int->Prop}
theorem aAt {c:UInt8} {r:List UInt8} (h:c=36\/isL c=J):one gn tru pn (c:: r)=gQ gn tru [] [] (c:: r):=by
 have hd:isD c=H/\c ≠ 34/\c ≠ 35/\c ≠ 91:=by
  rcases h with rfl | h
  ·decide
  ·exact aIM h
 unfold one;simp only;rw [if_neg (by rw [hd.1];decide),if_neg hd.2.1,if_neg hd.2.2.1,if_pos (.inr h)];unfold named;split
 ·rename_i m he
  simp only [List.cons.injEq] at he;exact absurd he.1 hd.2.2.2
 ·rfl
end
end Go.Tk
namespace Go.Proofs.YtfedoljlipfhdaaGreatDoor
open Go.RowKit
structure TT where
 k:Int
 n:Int
 s:ByteArray
 b:ByteArray
 h:ByteArray
 r:Int
 c:Int
 fr:Bool
 fc:Bool
abbrev tcs (k n:Int) (s b h:ByteArray) (r c:Int) (fr fc:Bool):Array ε:=#[.int .i64 k,.int .i64 n,.string s,.string b,.string h,.int .i64 r,.int .i64 c,.bool fr,.bool fc]
def TT.cs (t:TT):Array ε:=tcs t.k t.n t.s t.b t.h t.r t.c t.fr t.fc
abbrev ba (l:List UInt8):ByteArray:=⟨l.toArray⟩
abbrev noB:ByteArray:=⟨#[]⟩
def tk:Tk.Tok->TT
 | .inl n=>⟨1,n,noB,noB,noB,0,0,H,H⟩
 | .inr (.inl s)=>⟨2,0,ba s,noB,noB,0,0,H,H⟩
 | .inr (.inr (.inl r))=>⟨3,0,noB,ba r.book,ba r.fA,r.cell.row,r.cell.col,r.cell.fr,r.cell.fc⟩
 | .inr (.inr (.inr (.inl (b,s))))=>⟨4,0,ba s,ba b,noB,0,0,H,H⟩
 | .inr (.inr (.inr (.inr (.inl s))))=>⟨5,0,ba s,noB,noB,0,0,H,H⟩
 | .inr (.inr (.inr (.inr (.inr n))))=>⟨6,n,noB,noB,noB,0,0,H,H⟩
abbrev tk0:Array ε:=tcs 0 0 noB noB noB 0 0 H H
theorem nS:(Tryz.prog.info? 156).map (·.size)=some 9:=by kernel_rfl
theorem uM:(Tryz.prog.info? 188).map (·.size)=some 9:=by kernel_rfl
theorem sto {w:R} {g:Nat} {t:ρ} {zs es:Array ε} (hg:w.heap[g]? =some (.cells zs t (0,0))) (hi:(Tryz.prog.info? t).map (·.size)=some es.size) (hz:zs.size=es.size) (h1:es.all (·.oneCell')=J):
  (Instr.storeAt t (pt g) (.agg es)).run η w=.ok () (w.setRow g es):=by
 have hr:=run_storeVar_row (P:=η) w g t t zs es hg hi (by omega) h1;simp only [Instr.storeAt,Instr.sureAddr,μ,κ,ι,hr]
theorem lod {w:R} {g:Nat} {t:ρ} {es:Array ε} {d:TypeDesc} {z:Nat × Nat} (hg:w.heap[g]? =some (.cells es t z)) (hd:(match d with | .struct _ | .array _ _=>J | _=>H)=J) (hu:Tryz.prog.underlying t=some d) (hi:(Tryz.prog.info? t).map (·.size)=some es.size):
  (Instr.loadAt t (pt g)).run η w=.ok (.agg es) w:=by
 have hr:=τ (P:=η) w g t t es z d hg hu (by cases d <;> simp_all) hi;simp only [Instr.loadAt,Instr.sureAddr,μ,κ,ι,hr]
theorem aK (w:R) (g:Nat) (es:Array ε):w.grownBy (w.setRow g es) (some g):=
 ⟨rfl,rfl,rfl,by simp [World.setRow],fun i _ hi=>setRow_other w g i es (fun e=>hi (by rw [e]))⟩
theorem aB {P:Program} {ops:Array Oper} {rest:List Oper} {o:Oper} {a:Act} {w:R} {Q:Exit->Act->R->Prop} (hgd:o.guard=none) (ty:ρ) (x:Operand) (ho:o.op=.load ty x)
  (p v:ε) (hx:a.eval x=p) (hrun:(Instr.loadAt ty p).run P w=.ok v w) (h:υ P ops Q rest (a.put o.dst v) w):υ P ops Q (o:: rest) a w:=by
 refine wpList_plain hgd fun K hK=> ?_;unfold Oper.wp execOp;simp only [ho,hx,μ,κ,hrun,ι];exact hK _ _ h
theorem aA {P:Program} {ops:Array Oper} {rest:List Oper} {o:Oper} {a:Act} {w:R} {Q:Exit->Act->R->Prop} (hgd:o.guard=none) (ty:ρ) (x y:Operand) (ho:o.op=.store ty x y)
  (p v:ε) (w':R) (hx:a.eval x=p) (hy:a.eval y=v) (hrun:(Instr.storeAt ty p v).run P w=.ok () w') (h:υ P ops Q rest (a.put o.dst undef) w'):υ P ops Q (o:: rest) a w:=by
 refine wpList_plain hgd fun K hK=> ?_;unfold Oper.wp execOp;simp only [ho,hx,hy,μ,κ,hrun,ι];exact hK _ _ h
theorem kJ {fn:Func} {p u:Tmp} {ty:ρ} (h:fn.results=#[.cell p ty,.tmp u]) {tmps:Array ε} {w:R} {g:Nat} {t:ρ} {cs:Array ε} {fr:Nat × Nat} {d:TypeDesc} {v2:ε}
  (hp:tmps.getD p undef=pt g) (hg:w.heap[g]? =some (.cells cs t fr))
  (hd:(match d with | .struct _ | .array _ _=>J | _=>H)=J) (hu:Tryz.prog.underlying ty=some d) (hi:(Tryz.prog.info? ty).map (·.size)=some cs.size) (hv:tmps.getD u undef=v2):
  (results fn tmps).run η w=.ok (.tuple #[.agg cs,v2]) w:=by
 rw [results_cell_tmp h,hp,hv];simp [asAddr,τ w g t ty cs fr d hg hu (by cases d <;> simp_all) hi,Result.andThen]
abbrev sH:ε:=.func (.func 149) #[] #[]
abbrev aN6 (l:List UInt8):Obj:=.cells #[.string (ba l),sH] 184
structure dS (w:R):Prop where
 t:zO w
 ops:∀i (h:i < 17),w.cell? ⟨0,i,none⟩=some (.string (ba ((([[60,62],[60,61],[62,61],[43],[45],[42],[47],[94],[38],[61],[60],[62],[37],[40],[41],[44],[58]]:List (List UInt8))[i]'h))))
 m:∃m,w.cell? ⟨2,0,none⟩=some (.int .i64 m)
theorem iU {w w':R} (hb:G w.heap.size w w') {a:Addr} {v:ε} (h:w.cell? a=some v):w'.cell? a=some v:=
 (World.cell?_of_block (hb.block _ (World.block_lt_of_cell? w a h))).trans h
theorem dS.below {w w':R} (h:dS w) (hb:G w.heap.size w w'):dS w':=
 ⟨h.t.below hb,fun i hi=>iU hb (h.ops i hi),h.m.imp fun m hm=>iU hb hm⟩
structure LX (W:R) (b:Nat) (l:List UInt8) (w:R):Prop where
 tab:dS W
 bel:G W.heap.size W w
 lo:W.heap.size<=b
 blk:w.heap[b]? =some (aN6 l)
theorem LX.lt {W w:R} {b:Nat} {l:List UInt8} (h:LX W b l w):b < w.heap.size:=bA h.blk
theorem LX.t {W w:R} {b:Nat} {l:List UInt8} (h:LX W b l w):dS w:=h.tab.below h.bel
theorem LX.cells {W w:R} {b:Nat} {l:List UInt8} (h:LX W b l w):w.cell? ⟨b,0,none⟩=some (.string (ba l))/\w.cell? ⟨b,1,none⟩=some sH/\w.frozen? ⟨b,0,none⟩=H:=by simp [World.cell?,World.frozen?,h.blk]
theorem LX.grown {W w w':R} {b:Nat} {l:List UInt8} (h:LX W b l w) {row:Option Nat} (hg:w.grownBy w' row) (hr:∀k,row=some k->W.heap.size<=k/\k ≠ b):LX W b l w':=
 ⟨h.tab,h.bel.grown hg h.bel.size (fun k hk=>(hr k hk).1),h.lo,(hg.block b h.lt (fun e=>(hr b e.symm).2 rfl)).trans h.blk⟩
theorem LX.below {W w w':R} {b:Nat} {l:List UInt8} (h:LX W b l w) (hb:G w.heap.size w w'):LX W b l w':=
 ⟨h.tab,aD h.bel (hb),h.lo,(hb.block b h.lt).trans h.blk⟩
theorem LX.alloc {W w:R} {b:Nat} {l:List UInt8} (h:LX W b l w) (o:Obj):LX W b l (w.alloc o):=h.below (aC (O _ _) o)
theorem LX.drew {W w:R} {b:Nat} {l:List UInt8} (h:LX W b l w):LX W b l w.drew:=⟨h.tab,h.bel.drew,h.lo,h.blk⟩
theorem LX.set {W w:R} {b:Nat} {l:List UInt8} (h:LX W b l w) (m:List UInt8):LX W b m (w.setCell ⟨b,0,none⟩ (.string (ba m))):=
 ⟨h.tab,h.bel.setCell h.lo _,h.lo,by simp [World.setCell,Array.getElem?_modify,h.blk]⟩
theorem bH {w w':R} {row:Option Nat} (h:G w.heap.size w w'):w.grownBy w' row:=⟨h.os,h.tape,h.output,h.size,fun i hi _=>h.block i hi⟩
theorem aG {a w w':R} {row:Option Nat} (h:a.grownBy w row) (k:w.grownBy w' row):a.grownBy w' row:=World.grownBy.trans h k
def St (W:R) (b:Nat) (l:List UInt8) (w w':R):Prop:=LX W b l w'/\w.grownBy w' (some b)
theorem St.refl {W w:R} {b:Nat} {l:List UInt8} (h:LX W b l w):St W b l w w:=⟨h,World.grownBy.refl _ _⟩
theorem St.step {W w w1 w2:R} {b:Nat} {l m:List UInt8} (h:St W b l w w1) (k:St W b m w1 w2):St W b m w w2:=⟨k.1,aG h.2 k.2⟩
theorem St.bel {W w w1 w2:R} {b:Nat} {l:List UInt8} (h:St W b l w w1) (hb:G w1.heap.size w1 w2):St W b l w w2:=⟨h.1.below hb,aG h.2 (bH hb)⟩
theorem St.alloc {W w w1:R} {b:Nat} {l:List UInt8} (h:St W b l w w1) (o:Obj):St W b l w (w1.alloc o):=h.bel (aC (O _ _) o)
theorem St.drew {W w w1:R} {b:Nat} {l:List UInt8} (h:St W b l w w1):St W b l w w1.drew:=⟨h.1.drew,aG h.2 ⟨rfl,rfl,rfl,I _,fun _ _ _=>rfl⟩⟩
theorem St.set {W w w1:R} {b:Nat} {l:List UInt8} (h:St W b l w w1) (m:List UInt8):St W b m w (w1.setCell ⟨b,0,none⟩ (.string (ba m))):=⟨h.1.set m,aG h.2 (Lib.grownBy_setCell _ _ _ _)⟩
theorem St.grown {W w w1 w2:R} {b g:Nat} {l:List UInt8} (h:St W b l w w1) (hg:w1.grownBy w2 (some g)) (h1:w.heap.size<=g) (h2:b < w.heap.size):St W b l w w2:=
 ⟨h.1.grown hg (fun k hk=>by cases hk;exact⟨by have:=h.1.lo;omega,by omega⟩),World.grownBy.andThen h.2 hg (fun j hj=>by cases hj;exact .inl h1)⟩
theorem St.kept {W w w1:R} {b:Nat} {l:List UInt8} (h:St W b l w w1) {i:Nat} {o:Obj} (hi:w.heap[i]? =some o) (hb:i ≠ b):w1.heap[i]? =some o:=
 (h.2.block i (bA hi) (fun e=>hb (Option.some.inj e))).trans hi
structure aGp (f:Nat) (p:UInt8->Bool) (hi:Bool):Prop where
 low:∀(c:UInt8) (u:R),c.toNat < 128->Calls η f #[.int .i32 (c.toNat:Nat)] u fun e w'=>e=.returned (.bool (p c))/\w'=u
 high:∀(r:Nat) (u:R),128<=r->Calls η f #[.int .i32 (r:Nat)] u fun e w'=>e=.returned (.bool hi)/\w'=u
 byte:∀c:UInt8,128<=c.toNat->p c=hi
theorem qN (n:Nat) (w:R):CW 187 #[.int .i32 (n:Nat)] w (.bool (decide (48<=n) && decide (n<=57))):=by go_enter Tryz.func187,Tryz.ntmps187;go_wp2;all_goals (go_ret;refine ⟨eX ?_,rfl⟩;rw [δ];simp;omega)
theorem vO (n:Nat) (w:R):CW 191 #[.int .i32 (n:Nat)] w (.bool ((decide (65<=n) && decide (n<=90)) || (decide (97<=n) && decide (n<=122)))):=by go_enter Tryz.func191,Tryz.ntmps191;go_wp2;all_goals (go_ret;refine ⟨eX ?_,rfl⟩;rw [δ];simp;omega)
theorem xO (n:Nat) (w:R):CW 195 #[.int .i32 (n:Nat)] w (.bool (decide (n=32) || decide (n=9))):=by go_enter Tryz.func195,Tryz.ntmps195;go_wp2;all_goals (go_ret;refine ⟨eX ?_,rfl⟩;rw [δ];simp;omega)
theorem xP (n:Nat) (w:R):CW 229 #[.int .i32 (n:Nat)] w (.bool (!decide (n=34))):=by go_enter Tryz.func229,Tryz.ntmps229;go_wp2;all_goals (go_ret;refine ⟨eX ?_,rfl⟩;rw [δ];simp;omega)
theorem xQ (n:Nat) (w:R):CW 227 #[.int .i32 (n:Nat)] w (.bool ((decide (48<=n) && decide (n<=57)) || decide (n=46))):=by
 have D:=fun u=>qN n u;cases h:(decide (48<=n) && decide (n<=57))
 all_goals
  rw [h] at D;go_enter Tryz.func227,Tryz.ntmps227;go_wp2_with (go_at_call 187;refine mw (D _) ?_)
  all_goals (go_ret;refine ⟨eX ?_,rfl⟩;rw [δ];simp;try omega)
theorem aCF (n:Nat) (w:R):CW 231 #[.int .i32 (n:Nat)] w (.bool ((((decide (65<=n) && decide (n<=90)) || (decide (97<=n) && decide (n<=122))) || (decide (48<=n) && decide (n<=57))) || decide (n=95) || decide (n=36))):=by
 have L:=fun u=>vO n u;have D:=fun u=>qN n u;cases h:((decide (65<=n) && decide (n<=90)) || (decide (97<=n) && decide (n<=122))) <;> cases k:(decide (48<=n) && decide (n<=57))
 all_goals
  rw [h] at L;rw [k] at D;go_enter Tryz.func231,Tryz.ntmps231;go_wp2_with (first|(go_at_call 187;refine mw (D _) ?_) | (go_at_call 191;refine mw (L _) ?_))
  all_goals (go_ret;refine ⟨eX ?_,rfl⟩;rw [δ];simp;try omega)
theorem lF (c:UInt8) (d:UInt8):(c==d)=decide (c.toNat=d.toNat):=by rw [δ];simp [<-UInt8.toNat_inj]
theorem aD7:aGp 195 Tk.blank H:=⟨fun c u _=>by have:=xO c.toNat u;rw [show (decide (c.toNat=32) || decide (c.toNat=9))=Tk.blank c by unfold Tk.blank;rw [lF,lF];rfl] at this;exact this,
 fun r u h=>by have:=xO r u;rw [show (decide (r=32) || decide (r=9))=H by simp;omega] at this;exact this,
 fun c h=>by unfold Tk.blank;rw [lF,lF];simp;omega⟩
theorem aD8:aGp 227 Tk.dB H:=⟨fun c u _=>by have:=xQ c.toNat u;rw [show ((decide (48<=c.toNat) && decide (c.toNat<=57)) || decide (c.toNat=46))=Tk.dB c by unfold Tk.dB Ad.isD;rw [lF];rfl] at this;exact this,
 fun r u h=>by have:=xQ r u;rw [show ((decide (48<=r) && decide (r<=57)) || decide (r=46))=H by simp;omega] at this;exact this,
 fun c h=>by unfold Tk.dB Ad.isD;rw [lF];simp;omega⟩
theorem aD9:aGp 229 (fun c=> !(c==34)) J:=⟨fun c u _=>by have:=xP c.toNat u;rw [show (!decide (c.toNat=34))= !(c==34) by rw [lF];rfl] at this;exact this,
 fun r u h=>by have:=xP r u;rw [show (!decide (r=34))=J by simp;omega] at this;exact this,
 fun c h=>by rw [lF];simp;omega⟩
theorem aCG:aGp 231 Tk.aQ H:=⟨fun c u _=>by have:=aCF c.toNat u;rw [show ((((decide (65<=c.toNat) && decide (c.toNat<=90)) || (decide (97<=c.toNat) && decide (c.toNat<=122))) || (decide (48<=c.toNat) && decide (c.toNat<=57))) || decide (c.toNat=95) || decide (c.toNat=36))=Tk.aQ c by unfold Tk.aQ Ad.isD Ad.isL;rw [lF,lF,Bool.or_comm (decide (65<=c.toNat) && decide (c.toNat<=90))];rfl] at this;exact this,
 fun r u h=>by have:=aCF r u;rw [show ((((decide (65<=r) && decide (r<=90)) || (decide (97<=r) && decide (r<=122))) || (decide (48<=r) && decide (r<=57))) || decide (r=95) || decide (r=36))=H by simp;omega] at this;exact this,
 fun c h=>by unfold Tk.aQ Ad.isD Ad.isL;rw [lF,lF];simp;omega⟩
end Go.Proofs.YtfedoljlipfhdaaGreatDoor
