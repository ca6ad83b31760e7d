/- ARParseDt, ARParseDf, ARParse2, ARefP, ARIndex, AParseRef, ARParseRef, ARParseRefB, ARParseRefP. -/
import Derived.Test.YtlhoklhjbpkgpaaGreatDoorARParseBPu
set_option linter.unusedVariables false
set_option linter.unusedSimpArgs false
set_option maxHeartbeats 16000000
set_option maxRecDepth 100000
namespace Go.Proofs.YtlhoklhjbpkgpaaGreatDoor
open Go.RowKit
theorem aCh {A A1 U V Y A2:ByteArray} {fc:Bool} {C:Int} {w:World} (hz:0 < A.size) (hA:jY fc A A1 hz) (h2:2<=A1.size) (h0:0 < A1.size)
  (LT:∀u,CW 91 #[.int .u8 (A1[0].toNat:Nat)] u (.bool true)) (hU:A1.extract 0 1=U) (hV:A1.extract 1 A1.size=V)
  (UP:∀u,CR 142 #[.string U] u (.string Y)) (hY:0 < Y.size) (hy1:65<=(Y[0].toNat:Int)) (hy2:(Y[0].toNat:Int)<=90) (hC:(Y[0].toNat:Int) - 65+1=C)
  (hVz:0 < V.size) (h5:((V[0].toNat:Int)==36)=true) (h6:V.extract 1 V.size=A2) (h1:A2.size=1) (hq:0 < A2.size) (h48:((A2[0].toNat:Int)==48)=false) (G0:∀u,CW 93 #[.int .u8 (A2[0].toNat:Nat)] u (.bool false)):
  CR 242 #[.string A] w (.tuple #[gD,.bool false]):=by
 have c1:(0:Int) < A.size:=by omega
 have c3:(1:Int)<=A.size:=by omega
 have c2:¬(A1.size:Int) < 2:=by omega
 have c4:(1:Int)<=A1.size:=by omega
 have c5:(1:Int)<=V.size:=by omega
 have c6:¬(A2.size:Int) < 1:=by omega
 have c7:¬(2:Int) < A2.size:=by omega
 rcases hA with ⟨rfl,h3,h4⟩ | ⟨rfl,h3,rfl⟩;all_goals
  go_enter Tryz.func242,Tryz.ntmps242;go_wp2_with (go_at_call 91;refine mw (LT _) ?_)
  refine (UP _).mono ?_;rintro e w1 ⟨rfl,hb⟩;obtain⟨z1,z2⟩:=new2 hb;have HB1:Hid (Below w.heap.size w w1):=rU hb;have Z1:Hid (w1.heap[w.heap.size]? =some aT):=z1;have Z2:Hid _:=z2;obtain⟨k0,k1,k2,k3,k4,k5⟩:=aS z2;obtain⟨f0,f1,f2,f3,f4,f5⟩:=aW z2;clear hb z1 z2 UP LT;go_wp2;clear k0 k1 k2 k3 k4 k5 f0 f1 f2 f3 f4 f5;have x2:=xW (v:=.bool true) (nR (v:=.int .i64 C) Z2.out);have x1:=(eH (u:=w1.setCell ⟨w.heap.size+1,3,none⟩ (.int .i64 C)) (k:=4) (v:=.bool true) (g:=w.heap.size+1) (j:=w.heap.size) (by omega)).trans ((eH (by omega)).trans Z1.out);have HB3:Hid (Below w.heap.size w ((w1.setCell ⟨w.heap.size+1,3,none⟩ (.int .i64 C)).setCell ⟨w.heap.size+1,4,none⟩ (.bool true))):=(HB1.out.setCell (by simp) _).setCell (by simp) _;clear HB1;generalize (w1.setCell ⟨w.heap.size+1,3,none⟩ (.int .i64 C)).setCell ⟨w.heap.size+1,4,none⟩ (.bool true)=w3 at *;have X1:Hid (w3.heap[w.heap.size]? =some aT):=x1;have X2:Hid _:=x2;obtain⟨k0,k1,k2,k3,k4,k5⟩:=aS x2;obtain⟨f0,f1,f2,f3,f4,f5⟩:=aW x2;obtain⟨d0,d1,d2,d3,d4,d5⟩:=aS x1;obtain⟨e0,e1,e2,e3,e4,e5⟩:=aW x1;clear x1 x2 Z1 Z2;refine wp_loop_rounds 4 ?_;rw [rounds_succ];go_wp2_with (first|(go_at_call 93;refine mw (G0 _) ?_))
  exact bodyPost_ret (bF rfl rfl (gT X1.out) rfl) rfl ⟨rfl,bB HB3.out (Nat.le_refl _)⟩
theorem aCi {A A1 U V Y A2:ByteArray} {fc:Bool} {C:Int} {w:World} (hz:0 < A.size) (hA:jY fc A A1 hz) (h2:2<=A1.size) (h0:0 < A1.size)
  (LT:∀u,CW 91 #[.int .u8 (A1[0].toNat:Nat)] u (.bool true)) (hU:A1.extract 0 1=U) (hV:A1.extract 1 A1.size=V)
  (UP:∀u,CR 142 #[.string U] u (.string Y)) (hY:0 < Y.size) (hy1:65<=(Y[0].toNat:Int)) (hy2:(Y[0].toNat:Int)<=90) (hC:(Y[0].toNat:Int) - 65+1=C)
  (hVz:0 < V.size) (h5:((V[0].toNat:Int)==36)=true) (h6:V.extract 1 V.size=A2) (h1:A2.size=2) (hq:0 < A2.size) (h48:((A2[0].toNat:Int)==48)=false) (G0:∀u,CW 93 #[.int .u8 (A2[0].toNat:Nat)] u (.bool false)):
  CR 242 #[.string A] w (.tuple #[gD,.bool false]):=by
 have c1:(0:Int) < A.size:=by omega
 have c3:(1:Int)<=A.size:=by omega
 have c2:¬(A1.size:Int) < 2:=by omega
 have c4:(1:Int)<=A1.size:=by omega
 have c5:(1:Int)<=V.size:=by omega
 have c6:¬(A2.size:Int) < 1:=by omega
 have c7:¬(2:Int) < A2.size:=by omega
 rcases hA with ⟨rfl,h3,h4⟩ | ⟨rfl,h3,rfl⟩;all_goals
  go_enter Tryz.func242,Tryz.ntmps242;go_wp2_with (go_at_call 91;refine mw (LT _) ?_)
  refine (UP _).mono ?_;rintro e w1 ⟨rfl,hb⟩;obtain⟨z1,z2⟩:=new2 hb;have HB1:Hid (Below w.heap.size w w1):=rU hb;have Z1:Hid (w1.heap[w.heap.size]? =some aT):=z1;have Z2:Hid _:=z2;obtain⟨k0,k1,k2,k3,k4,k5⟩:=aS z2;obtain⟨f0,f1,f2,f3,f4,f5⟩:=aW z2;clear hb z1 z2 UP LT;go_wp2;clear k0 k1 k2 k3 k4 k5 f0 f1 f2 f3 f4 f5;have x2:=xW (v:=.bool true) (nR (v:=.int .i64 C) Z2.out);have x1:=(eH (u:=w1.setCell ⟨w.heap.size+1,3,none⟩ (.int .i64 C)) (k:=4) (v:=.bool true) (g:=w.heap.size+1) (j:=w.heap.size) (by omega)).trans ((eH (by omega)).trans Z1.out);have HB3:Hid (Below w.heap.size w ((w1.setCell ⟨w.heap.size+1,3,none⟩ (.int .i64 C)).setCell ⟨w.heap.size+1,4,none⟩ (.bool true))):=(HB1.out.setCell (by simp) _).setCell (by simp) _;clear HB1;generalize (w1.setCell ⟨w.heap.size+1,3,none⟩ (.int .i64 C)).setCell ⟨w.heap.size+1,4,none⟩ (.bool true)=w3 at *;have X1:Hid (w3.heap[w.heap.size]? =some aT):=x1;have X2:Hid _:=x2;obtain⟨k0,k1,k2,k3,k4,k5⟩:=aS x2;obtain⟨f0,f1,f2,f3,f4,f5⟩:=aW x2;obtain⟨d0,d1,d2,d3,d4,d5⟩:=aS x1;obtain⟨e0,e1,e2,e3,e4,e5⟩:=aW x1;clear x1 x2 Z1 Z2;refine wp_loop_rounds 4 ?_;rw [rounds_succ];go_wp2_with (first|(go_at_call 93;refine mw (G0 _) ?_))
  exact bodyPost_ret (bF rfl rfl (gT X1.out) rfl) rfl ⟨rfl,bB HB3.out (Nat.le_refl _)⟩
end Go.Proofs.YtlhoklhjbpkgpaaGreatDoor
namespace Go.Proofs.YtlhoklhjbpkgpaaGreatDoor
open Go.RowKit
theorem aIg {A A1 U V Y A2:ByteArray} {fc:Bool} {C:Int} {w:World} (hz:0 < A.size) (hA:jY fc A A1 hz) (h2:2<=A1.size) (h0:0 < A1.size)
  (LT:∀u,CW 91 #[.int .u8 (A1[0].toNat:Nat)] u (.bool true)) (hU:A1.extract 0 1=U) (hV:A1.extract 1 A1.size=V)
  (UP:∀u,CR 142 #[.string U] u (.string Y)) (hY:0 < Y.size) (hy1:65<=(Y[0].toNat:Int)) (hy2:(Y[0].toNat:Int)<=90) (hC:(Y[0].toNat:Int) - 65+1=C)
  (hVz:0 < V.size) (h5:((V[0].toNat:Int)==36)=true) (h6:V.extract 1 V.size=A2) (h1:A2.size=1) (hq:0 < A2.size) (h48:((A2[0].toNat:Int)==48)=false) (G0:∀u,CW 93 #[.int .u8 (A2[0].toNat:Nat)] u (.bool true)) {n:Int} (b1:48<=(A2[0].toNat:Int)) (b2:(A2[0].toNat:Int)<=57) (hn:(A2[0].toNat:Int) - 48=n) {ok:Bool}
  (IN:∀u,CW 145 #[.int .i64 n,.int .i64 C] u (.bool ok)):
  CR 242 #[.string A] w (.tuple #[if ok=true then dB ⟨#[]⟩ ⟨#[]⟩ n C true fc else gD,.bool ok]):=by
 have m1:IntKind.u8.wrap n=n:=wrap_u8 (by omega) (by omega);have m2:IntKind.i64.wrap n=n:=wrap_i64 (by omega) (by omega);have c1:(0:Int) < A.size:=by omega
 have c3:(1:Int)<=A.size:=by omega
 have c2:¬(A1.size:Int) < 2:=by omega
 have c4:(1:Int)<=A1.size:=by omega
 have c5:(1:Int)<=V.size:=by omega
 have c6:¬(A2.size:Int) < 1:=by omega
 have c7:¬(2:Int) < A2.size:=by omega
 rcases hA with ⟨rfl,h3,h4⟩ | ⟨rfl,h3,rfl⟩;all_goals
  go_enter Tryz.func242,Tryz.ntmps242;go_wp2_with (go_at_call 91;refine mw (LT _) ?_)
  refine (UP _).mono ?_;rintro e w1 ⟨rfl,hb⟩;obtain⟨z1,z2⟩:=new2 hb;have HB1:Hid (Below w.heap.size w w1):=rU hb;have Z1:Hid (w1.heap[w.heap.size]? =some aT):=z1;have Z2:Hid _:=z2;obtain⟨k0,k1,k2,k3,k4,k5⟩:=aS z2;obtain⟨f0,f1,f2,f3,f4,f5⟩:=aW z2;clear hb z1 z2 UP LT;go_wp2;clear k0 k1 k2 k3 k4 k5 f0 f1 f2 f3 f4 f5;have x2:=xW (v:=.bool true) (nR (v:=.int .i64 C) Z2.out);have x1:=(eH (u:=w1.setCell ⟨w.heap.size+1,3,none⟩ (.int .i64 C)) (k:=4) (v:=.bool true) (g:=w.heap.size+1) (j:=w.heap.size) (by omega)).trans ((eH (by omega)).trans Z1.out);have HB3:Hid (Below w.heap.size w ((w1.setCell ⟨w.heap.size+1,3,none⟩ (.int .i64 C)).setCell ⟨w.heap.size+1,4,none⟩ (.bool true))):=(HB1.out.setCell (by simp) _).setCell (by simp) _;clear HB1;generalize (w1.setCell ⟨w.heap.size+1,3,none⟩ (.int .i64 C)).setCell ⟨w.heap.size+1,4,none⟩ (.bool true)=w3 at *;have X1:Hid (w3.heap[w.heap.size]? =some aT):=x1;have X2:Hid _:=x2;obtain⟨k0,k1,k2,k3,k4,k5⟩:=aS x2;obtain⟨f0,f1,f2,f3,f4,f5⟩:=aW x2;obtain⟨d0,d1,d2,d3,d4,d5⟩:=aS x1;obtain⟨e0,e1,e2,e3,e4,e5⟩:=aW x1;clear x1 x2 Z1 Z2;refine wp_loop_rounds 4 ?_;rw [rounds_succ];go_wp2_with (first|(go_at_call 93;refine mw (G0 _) ?_))
  go_region
  have y2:=show (w3.setCell ⟨w.heap.size+1,2,none⟩ (.int .i64 n)).drew.heap[w.heap.size+1]? =_ from sK (v:=.int .i64 n) X2.out
  have y1:(w3.setCell ⟨w.heap.size+1,2,none⟩ (.int .i64 n)).drew.heap[w.heap.size]? =some aT:=(eH (u:=w3) (k:=2) (v:=.int .i64 n) (g:=w.heap.size+1) (j:=w.heap.size) (by omega)).trans X1.out;have HBn:Hid (Below w.heap.size w (w3.setCell ⟨w.heap.size+1,2,none⟩ (.int .i64 n)).drew):=(HB3.out.setCell (by simp) _).drew;clear k0 k1 k2 k3 k4 k5 f0 f1 f2 f3 f4 f5 d0 d1 d2 d3 d4 d5 e0 e1 e2 e3 e4 e5 HB3 X1 X2;generalize (w3.setCell ⟨w.heap.size+1,2,none⟩ (.int .i64 n)).drew=w4 at *;have HB3:Hid _:=HBn.out;have X1:Hid (w4.heap[w.heap.size]? =some aT):=y1;have X2:Hid _:=y2;obtain⟨k0,k1,k2,k3,k4,k5⟩:=aS y2;obtain⟨f0,f1,f2,f3,f4,f5⟩:=aW y2;obtain⟨d0,d1,d2,d3,d4,d5⟩:=aS y1;obtain⟨e0,e1,e2,e3,e4,e5⟩:=aW y1;clear y1 y2 HBn;go_wp2;rw [rounds_succ];go_wp2_with fail
  refine (IN _).mono ?_;rintro e w' ⟨rfl,hw⟩;obtain rfl:=hw.symm;clear hw;cases ok
  ·go_wp2;exact bodyPost_ret (bF rfl rfl (gT X1.out) rfl) rfl ⟨rfl,bB HB3.out (Nat.le_refl _)⟩
  ·go_wp2;exact bodyPost_ret (bF rfl rfl (gT X1.out) rfl) rfl ⟨rfl,bB HB3.out (Nat.le_refl _)⟩
end Go.Proofs.YtlhoklhjbpkgpaaGreatDoor
namespace Go.Proofs.YtlhoklhjbpkgpaaGreatDoor
open Go.RowKit
theorem aIh {A A1 U V Y A2:ByteArray} {fc:Bool} {C:Int} {w:World} (hz:0 < A.size) (hA:jY fc A A1 hz) (h2:2<=A1.size) (h0:0 < A1.size)
  (LT:∀u,CW 91 #[.int .u8 (A1[0].toNat:Nat)] u (.bool true)) (hU:A1.extract 0 1=U) (hV:A1.extract 1 A1.size=V)
  (UP:∀u,CR 142 #[.string U] u (.string Y)) (hY:0 < Y.size) (hy1:65<=(Y[0].toNat:Int)) (hy2:(Y[0].toNat:Int)<=90) (hC:(Y[0].toNat:Int) - 65+1=C)
  (hVz:0 < V.size) (h5:((V[0].toNat:Int)==36)=true) (h6:V.extract 1 V.size=A2) (h1:A2.size=2) (hq:0 < A2.size) (hq2:1 < A2.size) (h48:((A2[0].toNat:Int)==48)=false) (G0:∀u,CW 93 #[.int .u8 (A2[0].toNat:Nat)] u (.bool true)) (G1:∀u,CW 93 #[.int .u8 (A2[1].toNat:Nat)] u (.bool true)) {n1 n2 m n:Int} (b1:48<=(A2[0].toNat:Int)) (b2:(A2[0].toNat:Int)<=57) (b3:48<=(A2[1].toNat:Int)) (b4:(A2[1].toNat:Int)<=57) (hn1:(A2[0].toNat:Int) - 48=n1) (hn2:(A2[1].toNat:Int) - 48=n2) (hm:10 * n1=m) (hn:m+n2=n) {ok:Bool}
  (IN:∀u,CW 145 #[.int .i64 n,.int .i64 C] u (.bool ok)):
  CR 242 #[.string A] w (.tuple #[if ok=true then dB ⟨#[]⟩ ⟨#[]⟩ n C true fc else gD,.bool ok]):=by
 have m1:IntKind.u8.wrap n1=n1:=wrap_u8 (by omega) (by omega);have m2:IntKind.i64.wrap n1=n1:=wrap_i64 (by omega) (by omega);have m3:IntKind.u8.wrap n2=n2:=wrap_u8 (by omega) (by omega);have m4:IntKind.i64.wrap n2=n2:=wrap_i64 (by omega) (by omega);have m5:IntKind.i64.wrap m=m:=wrap_i64 (by omega) (by omega);have m6:IntKind.i64.wrap n=n:=wrap_i64 (by omega) (by omega);have c1:(0:Int) < A.size:=by omega
 have c3:(1:Int)<=A.size:=by omega
 have c2:¬(A1.size:Int) < 2:=by omega
 have c4:(1:Int)<=A1.size:=by omega
 have c5:(1:Int)<=V.size:=by omega
 have c6:¬(A2.size:Int) < 1:=by omega
 have c7:¬(2:Int) < A2.size:=by omega
 rcases hA with ⟨rfl,h3,h4⟩ | ⟨rfl,h3,rfl⟩;all_goals
  go_enter Tryz.func242,Tryz.ntmps242;go_wp2_with (go_at_call 91;refine mw (LT _) ?_)
  refine (UP _).mono ?_;rintro e w1 ⟨rfl,hb⟩;obtain⟨z1,z2⟩:=new2 hb;have HB1:Hid (Below w.heap.size w w1):=rU hb;have Z1:Hid (w1.heap[w.heap.size]? =some aT):=z1;have Z2:Hid _:=z2;obtain⟨k0,k1,k2,k3,k4,k5⟩:=aS z2;obtain⟨f0,f1,f2,f3,f4,f5⟩:=aW z2;clear hb z1 z2 UP LT;go_wp2;clear k0 k1 k2 k3 k4 k5 f0 f1 f2 f3 f4 f5;have x2:=xW (v:=.bool true) (nR (v:=.int .i64 C) Z2.out);have x1:=(eH (u:=w1.setCell ⟨w.heap.size+1,3,none⟩ (.int .i64 C)) (k:=4) (v:=.bool true) (g:=w.heap.size+1) (j:=w.heap.size) (by omega)).trans ((eH (by omega)).trans Z1.out);have HB3:Hid (Below w.heap.size w ((w1.setCell ⟨w.heap.size+1,3,none⟩ (.int .i64 C)).setCell ⟨w.heap.size+1,4,none⟩ (.bool true))):=(HB1.out.setCell (by simp) _).setCell (by simp) _;clear HB1;generalize (w1.setCell ⟨w.heap.size+1,3,none⟩ (.int .i64 C)).setCell ⟨w.heap.size+1,4,none⟩ (.bool true)=w3 at *;have X1:Hid (w3.heap[w.heap.size]? =some aT):=x1;have X2:Hid _:=x2;obtain⟨k0,k1,k2,k3,k4,k5⟩:=aS x2;obtain⟨f0,f1,f2,f3,f4,f5⟩:=aW x2;obtain⟨d0,d1,d2,d3,d4,d5⟩:=aS x1;obtain⟨e0,e1,e2,e3,e4,e5⟩:=aW x1;clear x1 x2 Z1 Z2;refine wp_loop_rounds 4 ?_;rw [rounds_succ];go_wp2_with (first|(go_at_call 93;refine mw (G0 _) ?_))
  go_region
  have y2:=show (w3.setCell ⟨w.heap.size+1,2,none⟩ (.int .i64 n1)).drew.heap[w.heap.size+1]? =_ from sK (v:=.int .i64 n1) X2.out
  have y1:(w3.setCell ⟨w.heap.size+1,2,none⟩ (.int .i64 n1)).drew.heap[w.heap.size]? =some aT:=(eH (u:=w3) (k:=2) (v:=.int .i64 n1) (g:=w.heap.size+1) (j:=w.heap.size) (by omega)).trans X1.out;have HBn:Hid (Below w.heap.size w (w3.setCell ⟨w.heap.size+1,2,none⟩ (.int .i64 n1)).drew):=(HB3.out.setCell (by simp) _).drew;clear k0 k1 k2 k3 k4 k5 f0 f1 f2 f3 f4 f5 d0 d1 d2 d3 d4 d5 e0 e1 e2 e3 e4 e5 HB3 X1 X2;generalize (w3.setCell ⟨w.heap.size+1,2,none⟩ (.int .i64 n1)).drew=w4 at *;have HB3:Hid _:=HBn.out;have X1:Hid (w4.heap[w.heap.size]? =some aT):=y1;have X2:Hid _:=y2;obtain⟨k0,k1,k2,k3,k4,k5⟩:=aS y2;obtain⟨f0,f1,f2,f3,f4,f5⟩:=aW y2;obtain⟨d0,d1,d2,d3,d4,d5⟩:=aS y1;obtain⟨e0,e1,e2,e3,e4,e5⟩:=aW y1;clear y1 y2 HBn;go_wp2;rw [rounds_succ];go_wp2_with (first|(go_at_call 93;refine mw (G1 _) ?_))
  go_region
  have y2:=show (w4.setCell ⟨w.heap.size+1,2,none⟩ (.int .i64 n)).drew.heap[w.heap.size+1]? =_ from sK (v:=.int .i64 n) X2.out
  have y1:(w4.setCell ⟨w.heap.size+1,2,none⟩ (.int .i64 n)).drew.heap[w.heap.size]? =some aT:=(eH (u:=w4) (k:=2) (v:=.int .i64 n) (g:=w.heap.size+1) (j:=w.heap.size) (by omega)).trans X1.out;have HBn:Hid (Below w.heap.size w (w4.setCell ⟨w.heap.size+1,2,none⟩ (.int .i64 n)).drew):=(HB3.out.setCell (by simp) _).drew;clear k0 k1 k2 k3 k4 k5 f0 f1 f2 f3 f4 f5 d0 d1 d2 d3 d4 d5 e0 e1 e2 e3 e4 e5 HB3 X1 X2;generalize (w4.setCell ⟨w.heap.size+1,2,none⟩ (.int .i64 n)).drew=w5 at *;have HB3:Hid _:=HBn.out;have X1:Hid (w5.heap[w.heap.size]? =some aT):=y1;have X2:Hid _:=y2;obtain⟨k0,k1,k2,k3,k4,k5⟩:=aS y2;obtain⟨f0,f1,f2,f3,f4,f5⟩:=aW y2;obtain⟨d0,d1,d2,d3,d4,d5⟩:=aS y1;obtain⟨e0,e1,e2,e3,e4,e5⟩:=aW y1;clear y1 y2 HBn;go_wp2;rw [rounds_succ];go_wp2_with fail
  refine (IN _).mono ?_;rintro e w' ⟨rfl,hw⟩;obtain rfl:=hw.symm;clear hw;cases ok
  ·go_wp2;exact bodyPost_ret (bF rfl rfl (gT X1.out) rfl) rfl ⟨rfl,bB HB3.out (Nat.le_refl _)⟩
  ·go_wp2;exact bodyPost_ret (bF rfl rfl (gT X1.out) rfl) rfl ⟨rfl,bB HB3.out (Nat.le_refl _)⟩
end Go.Proofs.YtlhoklhjbpkgpaaGreatDoor
namespace Go.Proofs.YtlhoklhjbpkgpaaGreatDoor
open Go.RowKit
theorem aCj {A A1 U V Y A2:ByteArray} {fc:Bool} {C:Int} {w:World} (hz:0 < A.size) (hA:jY fc A A1 hz) (h2:2<=A1.size) (h0:0 < A1.size)
  (LT:∀u,CW 91 #[.int .u8 (A1[0].toNat:Nat)] u (.bool true)) (hU:A1.extract 0 1=U) (hV:A1.extract 1 A1.size=V)
  (UP:∀u,CR 142 #[.string U] u (.string Y)) (hY:0 < Y.size) (hy1:65<=(Y[0].toNat:Int)) (hy2:(Y[0].toNat:Int)<=90) (hC:(Y[0].toNat:Int) - 65+1=C)
  (hVz:0 < V.size) (h5:((V[0].toNat:Int)==36)=true) (h6:V.extract 1 V.size=A2) (h1:A2.size=2) (hq:0 < A2.size) (hq2:1 < A2.size) (h48:((A2[0].toNat:Int)==48)=false) (G0:∀u,CW 93 #[.int .u8 (A2[0].toNat:Nat)] u (.bool true)) (G1:∀u,CW 93 #[.int .u8 (A2[1].toNat:Nat)] u (.bool false)) {n1:Int} (b1:48<=(A2[0].toNat:Int)) (b2:(A2[0].toNat:Int)<=57) (hn1:(A2[0].toNat:Int) - 48=n1):
  CR 242 #[.string A] w (.tuple #[gD,.bool false]):=by
 have m1:IntKind.u8.wrap n1=n1:=wrap_u8 (by omega) (by omega);have m2:IntKind.i64.wrap n1=n1:=wrap_i64 (by omega) (by omega);have c1:(0:Int) < A.size:=by omega
 have c3:(1:Int)<=A.size:=by omega
 have c2:¬(A1.size:Int) < 2:=by omega
 have c4:(1:Int)<=A1.size:=by omega
 have c5:(1:Int)<=V.size:=by omega
 have c6:¬(A2.size:Int) < 1:=by omega
 have c7:¬(2:Int) < A2.size:=by omega
 rcases hA with ⟨rfl,h3,h4⟩ | ⟨rfl,h3,rfl⟩;all_goals
  go_enter Tryz.func242,Tryz.ntmps242;go_wp2_with (go_at_call 91;refine mw (LT _) ?_)
  refine (UP _).mono ?_;rintro e w1 ⟨rfl,hb⟩;obtain⟨z1,z2⟩:=new2 hb;have HB1:Hid (Below w.heap.size w w1):=rU hb;have Z1:Hid (w1.heap[w.heap.size]? =some aT):=z1;have Z2:Hid _:=z2;obtain⟨k0,k1,k2,k3,k4,k5⟩:=aS z2;obtain⟨f0,f1,f2,f3,f4,f5⟩:=aW z2;clear hb z1 z2 UP LT;go_wp2;clear k0 k1 k2 k3 k4 k5 f0 f1 f2 f3 f4 f5;have x2:=xW (v:=.bool true) (nR (v:=.int .i64 C) Z2.out);have x1:=(eH (u:=w1.setCell ⟨w.heap.size+1,3,none⟩ (.int .i64 C)) (k:=4) (v:=.bool true) (g:=w.heap.size+1) (j:=w.heap.size) (by omega)).trans ((eH (by omega)).trans Z1.out);have HB3:Hid (Below w.heap.size w ((w1.setCell ⟨w.heap.size+1,3,none⟩ (.int .i64 C)).setCell ⟨w.heap.size+1,4,none⟩ (.bool true))):=(HB1.out.setCell (by simp) _).setCell (by simp) _;clear HB1;generalize (w1.setCell ⟨w.heap.size+1,3,none⟩ (.int .i64 C)).setCell ⟨w.heap.size+1,4,none⟩ (.bool true)=w3 at *;have X1:Hid (w3.heap[w.heap.size]? =some aT):=x1;have X2:Hid _:=x2;obtain⟨k0,k1,k2,k3,k4,k5⟩:=aS x2;obtain⟨f0,f1,f2,f3,f4,f5⟩:=aW x2;obtain⟨d0,d1,d2,d3,d4,d5⟩:=aS x1;obtain⟨e0,e1,e2,e3,e4,e5⟩:=aW x1;clear x1 x2 Z1 Z2;refine wp_loop_rounds 4 ?_;rw [rounds_succ];go_wp2_with (first|(go_at_call 93;refine mw (G0 _) ?_))
  go_region
  have y2:=show (w3.setCell ⟨w.heap.size+1,2,none⟩ (.int .i64 n1)).drew.heap[w.heap.size+1]? =_ from sK (v:=.int .i64 n1) X2.out
  have y1:(w3.setCell ⟨w.heap.size+1,2,none⟩ (.int .i64 n1)).drew.heap[w.heap.size]? =some aT:=(eH (u:=w3) (k:=2) (v:=.int .i64 n1) (g:=w.heap.size+1) (j:=w.heap.size) (by omega)).trans X1.out;have HBn:Hid (Below w.heap.size w (w3.setCell ⟨w.heap.size+1,2,none⟩ (.int .i64 n1)).drew):=(HB3.out.setCell (by simp) _).drew;clear k0 k1 k2 k3 k4 k5 f0 f1 f2 f3 f4 f5 d0 d1 d2 d3 d4 d5 e0 e1 e2 e3 e4 e5 HB3 X1 X2;generalize (w3.setCell ⟨w.heap.size+1,2,none⟩ (.int .i64 n1)).drew=w4 at *;have HB3:Hid _:=HBn.out;have X1:Hid (w4.heap[w.heap.size]? =some aT):=y1;have X2:Hid _:=y2;obtain⟨k0,k1,k2,k3,k4,k5⟩:=aS y2;obtain⟨f0,f1,f2,f3,f4,f5⟩:=aW y2;obtain⟨d0,d1,d2,d3,d4,d5⟩:=aS y1;obtain⟨e0,e1,e2,e3,e4,e5⟩:=aW y1;clear y1 y2 HBn;go_wp2;rw [rounds_succ];go_wp2_with (first|(go_at_call 93;refine mw (G1 _) ?_))
  exact bodyPost_ret (bF rfl rfl (gT X1.out) rfl) rfl ⟨rfl,bB HB3.out (Nat.le_refl _)⟩
end Go.Proofs.YtlhoklhjbpkgpaaGreatDoor
namespace Go.Proofs.YtlhoklhjbpkgpaaGreatDoor
open Go.RowKit
theorem aCk {A A1 U V Y:ByteArray} {fc:Bool} {C:Int} {w:World} (hz:0 < A.size) (hA:jY fc A A1 hz) (h2:2<=A1.size) (h0:0 < A1.size)
  (LT:∀u,CW 91 #[.int .u8 (A1[0].toNat:Nat)] u (.bool true)) (hU:A1.extract 0 1=U) (hV:A1.extract 1 A1.size=V)
  (UP:∀u,CR 142 #[.string U] u (.string Y)) (hY:0 < Y.size) (hy1:65<=(Y[0].toNat:Int)) (hy2:(Y[0].toNat:Int)<=90) (hC:(Y[0].toNat:Int) - 65+1=C)
  (hVz:0 < V.size) (h5:((V[0].toNat:Int)==36)=false) (h1:V.size=1) (hq:0 < V.size) (h48:((V[0].toNat:Int)==48)=false) (G0:∀u,CW 93 #[.int .u8 (V[0].toNat:Nat)] u (.bool false)):
  CR 242 #[.string A] w (.tuple #[gD,.bool false]):=by
 have c1:(0:Int) < A.size:=by omega
 have c3:(1:Int)<=A.size:=by omega
 have c2:¬(A1.size:Int) < 2:=by omega
 have c4:(1:Int)<=A1.size:=by omega
 have c5:(1:Int)<=V.size:=by omega
 have c6:¬(V.size:Int) < 1:=by omega
 have c7:¬(2:Int) < V.size:=by omega
 rcases hA with ⟨rfl,h3,h4⟩ | ⟨rfl,h3,rfl⟩;all_goals
  go_enter Tryz.func242,Tryz.ntmps242;go_wp2_with (go_at_call 91;refine mw (LT _) ?_)
  refine (UP _).mono ?_;rintro e w1 ⟨rfl,hb⟩;obtain⟨z1,z2⟩:=new2 hb;have HB1:Hid (Below w.heap.size w w1):=rU hb;have Z1:Hid (w1.heap[w.heap.size]? =some aT):=z1;have Z2:Hid _:=z2;obtain⟨k0,k1,k2,k3,k4,k5⟩:=aS z2;obtain⟨f0,f1,f2,f3,f4,f5⟩:=aW z2;clear hb z1 z2 UP LT;go_wp2;clear k0 k1 k2 k3 k4 k5 f0 f1 f2 f3 f4 f5;have x2:=nR (v:=.int .i64 C) Z2.out;have x1:=(eH (u:=w1) (k:=3) (v:=.int .i64 C) (g:=w.heap.size+1) (j:=w.heap.size) (by omega)).trans Z1.out;have HB3:Hid (Below w.heap.size w (w1.setCell ⟨w.heap.size+1,3,none⟩ (.int .i64 C))):=HB1.out.setCell (by simp) _;clear HB1;generalize w1.setCell ⟨w.heap.size+1,3,none⟩ (.int .i64 C)=w3 at *;have X1:Hid (w3.heap[w.heap.size]? =some aT):=x1;have X2:Hid _:=x2;obtain⟨k0,k1,k2,k3,k4,k5⟩:=aS x2;obtain⟨f0,f1,f2,f3,f4,f5⟩:=aW x2;obtain⟨d0,d1,d2,d3,d4,d5⟩:=aS x1;obtain⟨e0,e1,e2,e3,e4,e5⟩:=aW x1;clear x1 x2 Z1 Z2;refine wp_loop_rounds 4 ?_;rw [rounds_succ];go_wp2_with (first|(go_at_call 93;refine mw (G0 _) ?_))
  exact bodyPost_ret (bF rfl rfl (gT X1.out) rfl) rfl ⟨rfl,bB HB3.out (Nat.le_refl _)⟩
theorem aCl {A A1 U V Y:ByteArray} {fc:Bool} {C:Int} {w:World} (hz:0 < A.size) (hA:jY fc A A1 hz) (h2:2<=A1.size) (h0:0 < A1.size)
  (LT:∀u,CW 91 #[.int .u8 (A1[0].toNat:Nat)] u (.bool true)) (hU:A1.extract 0 1=U) (hV:A1.extract 1 A1.size=V)
  (UP:∀u,CR 142 #[.string U] u (.string Y)) (hY:0 < Y.size) (hy1:65<=(Y[0].toNat:Int)) (hy2:(Y[0].toNat:Int)<=90) (hC:(Y[0].toNat:Int) - 65+1=C)
  (hVz:0 < V.size) (h5:((V[0].toNat:Int)==36)=false) (h1:V.size=2) (hq:0 < V.size) (h48:((V[0].toNat:Int)==48)=false) (G0:∀u,CW 93 #[.int .u8 (V[0].toNat:Nat)] u (.bool false)):
  CR 242 #[.string A] w (.tuple #[gD,.bool false]):=by
 have c1:(0:Int) < A.size:=by omega
 have c3:(1:Int)<=A.size:=by omega
 have c2:¬(A1.size:Int) < 2:=by omega
 have c4:(1:Int)<=A1.size:=by omega
 have c5:(1:Int)<=V.size:=by omega
 have c6:¬(V.size:Int) < 1:=by omega
 have c7:¬(2:Int) < V.size:=by omega
 rcases hA with ⟨rfl,h3,h4⟩ | ⟨rfl,h3,rfl⟩;all_goals
  go_enter Tryz.func242,Tryz.ntmps242;go_wp2_with (go_at_call 91;refine mw (LT _) ?_)
  refine (UP _).mono ?_;rintro e w1 ⟨rfl,hb⟩;obtain⟨z1,z2⟩:=new2 hb;have HB1:Hid (Below w.heap.size w w1):=rU hb;have Z1:Hid (w1.heap[w.heap.size]? =some aT):=z1;have Z2:Hid _:=z2;obtain⟨k0,k1,k2,k3,k4,k5⟩:=aS z2;obtain⟨f0,f1,f2,f3,f4,f5⟩:=aW z2;clear hb z1 z2 UP LT;go_wp2;clear k0 k1 k2 k3 k4 k5 f0 f1 f2 f3 f4 f5;have x2:=nR (v:=.int .i64 C) Z2.out;have x1:=(eH (u:=w1) (k:=3) (v:=.int .i64 C) (g:=w.heap.size+1) (j:=w.heap.size) (by omega)).trans Z1.out;have HB3:Hid (Below w.heap.size w (w1.setCell ⟨w.heap.size+1,3,none⟩ (.int .i64 C))):=HB1.out.setCell (by simp) _;clear HB1;generalize w1.setCell ⟨w.heap.size+1,3,none⟩ (.int .i64 C)=w3 at *;have X1:Hid (w3.heap[w.heap.size]? =some aT):=x1;have X2:Hid _:=x2;obtain⟨k0,k1,k2,k3,k4,k5⟩:=aS x2;obtain⟨f0,f1,f2,f3,f4,f5⟩:=aW x2;obtain⟨d0,d1,d2,d3,d4,d5⟩:=aS x1;obtain⟨e0,e1,e2,e3,e4,e5⟩:=aW x1;clear x1 x2 Z1 Z2;refine wp_loop_rounds 4 ?_;rw [rounds_succ];go_wp2_with (first|(go_at_call 93;refine mw (G0 _) ?_))
  exact bodyPost_ret (bF rfl rfl (gT X1.out) rfl) rfl ⟨rfl,bB HB3.out (Nat.le_refl _)⟩
end Go.Proofs.YtlhoklhjbpkgpaaGreatDoor
namespace Go.Proofs.YtlhoklhjbpkgpaaGreatDoor
open Go.RowKit
theorem aIi {A A1 U V Y:ByteArray} {fc:Bool} {C:Int} {w:World} (hz:0 < A.size) (hA:jY fc A A1 hz) (h2:2<=A1.size) (h0:0 < A1.size)
  (LT:∀u,CW 91 #[.int .u8 (A1[0].toNat:Nat)] u (.bool true)) (hU:A1.extract 0 1=U) (hV:A1.extract 1 A1.size=V)
  (UP:∀u,CR 142 #[.string U] u (.string Y)) (hY:0 < Y.size) (hy1:65<=(Y[0].toNat:Int)) (hy2:(Y[0].toNat:Int)<=90) (hC:(Y[0].toNat:Int) - 65+1=C)
  (hVz:0 < V.size) (h5:((V[0].toNat:Int)==36)=false) (h1:V.size=1) (hq:0 < V.size) (h48:((V[0].toNat:Int)==48)=false) (G0:∀u,CW 93 #[.int .u8 (V[0].toNat:Nat)] u (.bool true)) {n:Int} (b1:48<=(V[0].toNat:Int)) (b2:(V[0].toNat:Int)<=57) (hn:(V[0].toNat:Int) - 48=n) {ok:Bool}
  (IN:∀u,CW 145 #[.int .i64 n,.int .i64 C] u (.bool ok)):
  CR 242 #[.string A] w (.tuple #[if ok=true then dB ⟨#[]⟩ ⟨#[]⟩ n C false fc else gD,.bool ok]):=by
 have m1:IntKind.u8.wrap n=n:=wrap_u8 (by omega) (by omega);have m2:IntKind.i64.wrap n=n:=wrap_i64 (by omega) (by omega);have c1:(0:Int) < A.size:=by omega
 have c3:(1:Int)<=A.size:=by omega
 have c2:¬(A1.size:Int) < 2:=by omega
 have c4:(1:Int)<=A1.size:=by omega
 have c5:(1:Int)<=V.size:=by omega
 have c6:¬(V.size:Int) < 1:=by omega
 have c7:¬(2:Int) < V.size:=by omega
 rcases hA with ⟨rfl,h3,h4⟩ | ⟨rfl,h3,rfl⟩;all_goals
  go_enter Tryz.func242,Tryz.ntmps242;go_wp2_with (go_at_call 91;refine mw (LT _) ?_)
  refine (UP _).mono ?_;rintro e w1 ⟨rfl,hb⟩;obtain⟨z1,z2⟩:=new2 hb;have HB1:Hid (Below w.heap.size w w1):=rU hb;have Z1:Hid (w1.heap[w.heap.size]? =some aT):=z1;have Z2:Hid _:=z2;obtain⟨k0,k1,k2,k3,k4,k5⟩:=aS z2;obtain⟨f0,f1,f2,f3,f4,f5⟩:=aW z2;clear hb z1 z2 UP LT;go_wp2;clear k0 k1 k2 k3 k4 k5 f0 f1 f2 f3 f4 f5;have x2:=nR (v:=.int .i64 C) Z2.out;have x1:=(eH (u:=w1) (k:=3) (v:=.int .i64 C) (g:=w.heap.size+1) (j:=w.heap.size) (by omega)).trans Z1.out;have HB3:Hid (Below w.heap.size w (w1.setCell ⟨w.heap.size+1,3,none⟩ (.int .i64 C))):=HB1.out.setCell (by simp) _;clear HB1;generalize w1.setCell ⟨w.heap.size+1,3,none⟩ (.int .i64 C)=w3 at *;have X1:Hid (w3.heap[w.heap.size]? =some aT):=x1;have X2:Hid _:=x2;obtain⟨k0,k1,k2,k3,k4,k5⟩:=aS x2;obtain⟨f0,f1,f2,f3,f4,f5⟩:=aW x2;obtain⟨d0,d1,d2,d3,d4,d5⟩:=aS x1;obtain⟨e0,e1,e2,e3,e4,e5⟩:=aW x1;clear x1 x2 Z1 Z2;refine wp_loop_rounds 4 ?_;rw [rounds_succ];go_wp2_with (first|(go_at_call 93;refine mw (G0 _) ?_))
  go_region
  have y2:=show (w3.setCell ⟨w.heap.size+1,2,none⟩ (.int .i64 n)).drew.heap[w.heap.size+1]? =_ from sK (v:=.int .i64 n) X2.out
  have y1:(w3.setCell ⟨w.heap.size+1,2,none⟩ (.int .i64 n)).drew.heap[w.heap.size]? =some aT:=(eH (u:=w3) (k:=2) (v:=.int .i64 n) (g:=w.heap.size+1) (j:=w.heap.size) (by omega)).trans X1.out;have HBn:Hid (Below w.heap.size w (w3.setCell ⟨w.heap.size+1,2,none⟩ (.int .i64 n)).drew):=(HB3.out.setCell (by simp) _).drew;clear k0 k1 k2 k3 k4 k5 f0 f1 f2 f3 f4 f5 d0 d1 d2 d3 d4 d5 e0 e1 e2 e3 e4 e5 HB3 X1 X2;generalize (w3.setCell ⟨w.heap.size+1,2,none⟩ (.int .i64 n)).drew=w4 at *;have HB3:Hid _:=HBn.out;have X1:Hid (w4.heap[w.heap.size]? =some aT):=y1;have X2:Hid _:=y2;obtain⟨k0,k1,k2,k3,k4,k5⟩:=aS y2;obtain⟨f0,f1,f2,f3,f4,f5⟩:=aW y2;obtain⟨d0,d1,d2,d3,d4,d5⟩:=aS y1;obtain⟨e0,e1,e2,e3,e4,e5⟩:=aW y1;clear y1 y2 HBn;go_wp2;rw [rounds_succ];go_wp2_with fail
  refine (IN _).mono ?_;rintro e w' ⟨rfl,hw⟩;obtain rfl:=hw.symm;clear hw;cases ok
  ·go_wp2;exact bodyPost_ret (bF rfl rfl (gT X1.out) rfl) rfl ⟨rfl,bB HB3.out (Nat.le_refl _)⟩
  ·go_wp2;exact bodyPost_ret (bF rfl rfl (gT X1.out) rfl) rfl ⟨rfl,bB HB3.out (Nat.le_refl _)⟩
end Go.Proofs.YtlhoklhjbpkgpaaGreatDoor
namespace Go.Proofs.YtlhoklhjbpkgpaaGreatDoor
open Go.RowKit
theorem aIj {A A1 U V Y:ByteArray} {fc:Bool} {C:Int} {w:World} (hz:0 < A.size) (hA:jY fc A A1 hz) (h2:2<=A1.size) (h0:0 < A1.size)
  (LT:∀u,CW 91 #[.int .u8 (A1[0].toNat:Nat)] u (.bool true)) (hU:A1.extract 0 1=U) (hV:A1.extract 1 A1.size=V)
  (UP:∀u,CR 142 #[.string U] u (.string Y)) (hY:0 < Y.size) (hy1:65<=(Y[0].toNat:Int)) (hy2:(Y[0].toNat:Int)<=90) (hC:(Y[0].toNat:Int) - 65+1=C)
  (hVz:0 < V.size) (h5:((V[0].toNat:Int)==36)=false) (h1:V.size=2) (hq:0 < V.size) (hq2:1 < V.size) (h48:((V[0].toNat:Int)==48)=false) (G0:∀u,CW 93 #[.int .u8 (V[0].toNat:Nat)] u (.bool true)) (G1:∀u,CW 93 #[.int .u8 (V[1].toNat:Nat)] u (.bool true)) {n1 n2 m n:Int} (b1:48<=(V[0].toNat:Int)) (b2:(V[0].toNat:Int)<=57) (b3:48<=(V[1].toNat:Int)) (b4:(V[1].toNat:Int)<=57) (hn1:(V[0].toNat:Int) - 48=n1) (hn2:(V[1].toNat:Int) - 48=n2) (hm:10 * n1=m) (hn:m+n2=n) {ok:Bool}
  (IN:∀u,CW 145 #[.int .i64 n,.int .i64 C] u (.bool ok)):
  CR 242 #[.string A] w (.tuple #[if ok=true then dB ⟨#[]⟩ ⟨#[]⟩ n C false fc else gD,.bool ok]):=by
 have m1:IntKind.u8.wrap n1=n1:=wrap_u8 (by omega) (by omega);have m2:IntKind.i64.wrap n1=n1:=wrap_i64 (by omega) (by omega);have m3:IntKind.u8.wrap n2=n2:=wrap_u8 (by omega) (by omega);have m4:IntKind.i64.wrap n2=n2:=wrap_i64 (by omega) (by omega);have m5:IntKind.i64.wrap m=m:=wrap_i64 (by omega) (by omega);have m6:IntKind.i64.wrap n=n:=wrap_i64 (by omega) (by omega);have c1:(0:Int) < A.size:=by omega
 have c3:(1:Int)<=A.size:=by omega
 have c2:¬(A1.size:Int) < 2:=by omega
 have c4:(1:Int)<=A1.size:=by omega
 have c5:(1:Int)<=V.size:=by omega
 have c6:¬(V.size:Int) < 1:=by omega
 have c7:¬(2:Int) < V.size:=by omega
 rcases hA with ⟨rfl,h3,h4⟩ | ⟨rfl,h3,rfl⟩;all_goals
  go_enter Tryz.func242,Tryz.ntmps242;go_wp2_with (go_at_call 91;refine mw (LT _) ?_)
  refine (UP _).mono ?_;rintro e w1 ⟨rfl,hb⟩;obtain⟨z1,z2⟩:=new2 hb;have HB1:Hid (Below w.heap.size w w1):=rU hb;have Z1:Hid (w1.heap[w.heap.size]? =some aT):=z1;have Z2:Hid _:=z2;obtain⟨k0,k1,k2,k3,k4,k5⟩:=aS z2;obtain⟨f0,f1,f2,f3,f4,f5⟩:=aW z2;clear hb z1 z2 UP LT;go_wp2;clear k0 k1 k2 k3 k4 k5 f0 f1 f2 f3 f4 f5;have x2:=nR (v:=.int .i64 C) Z2.out;have x1:=(eH (u:=w1) (k:=3) (v:=.int .i64 C) (g:=w.heap.size+1) (j:=w.heap.size) (by omega)).trans Z1.out;have HB3:Hid (Below w.heap.size w (w1.setCell ⟨w.heap.size+1,3,none⟩ (.int .i64 C))):=HB1.out.setCell (by simp) _;clear HB1;generalize w1.setCell ⟨w.heap.size+1,3,none⟩ (.int .i64 C)=w3 at *;have X1:Hid (w3.heap[w.heap.size]? =some aT):=x1;have X2:Hid _:=x2;obtain⟨k0,k1,k2,k3,k4,k5⟩:=aS x2;obtain⟨f0,f1,f2,f3,f4,f5⟩:=aW x2;obtain⟨d0,d1,d2,d3,d4,d5⟩:=aS x1;obtain⟨e0,e1,e2,e3,e4,e5⟩:=aW x1;clear x1 x2 Z1 Z2;refine wp_loop_rounds 4 ?_;rw [rounds_succ];go_wp2_with (first|(go_at_call 93;refine mw (G0 _) ?_))
  go_region
  have y2:=show (w3.setCell ⟨w.heap.size+1,2,none⟩ (.int .i64 n1)).drew.heap[w.heap.size+1]? =_ from sK (v:=.int .i64 n1) X2.out
  have y1:(w3.setCell ⟨w.heap.size+1,2,none⟩ (.int .i64 n1)).drew.heap[w.heap.size]? =some aT:=(eH (u:=w3) (k:=2) (v:=.int .i64 n1) (g:=w.heap.size+1) (j:=w.heap.size) (by omega)).trans X1.out;have HBn:Hid (Below w.heap.size w (w3.setCell ⟨w.heap.size+1,2,none⟩ (.int .i64 n1)).drew):=(HB3.out.setCell (by simp) _).drew;clear k0 k1 k2 k3 k4 k5 f0 f1 f2 f3 f4 f5 d0 d1 d2 d3 d4 d5 e0 e1 e2 e3 e4 e5 HB3 X1 X2;generalize (w3.setCell ⟨w.heap.size+1,2,none⟩ (.int .i64 n1)).drew=w4 at *;have HB3:Hid _:=HBn.out;have X1:Hid (w4.heap[w.heap.size]? =some aT):=y1;have X2:Hid _:=y2;obtain⟨k0,k1,k2,k3,k4,k5⟩:=aS y2;obtain⟨f0,f1,f2,f3,f4,f5⟩:=aW y2;obtain⟨d0,d1,d2,d3,d4,d5⟩:=aS y1;obtain⟨e0,e1,e2,e3,e4,e5⟩:=aW y1;clear y1 y2 HBn;go_wp2;rw [rounds_succ];go_wp2_with (first|(go_at_call 93;refine mw (G1 _) ?_))
  go_region
  have y2:=show (w4.setCell ⟨w.heap.size+1,2,none⟩ (.int .i64 n)).drew.heap[w.heap.size+1]? =_ from sK (v:=.int .i64 n) X2.out
  have y1:(w4.setCell ⟨w.heap.size+1,2,none⟩ (.int .i64 n)).drew.heap[w.heap.size]? =some aT:=(eH (u:=w4) (k:=2) (v:=.int .i64 n) (g:=w.heap.size+1) (j:=w.heap.size) (by omega)).trans X1.out;have HBn:Hid (Below w.heap.size w (w4.setCell ⟨w.heap.size+1,2,none⟩ (.int .i64 n)).drew):=(HB3.out.setCell (by simp) _).drew;clear k0 k1 k2 k3 k4 k5 f0 f1 f2 f3 f4 f5 d0 d1 d2 d3 d4 d5 e0 e1 e2 e3 e4 e5 HB3 X1 X2;generalize (w4.setCell ⟨w.heap.size+1,2,none⟩ (.int .i64 n)).drew=w5 at *;have HB3:Hid _:=HBn.out;have X1:Hid (w5.heap[w.heap.size]? =some aT):=y1;have X2:Hid _:=y2;obtain⟨k0,k1,k2,k3,k4,k5⟩:=aS y2;obtain⟨f0,f1,f2,f3,f4,f5⟩:=aW y2;obtain⟨d0,d1,d2,d3,d4,d5⟩:=aS y1;obtain⟨e0,e1,e2,e3,e4,e5⟩:=aW y1;clear y1 y2 HBn;go_wp2;rw [rounds_succ];go_wp2_with fail
  refine (IN _).mono ?_;rintro e w' ⟨rfl,hw⟩;obtain rfl:=hw.symm;clear hw;cases ok
  ·go_wp2;exact bodyPost_ret (bF rfl rfl (gT X1.out) rfl) rfl ⟨rfl,bB HB3.out (Nat.le_refl _)⟩
  ·go_wp2;exact bodyPost_ret (bF rfl rfl (gT X1.out) rfl) rfl ⟨rfl,bB HB3.out (Nat.le_refl _)⟩
end Go.Proofs.YtlhoklhjbpkgpaaGreatDoor
namespace Go.Proofs.YtlhoklhjbpkgpaaGreatDoor
open Go.RowKit
theorem aCm {A A1 U V Y:ByteArray} {fc:Bool} {C:Int} {w:World} (hz:0 < A.size) (hA:jY fc A A1 hz) (h2:2<=A1.size) (h0:0 < A1.size)
  (LT:∀u,CW 91 #[.int .u8 (A1[0].toNat:Nat)] u (.bool true)) (hU:A1.extract 0 1=U) (hV:A1.extract 1 A1.size=V)
  (UP:∀u,CR 142 #[.string U] u (.string Y)) (hY:0 < Y.size) (hy1:65<=(Y[0].toNat:Int)) (hy2:(Y[0].toNat:Int)<=90) (hC:(Y[0].toNat:Int) - 65+1=C)
  (hVz:0 < V.size) (h5:((V[0].toNat:Int)==36)=false) (h1:V.size=2) (hq:0 < V.size) (hq2:1 < V.size) (h48:((V[0].toNat:Int)==48)=false) (G0:∀u,CW 93 #[.int .u8 (V[0].toNat:Nat)] u (.bool true)) (G1:∀u,CW 93 #[.int .u8 (V[1].toNat:Nat)] u (.bool false)) {n1:Int} (b1:48<=(V[0].toNat:Int)) (b2:(V[0].toNat:Int)<=57) (hn1:(V[0].toNat:Int) - 48=n1):
  CR 242 #[.string A] w (.tuple #[gD,.bool false]):=by
 have m1:IntKind.u8.wrap n1=n1:=wrap_u8 (by omega) (by omega);have m2:IntKind.i64.wrap n1=n1:=wrap_i64 (by omega) (by omega);have c1:(0:Int) < A.size:=by omega
 have c3:(1:Int)<=A.size:=by omega
 have c2:¬(A1.size:Int) < 2:=by omega
 have c4:(1:Int)<=A1.size:=by omega
 have c5:(1:Int)<=V.size:=by omega
 have c6:¬(V.size:Int) < 1:=by omega
 have c7:¬(2:Int) < V.size:=by omega
 rcases hA with ⟨rfl,h3,h4⟩ | ⟨rfl,h3,rfl⟩;all_goals
  go_enter Tryz.func242,Tryz.ntmps242;go_wp2_with (go_at_call 91;refine mw (LT _) ?_)
  refine (UP _).mono ?_;rintro e w1 ⟨rfl,hb⟩;obtain⟨z1,z2⟩:=new2 hb;have HB1:Hid (Below w.heap.size w w1):=rU hb;have Z1:Hid (w1.heap[w.heap.size]? =some aT):=z1;have Z2:Hid _:=z2;obtain⟨k0,k1,k2,k3,k4,k5⟩:=aS z2;obtain⟨f0,f1,f2,f3,f4,f5⟩:=aW z2;clear hb z1 z2 UP LT;go_wp2;clear k0 k1 k2 k3 k4 k5 f0 f1 f2 f3 f4 f5;have x2:=nR (v:=.int .i64 C) Z2.out;have x1:=(eH (u:=w1) (k:=3) (v:=.int .i64 C) (g:=w.heap.size+1) (j:=w.heap.size) (by omega)).trans Z1.out;have HB3:Hid (Below w.heap.size w (w1.setCell ⟨w.heap.size+1,3,none⟩ (.int .i64 C))):=HB1.out.setCell (by simp) _;clear HB1;generalize w1.setCell ⟨w.heap.size+1,3,none⟩ (.int .i64 C)=w3 at *;have X1:Hid (w3.heap[w.heap.size]? =some aT):=x1;have X2:Hid _:=x2;obtain⟨k0,k1,k2,k3,k4,k5⟩:=aS x2;obtain⟨f0,f1,f2,f3,f4,f5⟩:=aW x2;obtain⟨d0,d1,d2,d3,d4,d5⟩:=aS x1;obtain⟨e0,e1,e2,e3,e4,e5⟩:=aW x1;clear x1 x2 Z1 Z2;refine wp_loop_rounds 4 ?_;rw [rounds_succ];go_wp2_with (first|(go_at_call 93;refine mw (G0 _) ?_))
  go_region
  have y2:=show (w3.setCell ⟨w.heap.size+1,2,none⟩ (.int .i64 n1)).drew.heap[w.heap.size+1]? =_ from sK (v:=.int .i64 n1) X2.out
  have y1:(w3.setCell ⟨w.heap.size+1,2,none⟩ (.int .i64 n1)).drew.heap[w.heap.size]? =some aT:=(eH (u:=w3) (k:=2) (v:=.int .i64 n1) (g:=w.heap.size+1) (j:=w.heap.size) (by omega)).trans X1.out;have HBn:Hid (Below w.heap.size w (w3.setCell ⟨w.heap.size+1,2,none⟩ (.int .i64 n1)).drew):=(HB3.out.setCell (by simp) _).drew;clear k0 k1 k2 k3 k4 k5 f0 f1 f2 f3 f4 f5 d0 d1 d2 d3 d4 d5 e0 e1 e2 e3 e4 e5 HB3 X1 X2;generalize (w3.setCell ⟨w.heap.size+1,2,none⟩ (.int .i64 n1)).drew=w4 at *;have HB3:Hid _:=HBn.out;have X1:Hid (w4.heap[w.heap.size]? =some aT):=y1;have X2:Hid _:=y2;obtain⟨k0,k1,k2,k3,k4,k5⟩:=aS y2;obtain⟨f0,f1,f2,f3,f4,f5⟩:=aW y2;obtain⟨d0,d1,d2,d3,d4,d5⟩:=aS y1;obtain⟨e0,e1,e2,e3,e4,e5⟩:=aW y1;clear y1 y2 HBn;go_wp2;rw [rounds_succ];go_wp2_with (first|(go_at_call 93;refine mw (G1 _) ?_))
  exact bodyPost_ret (bF rfl rfl (gT X1.out) rfl) rfl ⟨rfl,bB HB3.out (Nat.le_refl _)⟩
end Go.Proofs.YtlhoklhjbpkgpaaGreatDoor
namespace Go.Proofs.YtlhoklhjbpkgpaaGreatDoor
open Go.RowKit
theorem aCn (l:List UInt8) (hz:0 < (⟨l.toArray⟩:ByteArray).size):jY (Ad.strip 36 l).1 ⟨l.toArray⟩ ⟨(Ad.strip 36 l).2.toArray⟩ hz:=by
 cases l with
 | nil=>exact absurd hz (by simp [ByteArray.size])
 | cons c r=>
  obtain⟨k1,k2,k3,k4⟩:=qP c r;have e0:(⟨(c:: r).toArray⟩:ByteArray)[0]=c:=rfl;unfold jY;rw [Ad.dG,e0];rcases eG c 36 with ⟨h1,h2⟩ | ⟨h1,h2⟩
  ·rw [if_pos h1];left;exact⟨rfl,h2,k2⟩
  ·rw [if_neg h1];right;exact⟨rfl,h2,rfl⟩
theorem aIk (a:UInt8) (h:Ad.isD a=true):48<=(a.toNat:Int)/\(a.toNat:Int)<=57:=by unfold Ad.isD at h;simp only [Bool.and_eq_true,decide_eq_true_eq] at h;omega
theorem gH (l:List UInt8) (hl:l.length<=140737488355328) (w:World):
  CR 242 #[.string ⟨l.toArray⟩] w (.tuple #[nX (Ad.cellP l),.bool (Ad.cellP l).isSome]):=by
 by_cases hn:l=[]
 ·subst hn;exact aMS rfl
 have hz:0 < (⟨l.toArray⟩:ByteArray).size:=by
  rw [size_mk];rcases Nat.eq_zero_or_pos l.length with e | e
  ·exact absurd (List.eq_nil_of_length_eq_zero e) hn
  ·exact e
 have hA:=aCn l hz;unfold Ad.cellP;generalize (Ad.strip 36 l).1=fc at *;cases hs:(Ad.strip 36 l).2 with
 | nil=>
  rw [hs] at hA;exact aCg hz hA (by rw [size_mk];decide)
 | cons c r=>
  rw [hs] at hA;obtain⟨k1,k2,k3,k4⟩:=qP c r;simp only;by_cases hr:r=[]
  ·subst hr;have:Ad.aAm fc c []=none:=by unfold Ad.aAm;rw [if_neg (by simp [Ad.strip,Ad.dM])]
   rw [this];exact aCg hz hA (by rw [size_mk];simp)
  have hrz:0 < (⟨r.toArray⟩:ByteArray).size:=by
   rw [size_mk];rcases Nat.eq_zero_or_pos r.length with e | e
   ·exact absurd (List.eq_nil_of_length_eq_zero e) hr
   ·exact e
  have h2:2<=(⟨(c:: r).toArray⟩:ByteArray).size:=by rw [size_mk] at hrz ⊢;simp;omega
  unfold Ad.aAm;have LT:=fun u=>jP c u;cases hL:Ad.isL c
  ·rw [hL] at LT;rw [if_neg (by simp)];exact aIf hz hA h2 k4 LT
  rw [hL] at LT;obtain⟨b1,b2,_⟩:=Ad.aAT hL;obtain⟨y1,y2,y3⟩:=aIe c hL;have UP:=fun u=>aKG c u;have hW:=aCn r hrz;generalize (Ad.strip 36 r).1=fr at *;have no:∀m,¬(1<=Ad.dM m/\Ad.dM m<=64)->(if true=true/\1<=Ad.dM m/\Ad.dM m<=64 then some (⟨Ad.dM m,Ad.kM c,fr,fc⟩:Ad.Cell) else none)=none:=fun m h=>if_neg fun q=>h q.2;have yes:∀m,(1<=Ad.dM m/\Ad.dM m<=64)->(if true=true/\1<=Ad.dM m/\Ad.dM m<=64 then some (⟨Ad.dM m,Ad.kM c,fr,fc⟩:Ad.Cell) else none)=some ⟨Ad.dM m,Ad.kM c,fr,fc⟩:=fun m h=>if_pos ⟨rfl,h⟩;have inF:∀(m:List UInt8) (n:Int),n=(Ad.dM m:Nat)->∀ok,inB n (Ad.kM c:Nat)=ok->(ok=true->1<=Ad.dM m/\Ad.dM m<=64)/\(ok=false->¬(1<=Ad.dM m/\Ad.dM m<=64)):=fun m n e ok hok=>by
   have:=aA3 n (Ad.kM c) b1 b2;rw [hok] at this;unfold Ad.rR at this;constructor
   ·intro h;have:=this.1 h;omega
   ·intro h q;have:=this.2 (by omega);rw [h] at this;cases this
  generalize hm:(Ad.strip 36 r).2=m at *
  match m with
  | []=>
   rw [no _ (by simp [Ad.dM])];exact aA4 hz hA h2 k4 LT k1 k2 UP (show 0 < 1 by decide) y1 y2 y3 hrz hW (.inl rfl)
  | x:: y:: z:: q=>
   rw [no _ (by simp [Ad.dM])];exact aA4 hz hA h2 k4 LT k1 k2 UP (show 0 < 1 by decide) y1 y2 y3 hrz hW (.inr (.inl (by rw [size_mk];simp)))
  | [x]=>
   rcases eG x 48 with ⟨e1,e2⟩ | ⟨e1,e2⟩
   ·rw [no _ (by rw [Ad.kN,if_neg (by simp [e1])];omega)];exact aA4 hz hA h2 k4 LT k1 k2 UP (show 0 < 1 by decide) y1 y2 y3 hrz hW (.inr (.inr ⟨show 0 < 1 by decide,show 1<=2 by decide,e2⟩))
   ·have G0:=fun u=>gZ x u;cases hd:Ad.isD x
    ·rw [hd] at G0;rw [no _ (by rw [Ad.kN,if_neg (by simp [hd])];omega)];rcases hW with ⟨rfl,h5,h6⟩ | ⟨rfl,h5,h6⟩
     ·exact aCh hz hA h2 k4 LT k1 k2 UP (show 0 < 1 by decide) y1 y2 y3 hrz h5 h6 rfl (show 0 < 1 by decide) e2 G0
     ·obtain rfl:r=[x]:=by simpa using congrArg (fun b:ByteArray=>b.data.toList) h6
      exact aCk hz hA h2 k4 LT k1 k2 UP (show 0 < 1 by decide) y1 y2 y3 hrz h5 rfl (show 0 < 1 by decide) e2 G0
    ·rw [hd] at G0;obtain⟨g1,g2⟩:=aIk x hd;have en:(x.toNat:Int) - 48=(Ad.dM [x]:Nat):=by rw [Ad.kN,if_pos ⟨hd,e1⟩];omega
     have W:∀ok,inB ((Ad.dM [x]:Nat):Int) (Ad.kM c:Nat)=ok->CR 242 #[.string ⟨l.toArray⟩] w (.tuple #[if ok=true then dB ⟨#[]⟩ ⟨#[]⟩ (Ad.dM [x]:Nat) (Ad.kM c:Nat) fr fc else gD,.bool ok]):=fun ok hok=>by
      have IN:=fun u=>rT ((Ad.dM [x]:Nat):Int) (Ad.kM c:Nat) u;rw [hok] at IN;rcases hW with ⟨rfl,h5,h6⟩ | ⟨rfl,h5,h6⟩
      ·exact aIg hz hA h2 k4 LT k1 k2 UP (show 0 < 1 by decide) y1 y2 y3 hrz h5 h6 rfl (show 0 < 1 by decide) e2 G0 g1 g2 en IN
      ·obtain rfl:r=[x]:=by simpa using congrArg (fun b:ByteArray=>b.data.toList) h6
       exact aIi hz hA h2 k4 LT k1 k2 UP (show 0 < 1 by decide) y1 y2 y3 hrz h5 rfl (show 0 < 1 by decide) e2 G0 g1 g2 en IN
     cases hok:inB ((Ad.dM [x]:Nat):Int) (Ad.kM c:Nat)
     ·rw [no _ ((inF _ _ rfl _ hok).2 rfl)];exact W false hok
     ·rw [yes _ ((inF _ _ rfl _ hok).1 rfl)];exact W true hok
  | [x,y]=>
   rcases eG x 48 with ⟨e1,e2⟩ | ⟨e1,e2⟩
   ·rw [no _ (by rw [Ad.jO,if_neg (by simp [e1])];omega)];exact aA4 hz hA h2 k4 LT k1 k2 UP (show 0 < 1 by decide) y1 y2 y3 hrz hW (.inr (.inr ⟨show 0 < 2 by decide,show 2<=2 by decide,e2⟩))
   ·have G0:=fun u=>gZ x u;have G1:=fun u=>gZ y u;cases hd:Ad.isD x
    ·rw [hd] at G0;rw [no _ (by rw [Ad.jO,if_neg (by simp [hd])];omega)];rcases hW with ⟨rfl,h5,h6⟩ | ⟨rfl,h5,h6⟩
     ·exact aCi hz hA h2 k4 LT k1 k2 UP (show 0 < 1 by decide) y1 y2 y3 hrz h5 h6 rfl (show 0 < 2 by decide) e2 G0
     ·obtain rfl:r=[x,y]:=by simpa using congrArg (fun b:ByteArray=>b.data.toList) h6
      exact aCl hz hA h2 k4 LT k1 k2 UP (show 0 < 1 by decide) y1 y2 y3 hrz h5 rfl (show 0 < 2 by decide) e2 G0
    ·rw [hd] at G0;obtain⟨g1,g2⟩:=aIk x hd;cases hd2:Ad.isD y
     ·rw [hd2] at G1;rw [no _ (by rw [Ad.jO,if_neg (by simp [hd2])];omega)];rcases hW with ⟨rfl,h5,h6⟩ | ⟨rfl,h5,h6⟩
      ·exact aCj hz hA h2 k4 LT k1 k2 UP (show 0 < 1 by decide) y1 y2 y3 hrz h5 h6 rfl (show 0 < 2 by decide) (show 1 < 2 by decide) e2 G0 G1 g1 g2 rfl
      ·obtain rfl:r=[x,y]:=by simpa using congrArg (fun b:ByteArray=>b.data.toList) h6
       exact aCm hz hA h2 k4 LT k1 k2 UP (show 0 < 1 by decide) y1 y2 y3 hrz h5 rfl (show 0 < 2 by decide) (show 1 < 2 by decide) e2 G0 G1 g1 g2 rfl
     ·rw [hd2] at G1;obtain⟨g3,g4⟩:=aIk y hd2;have en:10 * ((x.toNat:Int) - 48)+((y.toNat:Int) - 48)=(Ad.dM [x,y]:Nat):=by rw [Ad.jO,if_pos ⟨hd,hd2,e1⟩];omega
      have W:∀ok,inB ((Ad.dM [x,y]:Nat):Int) (Ad.kM c:Nat)=ok->CR 242 #[.string ⟨l.toArray⟩] w (.tuple #[if ok=true then dB ⟨#[]⟩ ⟨#[]⟩ (Ad.dM [x,y]:Nat) (Ad.kM c:Nat) fr fc else gD,.bool ok]):=fun ok hok=>by
       have IN:=fun u=>rT ((Ad.dM [x,y]:Nat):Int) (Ad.kM c:Nat) u;rw [hok] at IN;rcases hW with ⟨rfl,h5,h6⟩ | ⟨rfl,h5,h6⟩
       ·exact aIh hz hA h2 k4 LT k1 k2 UP (show 0 < 1 by decide) y1 y2 y3 hrz h5 h6 rfl (show 0 < 2 by decide) (show 1 < 2 by decide) e2 G0 G1 g1 g2 g3 g4 rfl rfl rfl en IN
       ·obtain rfl:r=[x,y]:=by simpa using congrArg (fun b:ByteArray=>b.data.toList) h6
        exact aIj hz hA h2 k4 LT k1 k2 UP (show 0 < 1 by decide) y1 y2 y3 hrz h5 rfl (show 0 < 2 by decide) (show 1 < 2 by decide) e2 G0 G1 g1 g2 g3 g4 rfl rfl rfl en IN
      cases hok:inB ((Ad.dM [x,y]:Nat):Int) (Ad.kM c:Nat)
      ·rw [no _ ((inF _ _ rfl _ hok).2 rfl)];exact W false hok
      ·rw [yes _ ((inF _ _ rfl _ hok).1 rfl)];exact W true hok
def aMT (o:Option Ad.Ref):Value:=match o with
 | none=>gD
 | some r=>dB ⟨r.book.toArray⟩ ⟨r.eP.toArray⟩ r.cell.row r.cell.col r.cell.fr r.cell.fc
def xX (l:List UInt8):List UInt8 × List UInt8 × Bool:=
 if (Ad.strip 91 l).1=true then ((jX 93 (Ad.strip 91 l).2).1,(jX 93 (Ad.strip 91 l).2).2.1,gnF (jX 93 (Ad.strip 91 l).2).1 && gnF (jX 93 (Ad.strip 91 l).2).2.1) else ([],l,gnF l)
def aE3 (l:List UInt8):Option Ad.Ref:=match Ad.at_ 33 l with
 | none=>(Ad.cellP l).map fun c=>⟨[],[],c⟩
 | some p=>if (xX p.1).2.2=true then (Ad.cellP p.2).map fun c=>⟨(xX p.1).1,(xX p.1).2.1,c⟩ else none
theorem aMU:gnF []=false:=rfl
theorem aKH {l:List UInt8} (h:33 ∈ l):gnF l=false:=by
 cases hg:gnF l
 ·rfl
 ·exact absurd rfl ((aCe l hg).2 33 h).1
theorem aKI (m:List UInt8):Ad.cellP (91:: m)=none:=rfl
theorem kP {c x:UInt8} {r:List UInt8} (h:x ≠ c):Ad.at_ c (x:: r)=(Ad.at_ c r).map fun p=>(x:: p.1,p.2):=by rw [Ad.at_,if_neg h]
theorem aA5 {c:UInt8}:∀{l m:List UInt8},(∀x ∈ l,x ≠ c)->Ad.at_ c (l++m)=(Ad.at_ c m).map fun p=>(l++p.1,p.2)
 | [],m,_=>by rw [List.nil_append];cases Ad.at_ c m <;> rfl
 | x:: l,m,h=>by rw [List.cons_append,kP (h x (List.mem_cons_self ..)),aA5 (l:=l) (m:=m) fun y hy=>h y (List.mem_cons_of_mem _ hy)];cases Ad.at_ c m <;> rfl
theorem aKJ (l:List UInt8):aE3 l=Ad.lY gnF l:=by
 cases l with
 | nil=>rfl
 | cons x m=>
  by_cases hx:x=91
  ·subst hx;have e1:Ad.lY gnF (91:: m)=match Ad.at_ 93 m with
    | none=>none
    | some (a,r)=>if gnF a=true/\(Ad.at_ 33 r).isSome=true then Ad.jC gnF a r else none:=rfl
   rw [e1];unfold aE3;rw [kP (show (91:UInt8) ≠ 33 by decide)];cases h3:Ad.at_ 33 m with
   | none=>
    simp only [Option.map_none];rw [aKI];cases h9:Ad.at_ 93 m with
    | none=>rfl
    | some p=>
     obtain⟨a,r⟩:=p;have e2:=(Ad.iL h9).1;have:Ad.at_ 33 r=none:=by
      by_cases ha:33 ∈ a
      ·exfalso
       rw [e2] at h3;have key:∀l:List UInt8,(33:UInt8) ∈ l->Ad.at_ 33 l ≠ none:=by
        intro l;induction l with
        | nil=>intro h;cases h
        | cons y q ih=>
         intro h e;unfold Ad.at_ at e;by_cases hy:y=33
         ·rw [if_pos hy] at e;cases e
         ·rw [if_neg hy] at e;rcases List.mem_cons.1 h with h | h
          ·exact hy h.symm
          ·cases hq:Ad.at_ 33 q with
           | none=>exact ih h hq
           | some z=>rw [hq] at e;cases e
       exact key _ (List.mem_append_left _ ha) h3
      ·rw [e2,aA5 (c:=33) (l:=a) (fun y hy e=>ha (by rw [<-e];exact hy)),kP (show (93:UInt8) ≠ 33 by decide)] at h3;cases hr:Ad.at_ 33 r with
       | none=>rfl
       | some z=>rw [hr] at h3;cases h3
     simp only [this];rw [if_neg (by simp)];rfl
   | some p=>
    obtain⟨a',rest⟩:=p;obtain⟨e2,n2⟩:=Ad.iL h3;simp only [Option.map_some];have es:Ad.strip 91 (91:: a')=(true,a'):=Ad.aFH 91 a';unfold xX;rw [es];simp only [if_true];cases h9:Ad.at_ 93 a' with
    | none=>
     rw [oQ h9];simp only [aMU,Bool.and_false,Bool.false_eq_true,if_false];cases hm:Ad.at_ 93 m with
     | none=>rfl
     | some q=>
      obtain⟨a,r⟩:=q;have h33:33 ∈ a:=by
       rw [e2] at hm;have nA:∀x ∈ a',x ≠ 93:=by
        intro x hx e;subst e;have key:∀l:List UInt8,(93:UInt8) ∈ l->Ad.at_ 93 l ≠ none:=by
         intro l;induction l with
         | nil=>intro h;cases h
         | cons y q ih=>
          intro h e;unfold Ad.at_ at e;by_cases hy:y=93
          ·rw [if_pos hy] at e;cases e
          ·rw [if_neg hy] at e;rcases List.mem_cons.1 h with h | h
           ·exact hy h.symm
           ·cases hq:Ad.at_ 93 q with
            | none=>exact ih h hq
            | some z=>rw [hq] at e;cases e
        exact key _ hx h9
       rw [aA5 nA,kP (show (33:UInt8) ≠ 93 by decide)] at hm;cases hr:Ad.at_ 93 rest with
       | none=>rw [hr] at hm;cases hm
       | some z=>
        rw [hr] at hm;simp only [Option.map_some,Option.some.injEq,Prod.mk.injEq] at hm;rw [<-hm.1];exact List.mem_append_right _ (List.mem_cons_self ..)
      simp only [aKH h33,Bool.false_eq_true,false_and,if_false]
    | some q=>
     obtain⟨b,s'⟩:=q;obtain⟨e3,n3⟩:=Ad.iL h9;rw [oU h9];have hm:Ad.at_ 93 m=some (b,s'++33:: rest):=by rw [e2,e3,List.append_assoc,List.cons_append];exact Ad.aAU _ n3
     have hs:Ad.at_ 33 (s'++33:: rest)=some (s',rest):=Ad.aAU _ fun y hy=>n2 y (by rw [e3];exact List.mem_append_right _ (List.mem_cons_of_mem _ hy));rw [hm];simp only [hs];unfold Ad.jC;simp only [hs];cases gnF b <;> cases gnF s' <;> simp
  ·rw [Ad.xC (by simpa using hx)];unfold aE3 Ad.jC;cases h3:Ad.at_ 33 (x:: m) with
   | none=>rfl
   | some p=>
    obtain⟨a,r⟩:=p;obtain⟨e2,n2⟩:=Ad.iL h3;have es:xX a=([],a,gnF a):=by
     unfold xX;have:(Ad.strip 91 a).1=false:=by
      cases a with
      | nil=>rfl
      | cons y q=>
       simp only [List.cons_append,List.cons.injEq] at e2;rw [Ad.dG,if_neg (by rw [<-e2.1];exact hx)]
     rw [this];rfl
    simp only [es]
theorem jS {c:UInt8} {l a b:List UInt8} (h:Ad.at_ c l=some (a,b)):a.length+b.length+1=l.length:=by rw [(Ad.iL h).1];simp;omega
def wN (c:UInt8) (l:List UInt8):Int:=match Ad.at_ c l with
 | none=> -1
 | some p=>(p.1.length:Nat)
theorem aKK {c:UInt8} (s:ByteArray) (k:Nat) (h:k < s.size) (hc:s[k]=c) (hn:∀x ∈ s.data.toList.take k,x ≠ c):wN c s.data.toList=k:=by
 have hl:=aX s;have e:s.data.toList=s.data.toList.take k++c:: s.data.toList.drop (k+1):=by
  rw [<-hc,byte_at s k h (by omega)];have:=List.take_append_drop k s.data.toList
  conv=>lhs;rw [<-this,List.drop_eq_getElem_cons (by omega)]
 unfold wN;rw [e,Ad.aAU _ hn];simp;omega
theorem aMV {c:UInt8} {l:List UInt8} (hn:∀x ∈ l,x ≠ c):wN c l= -1:=by unfold wN;rw [Ad.aEQ hn]
theorem aIl (s:ByteArray) (c:UInt8) (hs:s.size<=9223372036854775807) (w:World):
  CW 269 #[.string s,.int .u8 (c.toNat:Nat)] w (.int .i64 (wN c s.data.toList)):=by
 have hl:=aX s;generalize hr:wN c s.data.toList=r;have HR:Hid (wN c s.data.toList=r):=hr;clear hr;go_enter Tryz.func269,Tryz.ntmps269;go_wp2;go_loop [5] (fun i=>∃k:Nat,k<=s.size/\i=.int .i64 k/\Hid (∀x ∈ s.data.toList.take k,x ≠ c)) (fun i=>s.size - (intOf i).toNat)
 case atStart=>exact⟨0,Nat.zero_le _,rfl,by intro x hx;simp at hx⟩
 case round=>
  obtain⟨k,hk,rfl,ha⟩:=hrel;by_cases hlt:k < s.size
  ·rcases eG s[k] c with ⟨h3,h4⟩ | ⟨h3,h4⟩
   ·have HE:Hid (r=k):=by show _=_;rw [<-HR.out];exact aKK s k hlt h3 ha.out
    clear h3;go_wp2;go_ret;exact⟨by rw [HE.out];rfl,rfl⟩
   ·have HA:Hid (∀x ∈ s.data.toList.take (k+1),x ≠ c):=by
     intro x hx;rw [jE _ _ (by omega)] at hx;rcases List.mem_append.1 hx with hx | hx
     ·exact ha.out x hx
     ·simp only [List.mem_singleton] at hx;rw [hx,<-byte_at s k hlt (by omega)];exact h3
    clear h3;go_wp2;go_round
    case rel=>exact⟨k+1,by omega,by go_num,HA.out⟩
    case measure=>simp [intOf];omega
  ·have HE:Hid (r= -1):=by show _=_;have hh:=ha.out;rw [List.take_of_length_le (by omega)] at hh;rw [<-HR.out];exact aMV hh
   go_wp2;go_ret;exact⟨by rw [HE.out];rfl,rfl⟩
theorem aIm {A A1:ByteArray} {g:Bool} {w:World} (CP:∀u,CW 73 #[.string A,.string ⟨#[91]⟩] u (.tuple #[.string A1,.bool false])) (GN:RC w 76 #[.string A] (.bool g)):
  CR 266 #[.string A] w (.tuple #[.string ⟨#[]⟩,.string A,.bool g]):=by
 have HB0:Hid (Below w.heap.size w w):=Below.refl _ _;go_enter Tryz.func266,Tryz.ntmps266;go_wp2_with (first|(go_at_call 73;refine mw (CP _) ?_) | (go_at_call 76;refine (GN _ HB0.out).mono ?_;rintro e w1 ⟨rfl,hb⟩;have HB1:Hid (Below w.heap.size w w1):=hb;clear hb))
 go_ret3
 exact⟨rfl,HB1.out⟩
theorem aKL {A A1 B S:ByteArray} {x g h:Bool} {w:World} (CP:∀u,CW 73 #[.string A,.string ⟨#[91]⟩] u (.tuple #[.string A1,.bool true]))
  (CU:RC w 247 #[.string A1,.string ⟨#[93]⟩] (.tuple #[.string B,.string S,.bool x])) (GB:RC w 76 #[.string B] (.bool g)) (GS:RC w 76 #[.string S] (.bool h)):
  CR 266 #[.string A] w (.tuple #[.string B,.string S,.bool (g && h)]):=by
 have HB0:Hid (Below w.heap.size w w):=Below.refl _ _;cases g
 ·go_enter Tryz.func266,Tryz.ntmps266;go_wp2_with (first|(go_at_call 73;refine mw (CP _) ?_) | (go_at_call 247;refine (CU _ HB0.out).mono ?_;rintro e w1 ⟨rfl,hb⟩;have HB1:Hid (Below w.heap.size w w1):=hb;clear hb) | (go_at_call_of 76 B;refine (GB _ HB1.out).mono ?_;rintro e w2 ⟨rfl,hb⟩;have HB2:Hid (Below w.heap.size w w2):=hb;clear hb))
  go_ret3
  exact⟨rfl,HB2.out⟩
 ·go_enter Tryz.func266,Tryz.ntmps266;go_wp2_with (first|(go_at_call 73;refine mw (CP _) ?_) | (go_at_call 247;refine (CU _ HB0.out).mono ?_;rintro e w1 ⟨rfl,hb⟩;have HB1:Hid (Below w.heap.size w w1):=hb;clear hb) | (go_at_call_of 76 B;refine (GB _ HB1.out).mono ?_;rintro e w2 ⟨rfl,hb⟩;have HB2:Hid (Below w.heap.size w w2):=hb;clear hb) | (go_at_call_of 76 S;refine (GS _ HB2.out).mono ?_;rintro e w3 ⟨rfl,hb⟩;have HB3:Hid (Below w.heap.size w w3):=hb;clear hb))
  go_ret3
  exact⟨rfl,HB3.out⟩
theorem qQ (l:List UInt8) (hl:l.length<=140737488355328) (w:World) (T:aAc w):RC w 76 #[.string ⟨l.toArray⟩] (.bool (gnF l)):=
 RC.of fun u hu=>kE ⟨l.toArray⟩ (by rw [size_mk];omega) u (T.t.below hu)
theorem aCo (c:UInt8) (l:List UInt8):(jX c l).1.length<=l.length/\(jX c l).2.1.length<=l.length:=by
 cases h:Ad.at_ c l with
 | none=>rw [oQ h];simp
 | some p=>
  obtain⟨a,b⟩:=p;have:=jS h;rw [oU h];simp only;omega
theorem aDN (l:List UInt8) (hl:l.length<=140737488355328) (w:World) (T:aAc w):
  CR 266 #[.string ⟨l.toArray⟩] w (.tuple #[.string ⟨(xX l).1.toArray⟩,.string ⟨(xX l).2.1.toArray⟩,.bool (xX l).2.2]):=by
 have CP:=fun u=>mE 91 l u;have hs:=Ad.lX 91 l;unfold xX;cases hx:(Ad.strip 91 l).1
 ·rw [hx] at CP;exact aIm CP (qQ l hl w T)
 ·rw [hx] at CP hs;rw [if_pos rfl];have hl2:=aCo 93 (Ad.strip 91 l).2;have g1:=qQ (jX 93 (Ad.strip 91 l).2).1 (by omega) w T;have g2:=qQ (jX 93 (Ad.strip 91 l).2).2.1 (by omega) w T;exact aKL CP (RC.of fun u hu=>xK 93 (Ad.strip 91 l).2 u (by omega)) g1 g2
theorem aIn {A N X:ByteArray} {o:Option Ad.Cell} {w:World} (CU:RC (w.alloc aT) 247 #[.string A,.string ⟨#[33]⟩] (.tuple #[.string N,.string X,.bool false]))
  (PC:∀u,Below w.heap.size w u->CR 233 #[.string A] u (.tuple #[nX o,.bool o.isSome])):
  CR 232 #[.string A] w (.tuple #[nX o,.bool o.isSome]):=by
 have HB0:Hid (Below (w.alloc aT).heap.size (w.alloc aT) (w.alloc aT)):=Below.refl _ _;cases o with
 | none=>
  go_enter Tryz.func232,Tryz.ntmps232;go_wp2_with (go_at_call 247;refine (CU _ HB0.out).mono ?_;rintro e w1 ⟨rfl,hb⟩;have HB1:Hid (Below (w.alloc aT).heap.size (w.alloc aT) w1):=hb;clear hb)
  refine (PC _ (gU HB1.out)).mono ?_;rintro e w2 ⟨rfl,hb⟩;have z1:=(hb.block _ (aZ (new1 HB1.out))).trans (new1 HB1.out);have Z1:Hid (w2.heap[w.heap.size]? =some aT):=z1;have HB2:Hid (Below w.heap.size w w2):=aF (gU HB1.out) hb;obtain⟨d0,d1,d2,d3,d4,d5⟩:=aS z1;obtain⟨e0,e1,e2,e3,e4,e5⟩:=aW z1;clear z1 hb;unfold nX;go_wp2;exact bodyPost_ret (bF rfl rfl (gT Z1.out) rfl) rfl ⟨rfl,bB HB2.out (Nat.le_refl _)⟩
 | some c=>
  go_enter Tryz.func232,Tryz.ntmps232;go_wp2_with (go_at_call 247;refine (CU _ HB0.out).mono ?_;rintro e w1 ⟨rfl,hb⟩;have HB1:Hid (Below (w.alloc aT).heap.size (w.alloc aT) w1):=hb;clear hb)
  refine (PC _ (gU HB1.out)).mono ?_;rintro e w2 ⟨rfl,hb⟩;have z1:=(hb.block _ (aZ (new1 HB1.out))).trans (new1 HB1.out);have Z1:Hid (w2.heap[w.heap.size]? =some aT):=z1;have HB2:Hid (Below w.heap.size w w2):=aF (gU HB1.out) hb;obtain⟨d0,d1,d2,d3,d4,d5⟩:=aS z1;obtain⟨e0,e1,e2,e3,e4,e5⟩:=aW z1;clear z1 hb;unfold nX;go_wp2;exact bodyPost_ret (bF rfl rfl (gT Z1.out) rfl) rfl ⟨rfl,bB HB2.out (Nat.le_refl _)⟩
theorem gW {u:World} {g:Nat} {o:Obj} (h:u.heap[g]? =some o) (p:Obj):(u.alloc p).heap[g]? =some o:=(Below.heap_alloc u p _ (aZ h)).trans h
theorem aIo {A N X B S:ByteArray} {g k:Bool} {b s:ByteArray} {r c:Int} {fr fc:Bool} {w:World} (CU:RC (w.alloc aT) 247 #[.string A,.string ⟨#[33]⟩] (.tuple #[.string N,.string X,.bool true]))
  (NM:RC (w.alloc aT) 266 #[.string N] (.tuple #[.string B,.string S,.bool g])) (PC:∀u,Below w.heap.size w u->CR 233 #[.string X] u (.tuple #[dB b s r c fr fc,.bool k])) (hk:(g && k)=false):
  CR 232 #[.string A] w (.tuple #[gD,.bool false]):=by
 have HB0:Hid (Below (w.alloc aT).heap.size (w.alloc aT) (w.alloc aT)):=Below.refl _ _;cases g
 all_goals
  try (obtain rfl:k=false:=hk)
  go_enter Tryz.func232,Tryz.ntmps232;go_wp2_with (first|(go_at_call 247;refine (CU _ HB0.out).mono ?_;rintro e w1 ⟨rfl,hb⟩;have HB1:Hid (Below (w.alloc aT).heap.size (w.alloc aT) w1):=hb;clear hb) | (go_at_call 266;refine (NM _ HB1.out).mono ?_;rintro e w2 ⟨rfl,hb⟩;have HB2:Hid (Below (w.alloc aT).heap.size (w.alloc aT) w2):=hb;clear hb))
  refine (PC _ (gU HB2.out)).mono ?_;rintro e w3 ⟨rfl,hb⟩;have z1:=(hb.block _ (aZ (new1 HB2.out))).trans (new1 HB2.out);have HB3:Hid (Below w.heap.size w (w3.alloc (dP b s r c fr fc))):=aD (aF (gU HB2.out) hb) _;have Z1:Hid ((w3.alloc (dP b s r c fr fc)).heap[w.heap.size]? =some aT):=gW z1 _;obtain⟨d0,d1,d2,d3,d4,d5⟩:=aS Z1.out;obtain⟨e0,e1,e2,e3,e4,e5⟩:=aW Z1.out;clear z1 hb;go_wp2;exact bodyPost_ret (bF rfl rfl (gT Z1.out) rfl) rfl ⟨rfl,bB HB3.out (Nat.le_refl _)⟩
theorem aMW {A N X B S:ByteArray} {b s:ByteArray} {r c:Int} {fr fc:Bool} {w:World} (CU:RC (w.alloc aT) 247 #[.string A,.string ⟨#[33]⟩] (.tuple #[.string N,.string X,.bool true]))
  (NM:RC (w.alloc aT) 266 #[.string N] (.tuple #[.string B,.string S,.bool true])) (PC:∀u,Below w.heap.size w u->CR 233 #[.string X] u (.tuple #[dB b s r c fr fc,.bool true])):
  CR 232 #[.string A] w (.tuple #[dB B S r c fr fc,.bool true]):=by
 have HB0:Hid (Below (w.alloc aT).heap.size (w.alloc aT) (w.alloc aT)):=Below.refl _ _;go_enter Tryz.func232,Tryz.ntmps232;go_wp2_with (first|(go_at_call 247;refine (CU _ HB0.out).mono ?_;rintro e w1 ⟨rfl,hb⟩;have HB1:Hid (Below (w.alloc aT).heap.size (w.alloc aT) w1):=hb;clear hb) | (go_at_call 266;refine (NM _ HB1.out).mono ?_;rintro e w2 ⟨rfl,hb⟩;have HB2:Hid (Below (w.alloc aT).heap.size (w.alloc aT) w2):=hb;clear hb))
 refine (PC _ (gU HB2.out)).mono ?_;rintro e w3 ⟨rfl,hb⟩;have z1:=(hb.block _ (aZ (new1 HB2.out))).trans (new1 HB2.out);have HB3:Hid (Below w.heap.size w (w3.alloc (dP B S r c fr fc))):=aD (aF (gU HB2.out) hb) _;have Z1:Hid ((w3.alloc (dP B S r c fr fc)).heap[w.heap.size]? =some aT):=gW z1 _;obtain⟨d0,d1,d2,d3,d4,d5⟩:=aS Z1.out;obtain⟨e0,e1,e2,e3,e4,e5⟩:=aW Z1.out;clear z1 hb;go_wp2;exact bodyPost_ret (bF rfl rfl (gT Z1.out) rfl) rfl ⟨rfl,bB HB3.out (Nat.le_refl _)⟩
theorem aA6 (l:List UInt8) (hl:l.length<=140737488355328) (w:World) (T:aAc w):
  CR 232 #[.string ⟨l.toArray⟩] w (.tuple #[aMT (Ad.lY gnF l),.bool (Ad.lY gnF l).isSome]):=by
 rw [<-aKJ];unfold aE3;have CU:RC (w.alloc aT) 247 #[.string ⟨l.toArray⟩,.string ⟨#[33]⟩] _:=RC.of fun u hu=>xK 33 l u (by omega);have T1:aAc (w.alloc aT):=T.below (aD (Below.refl _ _) _);cases h:Ad.at_ 33 l with
 | none=>
  rw [oQ h] at CU;have:=aIn (o:=Ad.cellP l) CU fun u hu=>lS l hl u (T.below hu);cases hc:Ad.cellP l with
  | none=>rw [hc] at this;exact this
  | some c=>rw [hc] at this;exact this
 | some p=>
  obtain⟨a,x⟩:=p;have hlen:=jS h;rw [oU h] at CU;have NM:RC (w.alloc aT) 266 #[.string ⟨a.toArray⟩] _:=RC.of fun u hu=>aDN a (by omega) u (T1.below hu);have PC:=fun u (hu:Below w.heap.size w u)=>lS x (by omega) u (T.below hu);simp only;cases hg:(xX a).2.2
  ·rw [hg] at NM;simp only [Bool.false_eq_true,if_false];cases hc:Ad.cellP x with
   | none=>rw [hc] at PC;exact aIo CU NM PC rfl
   | some c=>rw [hc] at PC;exact aIo CU NM PC rfl
  ·rw [hg] at NM;simp only [if_true];cases hc:Ad.cellP x with
   | none=>rw [hc] at PC;exact aIo CU NM PC rfl
   | some c=>rw [hc] at PC;exact aMW CU NM PC
abbrev CB (w:World) (f:Nat) (args:Array Value) (r:Value):Prop:=∀u,Below w.heap.size w u->Calls Tryz.prog f args u fun e w'=>e=.returned r/\Below u.heap.size u w'
abbrev CS (f:Nat) (args:Array Value) (r:Value):Prop:=∀u,Calls Tryz.prog f args u fun e w'=>e=.returned r/\w'=u
section
variable {S B S1 SH S2:ByteArray} {w:World}
theorem aDO (hz:0 < S.size) (h91:((S[0].toNat:Int)==91)=true) (IX:CS 269 #[.string S,.int .u8 93] (.int .i64 (-1))):
  CR 241 #[.string S] w (.tuple #[gD,.bool false]):=by
 have c1:(0:Int) < S.size:=by omega
 go_enter Tryz.func241,Tryz.ntmps241;go_wp2_with (go_at_call 269;refine mw (IX _) ?_)
 refine bodyPost_ret (v:=.tuple #[gD,.bool false]) (by simp [results,Tryz.results241,go_sem]) rfl ?_;refine ⟨rfl, ?_⟩;repeat (first | exact Below.refl _ _ | refine Below.drew ?_ | refine aD ?_ _ | refine Below.setCell ?_ (by simp) _)
theorem aDP {k:Nat} (hz:0 < S.size) (h91:((S[0].toNat:Int)==91)=true) (IX:CS 269 #[.string S,.int .u8 93] (.int .i64 k)) (k1:1<=k) (k2:k<=S.size) (hB:S.extract 1 k=B) (GB:CB w 48 #[.string B] (.bool false)):
  CR 241 #[.string S] w (.tuple #[gD,.bool false]):=by
 have c1:(0:Int) < S.size:=by omega
 have c2:¬(k:Int) < 0:=by omega
 have c3:(1:Int)<=k:=by omega
 have c4:(k:Int)<=S.size:=by omega
 go_enter Tryz.func241,Tryz.ntmps241;go_wp2_with (go_at_call 269;refine mw (IX _) ?_)
 refine (GB _ (aD (Below.refl _ _) _)).mono ?_;rintro e w1 ⟨rfl,hb⟩;have z1:=new1 hb;have Z1:Hid (w1.heap[w.heap.size]? =some aT):=z1;have HB1:Hid (Below w.heap.size w w1):=gU hb;obtain⟨d0,d1,d2,d3,d4,d5⟩:=aS z1;obtain⟨e0,e1,e2,e3,e4,e5⟩:=aW z1;clear z1 hb;go_wp2;exact bodyPost_ret (bF rfl rfl (gT Z1.out) rfl) rfl ⟨rfl,bB HB1.out (Nat.le_refl _)⟩
theorem aDQ {k m:Nat} (hz:0 < S.size) (h91:((S[0].toNat:Int)==91)=true) (IX:CS 269 #[.string S,.int .u8 93] (.int .i64 k)) (k1:1<=k) (k2:k<=S.size) (hm:(k:Int)+1=m) (m2:m<=S.size) (mx:S.size<=9223372036854775807) (hB:S.extract 1 k=B) (hS:S.extract m S.size=S1) (GB:CB w 48 #[.string B] (.bool true)) (IY:CS 269 #[.string S1,.int .u8 33] (.int .i64 (-1))):
  CR 241 #[.string S] w (.tuple #[gD,.bool false]):=by
 have c1:(0:Int) < S.size:=by omega
 have c2:¬(k:Int) < 0:=by omega
 have c3:(1:Int)<=k:=by omega
 have c4:(k:Int)<=S.size:=by omega
 have c5:(0:Int)<=m:=by omega
 have c6:(m:Int)<= ↑S.size:=by omega
 have c7:IntKind.i64.wrap (m:Int)=m:=wrap_i64 (by omega) (by omega);go_enter Tryz.func241,Tryz.ntmps241;go_wp2_with (go_at_call 269;refine mw (IX _) ?_)
 refine (GB _ (aD (Below.refl _ _) _)).mono ?_;rintro e w1 ⟨rfl,hb⟩;have Z1:Hid (w1.drew.heap[w.heap.size]? =some aT):=new1 hb.drew;have HB1:Hid (Below w.heap.size w w1.drew):=(gU hb).drew;clear hb IX GB;go_wp2_with fail
 go_region
 generalize w1.drew=v1 at *;obtain⟨d0,d1,d2,d3,d4,d5⟩:=aS Z1.out;obtain⟨e0,e1,e2,e3,e4,e5⟩:=aW Z1.out;go_wp2_with (go_at_call 269;refine mw (IY _) ?_)
 exact bodyPost_ret (bF rfl rfl (gT Z1.out) rfl) rfl ⟨rfl,bB HB1.out (Nat.le_refl _)⟩
end
section
variable {S B S1 SH S2:ByteArray} {w:World}
theorem aCp {k m:Nat} (hz:0 < S.size) (h91:((S[0].toNat:Int)==91)=true) (IX:CS 269 #[.string S,.int .u8 93] (.int .i64 k)) (k1:1<=k) (k2:k<=S.size) (hm:(k:Int)+1=m) (m2:m<=S.size) (mx:S.size<=9223372036854775807) (hB:S.extract 1 k=B) (hS:S.extract m S.size=S1) (GB:CB w 48 #[.string B] (.bool true)) {j n:Nat} (IY:CS 269 #[.string S1,.int .u8 33] (.int .i64 j)) (j2:j<=S1.size) (hn:(j:Int)+1=n) (n2:n<=S1.size) (nx:S1.size<=9223372036854775807) (hH:S1.extract 0 j=SH) (hX:S1.extract n S1.size=S2) (GS:CB w 48 #[.string SH] (.bool false)):
  CR 241 #[.string S] w (.tuple #[gD,.bool false]):=by
 have f1:¬(j:Int) < 0:=by omega
 have f2:(0:Int)<=j:=by omega
 have f3:(j:Int)<=S1.size:=by omega
 have f4:(0:Int)<=n:=by omega
 have f5:(n:Int)<= ↑S1.size:=by omega
 have f6:IntKind.i64.wrap (n:Int)=n:=wrap_i64 (by omega) (by omega);have c1:(0:Int) < S.size:=by omega
 have c2:¬(k:Int) < 0:=by omega
 have c3:(1:Int)<=k:=by omega
 have c4:(k:Int)<=S.size:=by omega
 have c5:(0:Int)<=m:=by omega
 have c6:(m:Int)<= ↑S.size:=by omega
 have c7:IntKind.i64.wrap (m:Int)=m:=wrap_i64 (by omega) (by omega);go_enter Tryz.func241,Tryz.ntmps241;go_wp2_with (go_at_call 269;refine mw (IX _) ?_)
 refine (GB _ (aD (Below.refl _ _) _)).mono ?_;rintro e w1 ⟨rfl,hb⟩;have Z1:Hid (w1.drew.heap[w.heap.size]? =some aT):=new1 hb.drew;have HB1:Hid (Below w.heap.size w w1.drew):=(gU hb).drew;clear hb IX GB;go_wp2_with fail
 go_region
 generalize w1.drew=v1 at *;go_wp2_with (go_at_call 269;refine mw (IY _) ?_)
 refine (GS _ HB1.out).mono ?_;rintro e w3 ⟨rfl,hb⟩;have Z3:Hid (w3.heap[w.heap.size]? =some aT):=(hb.block _ (aZ Z1.out)).trans Z1.out;have HB3:Hid (Below w.heap.size w w3):=aF HB1.out hb;clear hb GS;obtain⟨d0,d1,d2,d3,d4,d5⟩:=aS Z3.out;obtain⟨e0,e1,e2,e3,e4,e5⟩:=aW Z3.out;go_wp2;exact bodyPost_ret (bF rfl rfl (gT Z3.out) rfl) rfl ⟨rfl,bB HB3.out (Nat.le_refl _)⟩
theorem aDR {k m:Nat} (hz:0 < S.size) (h91:((S[0].toNat:Int)==91)=true) (IX:CS 269 #[.string S,.int .u8 93] (.int .i64 k)) (k1:1<=k) (k2:k<=S.size) (hm:(k:Int)+1=m) (m2:m<=S.size) (mx:S.size<=9223372036854775807) (hB:S.extract 1 k=B) (hS:S.extract m S.size=S1) (GB:CB w 48 #[.string B] (.bool true)) {j n:Nat} (IY:CS 269 #[.string S1,.int .u8 33] (.int .i64 j)) (j2:j<=S1.size) (hn:(j:Int)+1=n) (n2:n<=S1.size) (nx:S1.size<=9223372036854775807) (hH:S1.extract 0 j=SH) (hX:S1.extract n S1.size=S2) (GS:CB w 48 #[.string SH] (.bool true)) {b s:ByteArray} {r c:Int} {fr fc:Bool} (PC:CB w 242 #[.string S2] (.tuple #[dB b s r c fr fc,.bool false])):
  CR 241 #[.string S] w (.tuple #[gD,.bool false]):=by
 have f1:¬(j:Int) < 0:=by omega
 have f2:(0:Int)<=j:=by omega
 have f3:(j:Int)<=S1.size:=by omega
 have f4:(0:Int)<=n:=by omega
 have f5:(n:Int)<= ↑S1.size:=by omega
 have f6:IntKind.i64.wrap (n:Int)=n:=wrap_i64 (by omega) (by omega);have c1:(0:Int) < S.size:=by omega
 have c2:¬(k:Int) < 0:=by omega
 have c3:(1:Int)<=k:=by omega
 have c4:(k:Int)<=S.size:=by omega
 have c5:(0:Int)<=m:=by omega
 have c6:(m:Int)<= ↑S.size:=by omega
 have c7:IntKind.i64.wrap (m:Int)=m:=wrap_i64 (by omega) (by omega);go_enter Tryz.func241,Tryz.ntmps241;go_wp2_with (go_at_call 269;refine mw (IX _) ?_)
 refine (GB _ (aD (Below.refl _ _) _)).mono ?_;rintro e w1 ⟨rfl,hb⟩;have Z1:Hid (w1.drew.heap[w.heap.size]? =some aT):=new1 hb.drew;have HB1:Hid (Below w.heap.size w w1.drew):=(gU hb).drew;clear hb IX GB;go_wp2_with fail
 go_region
 generalize w1.drew=v1 at *;go_wp2_with (go_at_call 269;refine mw (IY _) ?_)
 refine (GS _ HB1.out).mono ?_;rintro e w3 ⟨rfl,hb⟩;have Z3:Hid (w3.heap[w.heap.size]? =some aT):=(hb.block _ (aZ Z1.out)).trans Z1.out;have HB3:Hid (Below w.heap.size w w3):=aF HB1.out hb;clear hb GS;go_wp2_with fail
 go_region
 have Z3d:Hid (w3.drew.heap[w.heap.size]? =some aT):=Z3.out;have xY:Hid (Below w.heap.size w w3.drew):=HB3.out.drew;clear Z3 HB3;generalize w3.drew=v3 at *;go_wp2_with fail
 refine (PC _ xY.out).mono ?_;rintro e w4 ⟨rfl,hb⟩;have z4:=(hb.block _ (aZ Z3d.out)).trans Z3d.out;have HB4:Hid (Below w.heap.size w (w4.alloc (dP b s r c fr fc))):=aD (aF xY.out hb) _;have Z4:Hid ((w4.alloc (dP b s r c fr fc)).heap[w.heap.size]? =some aT):=gW z4 _;obtain⟨d0,d1,d2,d3,d4,d5⟩:=aS Z4.out;obtain⟨e0,e1,e2,e3,e4,e5⟩:=aW Z4.out;clear z4 hb;go_wp2;exact bodyPost_ret (bF rfl rfl (gT Z4.out) rfl) rfl ⟨rfl,bB HB4.out (Nat.le_refl _)⟩
theorem aCq {k m:Nat} (hz:0 < S.size) (h91:((S[0].toNat:Int)==91)=true) (IX:CS 269 #[.string S,.int .u8 93] (.int .i64 k)) (k1:1<=k) (k2:k<=S.size) (hm:(k:Int)+1=m) (m2:m<=S.size) (mx:S.size<=9223372036854775807) (hB:S.extract 1 k=B) (hS:S.extract m S.size=S1) (GB:CB w 48 #[.string B] (.bool true)) {j n:Nat} (IY:CS 269 #[.string S1,.int .u8 33] (.int .i64 j)) (j2:j<=S1.size) (hn:(j:Int)+1=n) (n2:n<=S1.size) (nx:S1.size<=9223372036854775807) (hH:S1.extract 0 j=SH) (hX:S1.extract n S1.size=S2) (GS:CB w 48 #[.string SH] (.bool true)) {b s:ByteArray} {r c:Int} {fr fc:Bool} (PC:CB w 242 #[.string S2] (.tuple #[dB b s r c fr fc,.bool true])):
  CR 241 #[.string S] w (.tuple #[dB B SH r c fr fc,.bool true]):=by
 have f1:¬(j:Int) < 0:=by omega
 have f2:(0:Int)<=j:=by omega
 have f3:(j:Int)<=S1.size:=by omega
 have f4:(0:Int)<=n:=by omega
 have f5:(n:Int)<= ↑S1.size:=by omega
 have f6:IntKind.i64.wrap (n:Int)=n:=wrap_i64 (by omega) (by omega);have c1:(0:Int) < S.size:=by omega
 have c2:¬(k:Int) < 0:=by omega
 have c3:(1:Int)<=k:=by omega
 have c4:(k:Int)<=S.size:=by omega
 have c5:(0:Int)<=m:=by omega
 have c6:(m:Int)<= ↑S.size:=by omega
 have c7:IntKind.i64.wrap (m:Int)=m:=wrap_i64 (by omega) (by omega);go_enter Tryz.func241,Tryz.ntmps241;go_wp2_with (go_at_call 269;refine mw (IX _) ?_)
 refine (GB _ (aD (Below.refl _ _) _)).mono ?_;rintro e w1 ⟨rfl,hb⟩;have Z1:Hid (w1.drew.heap[w.heap.size]? =some aT):=new1 hb.drew;have HB1:Hid (Below w.heap.size w w1.drew):=(gU hb).drew;clear hb IX GB;go_wp2_with fail
 go_region
 generalize w1.drew=v1 at *;go_wp2_with (go_at_call 269;refine mw (IY _) ?_)
 refine (GS _ HB1.out).mono ?_;rintro e w3 ⟨rfl,hb⟩;have Z3:Hid (w3.heap[w.heap.size]? =some aT):=(hb.block _ (aZ Z1.out)).trans Z1.out;have HB3:Hid (Below w.heap.size w w3):=aF HB1.out hb;clear hb GS;go_wp2_with fail
 go_region
 have Z3d:Hid (w3.drew.heap[w.heap.size]? =some aT):=Z3.out;have xY:Hid (Below w.heap.size w w3.drew):=HB3.out.drew;clear Z3 HB3;generalize w3.drew=v3 at *;go_wp2_with fail
 refine (PC _ xY.out).mono ?_;rintro e w4 ⟨rfl,hb⟩;have z4:=(hb.block _ (aZ Z3d.out)).trans Z3d.out;have HB4:Hid (Below w.heap.size w (w4.alloc (dP B SH r c fr fc))):=aD (aF xY.out hb) _;have Z4:Hid ((w4.alloc (dP B SH r c fr fc)).heap[w.heap.size]? =some aT):=gW z4 _;obtain⟨d0,d1,d2,d3,d4,d5⟩:=aS Z4.out;obtain⟨e0,e1,e2,e3,e4,e5⟩:=aW Z4.out;clear z4 hb;go_wp2;exact bodyPost_ret (bF rfl rfl (gT Z4.out) rfl) rfl ⟨rfl,bB HB4.out (Nat.le_refl _)⟩
end
section
variable {S B S1 SH S2:ByteArray} {w:World}
theorem aA7 (hq:(S.size=0)\/∃hz:0 < S.size,((S[0].toNat:Int)==91)=false) {j n:Nat} (IY:CS 269 #[.string S,.int .u8 33] (.int .i64 j)) (j2:j<=S.size) (hn:(j:Int)+1=n) (n2:n<=S.size) (nx:S.size<=9223372036854775807) (hH:S.extract 0 j=SH) (hX:S.extract n S.size=S2) (GS:CB w 48 #[.string SH] (.bool false)):
  CR 241 #[.string S] w (.tuple #[gD,.bool false]):=by
 have f1:¬(j:Int) < 0:=by omega
 have f2:(0:Int)<=j:=by omega
 have f3:(j:Int)<=S.size:=by omega
 have f4:(0:Int)<=n:=by omega
 have f5:(n:Int)<= ↑S.size:=by omega
 have f6:IntKind.i64.wrap (n:Int)=n:=wrap_i64 (by omega) (by omega);have hq':(¬(0:Int) < S.size)\/∃hz:0 < S.size,(0:Int) < S.size/\((S[0].toNat:Int)==91)=false:=by
  rcases hq with h | ⟨h,g⟩
  ·exact .inl (by omega)
  ·exact .inr ⟨h,by omega,g⟩
 clear hq;have HB0:Hid (Below w.heap.size w (w.alloc aT)):=aD (Below.refl _ _) _;have Z0:Hid ((w.alloc aT).heap[w.heap.size]? =some aT):=heap_alloc_new w _;rcases hq' with h | ⟨hz,h,h'⟩
 ·exfalso
  omega
 ·go_enter Tryz.func241,Tryz.ntmps241;go_wp2_with (go_at_call 269;refine mw (IY _) ?_)
  refine (GS _ HB0.out).mono ?_;rintro e w3 ⟨rfl,hb⟩;have Z3:Hid (w3.heap[w.heap.size]? =some aT):=(hb.block _ (aZ Z0.out)).trans Z0.out;have HB3:Hid (Below w.heap.size w w3):=aF HB0.out hb;clear hb GS;obtain⟨d0,d1,d2,d3,d4,d5⟩:=aS Z3.out;obtain⟨e0,e1,e2,e3,e4,e5⟩:=aW Z3.out;go_wp2;exact bodyPost_ret (bF rfl rfl (gT Z3.out) rfl) rfl ⟨rfl,bB HB3.out (Nat.le_refl _)⟩
theorem aCr (hq:(S.size=0)\/∃hz:0 < S.size,((S[0].toNat:Int)==91)=false) {j n:Nat} (IY:CS 269 #[.string S,.int .u8 33] (.int .i64 j)) (j2:j<=S.size) (hn:(j:Int)+1=n) (n2:n<=S.size) (nx:S.size<=9223372036854775807) (hH:S.extract 0 j=SH) (hX:S.extract n S.size=S2) (GS:CB w 48 #[.string SH] (.bool true)) {b s:ByteArray} {r c:Int} {fr fc:Bool} (PC:CB w 242 #[.string S2] (.tuple #[dB b s r c fr fc,.bool false])):
  CR 241 #[.string S] w (.tuple #[gD,.bool false]):=by
 have f1:¬(j:Int) < 0:=by omega
 have f2:(0:Int)<=j:=by omega
 have f3:(j:Int)<=S.size:=by omega
 have f4:(0:Int)<=n:=by omega
 have f5:(n:Int)<= ↑S.size:=by omega
 have f6:IntKind.i64.wrap (n:Int)=n:=wrap_i64 (by omega) (by omega);have hq':(¬(0:Int) < S.size)\/∃hz:0 < S.size,(0:Int) < S.size/\((S[0].toNat:Int)==91)=false:=by
  rcases hq with h | ⟨h,g⟩
  ·exact .inl (by omega)
  ·exact .inr ⟨h,by omega,g⟩
 clear hq;have HB0:Hid (Below w.heap.size w (w.alloc aT)):=aD (Below.refl _ _) _;have Z0:Hid ((w.alloc aT).heap[w.heap.size]? =some aT):=heap_alloc_new w _;rcases hq' with h | ⟨hz,h,h'⟩
 ·exfalso
  omega
 ·go_enter Tryz.func241,Tryz.ntmps241;go_wp2_with (go_at_call 269;refine mw (IY _) ?_)
  refine (GS _ HB0.out).mono ?_;rintro e w3 ⟨rfl,hb⟩;have Z3:Hid (w3.heap[w.heap.size]? =some aT):=(hb.block _ (aZ Z0.out)).trans Z0.out;have HB3:Hid (Below w.heap.size w w3):=aF HB0.out hb;clear hb GS;go_wp2_with fail
  go_region
  have Z3d:Hid (w3.drew.heap[w.heap.size]? =some aT):=Z3.out;have xY:Hid (Below w.heap.size w w3.drew):=HB3.out.drew;clear Z3 HB3;generalize w3.drew=v3 at *;go_wp2_with fail
  refine (PC _ xY.out).mono ?_;rintro e w4 ⟨rfl,hb⟩;have z4:=(hb.block _ (aZ Z3d.out)).trans Z3d.out;have HB4:Hid (Below w.heap.size w (w4.alloc (dP b s r c fr fc))):=aD (aF xY.out hb) _;have Z4:Hid ((w4.alloc (dP b s r c fr fc)).heap[w.heap.size]? =some aT):=gW z4 _;obtain⟨d0,d1,d2,d3,d4,d5⟩:=aS Z4.out;obtain⟨e0,e1,e2,e3,e4,e5⟩:=aW Z4.out;clear z4 hb;go_wp2;exact bodyPost_ret (bF rfl rfl (gT Z4.out) rfl) rfl ⟨rfl,bB HB4.out (Nat.le_refl _)⟩
theorem aA8 (hq:(S.size=0)\/∃hz:0 < S.size,((S[0].toNat:Int)==91)=false) {j n:Nat} (IY:CS 269 #[.string S,.int .u8 33] (.int .i64 j)) (j2:j<=S.size) (hn:(j:Int)+1=n) (n2:n<=S.size) (nx:S.size<=9223372036854775807) (hH:S.extract 0 j=SH) (hX:S.extract n S.size=S2) (GS:CB w 48 #[.string SH] (.bool true)) {b s:ByteArray} {r c:Int} {fr fc:Bool} (PC:CB w 242 #[.string S2] (.tuple #[dB b s r c fr fc,.bool true])):
  CR 241 #[.string S] w (.tuple #[dB ⟨#[]⟩ SH r c fr fc,.bool true]):=by
 have f1:¬(j:Int) < 0:=by omega
 have f2:(0:Int)<=j:=by omega
 have f3:(j:Int)<=S.size:=by omega
 have f4:(0:Int)<=n:=by omega
 have f5:(n:Int)<= ↑S.size:=by omega
 have f6:IntKind.i64.wrap (n:Int)=n:=wrap_i64 (by omega) (by omega);have hq':(¬(0:Int) < S.size)\/∃hz:0 < S.size,(0:Int) < S.size/\((S[0].toNat:Int)==91)=false:=by
  rcases hq with h | ⟨h,g⟩
  ·exact .inl (by omega)
  ·exact .inr ⟨h,by omega,g⟩
 clear hq;have HB0:Hid (Below w.heap.size w (w.alloc aT)):=aD (Below.refl _ _) _;have Z0:Hid ((w.alloc aT).heap[w.heap.size]? =some aT):=heap_alloc_new w _;rcases hq' with h | ⟨hz,h,h'⟩
 ·exfalso
  omega
 ·go_enter Tryz.func241,Tryz.ntmps241;go_wp2_with (go_at_call 269;refine mw (IY _) ?_)
  refine (GS _ HB0.out).mono ?_;rintro e w3 ⟨rfl,hb⟩;have Z3:Hid (w3.heap[w.heap.size]? =some aT):=(hb.block _ (aZ Z0.out)).trans Z0.out;have HB3:Hid (Below w.heap.size w w3):=aF HB0.out hb;clear hb GS;go_wp2_with fail
  go_region
  have Z3d:Hid (w3.drew.heap[w.heap.size]? =some aT):=Z3.out;have xY:Hid (Below w.heap.size w w3.drew):=HB3.out.drew;clear Z3 HB3;generalize w3.drew=v3 at *;go_wp2_with fail
  refine (PC _ xY.out).mono ?_;rintro e w4 ⟨rfl,hb⟩;have z4:=(hb.block _ (aZ Z3d.out)).trans Z3d.out;have HB4:Hid (Below w.heap.size w (w4.alloc (dP ⟨#[]⟩ SH r c fr fc))):=aD (aF xY.out hb) _;have Z4:Hid ((w4.alloc (dP ⟨#[]⟩ SH r c fr fc)).heap[w.heap.size]? =some aT):=gW z4 _;obtain⟨d0,d1,d2,d3,d4,d5⟩:=aS Z4.out;obtain⟨e0,e1,e2,e3,e4,e5⟩:=aW Z4.out;clear z4 hb;go_wp2;exact bodyPost_ret (bF rfl rfl (gT Z4.out) rfl) rfl ⟨rfl,bB HB4.out (Nat.le_refl _)⟩
end
end Go.Proofs.YtlhoklhjbpkgpaaGreatDoor
