/- SR2, SRt, SLv0, SPutB, SLv, SSmall, SSt, SRw0, SPW, SMV, SMVW, SRVW, SRA. -/
import Derived.Test.YtfedoljlipfhdaaGreatDoorSR8Pw
import Derived.Test.YtfedoljlipfhdaaGreatDoorSSpPw
set_option linter.unusedVariables false
set_option linter.unusedSimpArgs false
set_option maxHeartbeats 16000000
set_option maxRecDepth 100000
open List renaming setIfInBounds_toArray->Q,set_cons_zero->U,set_cons_succ->J,getElem?_eq_getElem->N,getElem_mem->ι,flatMap_append->μ,take_of_length_le->π
open Go.Proofs.Tryz renaming prog->Z,isAgg3->f,isAgg9->ν
open Go.RowKit renaming Below->X,Hid->H
open Go.Instr renaming loadAt->G,storeAt->β,sliceAt->τ
open Nat renaming le_refl->D,le_trans->ε,zero_le->σ
open Go renaming heap_alloc_new->C,World->M,bodyPost_ret->K,Value->α,Calls->ζ,Addr->ρ
open Bool renaming false->B,true->O
open Go.Act renaming put->P
open Go.RowKit.Below renaming refl->S,heap_alloc->δ
open Go.Op renaming store->γ,load->θ,build->ο
open Go.Builtin renaming append_->η
open Go.IntKind renaming wrap_i64->κ
open Go.World renaming ownsRow_nil->ξ
namespace Go.Proofs.YtfedoljlipfhdaaGreatDoor.Sh
open Go.RowKit Go.Fm
def rlF (L:List aN):Int:=if laidB L=O then 0 else 9
theorem aE1 {lo hi:Nat} {w:M} {a:Option ρ} {c:Nat} {L:List aN} (h:Cls lo hi w (.slice a L.length c) L) (hhi:hi<=w.heap.size):
  CR 49 #[.slice a L.length c] w (.int .i64 (rlF L)):=by
 obtain⟨_,_,he,hz1,hz2⟩:=h.slice;cases he
 have hlen:L.length<=9223372036854775807:=by unfold maxLen at hz2;omega
 have HS0:H (Cls lo hi w (.slice a L.length c) L):=h;generalize hO:rlF L=lb;have HO:H (rlF L=lb):=hO;clear h hz1 hz2 hO;go_enter Tryz.func49,Tryz.ntmps49;go_wp2;go_loopw [7] (fun i wr=>∃(k:Nat),k<=L.length/\i=.int .i64 (k:Nat)/\H (∀j,j < k->stB L j=O)/\H (X w.heap.size w wr)) (fun i _=>L.length - (intOf i).toNat)
 case atStart=>exact⟨0,σ _,rfl,fun j hj=>by omega,S _ _⟩
 case round=>
  obtain⟨k,hk,rfl,HA,HD⟩:=hrel;by_cases hkL:k < L.length
  ·have hki:(k:Int) < L.length:=by omega
   have HF:=HS0.out.below hhi HD.out;obtain⟨a',ov,W',rfl,rfl,hW',R2,R3,R4⟩:=HF.runs hkL;have HD2:H (X w.heap.size w W'):=by rw [hW'];exact Sh.aC HD.out (D _) _
   have HDd:H (X w.heap.size w W'.drew):=HD2.out.drew;have hX:W'.drew.heap[wr.heap.size]? =some (.cells (cellC L[k]).toArray 57):=by rw [hW'];exact C wr _
   obtain⟨c0,c1,c2⟩:=fH hX;have C1:=aDq L[k].row L[k].col W'.drew;have mF:k < 9223372036854775807:=by omega
   have HNO:H (stB L k=B->lb=9):=fun e=>by rw [<-HO.out];unfold rlF;rw [aFs hkL e];rfl
   have nH:H (stB L k=O->∀j,j < k+1->stB L j=O):=fun e j hj=>by
    by_cases hjk:j=k
    ·subst hjk;exact e
    ·exact HA.out j (by omega)
   have hLX:=ldC hX;by_cases hk0:k=0
   ·have hkz:decide ((0:Int) < (k:Int))=B:=by simpa using hk0
    have yU:=aC9 hkL hk0;have HST:H (stB L k=(lT L[k].row L[k].col && !(L[k].text.toList==[]))):=yU;have HK0:H (k=0):=hk0;have jU:H (∀u,X W'.drew.heap.size W'.drew u->u.cell? ⟨wr.heap.size,0,none⟩=some (.int .i64 L[k].row)/\u.cell? ⟨wr.heap.size,1,none⟩=some (.int .i64 L[k].col)/\u.cell? ⟨wr.heap.size,2,none⟩=some (.string L[k].text)/\(G 57 (pt wr.heap.size)).run Z u=.ok (cellV L[k]) u):=fun u hu=>by have hXu:=(hu.block _ (aF hX)).trans hX;obtain⟨q0,q1,q2⟩:=fH hXu;exact⟨q0,q1,q2,ldC hXu⟩
    clear yU HF hW' R4 hX hk0;generalize L[k]=y at *;obtain⟨yr,yc,yt⟩:=y;dsimp only at *;have HS:H (W'.drew.cell? ⟨wr.heap.size,0,none⟩=some (.int .i64 yr)/\W'.drew.cell? ⟨wr.heap.size,1,none⟩=some (.int .i64 yc)/\W'.drew.cell? ⟨wr.heap.size,2,none⟩=some (.string yt)/\(G 57 (pt wr.heap.size)).run Z W'.drew=.ok (cellV ⟨yr,yc,yt⟩) W'.drew):=⟨c0,c1,c2,hLX⟩
    clear c0 c1 c2 hLX;cases hin:lT yr yc with
    | false=>
     rw [hin] at C1 HST;obtain rfl:=HNO.out (by rw [HST.out];rfl);clear HNO nH;go_wp2_with (first|(refine aB rfl 57 _ rfl _ _ rfl R2.out ?_;clear R2)|(refine aA rfl 57 _ _ rfl _ _ _ rfl rfl R3.out ?_;clear R3))
     refine aO (fun u=>u.cell? ⟨wr.heap.size,0,none⟩=some (.int .i64 yr)/\u.cell? ⟨wr.heap.size,1,none⟩=some (.int .i64 yc)/\u.cell? ⟨wr.heap.size,2,none⟩=some (.string yt)/\(G 57 (pt wr.heap.size)).run Z u=.ok (cellV ⟨yr,yc,yt⟩) u) (fun j=>B) (by kernel_rfl) ?_;refine dwp 0 ((pt wr.heap.size)) ?_;refine dwl 1 ((.int .i64 yr)) ?_ (hS:=HS.out) (hy:=(fun u hSu=>aJ rfl rfl (ld1 hSu.1 (f _))));refine dwp 2 ((.pointer (some ⟨wr.heap.size,1,none⟩))) ?_;refine dwl 3 ((.int .i64 yc)) ?_ (hS:=HS.out) (hy:=(fun u hSu=>aJ rfl rfl (ld1 hSu.2.1 (f _))));refine aH (i:=4) (by kernel_rfl) rfl ?_;intro K' hK';go_simp;refine C1.mono ?_;clear C1;rintro e w1 ⟨rfl,hb⟩;have HB1:H (X w.heap.size w w1):=Sh.aD HDd.out HDd.out.size hb;have HBW:H (X W'.drew.heap.size W'.drew w1):=hb;have HKP:=jU.out w1 hb;clear hb HS;have HS:H (w1.cell? ⟨wr.heap.size,0,none⟩=some (.int .i64 yr)/\w1.cell? ⟨wr.heap.size,1,none⟩=some (.int .i64 yc)/\w1.cell? ⟨wr.heap.size,2,none⟩=some (.string yt)/\(G 57 (pt wr.heap.size)).run Z w1=.ok (cellV ⟨yr,yc,yt⟩) w1):=HKP;refine hK' _ _ (.inr fun _=>HKP) ?_;clear hK';try simp only [P,Q,U,J]
     refine dwp 5 ((.bool O)) ?_;refine dwp 6 ((.bool O)) ?_;refine dws 7 ?_;refine dws 8 ?_;refine dws 9 ?_;refine dwp 10 ((.bool O)) ?_;refine dwp 11 ((.bool O)) ?_;refine dws 12 ?_;refine dws 13 ?_;refine dws 14 ?_;refine dws 15 ?_;refine dws 16 ?_;refine dws 17 ?_;refine dws 18 ?_;refine dws 19 ?_;refine dws 20 ?_;refine dws 21 ?_;refine dws 22 ?_;refine dws 23 ?_;refine dwp 24 ((.bool O)) ?_;refine aM (by kernel_rfl) ?_ _;go_wp2;go_ret;exact⟨rfl,HB1.out⟩
    | true=>
     rw [hin] at C1 HST;cases hte:yt.toList==[] with
     | true=>
      rw [hte] at HST;obtain rfl:=HNO.out (by rw [HST.out];rfl);clear HNO nH;go_wp2_with (first|(refine aB rfl 57 _ rfl _ _ rfl R2.out ?_;clear R2)|(refine aA rfl 57 _ _ rfl _ _ _ rfl rfl R3.out ?_;clear R3))
      refine aO (fun u=>u.cell? ⟨wr.heap.size,0,none⟩=some (.int .i64 yr)/\u.cell? ⟨wr.heap.size,1,none⟩=some (.int .i64 yc)/\u.cell? ⟨wr.heap.size,2,none⟩=some (.string yt)/\(G 57 (pt wr.heap.size)).run Z u=.ok (cellV ⟨yr,yc,yt⟩) u) (fun j=>B) (by kernel_rfl) ?_;refine dwp 0 ((pt wr.heap.size)) ?_;refine dwl 1 ((.int .i64 yr)) ?_ (hS:=HS.out) (hy:=(fun u hSu=>aJ rfl rfl (ld1 hSu.1 (f _))));refine dwp 2 ((.pointer (some ⟨wr.heap.size,1,none⟩))) ?_;refine dwl 3 ((.int .i64 yc)) ?_ (hS:=HS.out) (hy:=(fun u hSu=>aJ rfl rfl (ld1 hSu.2.1 (f _))));refine aH (i:=4) (by kernel_rfl) rfl ?_;intro K' hK';go_simp;refine C1.mono ?_;clear C1;rintro e w1 ⟨rfl,hb⟩;have HB1:H (X w.heap.size w w1):=Sh.aD HDd.out HDd.out.size hb;have HBW:H (X W'.drew.heap.size W'.drew w1):=hb;have HKP:=jU.out w1 hb;clear hb HS;have HS:H (w1.cell? ⟨wr.heap.size,0,none⟩=some (.int .i64 yr)/\w1.cell? ⟨wr.heap.size,1,none⟩=some (.int .i64 yc)/\w1.cell? ⟨wr.heap.size,2,none⟩=some (.string yt)/\(G 57 (pt wr.heap.size)).run Z w1=.ok (cellV ⟨yr,yc,yt⟩) w1):=HKP;refine hK' _ _ (.inr fun _=>HKP) ?_;clear hK';try simp only [P,Q,U,J]
      refine dwp 5 ((.bool B)) ?_;refine dwp 6 ((.bool B)) ?_;refine dwp 7 ((.pointer (some ⟨wr.heap.size,2,none⟩))) ?_;refine dwl 8 ((.string yt)) ?_ (hS:=HS.out) (hy:=(fun u hSu=>aJ rfl rfl (ld1 hSu.2.2.1 (ν _))));refine dwp 9 ((.bool O)) ?_;refine dwp 10 ((.bool O)) ?_;refine dwp 11 ((.bool O)) ?_;refine dws 12 ?_;refine dws 13 ?_;refine dws 14 ?_;refine dws 15 ?_;refine dws 16 ?_;refine dws 17 ?_;refine dws 18 ?_;refine dws 19 ?_;refine dws 20 ?_;refine dws 21 ?_;refine dws 22 ?_;refine dws 23 ?_;refine dwp 24 ((.bool O)) ?_;refine aM (by kernel_rfl) ?_ _;go_wp2;go_ret;exact⟨rfl,HB1.out⟩
     | false=>
      rw [hte] at HST;have HY2:H _:=nH.out (by rw [HST.out];rfl);clear HNO nH;go_wp2_with (first|(refine aB rfl 57 _ rfl _ _ rfl R2.out ?_;clear R2)|(refine aA rfl 57 _ _ rfl _ _ _ rfl rfl R3.out ?_;clear R3))
      refine aO (fun u=>u.cell? ⟨wr.heap.size,0,none⟩=some (.int .i64 yr)/\u.cell? ⟨wr.heap.size,1,none⟩=some (.int .i64 yc)/\u.cell? ⟨wr.heap.size,2,none⟩=some (.string yt)/\(G 57 (pt wr.heap.size)).run Z u=.ok (cellV ⟨yr,yc,yt⟩) u) (fun j=>B) (by kernel_rfl) ?_;refine dwp 0 ((pt wr.heap.size)) ?_;refine dwl 1 ((.int .i64 yr)) ?_ (hS:=HS.out) (hy:=(fun u hSu=>aJ rfl rfl (ld1 hSu.1 (f _))));refine dwp 2 ((.pointer (some ⟨wr.heap.size,1,none⟩))) ?_;refine dwl 3 ((.int .i64 yc)) ?_ (hS:=HS.out) (hy:=(fun u hSu=>aJ rfl rfl (ld1 hSu.2.1 (f _))));refine aH (i:=4) (by kernel_rfl) rfl ?_;intro K' hK';go_simp;refine C1.mono ?_;clear C1;rintro e w1 ⟨rfl,hb⟩;have HB1:H (X w.heap.size w w1):=Sh.aD HDd.out HDd.out.size hb;have HBW:H (X W'.drew.heap.size W'.drew w1):=hb;have HKP:=jU.out w1 hb;clear hb HS;have HS:H (w1.cell? ⟨wr.heap.size,0,none⟩=some (.int .i64 yr)/\w1.cell? ⟨wr.heap.size,1,none⟩=some (.int .i64 yc)/\w1.cell? ⟨wr.heap.size,2,none⟩=some (.string yt)/\(G 57 (pt wr.heap.size)).run Z w1=.ok (cellV ⟨yr,yc,yt⟩) w1):=HKP;refine hK' _ _ (.inr fun _=>HKP) ?_;clear hK';try simp only [P,Q,U,J]
      refine dwp 5 ((.bool B)) ?_;refine dwp 6 ((.bool B)) ?_;refine dwp 7 ((.pointer (some ⟨wr.heap.size,2,none⟩))) ?_;refine dwl 8 ((.string yt)) ?_ (hS:=HS.out) (hy:=(fun u hSu=>aJ rfl rfl (ld1 hSu.2.2.1 (ν _))));refine dwp 9 ((.bool B)) ?_;refine dwp 10 ((.bool B)) ?_;refine dwp 11 ((.bool B)) ?_;refine dwp 12 ((.int .i64 (k:Int))) ?_;refine dwp 13 ((.bool B)) ?_ (hy:=(by intro u;go_simp;have:=HK0.out;omega));refine dwp 14 ((.bool B)) ?_;refine dws 15 ?_;refine dws 16 ?_;refine dws 17 ?_;refine dws 18 ?_;refine dws 19 ?_;refine dws 20 ?_;refine dws 21 ?_;refine dws 22 ?_;refine dwp 23 ((.bool B)) ?_;refine dwp 24 ((.bool B)) ?_;refine aM (by kernel_rfl) ?_ _;go_wp2;go_roundw
      case rel=>exact⟨k+1,by omega,by go_num,HY2,HB1⟩
      case measure=>simp [intOf];omega
   ·obtain ⟨j,hj⟩:∃j,k=j+1:=⟨k - 1,by omega⟩
    have hjL:j < L.length:=by omega
    have hkz:(0:Int) < k:=by omega
    have hji:(k:Int) - 1=(j:Int):=by omega
    have hjw:IntKind.i64.wrap (j:Int)=(j:Int):=by rw [κ];omega
    have hjn:(j:Int) < L.length:=by omega
    have HFd:=HS0.out.below hhi HDd.out;obtain⟨b',_,_,e2,rfl,_,RJ, -, -⟩:=HFd.runs hjL;cases e2
    have yU:=aDa hkL hj;have HST:H (stB L k=(lT L[k].row L[k].col && (!(L[k].text.toList==[]) && ltB L[j] L[k]))):=by show _=_;rw [yU,aNO]
    have C2:=fun u=>aEO L[k] L[j] u;have jU:H (∀u,X W'.drew.heap.size W'.drew u->u.cell? ⟨wr.heap.size,0,none⟩=some (.int .i64 L[k].row)/\u.cell? ⟨wr.heap.size,1,none⟩=some (.int .i64 L[k].col)/\u.cell? ⟨wr.heap.size,2,none⟩=some (.string L[k].text)/\(G 57 (pt wr.heap.size)).run Z u=.ok (cellV L[k]) u/\(G 57 (.pointer (some (a'.add (j * 3))))).run Z u=.ok (cellV L[j]) u):=fun u hu=>by
     have hXu:=(hu.block _ (aF hX)).trans hX;obtain⟨q0,q1,q2⟩:=fH hXu;obtain⟨_,_,_,e3,rfl,_,RJ2, -, -⟩:=(HS0.out.below hhi (Sh.aD HDd.out HDd.out.size hu)).runs hjL;cases e3
     exact⟨q0,q1,q2,ldC hXu,RJ2.out⟩
    clear yU HF HFd hW' R4 hX hk0 hj;generalize L[j]=p at *;generalize L[k]=y at *;obtain⟨yr,yc,yt⟩:=y;dsimp only at *;have HS:H (W'.drew.cell? ⟨wr.heap.size,0,none⟩=some (.int .i64 yr)/\W'.drew.cell? ⟨wr.heap.size,1,none⟩=some (.int .i64 yc)/\W'.drew.cell? ⟨wr.heap.size,2,none⟩=some (.string yt)/\(G 57 (pt wr.heap.size)).run Z W'.drew=.ok (cellV ⟨yr,yc,yt⟩) W'.drew/\(G 57 (.pointer (some (a'.add (j * 3))))).run Z W'.drew=.ok (cellV p) W'.drew):=⟨c0,c1,c2,hLX,RJ.out⟩
    clear c0 c1 c2 hLX RJ;generalize ltB p ⟨yr,yc,yt⟩=cv at *;cases hin:lT yr yc with
    | false=>
     rw [hin] at C1 HST;obtain rfl:=HNO.out (by rw [HST.out];rfl);clear HNO nH C2;go_wp2_with (first|(refine aB rfl 57 _ rfl _ _ rfl R2.out ?_;clear R2)|(refine aA rfl 57 _ _ rfl _ _ _ rfl rfl R3.out ?_;clear R3))
     refine aO (fun u=>u.cell? ⟨wr.heap.size,0,none⟩=some (.int .i64 yr)/\u.cell? ⟨wr.heap.size,1,none⟩=some (.int .i64 yc)/\u.cell? ⟨wr.heap.size,2,none⟩=some (.string yt)/\(G 57 (pt wr.heap.size)).run Z u=.ok (cellV ⟨yr,yc,yt⟩) u/\(G 57 (.pointer (some (a'.add (j * 3))))).run Z u=.ok (cellV p) u) (fun j=>B) (by kernel_rfl) ?_;refine dwp 0 ((pt wr.heap.size)) ?_;refine dwl 1 ((.int .i64 yr)) ?_ (hS:=HS.out) (hy:=(fun u hSu=>aJ rfl rfl (ld1 hSu.1 (f _))));refine dwp 2 ((.pointer (some ⟨wr.heap.size,1,none⟩))) ?_;refine dwl 3 ((.int .i64 yc)) ?_ (hS:=HS.out) (hy:=(fun u hSu=>aJ rfl rfl (ld1 hSu.2.1 (f _))));refine aH (i:=4) (by kernel_rfl) rfl ?_;intro K' hK';go_simp;refine C1.mono ?_;clear C1;rintro e w1 ⟨rfl,hb⟩;have HB1:H (X w.heap.size w w1):=Sh.aD HDd.out HDd.out.size hb;have HBW:H (X W'.drew.heap.size W'.drew w1):=hb;have HKP:=jU.out w1 hb;clear hb HS;have HS:H (w1.cell? ⟨wr.heap.size,0,none⟩=some (.int .i64 yr)/\w1.cell? ⟨wr.heap.size,1,none⟩=some (.int .i64 yc)/\w1.cell? ⟨wr.heap.size,2,none⟩=some (.string yt)/\(G 57 (pt wr.heap.size)).run Z w1=.ok (cellV ⟨yr,yc,yt⟩) w1/\(G 57 (.pointer (some (a'.add (j * 3))))).run Z w1=.ok (cellV p) w1):=HKP;refine hK' _ _ (.inr fun _=>HKP) ?_;clear hK';try simp only [P,Q,U,J]
     refine dwp 5 ((.bool O)) ?_;refine dwp 6 ((.bool O)) ?_;refine dws 7 ?_;refine dws 8 ?_;refine dws 9 ?_;refine dwp 10 ((.bool O)) ?_;refine dwp 11 ((.bool O)) ?_;refine dws 12 ?_;refine dws 13 ?_;refine dws 14 ?_;refine dws 15 ?_;refine dws 16 ?_;refine dws 17 ?_;refine dws 18 ?_;refine dws 19 ?_;refine dws 20 ?_;refine dws 21 ?_;refine dws 22 ?_;refine dws 23 ?_;refine dwp 24 ((.bool O)) ?_;refine aM (by kernel_rfl) ?_ _;go_wp2;go_ret;exact⟨rfl,HB1.out⟩
    | true=>
     rw [hin] at C1 HST;cases hte:yt.toList==[] with
     | true=>
      rw [hte] at HST;obtain rfl:=HNO.out (by rw [HST.out];rfl);clear HNO nH C2;go_wp2_with (first|(refine aB rfl 57 _ rfl _ _ rfl R2.out ?_;clear R2)|(refine aA rfl 57 _ _ rfl _ _ _ rfl rfl R3.out ?_;clear R3))
      refine aO (fun u=>u.cell? ⟨wr.heap.size,0,none⟩=some (.int .i64 yr)/\u.cell? ⟨wr.heap.size,1,none⟩=some (.int .i64 yc)/\u.cell? ⟨wr.heap.size,2,none⟩=some (.string yt)/\(G 57 (pt wr.heap.size)).run Z u=.ok (cellV ⟨yr,yc,yt⟩) u/\(G 57 (.pointer (some (a'.add (j * 3))))).run Z u=.ok (cellV p) u) (fun j=>B) (by kernel_rfl) ?_;refine dwp 0 ((pt wr.heap.size)) ?_;refine dwl 1 ((.int .i64 yr)) ?_ (hS:=HS.out) (hy:=(fun u hSu=>aJ rfl rfl (ld1 hSu.1 (f _))));refine dwp 2 ((.pointer (some ⟨wr.heap.size,1,none⟩))) ?_;refine dwl 3 ((.int .i64 yc)) ?_ (hS:=HS.out) (hy:=(fun u hSu=>aJ rfl rfl (ld1 hSu.2.1 (f _))));refine aH (i:=4) (by kernel_rfl) rfl ?_;intro K' hK';go_simp;refine C1.mono ?_;clear C1;rintro e w1 ⟨rfl,hb⟩;have HB1:H (X w.heap.size w w1):=Sh.aD HDd.out HDd.out.size hb;have HBW:H (X W'.drew.heap.size W'.drew w1):=hb;have HKP:=jU.out w1 hb;clear hb HS;have HS:H (w1.cell? ⟨wr.heap.size,0,none⟩=some (.int .i64 yr)/\w1.cell? ⟨wr.heap.size,1,none⟩=some (.int .i64 yc)/\w1.cell? ⟨wr.heap.size,2,none⟩=some (.string yt)/\(G 57 (pt wr.heap.size)).run Z w1=.ok (cellV ⟨yr,yc,yt⟩) w1/\(G 57 (.pointer (some (a'.add (j * 3))))).run Z w1=.ok (cellV p) w1):=HKP;refine hK' _ _ (.inr fun _=>HKP) ?_;clear hK';try simp only [P,Q,U,J]
      refine dwp 5 ((.bool B)) ?_;refine dwp 6 ((.bool B)) ?_;refine dwp 7 ((.pointer (some ⟨wr.heap.size,2,none⟩))) ?_;refine dwl 8 ((.string yt)) ?_ (hS:=HS.out) (hy:=(fun u hSu=>aJ rfl rfl (ld1 hSu.2.2.1 (ν _))));refine dwp 9 ((.bool O)) ?_;refine dwp 10 ((.bool O)) ?_;refine dwp 11 ((.bool O)) ?_;refine dws 12 ?_;refine dws 13 ?_;refine dws 14 ?_;refine dws 15 ?_;refine dws 16 ?_;refine dws 17 ?_;refine dws 18 ?_;refine dws 19 ?_;refine dws 20 ?_;refine dws 21 ?_;refine dws 22 ?_;refine dws 23 ?_;refine dwp 24 ((.bool O)) ?_;refine aM (by kernel_rfl) ?_ _;go_wp2;go_ret;exact⟨rfl,HB1.out⟩
     | false=>
      rw [hte] at HST;cases cv with
      | true=>
       have HY2:H _:=nH.out (by rw [HST.out];rfl);clear HNO nH;go_wp2_with (first|(refine aB rfl 57 _ rfl _ _ rfl R2.out ?_;clear R2)|(refine aA rfl 57 _ _ rfl _ _ _ rfl rfl R3.out ?_;clear R3))
       refine aO (fun u=>u.cell? ⟨wr.heap.size,0,none⟩=some (.int .i64 yr)/\u.cell? ⟨wr.heap.size,1,none⟩=some (.int .i64 yc)/\u.cell? ⟨wr.heap.size,2,none⟩=some (.string yt)/\(G 57 (pt wr.heap.size)).run Z u=.ok (cellV ⟨yr,yc,yt⟩) u/\(G 57 (.pointer (some (a'.add (j * 3))))).run Z u=.ok (cellV p) u) (fun j=>B) (by kernel_rfl) ?_;refine dwp 0 ((pt wr.heap.size)) ?_;refine dwl 1 ((.int .i64 yr)) ?_ (hS:=HS.out) (hy:=(fun u hSu=>aJ rfl rfl (ld1 hSu.1 (f _))));refine dwp 2 ((.pointer (some ⟨wr.heap.size,1,none⟩))) ?_;refine dwl 3 ((.int .i64 yc)) ?_ (hS:=HS.out) (hy:=(fun u hSu=>aJ rfl rfl (ld1 hSu.2.1 (f _))));refine aH (i:=4) (by kernel_rfl) rfl ?_;intro K' hK';go_simp;refine C1.mono ?_;clear C1;rintro e w1 ⟨rfl,hb⟩;have HB1:H (X w.heap.size w w1):=Sh.aD HDd.out HDd.out.size hb;have HBW:H (X W'.drew.heap.size W'.drew w1):=hb;have HKP:=jU.out w1 hb;clear hb HS;have HS:H (w1.cell? ⟨wr.heap.size,0,none⟩=some (.int .i64 yr)/\w1.cell? ⟨wr.heap.size,1,none⟩=some (.int .i64 yc)/\w1.cell? ⟨wr.heap.size,2,none⟩=some (.string yt)/\(G 57 (pt wr.heap.size)).run Z w1=.ok (cellV ⟨yr,yc,yt⟩) w1/\(G 57 (.pointer (some (a'.add (j * 3))))).run Z w1=.ok (cellV p) w1):=HKP;refine hK' _ _ (.inr fun _=>HKP) ?_;clear hK';try simp only [P,Q,U,J]
       refine dwp 5 ((.bool B)) ?_;refine dwp 6 ((.bool B)) ?_;refine dwp 7 ((.pointer (some ⟨wr.heap.size,2,none⟩))) ?_;refine dwl 8 ((.string yt)) ?_ (hS:=HS.out) (hy:=(fun u hSu=>aJ rfl rfl (ld1 hSu.2.2.1 (ν _))));refine dwp 9 ((.bool B)) ?_;refine dwp 10 ((.bool B)) ?_;refine dwp 11 ((.bool B)) ?_;refine dwp 12 ((.int .i64 (k:Int))) ?_;refine dwp 13 ((.bool O)) ?_ (hy:=(by intro u;go_simp;omega));refine dwp 14 ((.bool O)) ?_;refine dwl 15 ((cellV ⟨yr,yc,yt⟩)) ?_ (hS:=HS.out) (hy:=(fun u hSu=>aJ rfl rfl hSu.2.2.2.1));refine dwp 16 ((.slice (some a') L.length c)) ?_;refine dwp 17 ((.int .i64 (k:Int))) ?_;refine dwp 18 ((.int .i64 (j:Int))) ?_;refine dwp 19 ((.pointer (some (a'.add (j * 3))))) ?_;refine dwl 20 ((cellV p)) ?_ (hS:=HS.out) (hy:=(fun u hSu=>aJ rfl rfl hSu.2.2.2.2));refine aH (i:=21) (by kernel_rfl) rfl ?_;intro K' hK';go_simp;refine (C2 _).mono ?_;clear C2;rintro e w2 ⟨rfl,hb⟩;have HB2:H (X w.heap.size w w2):=Sh.aD HB1.out HB1.out.size hb;have aNX:=jU.out w2 (Sh.aD HBW.out HBW.out.size hb);clear hb;refine hK' _ _ (.inr fun _=>aNX) ?_;clear hK';try simp only [P,Q,U,J]
       refine dwp 22 ((.bool B)) ?_;refine dwp 23 ((.bool B)) ?_;refine dwp 24 ((.bool B)) ?_;refine aM (by kernel_rfl) ?_ _;go_wp2;go_roundw
       case rel=>exact⟨k+1,by omega,by go_num,HY2,HB2⟩
       case measure=>simp [intOf];omega
      | false=>
       obtain rfl:=HNO.out (by rw [HST.out];rfl);clear HNO nH;go_wp2_with (first|(refine aB rfl 57 _ rfl _ _ rfl R2.out ?_;clear R2)|(refine aA rfl 57 _ _ rfl _ _ _ rfl rfl R3.out ?_;clear R3))
       refine aO (fun u=>u.cell? ⟨wr.heap.size,0,none⟩=some (.int .i64 yr)/\u.cell? ⟨wr.heap.size,1,none⟩=some (.int .i64 yc)/\u.cell? ⟨wr.heap.size,2,none⟩=some (.string yt)/\(G 57 (pt wr.heap.size)).run Z u=.ok (cellV ⟨yr,yc,yt⟩) u/\(G 57 (.pointer (some (a'.add (j * 3))))).run Z u=.ok (cellV p) u) (fun j=>B) (by kernel_rfl) ?_;refine dwp 0 ((pt wr.heap.size)) ?_;refine dwl 1 ((.int .i64 yr)) ?_ (hS:=HS.out) (hy:=(fun u hSu=>aJ rfl rfl (ld1 hSu.1 (f _))));refine dwp 2 ((.pointer (some ⟨wr.heap.size,1,none⟩))) ?_;refine dwl 3 ((.int .i64 yc)) ?_ (hS:=HS.out) (hy:=(fun u hSu=>aJ rfl rfl (ld1 hSu.2.1 (f _))));refine aH (i:=4) (by kernel_rfl) rfl ?_;intro K' hK';go_simp;refine C1.mono ?_;clear C1;rintro e w1 ⟨rfl,hb⟩;have HB1:H (X w.heap.size w w1):=Sh.aD HDd.out HDd.out.size hb;have HBW:H (X W'.drew.heap.size W'.drew w1):=hb;have HKP:=jU.out w1 hb;clear hb HS;have HS:H (w1.cell? ⟨wr.heap.size,0,none⟩=some (.int .i64 yr)/\w1.cell? ⟨wr.heap.size,1,none⟩=some (.int .i64 yc)/\w1.cell? ⟨wr.heap.size,2,none⟩=some (.string yt)/\(G 57 (pt wr.heap.size)).run Z w1=.ok (cellV ⟨yr,yc,yt⟩) w1/\(G 57 (.pointer (some (a'.add (j * 3))))).run Z w1=.ok (cellV p) w1):=HKP;refine hK' _ _ (.inr fun _=>HKP) ?_;clear hK';try simp only [P,Q,U,J]
       refine dwp 5 ((.bool B)) ?_;refine dwp 6 ((.bool B)) ?_;refine dwp 7 ((.pointer (some ⟨wr.heap.size,2,none⟩))) ?_;refine dwl 8 ((.string yt)) ?_ (hS:=HS.out) (hy:=(fun u hSu=>aJ rfl rfl (ld1 hSu.2.2.1 (ν _))));refine dwp 9 ((.bool B)) ?_;refine dwp 10 ((.bool B)) ?_;refine dwp 11 ((.bool B)) ?_;refine dwp 12 ((.int .i64 (k:Int))) ?_;refine dwp 13 ((.bool O)) ?_ (hy:=(by intro u;go_simp;omega));refine dwp 14 ((.bool O)) ?_;refine dwl 15 ((cellV ⟨yr,yc,yt⟩)) ?_ (hS:=HS.out) (hy:=(fun u hSu=>aJ rfl rfl hSu.2.2.2.1));refine dwp 16 ((.slice (some a') L.length c)) ?_;refine dwp 17 ((.int .i64 (k:Int))) ?_;refine dwp 18 ((.int .i64 (j:Int))) ?_;refine dwp 19 ((.pointer (some (a'.add (j * 3))))) ?_;refine dwl 20 ((cellV p)) ?_ (hS:=HS.out) (hy:=(fun u hSu=>aJ rfl rfl hSu.2.2.2.2));refine aH (i:=21) (by kernel_rfl) rfl ?_;intro K' hK';go_simp;refine (C2 _).mono ?_;clear C2;rintro e w2 ⟨rfl,hb⟩;have HB2:H (X w.heap.size w w2):=Sh.aD HB1.out HB1.out.size hb;have aNX:=jU.out w2 (Sh.aD HBW.out HBW.out.size hb);clear hb;refine hK' _ _ (.inr fun _=>aNX) ?_;clear hK';try simp only [P,Q,U,J]
       refine dwp 22 ((.bool O)) ?_;refine dwp 23 ((.bool O)) ?_;refine dwp 24 ((.bool O)) ?_;refine aM (by kernel_rfl) ?_ _;go_wp2;go_ret;exact⟨rfl,HB2.out⟩
  ·have hki:¬(k:Int) < L.length:=by omega
   obtain rfl:lb=0:=by rw [<-HO.out];unfold rlF;rw [aCK fun i hi=>HA.out i (by omega)];rfl
   go_wp2;go_ret;exact⟨rfl,HD.out⟩
def Apart (L:List aT):Prop:=L.Pairwise fun a b=>a.name.toList ≠ b.name.toList
structure Right (L:List aT):Prop where
 lo:1<=L.length
 hi:L.length<=4
 gn:∀s ∈ L,gnF s.name.data.toList=O
 ap:Apart L
 ld:∀s ∈ L,laidB s.cells=O
 tx:∀s ∈ L,∀c ∈ s.cells,gJ c.text=0
 ct:dN L<=200
theorem aDz (s:aT) (L:List aT):dN (s:: L)=s.cells.length+dN L:=by unfold dN;simp
abbrev sS:ByteArray:=⟨#[83]⟩
abbrev bk0:aP:=⟨[⟨sS,[]⟩],[],[]⟩
abbrev tA:ByteArray:=⟨#[61,65,50,43,49]⟩
abbrev tB:ByteArray:=⟨#[61,65,50,43]⟩
abbrev tC:ByteArray:=⟨#[120]⟩
theorem aPZ:eH bk0.sheets sS=some 0:=by kernel_rfl
theorem ex1:aJH bk0 sS 1 1 tA=0:=by kernel_rfl
theorem ex2:aJH bk0 sS 1 1 tB=10:=by kernel_rfl
theorem ex3:qD bk0 sS=15:=by kernel_rfl
theorem ex4:aJH bk0 sS 65 1 tC=9:=by kernel_rfl
theorem ex5:aGA (nX (putAt bk0 0 ⟨1,1,tA⟩).sheets sS) 1 1=tA:=by kernel_rfl
theorem ex6:jY (putAt bk0 0 ⟨1,1,tA⟩) (putAt bk0 0 ⟨1,1,tA⟩)=O:=by kernel_rfl
theorem aBL:Small bk0:=⟨by decide,by simp,by decide,by decide⟩
theorem aE2:aFM bk0:=by intro s hs;simp at hs;rw [hs];exact List.Pairwise.nil
theorem aMz {w:M} {g:Nat} (hg:w.heap[g]? =some (.cells #[.string sS,.slice none 0 0] 78)):BkM g (g+1) w (newS g 1) (.slice none 0 0) (.slice none 0 0) bk0:=by
 refine ⟨⟨fun _=> .slice none 0 0, ?_,fun j o hj=> ?_⟩,.inl ⟨rfl,rfl⟩,.inl ⟨rfl,rfl⟩⟩
 ·refine aLp (L:=bk0.sheets) hg (fun j hj=> ?_) (D _) (by decide);obtain rfl:j=0:=by simpa using hj
  exact⟨rfl,rfl⟩
 ·obtain ⟨hj1,rfl⟩:=List.getElem?_eq_some_iff.1 hj;obtain rfl:j=0:=by simpa using hj1
  exact Cls.nil _ _ _
theorem aBM {lo hi:Nat} {w:M} {sv nv lv:α} {x:aP} (h:BkM lo hi w sv nv lv x) (hhi:hi<=w.heap.size) (hz:Small x) (hR:aFM x) (T:dS w) (s:ByteArray) (r c:Int) (t:ByteArray):
  ζ Z 13 #[.agg #[sv,nv,lv],.string s,.int .i64 r,.int .i64 c,.string t] w (jI w (aJH x s r c t) (putAt x ((eH x.sheets s).getD 0) ⟨r,c,t⟩)):=by
 obtain⟨sa,sc,rfl,hs1,hs2⟩:=h.sh.slice;obtain⟨na,nc,rfl,_,_⟩:=h.nm.slice;obtain⟨la,lc,rfl,_,_⟩:=h.lk.slice;obtain⟨W,hW⟩:∃W,W=(w.alloc (bkO (.slice sa x.sheets.length sc) (.slice na x.names.length nc) (.slice la x.links.length lc))).alloc (.cells #[.slice none 0 0,.slice none 0 0,.slice none 0 0] 26):=⟨_,rfl⟩
 have HB0:X w.heap.size w W:=by rw [hW];exact Sh.aC (Sh.aC (S _ _) (D _) _) (D _) _
 have hX0:W.heap[w.heap.size]? =some (bkO (.slice sa x.sheets.length sc) (.slice na x.names.length nc) (.slice la x.links.length lc)):=by rw [hW,δ _ _ _ (by simp)];exact C w _
 have hX1:W.heap[w.heap.size+1]? =some (.cells #[.slice none 0 0,.slice none 0 0,.slice none 0 0] 26):=by rw [hW];simpa using C (w.alloc (bkO (.slice sa x.sheets.length sc) (.slice na x.names.length nc) (.slice la x.links.length lc))) (.cells #[.slice none 0 0,.slice none 0 0,.slice none 0 0] 26)
 have hlen:x.sheets.length<=1000:=hz.sh;have KX:∀u,X W.heap.size W u->u.heap[w.heap.size]? =some (bkO (.slice sa x.sheets.length sc) (.slice na x.names.length nc) (.slice la x.links.length lc))/\u.heap[w.heap.size+1]? =some (.cells #[.slice none 0 0,.slice none 0 0,.slice none 0 0] 26)/\X w.heap.size w u:=fun u hu=>⟨(hu.block _ (aF hX0)).trans hX0,(hu.block _ (aF hX1)).trans hX1,Sh.aD HB0 HB0.size hu⟩
 have C1:ζ Z 20 #[.agg #[.slice sa x.sheets.length sc,.slice na x.names.length nc,.slice la x.links.length lc],.string s] W fun e u=>e=.returned (.int .i64 (iQ (eH x.sheets s)))/\H (X W.heap.size W u):=(mG (h.below hhi HB0) (ε hhi HB0.size) s).mono (by
  rintro e u ⟨rfl,hu⟩;exact⟨rfl,hu⟩)
 have C2:H (∀u,X W.heap.size W u->ζ Z 26 #[.string t] u fun e v=>e=.returned (.int .i64 (gJ t))/\H (X W.heap.size W v)):=fun u hu=>(aFL t u (T.below (KX u hu).2.2)).mono (by
  rintro e v ⟨rfl,hv⟩;exact⟨rfl,Sh.aD hu hu.size hv⟩)
 have bU:H (∀u,X W.heap.size W u->_):=fun u hu=>lK (KX u hu).2.2 (KX u hu).2.1 (by omega);have R0:H _:=ldB hX0;have HKX:H _:=KX;have HH:H (BkM lo hi w (.slice sa x.sheets.length sc) (.slice na x.names.length nc) (.slice la x.links.length lc) x):=h;have HZz:H (Small x):=hz;have HRR:H (aFM x):=hR;rw [hW] at R0 C1;rw [<-hW] at C1 R0;have HW:H ((w.alloc (bkO (.slice sa x.sheets.length sc) (.slice na x.names.length nc) (.slice la x.links.length lc))).alloc (.cells #[.slice none 0 0,.slice none 0 0,.slice none 0 0] 26)=W):=hW.symm;clear h HB0 hX0 hX1 hW T hs1 hs2 KX hz hR;unfold aJH;by_cases h3:gJ t=3
 ·rw [if_pos h3];rw [h3] at C2;generalize iQ (eH x.sheets s)=oi at *;clear h3;go_enter Tryz.func13,Tryz.ntmps13;go_wp2_with (first|(rw [HW.out];refine aB rfl 26 _ rfl _ _ rfl R0.out ?_)|(go_at_call 20;refine C1.mono ?_;clear C1;rintro e w1 ⟨rfl,HB1⟩;have CM:=C2.out w1 HB1.out;clear C2)|(go_at_call 26;refine CM.mono ?_;clear CM;rintro e w2 ⟨rfl,HB2⟩;obtain⟨RS,HZ,HBz⟩:=bU.out w2 HB2.out;clear bU)|(refine aY rfl 26 _ rfl _ _ (by go_simp) (bQ _) ?_)|(refine aA rfl 26 _ _ rfl _ _ _ rfl rfl RS.out ?_))
  refine K (res2 rfl rfl HZ.out rfl rfl) rfl ?_;exact⟨by rw [if_neg (by decide)];rfl,HBz.out⟩
 ·rw [if_neg h3];cases hO:eH x.sheets s with
  | none=>
   rw [hO] at C1;simp only [iQ] at C1;have h3b:((gJ t)==3)=B:=by simpa using h3
   clear h3;generalize gJ t=me at *;go_enter Tryz.func13,Tryz.ntmps13;go_wp2_with (first|(rw [HW.out];refine aB rfl 26 _ rfl _ _ rfl R0.out ?_)|(go_at_call 20;refine C1.mono ?_;clear C1;rintro e w1 ⟨rfl,HB1⟩;have CM:=C2.out w1 HB1.out;clear C2)|(go_at_call 26;refine CM.mono ?_;clear CM;rintro e w2 ⟨rfl,HB2⟩;obtain⟨RS,HZ,HBz⟩:=bU.out w2 HB2.out;clear bU)|(refine aY rfl 26 _ rfl _ _ (by go_simp) (bQ _) ?_)|(refine aA rfl 26 _ _ rfl _ _ _ rfl rfl RS.out ?_))
   refine K (res2 rfl rfl HZ.out rfl rfl) rfl ?_;exact⟨by rw [if_neg (by decide)];rfl,HBz.out⟩
  | some i=>
   rw [hO] at C1;simp only [iQ] at C1;have hil:=nY hO;have hni:decide ((i:Int) < 0)=B:=by simp
   have hii:(i:Int) < x.sheets.length:=by omega
   have h3b:((gJ t)==3)=B:=by simpa using h3
   dsimp only [Option.getD];clear hO;by_cases h9:lT r c=B
   ·rw [if_pos h9];clear h3;generalize gJ t=me at *;go_enter Tryz.func13,Tryz.ntmps13;go_wp2_with (first|(rw [HW.out];refine aB rfl 26 _ rfl _ _ rfl R0.out ?_)|(go_at_call 20;refine C1.mono ?_;clear C1;rintro e w1 ⟨rfl,HB1⟩;have CM:=C2.out w1 HB1.out;clear C2)|(go_at_call 26;refine CM.mono ?_;clear CM;rintro e w2 ⟨rfl,HB2⟩;obtain⟨RS,HZ,HBz⟩:=bU.out w2 HB2.out;clear bU)|(go_at_call 56;refine mw (iJ _ _ _) ?_)|(refine aY rfl 26 _ rfl _ _ (by go_simp) (bQ _) ?_)|(refine aA rfl 26 _ _ rfl _ _ _ rfl rfl RS.out ?_))
    refine K (res2 rfl rfl HZ.out rfl rfl) rfl ?_;exact⟨by rw [if_neg (by decide)];rfl,HBz.out⟩
   ·rw [if_neg h9];have h9t:lT r c=O:=by simpa using h9
    clear h9;by_cases h10:gJ t ≠ 0
    ·rw [if_pos h10];have aQf:((gJ t) !=0)=O:=by simpa using h10
     have HM:H (¬gJ t=0):=h10;clear h3 h10;generalize gJ t=me at *;go_enter Tryz.func13,Tryz.ntmps13;go_wp2_with (first|(rw [HW.out];refine aB rfl 26 _ rfl _ _ rfl R0.out ?_)|(go_at_call 20;refine C1.mono ?_;clear C1;rintro e w1 ⟨rfl,HB1⟩;have CM:=C2.out w1 HB1.out;clear C2)|(go_at_call 26;refine CM.mono ?_;clear CM;rintro e w2 ⟨rfl,HB2⟩;obtain⟨RS,HZ,HBz⟩:=bU.out w2 HB2.out;clear bU)|(go_at_call 56;refine mw (iJ _ _ _) ?_)|(refine aY rfl 26 _ rfl _ _ (by go_simp) (bQ _) ?_)|(refine aA rfl 26 _ _ rfl _ _ _ rfl rfl RS.out ?_))
     refine K (res2 rfl rfl HZ.out rfl rfl) rfl ?_;exact⟨by rw [if_neg HM.out];rfl,HBz.out⟩
    ·rw [if_neg h10];have aOP:gJ t=0:=by simpa using h10
     rw [aOP] at C2;clear h3 h3b h10 aOP;obtain⟨cv,hr,hcc⟩:=HH.out.sh;obtain⟨a',rfl,_,_⟩:=Rws.at hr hil;obtain⟨q,d,hcv,_,_⟩:=(hcc i _ (N hil)).slice;have HCE:H (∀u,X W.heap.size W u->u.cell? ⟨(a'.add (i * 2)).block,(a'.add (i * 2)).off+1,none⟩=some (.slice q x.sheets[i].cells.length d)/\Cls lo hi u (.slice q x.sheets[i].cells.length d) x.sheets[i].cells):=fun u hu=>by
      have hub:=(HKX.out u hu).2.2;have hr2:=hr.kept (w':=u) fun k _ hk=>hub.block k (by omega);obtain⟨a2,e2,_,g2⟩:=Rws.at hr2 hil;cases e2
      refine ⟨g2 1 _ (by omega) (by simp [iG,N hil,bY,hcv]), ?_⟩;have:=(hcc i _ (N hil)).below hhi hub;rw [hcv] at this;exact this
     have C3:H (∀u,X W.heap.size W u->ζ Z 24 #[.agg #[.slice (some a') x.sheets.length sc,.slice na x.names.length nc,.slice la x.links.length lc]] u fun e v=>e=.returned (.int .i64 (dN x.sheets:Nat))/\v.cell? ⟨w.heap.size,0,none⟩=some (.slice (some a') x.sheets.length sc)/\v.cell? ⟨(a'.add (i * 2)).block,(a'.add (i * 2)).off+1,none⟩=some (.slice q x.sheets[i].cells.length d)/\H (X W.heap.size W v)):=fun u hu=>
      (oM (HH.out.below hhi (HKX.out u hu).2.2) (ε hhi (HKX.out u hu).2.2.size) (by have:=uY HZz.out;omega)).mono (by
       rintro e v ⟨rfl,hv⟩;have hv2:=Sh.aD hu hu.size hv;exact⟨rfl,aI (HKX.out v hv2).1 rfl,(HCE.out v hv2).1,hv2⟩)
     have C4:H (∀u,X W.heap.size W u->ζ Z 57 #[.slice q x.sheets[i].cells.length d,.int .i64 r,.int .i64 c] u fun e v=>e=.returned (.bool (x.sheets[i].cells.any (atB r c)))/\H (X W.heap.size W v)):=fun u hu=>
      (aLs (HCE.out u hu).2 (ε hhi (HKX.out u hu).2.2.size) (HZz.out.cl _ (ι hil)) (HRR.out _ (ι hil)) r c).mono (by
       rintro e v ⟨rfl,hv⟩;exact⟨rfl,Sh.aD hu hu.size hv⟩)
     have C5:H (∀u,X W.heap.size W u->ζ Z 17 #[.agg #[.slice (some a') x.sheets.length sc,.slice na x.names.length nc,.slice la x.links.length lc]] u fun e v=>∃gs gn gl,e=.returned (.agg #[newS gs x.sheets.length,newS gn x.names.length,newS gl x.links.length])/\(v.alloc (.cells #[newS gs x.sheets.length,newS gn x.names.length,newS gl x.links.length] 26)).cell? ⟨v.heap.size,0,none⟩=some (newS gs x.sheets.length)/\(v.alloc (.cells #[newS gs x.sheets.length,newS gn x.names.length,newS gl x.links.length] 26)).cell? ⟨gs,i * 2+1,none⟩=some (newS (gs+1+i) x.sheets[i].cells.length)/\
       H (ζ Z 58 #[newS (gs+1+i) x.sheets[i].cells.length,cellV ⟨r,c,t⟩] (v.alloc (.cells #[newS gs x.sheets.length,newS gn x.names.length,newS gl x.links.length] 26)) fun e w4=>∃pa pn pc w6,e=.returned (.slice pa pn pc)/\w4.cell? ⟨gs,i * 2+1,none⟩=some (newS (gs+1+i) x.sheets[i].cells.length)/\w4.frozen? ⟨gs,i * 2+1,none⟩=B/\
        H ((G 26 (pt v.heap.size)).run Z (w4.setCell ⟨gs,i * 2+1,none⟩ (.slice pa pn pc))=.ok (.agg #[newS gs x.sheets.length,newS gn x.names.length,newS gl x.links.length]) (w4.setCell ⟨gs,i * 2+1,none⟩ (.slice pa pn pc)))/\
        H ((β 26 (.pointer (some ⟨w.heap.size+1,0,none⟩)) (.agg #[newS gs x.sheets.length,newS gn x.names.length,newS gl x.links.length])).run Z (w4.setCell ⟨gs,i * 2+1,none⟩ (.slice pa pn pc))=.ok () w6)/\
        H (w6.heap[w.heap.size+1]? =some (.cells #[newS gs x.sheets.length,newS gn x.names.length,newS gl x.links.length] 26))/\
        H (dD w.heap.size w6 (newS gs x.sheets.length) (newS gn x.names.length) (newS gl x.links.length) (putAt x i ⟨r,c,t⟩))/\H (X w.heap.size w w6))):=fun u hu=>
      (sQ (HH.out.below hhi (HKX.out u hu).2.2) (ε hhi (HKX.out u hu).2.2.size) HZz.out).mono (by
       rintro e v ⟨⟨gs,gn,gl,rfl,hC⟩,hv⟩;have hub:=(HKX.out u hu).2.2;have hb1:=hC.b1;have hx1:=(HKX.out u hu).2.1;have hl1:=aF hx1;obtain⟨V,hV,c1,c2,CC⟩:=aJI (w:=w) (hC.mono hub.size) HZz.out HRR.out hil (Sh.aD hub hub.size hv) (by omega) ((hv.block _ hl1).trans hx1) ⟨r,c,t⟩;rw [hV] at c1 c2 CC;exact⟨gs,gn,gl,rfl,c1,c2,CC⟩)
     have HFU:H (full x i r c t=(!(t.toList==[]) && (decide (200<=dN x.sheets) && !(x.sheets[i].cells.any (atB r c))))):=by show _=_;unfold full;simp only [N hil,Option.map_some,Option.getD_some]
     generalize hfu:full x i r c t=fu at *;clear hr hcc hcv hfu HCE bU;generalize x.sheets[i].cells.any (atB r c)=an at *;generalize x.sheets[i].cells.length=ln at *;generalize dN x.sheets=ct at *;have hi2:i < 9223372036854775807:=by omega
     clear hil HZz HRR HH;have BU:H (∀u:M,_):=fun u:M=>aLr u r c t;have HOK:H (∀sv nv lv w6,dD w.heap.size w6 sv nv lv (putAt x i ⟨r,c,t⟩)->X w.heap.size w w6->jI w 0 (putAt x i ⟨r,c,t⟩) (.returned (.tuple #[.agg #[sv,nv,lv],.int .i64 0])) w6):=fun sv nv lv w6 h1 h2=>⟨by rw [if_pos rfl];exact⟨_,_,_,rfl,h1⟩,h2⟩
     cases ht:t.toList==[] with
     | true=>
      rw [ht] at HFU;obtain rfl:fu=B:=HFU.out;clear HFU C3 C4;rw [if_neg (by decide)];generalize jI w 0 (putAt x i ⟨r,c,t⟩)=Q0 at *;go_enter Tryz.func13,Tryz.ntmps13;go_wp2_with (first|(rw [HW.out];refine aB rfl 26 _ rfl _ _ rfl R0.out ?_;clear R0)|(go_at_call 20;refine C1.mono ?_;clear C1;rintro e w1 ⟨rfl,HB1⟩;have CM:=C2.out w1 HB1.out;clear C2)|(go_at_call 26;refine CM.mono ?_;clear CM;rintro e w2 ⟨rfl,HB2⟩;obtain⟨c20,c21,c22⟩:=bE (HKX.out _ HB2.out).1)|(go_at_call 56;refine mw (iJ _ _ _) ?_)|(go_at_call 17;refine (C5.out _ HB2.out).mono ?_;clear C5;rintro e v ⟨gs,gn,gl,rfl,cV,cW,CW⟩)|(go_at_call 58;refine CW.out.mono ?_;clear CW;rintro e w5 ⟨pa,pn,pc,w6,rfl,c50,f50,RL6,RS6,HG6,HO6,HB6⟩)|((with_reducible show wL (θ 26 _));refine aB rfl 26 _ rfl _ _ rfl RL6.out ?_;clear RL6)|((with_reducible show wL (γ 26 _ _));refine aA rfl 26 _ _ rfl _ _ _ rfl rfl RS6.out ?_;clear RS6))
      refine K (res2 rfl rfl HG6.out rfl rfl) rfl ?_;exact HOK.out _ _ _ _ HO6.out HB6.out
     | false=>
      rw [ht] at HFU;by_cases hct:200<=ct
      ·have aP0:(200:Int)<=ct:=by omega
       cases han:an with
       | true=>
        rw [han] at HFU C4;obtain rfl:fu=B:=by rw [HFU.out];simp
        clear HFU;rw [if_neg (by decide)];generalize jI w 0 (putAt x i ⟨r,c,t⟩)=Q0 at *;go_enter Tryz.func13,Tryz.ntmps13;go_wp2_with (first|(rw [HW.out];refine aB rfl 26 _ rfl _ _ rfl R0.out ?_;clear R0)|(go_at_call 20;refine C1.mono ?_;clear C1;rintro e w1 ⟨rfl,HB1⟩;have CM:=C2.out w1 HB1.out;clear C2)|(go_at_call 26;refine CM.mono ?_;clear CM;rintro e w2 ⟨rfl,HB2⟩;obtain⟨c20,c21,c22⟩:=bE (HKX.out _ HB2.out).1)|(go_at_call 56;refine mw (iJ _ _ _) ?_)|(go_at_call 24;refine (C3.out _ HB2.out).mono ?_;clear C3;rintro e w3 ⟨rfl,c30,c31,HB3⟩;obtain⟨_,c32,c33⟩:=bE (HKX.out _ HB3.out).1)|(go_at_call 57;refine (C4.out _ HB3.out).mono ?_;clear C4;rintro e w4 ⟨rfl,HB4⟩;obtain⟨c40,c41,c42⟩:=bE (HKX.out _ HB4.out).1)|(go_at_call 17;refine (C5.out _ HB4.out).mono ?_;clear C5;rintro e v ⟨gs,gn,gl,rfl,cV,cW,CW⟩)|(go_at_call 58;refine CW.out.mono ?_;clear CW;rintro e w5 ⟨pa,pn,pc,w6,rfl,c50,f50,RL6,RS6,HG6,HO6,HB6⟩)|((with_reducible show wL (θ 26 _));refine aB rfl 26 _ rfl _ _ rfl RL6.out ?_;clear RL6)|((with_reducible show wL (γ 26 _ _));refine aA rfl 26 _ _ rfl _ _ _ rfl rfl RS6.out ?_;clear RS6))
        refine K (res2 rfl rfl HG6.out rfl rfl) rfl ?_;exact HOK.out _ _ _ _ HO6.out HB6.out
       | false=>
        rw [han] at HFU C4;obtain rfl:fu=O:=by rw [HFU.out];simp [hct]
        clear HFU;rw [if_pos rfl];have bU:H (∀u,X W.heap.size W u->_):=fun u hu=>lK (HKX.out u hu).2.2 (HKX.out u hu).2.1 (Nat.le_succ _);go_enter Tryz.func13,Tryz.ntmps13;go_wp2_with (first|(rw [HW.out];refine aB rfl 26 _ rfl _ _ rfl R0.out ?_)|(go_at_call 20;refine C1.mono ?_;clear C1;rintro e w1 ⟨rfl,HB1⟩;have CM:=C2.out w1 HB1.out;clear C2)|(go_at_call 26;refine CM.mono ?_;clear CM;rintro e w2 ⟨rfl,HB2⟩;obtain⟨c20,c21,c22⟩:=bE (HKX.out _ HB2.out).1)|(go_at_call 56;refine mw (iJ _ _ _) ?_)|(go_at_call 24;refine (C3.out _ HB2.out).mono ?_;clear C3;rintro e w3 ⟨rfl,c30,c31,HB3⟩)|(go_at_call 57;refine (C4.out _ HB3.out).mono ?_;clear C4;rintro e w4 ⟨rfl,HB4⟩;obtain⟨RS,HZ,HBz⟩:=bU.out w4 HB4.out;clear bU)|(refine aY rfl 26 _ rfl _ _ (by go_simp) (bQ _) ?_)|(refine aA rfl 26 _ _ rfl _ _ _ rfl rfl RS.out ?_))
        refine K (res2 rfl rfl HZ.out rfl rfl) rfl ?_;exact⟨by rw [if_neg (by decide)];rfl,HBz.out⟩
      ·have aP0:¬(200:Int)<=ct:=by omega
       obtain rfl:fu=B:=by rw [HFU.out];simp [hct]
       clear HFU C4;rw [if_neg (by decide)];generalize jI w 0 (putAt x i ⟨r,c,t⟩)=Q0 at *;go_enter Tryz.func13,Tryz.ntmps13;go_wp2_with (first|(rw [HW.out];refine aB rfl 26 _ rfl _ _ rfl R0.out ?_;clear R0)|(go_at_call 20;refine C1.mono ?_;clear C1;rintro e w1 ⟨rfl,HB1⟩;have CM:=C2.out w1 HB1.out;clear C2)|(go_at_call 26;refine CM.mono ?_;clear CM;rintro e w2 ⟨rfl,HB2⟩;obtain⟨c20,c21,c22⟩:=bE (HKX.out _ HB2.out).1)|(go_at_call 56;refine mw (iJ _ _ _) ?_)|(go_at_call 24;refine (C3.out _ HB2.out).mono ?_;clear C3;rintro e w3 ⟨rfl,c30,c31,HB3⟩;obtain⟨_,c32,c33⟩:=bE (HKX.out _ HB3.out).1)|(go_at_call 17;refine (C5.out _ HB3.out).mono ?_;clear C5;rintro e v ⟨gs,gn,gl,rfl,cV,cW,CW⟩)|(go_at_call 58;refine CW.out.mono ?_;clear CW;rintro e w5 ⟨pa,pn,pc,w6,rfl,c50,f50,RL6,RS6,HG6,HO6,HB6⟩)|((with_reducible show wL (θ 26 _));refine aB rfl 26 _ rfl _ _ rfl RL6.out ?_;clear RL6)|((with_reducible show wL (γ 26 _ _));refine aA rfl 26 _ _ rfl _ _ _ rfl rfl RS6.out ?_;clear RS6))
       refine K (res2 rfl rfl HG6.out rfl rfl) rfl ?_;exact HOK.out _ _ _ _ HO6.out HB6.out
theorem aBN {w u v:M} {e:Ending} {err:Int} {y:aP} (h:jI u err y e v) (hne:err ≠ 0):e=.returned (.tuple #[aEx,.int .i64 err])/\X u.heap.size u v:=by unfold jI at h;rw [if_neg hne] at h;exact h
theorem aAQ (w:M) (T:dS w):CR 9 #[] w (.bool O):=by
 obtain⟨W,hW⟩:∃W,W=(w.alloc (.cells #[.string sS,.slice none 0 0] 78)).alloc (.cells #[newS w.heap.size 1,.slice none 0 0,.slice none 0 0] 26):=⟨_,rfl⟩
 have HB0:X w.heap.size w W:=by rw [hW];exact Sh.aC (Sh.aC (S _ _) (D _) _) (D _) _
 have hX0:W.heap[w.heap.size]? =some (.cells #[.string sS,.slice none 0 0] 78):=by rw [hW,δ _ _ _ (by simp)];exact C w _
 have hX1:W.heap[w.heap.size+1]? =some (.cells #[newS w.heap.size 1,.slice none 0 0,.slice none 0 0] 26):=by rw [hW];simpa using C (w.alloc (.cells #[.string sS,.slice none 0 0] 78)) (.cells #[newS w.heap.size 1,.slice none 0 0,.slice none 0 0] 26)
 have hsz:W.heap.size=w.heap.size+2:=by rw [hW];simp
 have KX:∀u,X W.heap.size W u->(u.cell? ⟨w.heap.size+1,0,none⟩=some (newS w.heap.size 1)/\u.cell? ⟨w.heap.size+1,1,none⟩=some (.slice none 0 0)/\u.cell? ⟨w.heap.size+1,2,none⟩=some (.slice none 0 0))/\BkM w.heap.size (w.heap.size+1) u (newS w.heap.size 1) (.slice none 0 0) (.slice none 0 0) bk0/\w.heap.size+1<=u.heap.size/\dS u/\X w.heap.size w u:=fun u hu=>by have hu2:=hu.size;have hw:=Sh.aD HB0 HB0.size hu;exact⟨bE ((hu.block _ (aF hX1)).trans hX1),aMz ((hu.block _ (aF hX0)).trans hX0),by omega,T.below hw,hw⟩
 have KA:∀u o,X W.heap.size W u->X W.heap.size W (u.alloc o):=fun u o hu=>Sh.aC hu (D _) o;obtain⟨d0,d1,d2⟩:=bE hX1;have C1:ζ Z 13 #[.agg #[newS w.heap.size 1,.slice none 0 0,.slice none 0 0],.string sS,.int .i64 1,.int .i64 1,.string tA] W fun e v=>∃a1 c1 n1 a2 c2 n2 a3 c3 n3,e=.returned (.tuple #[.agg #[.slice a1 n1 c1,.slice a2 n2 c2,.slice a3 n3 c3],.int .i64 0])/\
   ((v.alloc (.cells #[.slice a1 n1 c1,.slice a2 n2 c2,.slice a3 n3 c3] 26)).cell? ⟨w.heap.size+1,0,none⟩=some (newS w.heap.size 1)/\(v.alloc (.cells #[.slice a1 n1 c1,.slice a2 n2 c2,.slice a3 n3 c3] 26)).cell? ⟨w.heap.size+1,1,none⟩=some (.slice none 0 0)/\(v.alloc (.cells #[.slice a1 n1 c1,.slice a2 n2 c2,.slice a3 n3 c3] 26)).cell? ⟨w.heap.size+1,2,none⟩=some (.slice none 0 0))/\
   H (X W.heap.size W (v.alloc (.cells #[.slice a1 n1 c1,.slice a2 n2 c2,.slice a3 n3 c3] 26)))/\
   H (∀u,X (v.alloc (.cells #[.slice a1 n1 c1,.slice a2 n2 c2,.slice a3 n3 c3] 26)).heap.size (v.alloc (.cells #[.slice a1 n1 c1,.slice a2 n2 c2,.slice a3 n3 c3] 26)) u->(u.cell? ⟨v.heap.size,0,none⟩=some (.slice a1 n1 c1)/\u.cell? ⟨v.heap.size,1,none⟩=some (.slice a2 n2 c2)/\u.cell? ⟨v.heap.size,2,none⟩=some (.slice a3 n3 c3))/\BkM W.heap.size v.heap.size u (.slice a1 n1 c1) (.slice a2 n2 c2) (.slice a3 n3 c3) (putAt bk0 0 ⟨1,1,tA⟩)/\v.heap.size<=u.heap.size):=by
  obtain⟨_,kb,ks,kt,_⟩:=KX W (S _ _);have h:=aBM kb (by omega) aBL aE2 kt sS 1 1 tA;rw [ex1,aPZ] at h;refine h.mono ?_;rintro e v ⟨hp,hv⟩;rw [if_pos rfl] at hp;obtain⟨sv,nv,lv,rfl,ho⟩:=hp;have hbk:=ho.bkm;obtain⟨a1,c1,rfl,_,_⟩:=hbk.sh.slice;obtain⟨a2,c2,rfl,_,_⟩:=hbk.nm.slice;obtain⟨a3,c3,rfl,_,_⟩:=hbk.lk.slice;refine ⟨a1,c1,_,a2,c2,_,a3,c3,_,rfl,(KX _ (KA v _ hv)).1,KA v _ hv,fun u hu=> ?_⟩;refine ⟨bE ((hu.block _ (by simp)).trans (C v _)),hbk.below (D _) ((Sh.aC (S _ _) (D _) _).trans (hu.mono (by simp))), ?_⟩;have:=hu.size;simp at this;omega
 have E2:H (∀u,X W.heap.size W u->ζ Z 13 #[.agg #[newS w.heap.size 1,.slice none 0 0,.slice none 0 0],.string sS,.int .i64 1,.int .i64 1,.string tB] u fun e v=>e=.returned (.tuple #[aEx,.int .i64 10])/\((v.alloc (.cells #[.slice none 0 0,.slice none 0 0,.slice none 0 0] 26)).cell? ⟨w.heap.size+1,0,none⟩=some (newS w.heap.size 1)/\(v.alloc (.cells #[.slice none 0 0,.slice none 0 0,.slice none 0 0] 26)).cell? ⟨w.heap.size+1,1,none⟩=some (.slice none 0 0)/\(v.alloc (.cells #[.slice none 0 0,.slice none 0 0,.slice none 0 0] 26)).cell? ⟨w.heap.size+1,2,none⟩=some (.slice none 0 0))/\H (X W.heap.size W (v.alloc (.cells #[.slice none 0 0,.slice none 0 0,.slice none 0 0] 26)))/\H (X u.heap.size u (v.alloc (.cells #[.slice none 0 0,.slice none 0 0,.slice none 0 0] 26)))):=fun u hu=>by obtain⟨_,kb,ks,kt,_⟩:=KX u hu;have h:=aBM kb ks aBL aE2 kt sS 1 1 tB;rw [ex2] at h;refine h.mono ?_;rintro e v hp;obtain⟨rfl,hv⟩:=aBN (w:=w) hp (by decide);have hv2:=KA v (.cells #[.slice none 0 0,.slice none 0 0,.slice none 0 0] 26) (Sh.aD hu hu.size hv);exact⟨rfl,(KX _ hv2).1,hv2,Sh.aC hv (D _) _⟩
 have E3:H (∀u,X W.heap.size W u->ζ Z 30 #[.agg #[newS w.heap.size 1,.slice none 0 0,.slice none 0 0],.string sS] u fun e v=>e=.returned (.tuple #[aEx,.int .i64 15])/\((v.alloc (.cells #[.slice none 0 0,.slice none 0 0,.slice none 0 0] 26)).cell? ⟨w.heap.size+1,0,none⟩=some (newS w.heap.size 1)/\(v.alloc (.cells #[.slice none 0 0,.slice none 0 0,.slice none 0 0] 26)).cell? ⟨w.heap.size+1,1,none⟩=some (.slice none 0 0)/\(v.alloc (.cells #[.slice none 0 0,.slice none 0 0,.slice none 0 0] 26)).cell? ⟨w.heap.size+1,2,none⟩=some (.slice none 0 0))/\H (X W.heap.size W (v.alloc (.cells #[.slice none 0 0,.slice none 0 0,.slice none 0 0] 26)))/\H (X u.heap.size u (v.alloc (.cells #[.slice none 0 0,.slice none 0 0,.slice none 0 0] 26)))):=fun u hu=>by obtain⟨_,kb,ks,kt,_⟩:=KX u hu;have h:=aDb kb ks aBL sS;rw [ex3] at h;refine h.mono ?_;rintro e v hp;obtain⟨rfl,hv⟩:=aBN (w:=w) hp (by decide);have hv2:=KA v (.cells #[.slice none 0 0,.slice none 0 0,.slice none 0 0] 26) (Sh.aD hu hu.size hv);exact⟨rfl,(KX _ hv2).1,hv2,Sh.aC hv (D _) _⟩
 have E4:H (∀u,X W.heap.size W u->ζ Z 13 #[.agg #[newS w.heap.size 1,.slice none 0 0,.slice none 0 0],.string sS,.int .i64 65,.int .i64 1,.string tC] u fun e v=>e=.returned (.tuple #[aEx,.int .i64 9])/\H (X W.heap.size W (v.alloc (.cells #[.slice none 0 0,.slice none 0 0,.slice none 0 0] 26)))/\H (X u.heap.size u (v.alloc (.cells #[.slice none 0 0,.slice none 0 0,.slice none 0 0] 26)))):=fun u hu=>by obtain⟨_,kb,ks,kt,_⟩:=KX u hu;have h:=aBM kb ks aBL aE2 kt sS 65 1 tC;rw [ex4] at h;refine h.mono ?_;rintro e v hp;obtain⟨rfl,hv⟩:=aBN (w:=w) hp (by decide);exact⟨rfl,KA v (.cells #[.slice none 0 0,.slice none 0 0,.slice none 0 0] 26) (Sh.aD hu hu.size hv),Sh.aC hv (D _) _⟩
 have HKW:H (∀u,X W.heap.size W u->X w.heap.size w u):=fun u hu=>(KX u hu).2.2.2.2;rw [hW] at d0 d1 d2;have HW:H ((w.alloc (.cells #[.string sS,.slice none 0 0] 78)).alloc (.cells #[newS w.heap.size 1,.slice none 0 0,.slice none 0 0] 26)=W):=hW.symm;clear hW HB0 hX0 hX1 KX KA hsz T;go_enter Tryz.func9,Tryz.ntmps9;go_wp2_with (first|(go_at_call 13;rw [HW.out];refine C1.mono ?_;clear C1;rintro e v ⟨a1,c1,n1,a2,c2,n2,a3,c3,n3,rfl,⟨f0,f1,f2⟩,HV,HK⟩)|(go_at_call 13;refine (E2.out _ HV.out).mono ?_;clear E2;rintro e v2 ⟨rfl,⟨g0,g1,g2⟩,HV2,HU2⟩)|(go_at_call 30;refine (E3.out _ HV2.out).mono ?_;clear E3;rintro e v3 ⟨rfl,⟨h0,h1,h2⟩,HV3,HU3⟩)|(go_at_call 13;refine (E4.out _ HV3.out).mono ?_;clear E4;rintro e v4 ⟨rfl,HV4,HU4⟩;have HBB:=Sh.aD (Sh.aD HU2.out HU2.out.size HU3.out) (ε HU2.out.size HU3.out.size) HU4.out;obtain⟨⟨i0,i1,i2⟩,kb,ks⟩:=HK.out _ HBB;have HKB:H _:=kb;have HKS:H _:=ks;have CG:=aLl HKB.out HKS.out sS 1 1;rw [ex5] at CG;have aOQ:H _:=HBB;clear kb ks HBB)|(go_at_call 22;refine CG.mono ?_;clear CG;rintro e v5 ⟨rfl,hb5⟩;obtain⟨⟨j0,j1,j2⟩,kb,ks⟩:=HK.out _ (Sh.aD aOQ.out aOQ.out.size hb5);have CS:=aKG kb ks kb ks;rw [ex6] at CS;have HB5:H _:=Sh.aD HV4.out HV4.out.size hb5;clear kb ks hb5)|(go_at_call 19;refine CS.mono ?_;clear CS;rintro e v6 ⟨rfl,hb6⟩;have HB6:H _:=Sh.aD HB5.out HB5.out.size hb6;clear hb6))
 go_ret;exact⟨rfl,HKW.out _ HB6.out⟩
def aNY (w:M) (x:aP) (e:Ending) (w':M):Prop:=(∃b:Bool,e=.returned (.bool b)/\(b=O->x.names.length+x.links.length < 300)/\(x.sheets.length+dN x.sheets<=1125899906842624->(b=O↔x.sheets.length+dN x.sheets < 1000/\x.names.length+x.links.length < 300)))/\X w.heap.size w w'
theorem aFV {z:Int} (h1: -9223372036854775808<=z) (h2:z<=9223372036854775807):IntKind.i64.wrap z=z:=by rw [κ];omega
theorem aHm {lo hi:Nat} {w:M} {sv nv lv:α} {x:aP} (h:BkM lo hi w sv nv lv x) (hhi:hi<=w.heap.size) (hn:x.names.length<=1125899906842624) (hk:x.links.length<=1125899906842624):
  ζ Z 8 #[.agg #[sv,nv,lv]] w (aNY w x):=by
 obtain⟨sa,sc,rfl,hs1,hs2⟩:=h.sh.slice;obtain⟨na,nc,rfl,_,_⟩:=h.nm.slice;obtain⟨la,lc,rfl,_,_⟩:=h.lk.slice;have HB:H (X w.heap.size w (w.alloc (bkO (.slice sa x.sheets.length sc) (.slice na x.names.length nc) (.slice la x.links.length lc)))):=Sh.aC (S _ _) (D _) _;have HX:H ((w.alloc (bkO (.slice sa x.sheets.length sc) (.slice na x.names.length nc) (.slice la x.links.length lc))).heap[w.heap.size]? =some (bkO (.slice sa x.sheets.length sc) (.slice na x.names.length nc) (.slice la x.links.length lc))):=C w _;have c0:=(bE HX.out).1;have HS:H (Shs lo hi w (.slice sa x.sheets.length sc) x.sheets):=h.sh;have hlen:x.sheets.length<=9223372036854775807:=by unfold maxLen at hs2;omega
 clear h hs1 hs2;go_enter Tryz.func8,Tryz.ntmps8;go_wp2;go_loopw [3,9] (fun m i wr=>∃(k:Nat) (z:Int),k<=x.sheets.length/\i=.int .i64 (k:Nat)/\m=.int .i64 z/\H (x.sheets.length+dN x.sheets<=1125899906842624->z=((k+dN (x.sheets.take k):Nat):Int))/\H (X w.heap.size w wr)/\H (wr.heap[w.heap.size]? =some (bkO (.slice sa x.sheets.length sc) (.slice na x.names.length nc) (.slice la x.links.length lc)))) (fun _ i _=>x.sheets.length - (intOf i).toNat)
 case atStart=>exact⟨0,0,σ _,rfl,rfl,fun _=>by simp [dN],HB,HX⟩
 case round=>
  obtain⟨k,z,hkl,rfl,rfl,HZ,HD,HX⟩:=hrel;clear HB;by_cases hkL:k < x.sheets.length
  ·have hki:(k:Int) < x.sheets.length:=by omega
   obtain⟨a',cv,ov,W,rfl,rfl,hcl,hW,R1,R2, -⟩:=(HS.out.below hhi HD.out).runs hkL;obtain⟨ca,cc,rfl,hl1,hl2⟩:=hcl.slice;have c1:=aI (show W.heap[wr.heap.size]? =some (.cells #[.string x.sheets[k].name,.slice ca x.sheets[k].cells.length cc] 78) by rw [hW];exact C wr _) (j:=1) rfl;have HD2:H (X w.heap.size w W):=by rw [hW];exact Sh.aC HD.out (D _) _
   have HX2:H (W.heap[w.heap.size]? =some (bkO (.slice (some a') x.sheets.length sc) (.slice na x.names.length nc) (.slice la x.links.length lc))):=by rw [hW];exact(δ wr _ _ (aF HX.out)).trans HX.out
   have mF:k < 9223372036854775807:=by omega
   have hs:=xU hkL;have hle:=aEf (L:=x.sheets) (k+1);clear hcl hW HX;have HQ:H (x.sheets.length+dN x.sheets<=1125899906842624->IntKind.i64.wrap (z+IntKind.i64.wrap (1+(x.sheets[k].cells.length:Int)))=((k+1+dN (x.sheets.take (k+1)):Nat):Int)):=fun hb=>by have h1:IntKind.i64.wrap (1+(x.sheets[k].cells.length:Int))=1+(x.sheets[k].cells.length:Int):=aFV (by omega) (by omega);rw [h1,HZ.out hb];rw [show ((k+dN (x.sheets.take k):Nat):Int)+(1+(x.sheets[k].cells.length:Int))=((k+1+dN (x.sheets.take (k+1)):Nat):Int) by omega];exact aFV (by omega) (by omega)
   clear hs hle HZ;generalize x.sheets[k]=y at *;obtain⟨yn,yc⟩:=y;dsimp only at *;generalize hq:IntKind.i64.wrap (1+(yc.length:Int))=q1 at *;generalize hq2:IntKind.i64.wrap (z+q1)=q2 at *;go_wp2_with (first|((with_reducible show wL (θ 78 _));refine aB rfl 78 _ rfl _ _ rfl R1.out ?_;clear R1)|((with_reducible show wL (γ 78 _ _));refine aA rfl 78 _ _ rfl _ _ _ rfl rfl R2.out ?_;clear R2))
   go_roundw
   case rel=>exact⟨k+1,q2,by omega,by go_num,by go_num,HQ,HD2,HX2⟩
   case measure=>simp [intOf];omega
  ·have hki:¬(k:Int) < x.sheets.length:=by omega
   obtain⟨_,c3,c4⟩:=bE HX.out;have HZ2:H (x.sheets.length+dN x.sheets<=1125899906842624->z=((x.sheets.length+dN x.sheets:Nat):Int)):=fun hb=>by rw [HZ.out hb,π (by omega)];omega
   obtain⟨q,hq⟩:∃q,q=x.names.length+x.links.length:=⟨_,rfl⟩
   have e1:(x.names.length:Int)+(x.links.length:Int)=(q:Int):=by omega
   have e2:IntKind.i64.wrap (q:Int)=(q:Int):=by rw [κ];omega
   have HQ:H (q=x.names.length+x.links.length):=hq;clear hq HZ hkl hkL hn hk;by_cases hz:z < 1000
   ·by_cases h3:q < 300
    ·have h3i:(q:Int) < 300:=by omega
     go_wp2;go_ret;exact⟨⟨O,rfl,fun _=>by rw [<-HQ.out];exact h3,fun hb=>⟨fun _=>by have:=HZ2.out hb;have:=HQ.out;omega,fun _=>rfl⟩⟩,HD.out⟩
    ·have h3i:¬(q:Int) < 300:=by omega
     go_wp2;go_ret;exact⟨⟨B,rfl,fun e=>(by cases e),fun hb=>⟨fun e=>(by cases e),fun e=>by have:=HQ.out;omega⟩⟩,HD.out⟩
   ·go_wp2;go_ret;exact⟨⟨B,rfl,fun e=>(by cases e),fun hb=>⟨fun e=>(by cases e),fun e=>by have:=HZ2.out hb;omega⟩⟩,HD.out⟩
structure tZ where
 sh:ByteArray
 r:Int
 c:Int
 t:ByteArray
 at1:Int
 a:Option ρ
 n:Nat
 m:Nat
def aBO (p:tZ):List α:=[.string p.sh,.int .i64 p.r,.int .i64 p.c,.string p.t,.int .i64 p.at1,.slice p.a p.n p.m]
abbrev aKI (p:tZ):α:=.agg #[.string p.sh,.int .i64 p.r,.int .i64 p.c,.string p.t,.int .i64 p.at1,.slice p.a p.n p.m]
def aP1 (g:Nat) (w:M) (sv nv lv:α) (x:aP):Prop:=∃lo hi,BkM lo hi w sv nv lv x/\hi<=w.heap.size/\(hi<=g\/g < lo)
theorem BkM.kept {lo hi:Nat} {w w':M} {sv nv lv:α} {x:aP} (h:BkM lo hi w sv nv lv x) (hk:∀i,lo<=i->i < hi->w'.heap[i]? =w.heap[i]?):BkM lo hi w' sv nv lv x:=⟨h.sh.kept hk,h.nm.kept hk,h.lk.kept hk⟩
structure aP2 (x:aP):Prop where
 rt:Right x.sheets
 nm:x.names.length<=1000
 lk:x.links.length<=1000
 ok:aLV x.sheets
theorem aKJ {L:List aT} {s:aT} (hs:s ∈ L):s.cells.length<=dN L:=by
 induction L with
 | nil=>cases hs
 | cons a r ih=>
  rw [aDz];rcases List.mem_cons.1 hs with rfl | hs
  ·omega
  ·have:=ih hs;omega
structure RS (w u:M) (a1 a2 a3:α) (x:aP):Prop where
 bx:u.heap[w.heap.size]? =some (bkO a1 a2 a3)
 bk:aP1 w.heap.size u a1 a2 a3 x
 fn:aP2 x
 bl:X w.heap.size w u
theorem mR {u:M} {q:Nat} {p:tZ} (h:u.heap[q]? =some (.cells (aBO p).toArray 29)):u.cell? ⟨q,0,none⟩=some (.string p.sh)/\u.cell? ⟨q,1,none⟩=some (.int .i64 p.r)/\u.cell? ⟨q,2,none⟩=some (.int .i64 p.c)/\u.cell? ⟨q,3,none⟩=some (.string p.t)/\u.cell? ⟨q,4,none⟩=some (.int .i64 p.at1):=
 ⟨aI h rfl,aI h rfl,aI h rfl,aI h rfl,aI h rfl⟩
structure PS (w:M) (a1 a2 a3:α) (p:tZ) (u:M):Prop where
 b0:u.heap[w.heap.size]? =some (bkO a1 a2 a3)
 b1:u.heap[w.heap.size+1]? =some (.cells (aBO p).toArray 29)
 bl:X w.heap.size w u
theorem PS.step {w u v:M} {a1 a2 a3:α} {p:tZ} (h:PS w a1 a2 a3 p u) (hb:X u.heap.size u v):PS w a1 a2 a3 p v:=
 ⟨(hb.block _ (aF h.b0)).trans h.b0,(hb.block _ (aF h.b1)).trans h.b1,Sh.aD h.bl h.bl.size hb⟩
theorem PS.frz {w u v:M} {a1 a2 a3:α} {p:tZ} {lo:Nat} (h:PS w a1 a2 a3 p u) (hlo:w.heap.size+1 < lo) (hb:X lo u v):PS w a1 a2 a3 p v:=
 ⟨(hb.block _ (by omega)).trans h.b0,(hb.block _ (by omega)).trans h.b1,h.bl.trans (hb.mono (by omega))⟩
theorem PS.new (w:M) (a1 a2 a3:α) (p:tZ):PS w a1 a2 a3 p ((w.alloc (bkO a1 a2 a3)).alloc (.cells (aBO p).toArray 29)):=by
 refine ⟨?_, ?_,Sh.aC (Sh.aC (S _ _) (D _) _) (D _) _⟩
 ·rw [δ _ _ _ (by simp)];exact C w _
 ·simpa using C (w.alloc (bkO a1 a2 a3)) (.cells (aBO p).toArray 29)
structure BB (g:Nat) (c1 c2 c3:α) (lo hi:Nat) (y:aP) (u:M):Prop where
 bx:u.heap[g]? =some (bkO c1 c2 c3)
 bk:BkM lo hi u c1 c2 c3 y
 hh:hi<=g
theorem BB.step {g lo hi:Nat} {c1 c2 c3:α} {y:aP} {u v:M} (h:BB g c1 c2 c3 lo hi y u) (hb:X u.heap.size u v):BB g c1 c2 c3 lo hi y v:=
 ⟨(hb.block _ (aF h.bx)).trans h.bx,h.bk.kept fun i _ hi'=>hb.block i (by have:=aF h.bx;have:=h.hh;omega),h.hh⟩
theorem BB.low {g lo hi l:Nat} {c1 c2 c3:α} {y:aP} {u v:M} (h:BB g c1 c2 c3 lo hi y u) (hl:g < l) (hb:X l u v):BB g c1 c2 c3 lo hi y v:=
 ⟨(hb.block _ hl).trans h.bx,h.bk.kept fun i _ hi'=>hb.block i (by have:=h.hh;omega),h.hh⟩
theorem BB.all {g lo hi:Nat} {c1 c2 c3:α} {y:aP} {u:M} (h:BB g c1 c2 c3 lo hi y u):BkM 0 u.heap.size u c1 c2 c3 y:=h.bk.mono (σ _) (by have:=aF h.bx;have:=h.hh;omega)
theorem BB.lod {g lo hi:Nat} {c1 c2 c3:α} {y:aP} {u:M} (h:BB g c1 c2 c3 lo hi y u):(G 26 (pt g)).run Z u=.ok (.agg #[c1,c2,c3]) u:=ldB h.bx
theorem BB.new {lo:Nat} {c1 c2 c3:α} {y:aP} {v:M} (h:dD lo v c1 c2 c3 y):BB v.heap.size c1 c2 c3 lo v.heap.size y (v.alloc (bkO c1 c2 c3)):=
 ⟨C v _,h.bkm.kept fun i _ hi'=>δ _ _ _ hi',D _⟩
theorem CpB.own {base gs gn gl:Nat} {w:M} {x:aP} (h:CpB base w gs gn gl x) (hz:Small x):dD base w (newS gs x.sheets.length) (newS gn x.names.length) (newS gl x.links.length) x:=by
 obtain⟨cur,r1,r2,r3⟩:=h.row;have b1:=h.b1;have b2:=h.b2;have b3:=h.b3;refine ⟨⟨fun j=>newS (gs+1+j) ((x.sheets[j]?.map (·.cells.length)).getD 0),⟨?_,.inr ⟨gs,x.sheets.length,cur,rfl,b1,r1,D _,bG hz.sh,by simpa using r2, ?_⟩⟩,fun j o hj=> ?_⟩, ?_, ?_⟩
 ·rw [bL (enc:=bW) bD];simp
 ·rw [π (by rw [Array.length_toList];omega)];refine yV r2 fun j hj=>⟨(r3 j hj).1, ?_⟩
  rw [(r3 j hj).2];simp [N hj]
 ·obtain ⟨hjl,rfl⟩:=List.getElem?_eq_some_iff.1 hj;dsimp only;rw [N hjl];exact bS (h.cls j hjl) (by rw [bL bK];rfl) (by omega) (bG (hz.cl _ (ι hjl)))
 ·exact bS h.nms (by rw [bL gV]) (by omega) (bG hz.nm)
 ·exact bS h.lks (by rw [bL gW]) (by omega) (bG hz.lk)
def iZ:aP:=⟨[],[],[]⟩
theorem aKK (base:Nat) (w:M):dD base w (.slice none 0 0) (.slice none 0 0) (.slice none 0 0) iZ:=
 ⟨⟨fun _=> .slice none 0 0,ξ w base 78 2,fun j o hj=>by simp [iZ] at hj⟩,ξ w base 89 3,ξ w base 91 7⟩
theorem jI.all {u v:M} {err:Int} {y:aP} {e:Ending} (h:jI u err y e v):∃c1 n1 m1 c2 n2 m2 c3 n3 m3,e=.returned (.tuple #[.agg #[.slice c1 n1 m1,.slice c2 n2 m2,.slice c3 n3 m3],.int .i64 err])/\dD u.heap.size v (.slice c1 n1 m1) (.slice c2 n2 m2) (.slice c3 n3 m3) (if err=0 then y else iZ)/\X u.heap.size u v:=by
 obtain⟨hp,hv⟩:=h;by_cases he:err=0
 ·rw [if_pos he] at hp;rw [if_pos he];obtain⟨s,n,l,rfl,ho⟩:=hp;obtain⟨cv,q1,_⟩:=ho.sh;obtain⟨c1,k1,rfl⟩:=aW q1;obtain⟨c2,k2,rfl⟩:=aW ho.nm;obtain⟨c3,k3,rfl⟩:=aW ho.lk;exact⟨c1,_,k1,c2,_,k2,c3,_,k3,by rw [he],ho,hv⟩
 ·rw [if_neg he] at hp;rw [if_neg he];exact⟨none,0,0,none,0,0,none,0,0,hp,aKK _ _,hv⟩
theorem aP3 {u:M} {g o:Nat} {a:Option ρ} {n c:Nat} {old:α} (hc:u.cell? ⟨g,o,none⟩=some old) (hf:u.frozen? ⟨g,o,none⟩=B):(β 22 (.pointer (some ⟨g,o,none⟩)) (.slice a n c)).run Z u=.ok () (u.setCell ⟨g,o,none⟩ (.slice a n c)):=by have h1:=Tryz.underlying22;have h2:=Tryz.isAgg22;have h3:=Tryz.sizeOf22;go_simp
abbrev cvN (gs:Nat) (x:aP) (j:Nat):α:=newS (gs+1+j) ((x.sheets[j]?.map (·.cells.length)).getD 0)
abbrev mvX (gs i:Nat) (x:aP):List α:=((pairs x.sheets (cvN gs x)).flatMap bW).take (i * 2)++((pairs x.sheets (cvN gs x)).flatMap bW).drop ((i+1) * 2)
theorem aNZ (gs i:Nat) (x:aP):mvX gs i x=(pairs (bJ x i).sheets fun k=>if k < i then cvN gs x k else cvN gs x (k+1)).flatMap bW:=by unfold mvX;rw [<-lI (enc:=bW) bD,<-lH (enc:=bW) bD,<-μ,oG];rfl
theorem aN0 {base gs gn gl i j:Nat} {w1 w5:M} {x:aP} (h:CpB base w1 gs gn gl x) (hz:Small x) (hi:i < x.sheets.length) (hj:j < x.sheets.length)
  (h5:w5.heap[gs]? =some (.cells ((mvX gs i x).take (j * 2)++ [.string x.sheets[i].name,cvN gs x i]++(mvX gs i x).drop (j * 2)).toArray 78 (0,0)))
  (hk:∀g o,g ≠ gs->w1.heap[g]? =some o->w5.heap[g]? =some o):
  dD base w5 (newS gs x.sheets.length) (newS gn x.names.length) (newS gl x.links.length) (dU x i j):=by
 have b1:=h.b1;have b2:=h.b2;have b3:=h.b3;have hxl:(bJ x i).sheets.length=x.sheets.length - 1:=by simp [bJ,List.length_eraseIdx,hi]
 have hmv:dU x i j=bZ (bJ x i) j x.sheets[i]:=by simp [dU,N hi]
 have hjl:j<=(bJ x i).sheets.length:=by omega
 have hal:(bZ (bJ x i) j x.sheets[i]).sheets.length=x.sheets.length:=by simp [bZ];omega
 have R:∀m o,x.sheets[m]? =some o->w5.ownsRow base 57 3 (cvN gs x m) o.cells.length (o.cells.flatMap cellC):=fun m o hm=>by obtain⟨hl,rfl⟩:=List.getElem?_eq_some_iff.1 hm;have:=hk _ _ (by omega) (h.cls m hl);unfold cvN;rw [hm];exact bS this (by rw [bL bK];rfl) (by omega) (bG (hz.cl _ (ι hl)))
 have E:∀k o,(bJ x i).sheets[k]? =some o->w5.ownsRow base 57 3 (if k < i then cvN gs x k else cvN gs x (k+1)) o.cells.length (o.cells.flatMap cellC):=fun k o hk2=>by
  simp only [bJ,List.getElem?_eraseIdx] at hk2;by_cases e:k < i
  ·rw [if_pos e] at hk2 ⊢;exact R _ _ hk2
  ·rw [if_neg e] at hk2 ⊢;exact R _ _ hk2
 rw [hmv];refine ⟨⟨fun k=>if k < j then (if k < i then cvN gs x k else cvN gs x (k+1)) else if k=j then cvN gs x i else (if k - 1 < i then cvN gs x (k - 1) else cvN gs x (k - 1+1)), ?_,fun k o ho=> ?_⟩, ?_, ?_⟩
 ·have e0: [Value.string x.sheets[i].name,cvN gs x i]=[((x.sheets[i]:aT),cvN gs x i)].flatMap bW:=rfl;rw [aNZ,e0,<-lI (enc:=bW) bD,<-lH (enc:=bW) bD,<-μ,<-μ,List.append_assoc,List.singleton_append,uZ hjl] at h5;rw [hal];exact bS h5 (by rw [bL (enc:=bW) bD];simp [bZ];omega) b1 (bG hz.sh)
 ·rcases add_get hjl ho with ⟨rfl,rfl⟩ | ⟨e,hk2⟩ | ⟨e,hk2⟩
  ·try dsimp only
   rw [if_neg (by omega),if_pos rfl];exact R _ _ (N hi)
  ·try dsimp only
   rw [if_pos e];exact E _ _ hk2
  ·try dsimp only
   rw [if_neg (by omega),if_neg (by omega)];exact E _ _ hk2
 ·exact bS (hk _ _ (by omega) h.nms) (by rw [bL gV];rfl) (by omega) (bG hz.nm)
 ·exact bS (hk _ _ (by omega) h.lks) (by rw [bL gW];rfl) (by omega) (bG hz.lk)
abbrev MvT (w:M) (v0:Nat) (A:ρ) (gn gl j:Nat) (x:aP) (nm:ByteArray) (sv:α) (Y:aP) (h:Nat) (W:M):Prop:=
 ζ Z 78 #[.slice (some A) (x.sheets.length - 1) x.sheets.length,.int .i64 (j:Nat),.slice (some ⟨h,0,none⟩) 1 1] W fun e w5=>e=.returned (.slice (some A) x.sheets.length x.sheets.length)/\H (w5.heap[v0+1]? =some (dF nm sv)/\w5.cell? ⟨v0,0,none⟩=some (.slice (some A) x.sheets.length x.sheets.length))/\H ((β 22 (pt v0) (.slice (some A) x.sheets.length x.sheets.length)).run Z w5=.ok () (w5.setCell ⟨v0,0,none⟩ (.slice (some A) x.sheets.length x.sheets.length)))/\H (aES w v0 (.slice (some A) x.sheets.length x.sheets.length) (newS gn x.names.length) (newS gl x.links.length) Y w5 (some A) x.sheets.length x.sheets.length)
theorem aHn {w u0:M} {i j:Nat} {x:aP} {lo hi:Nat} {sv nv lv:α} (h:BkM lo hi u0 sv nv lv x) (hhi:hi<=u0.heap.size) (hz:Small x) (hi:i < x.sheets.length) (hj:j < x.sheets.length) (hw:X w.heap.size w u0) (hX1:u0.heap[w.heap.size+1]? =some (bkO bI bI bI)):
  ζ Z 17 #[.agg #[sv,nv,lv]] u0 fun e v=>∃A gn gl nm q m d V1,e=.returned (.agg #[.slice (some A) x.sheets.length x.sheets.length,newS gn x.names.length,newS gl x.links.length])/\
   (v.alloc (.cells #[.slice (some A) x.sheets.length x.sheets.length,newS gn x.names.length,newS gl x.links.length] 26)).cell? ⟨v.heap.size,0,none⟩=some (.slice (some A) x.sheets.length x.sheets.length)/\
   H ((G 78 (.pointer (some (A.add (i * 2))))).run Z (v.alloc (.cells #[.slice (some A) x.sheets.length x.sheets.length,newS gn x.names.length,newS gl x.links.length] 26))=.ok (.agg #[.string nm,.slice q m d]) (v.alloc (.cells #[.slice (some A) x.sheets.length x.sheets.length,newS gn x.names.length,newS gl x.links.length] 26)))/\
   H ((β 78 (.pointer (some ⟨v.heap.size+1,0,none⟩)) (.agg #[.string nm,.slice q m d])).run Z ((v.alloc (.cells #[.slice (some A) x.sheets.length x.sheets.length,newS gn x.names.length,newS gl x.links.length] 26)).alloc (.cells #[dP,.slice none 0 0] 78))=.ok () V1)/\
   H (V1.drew.heap[v.heap.size+1]? =some (dF nm (.slice q m d))/\V1.drew.cell? ⟨v.heap.size,0,none⟩=some (.slice (some A) x.sheets.length x.sheets.length))/\
   H ((V1.drew.alloc (dF nm (.slice q m d))).heap[v.heap.size+1]? =some (dF nm (.slice q m d))/\(V1.drew.alloc (dF nm (.slice q m d))).cell? ⟨v.heap.size,0,none⟩=some (.slice (some A) x.sheets.length x.sheets.length))/\
   H (ζ Z 79 #[.slice (some A) x.sheets.length x.sheets.length,.int .i64 (i:Nat),.int .i64 ((i+1:Nat):Int)] V1.drew fun e w4=>e=.returned (.slice (some A) (x.sheets.length - 1) x.sheets.length)/\H (w4.heap[v.heap.size+1]? =some (dF nm (.slice q m d))/\w4.cell? ⟨v.heap.size,0,none⟩=some (.slice (some A) x.sheets.length x.sheets.length))/\
    H ((w4.alloc (dF nm (.slice q m d))).heap[v.heap.size+1]? =some (dF nm (.slice q m d))/\(w4.alloc (dF nm (.slice q m d))).cell? ⟨v.heap.size,0,none⟩=some (.slice (some A) x.sheets.length x.sheets.length))/\H (MvT w v.heap.size A gn gl j x nm (.slice q m d) (dU x i j) w4.heap.size (w4.alloc (dF nm (.slice q m d)))))/\
   H (ζ Z 79 #[.slice (some A) x.sheets.length x.sheets.length,.int .i64 (i:Nat),.int .i64 ((i+1:Nat):Int)] (V1.drew.alloc (dF nm (.slice q m d))) fun e w4=>e=.returned (.slice (some A) (x.sheets.length - 1) x.sheets.length)/\H (w4.heap[v.heap.size+1]? =some (dF nm (.slice q m d))/\w4.cell? ⟨v.heap.size,0,none⟩=some (.slice (some A) x.sheets.length x.sheets.length))/\H (MvT w v.heap.size A gn gl j x nm (.slice q m d) (dU x i j) V1.heap.size w4)):=by
 have hlen:x.sheets.length<=1000:=hz.sh;refine (sQ h hhi hz).mono ?_;rintro e v ⟨⟨gs,gn,gl,rfl,hC⟩,hb⟩;have hl1:=aF hX1;have hC:=hC.mono hw.size;have b1:=hC.b1;obtain⟨V,hV⟩:∃V,V=v.alloc (.cells #[newS gs x.sheets.length,newS gn x.names.length,newS gl x.links.length] 26):=⟨_,rfl⟩
 have hX:V.heap[v.heap.size]? =some (.cells #[newS gs x.sheets.length,newS gn x.names.length,newS gl x.links.length] 26):=by rw [hV];exact C v _
 have hbV:X v.heap.size v V:=by rw [hV];exact Sh.aC (S _ _) (D _) _
 have hVs:V.heap.size=v.heap.size+1:=by rw [hV];simp
 have hwv:X w.heap.size w v:=Sh.aD hw hw.size hb;have hbw:X w.heap.size w V:=Sh.aD hwv hwv.size hbV;have aDt:=(hb.block _ hl1).trans hX1;have nN:=(hbV.block _ (aF aDt)).trans aDt;have hne:w.heap.size+1 ≠ v.heap.size:=by have:=hb.size;omega
 have hCV:=hC.below hbV;obtain⟨cur,r1,r2,r3,r4⟩:=hCV.flat;have aQg:=aF r1;have hgb:gs ≠ v.heap.size:=fun e=>by rw [e,hX] at r1;simp at r1
 have hgr:gs ≠ w.heap.size+1:=fun e=>by rw [e,nN] at r1;simp at r1
 have eC:cvN gs x i=.slice (some ⟨gs+1+i,0,none⟩) x.sheets[i].cells.length x.sheets[i].cells.length:=by simp [cvN,N hi]
 obtain⟨cv0,q1,_⟩:=(hCV.own hz).sh;have hrow:V.ownsRow w.heap.size 78 2 (newS gs x.sheets.length) x.sheets.length ((pairs x.sheets (cvN gs x)).flatMap bW):=by
  have hcur:cur=cur.toList.toArray:=by simp
  rw [hcur,r3] at r1;exact bS r1 (by rw [bL (enc:=bW) bD];simp) b1 (bG hz.sh)
 obtain⟨A,c0,eA,l1,l2⟩:=aAO hrow hi eC;simp only [newS,Value.slice.injEq,Option.some.injEq,true_and] at eA;obtain⟨rfl,rfl⟩:=eA;obtain⟨sO,hsO⟩:∃sO,sO=dF x.sheets[i].name (.slice (some ⟨gs+1+i,0,none⟩) x.sheets[i].cells.length x.sheets[i].cells.length):=⟨_,rfl⟩
 obtain⟨V1,hV1⟩:∃V1,V1=V.alloc sO:=⟨_,rfl⟩
 have aBD:X V.heap.size V V1:=by rw [hV1];exact Sh.aC (S _ _) (D _) _
 have hB1:V1.heap[v.heap.size+1]? =some sO:=by rw [hV1,<-hVs];exact C V _
 have kV1:∀g o,V.heap[g]? =some o->V1.heap[g]? =some o:=fun g o ho=>(aBD.block _ (aF ho)).trans ho;have hgo:v.heap.size+1 ≠ gs:=by omega
 have ins:∀(W:M) (h:Nat) (cur':Array α),W.heap[gs]? =some (.cells cur' 78 (0,0))->cur'.size=x.sheets.length * 2->cur'.toList.take ((x.sheets.length - 1) * 2)=mvX gs i x->W.heap[h]? =some sO->h ≠ gs->(∀g o,g ≠ gs->V.heap[g]? =some o->W.heap[g]? =some o)->W.heap[v.heap.size+1]? =some sO->X w.heap.size w W->
   MvT w v.heap.size ⟨gs,0,none⟩ gn gl j x x.sheets[i].name (.slice (some ⟨gs+1+i,0,none⟩) x.sheets[i].cells.length x.sheets[i].cells.length) (dU x i j) h W:=fun W h cur' g1 g2 g3 g4 g5 kW gO hbW=>by
  rw [hsO] at g4;have I:=aDs (n:=x.sheets.length - 1) (i:=j) (es:=[.string x.sheets[i].name,.slice (some ⟨gs+1+i,0,none⟩) x.sheets[i].cells.length x.sheets[i].cells.length]) g1 (by omega) g3 (by omega) (by omega) g4 g5 rfl (fun u hu=>by
   simp only [List.mem_cons,List.not_mem_nil,or_false] at hu;rcases hu with rfl | rfl <;> rfl) (fun u hu=>by
   rw [mvX] at hu;rcases List.mem_append.1 hu with hu | hu
   ·exact r4 u (by rw [r3];exact List.mem_of_mem_take hu)
   ·exact r4 u (by rw [r3];exact List.mem_of_mem_drop hu))
  rw [show x.sheets.length - 1+1=x.sheets.length by omega] at I;refine Calls.mono I ?_;rintro e w5 ⟨rfl,h5,hg⟩;have k5:∀g o,g ≠ gs->W.heap[g]? =some o->w5.heap[g]? =some o:=fun g o hn ho=>(hg.block g (aF ho) (by simpa using hn)).trans ho;rw [<-eC] at h5;have hO:=aN0 hCV hz hi hj h5 fun g o hn ho=>k5 g o hn (kW g o hn ho);have hb5:X w.heap.size w w5:=hbW.grown hg hbW.size (fun k hk=>by cases hk;exact b1);have hX5:=k5 _ _ (fun e=>hgb e.symm) (kW _ _ (fun e=>hgb e.symm) hX);have F:=tV (g0:=v.heap.size) (r0:=w.heap.size+1) hO hX5 (k5 _ _ (fun e=>hgr e.symm) (kW _ _ (fun e=>hgr e.symm) nN)) hne hb5 hwv.size (by omega);have hs5:=k5 _ _ hgo gO;rw [hsO] at hs5;have F2:=F;obtain⟨_,f1,f2,_⟩:=F2;exact⟨rfl,⟨hs5,f1⟩,aP3 f1 f2,F⟩
 have del:∀(u:M),(∀g o,V.heap[g]? =some o->u.heap[g]? =some o)->u.heap[v.heap.size+1]? =some sO->X w.heap.size w u->
   ζ Z 79 #[newS gs x.sheets.length,.int .i64 (i:Nat),.int .i64 ((i+1:Nat):Int)] u fun e w4=>e=.returned (.slice (some ⟨gs,0,none⟩) (x.sheets.length - 1) x.sheets.length)/\(∀g o,g ≠ gs->V.heap[g]? =some o->w4.heap[g]? =some o)/\(∀g o,g ≠ gs->u.heap[g]? =some o->w4.heap[g]? =some o)/\X w.heap.size w w4/\w4.heap.size=u.heap.size/\∃cur',w4.heap[gs]? =some (.cells cur' 78 (0,0))/\cur'.size=x.sheets.length * 2/\cur'.toList.take ((x.sheets.length - 1) * 2)=mvX gs i x:=fun u ku hO hbu=>by
  refine (aAx (ku _ _ r1) r2 hi (by omega) r4).mono ?_;rintro e w4 ⟨rfl,⟨cur',q1,q2,q3⟩,q4,hg⟩;have k4:∀g o,g ≠ gs->u.heap[g]? =some o->w4.heap[g]? =some o:=fun g o hn ho=>(hg.block g (aF ho) (by simpa using hn)).trans ho;rw [r3] at q3;exact⟨rfl,fun g o hn ho=>k4 g o hn (ku g o ho),k4,hbu.grown hg hbu.size (fun k hk=>by cases hk;exact b1),q4,cur',q1,q2,q3⟩
 have aKs:X w.heap.size w V1:=Sh.aD hbw hbw.size aBD;have kd:∀g o,V.heap[g]? =some o->V1.drew.heap[g]? =some o:=kV1;have ha:∀(u:M) g o,u.heap[g]? =some o->(u.alloc sO).heap[g]? =some o:=fun u g o ho=>(δ u sO g (aF ho)).trans ho;have hcb:∀(u:M),u.heap[v.heap.size]? =some (.cells #[newS gs x.sheets.length,newS gn x.names.length,newS gl x.links.length] 26)->u.cell? ⟨v.heap.size,0,none⟩=some (newS gs x.sheets.length):=fun u hu=>aI hu rfl;have hXd:=kd _ _ hX;have hOd:V1.drew.heap[v.heap.size+1]? =some sO:=hB1;have hbd:X w.heap.size w V1.drew:=aKs.drew;rw [hVs,<-hsO,<-hV1] at l2;rw [hV] at l1;refine ⟨⟨gs,0,none⟩,gn,gl,x.sheets[i].name,some ⟨gs+1+i,0,none⟩,x.sheets[i].cells.length,x.sheets[i].cells.length,V1,rfl, ?_,l1, ?_, ?_, ?_, ?_, ?_⟩
 ·rw [<-hV];exact hcb _ hX
 ·rw [<-hV];exact l2
 ·rw [<-hsO];exact⟨hOd,hcb _ hXd⟩
 ·rw [<-hsO];exact⟨ha _ _ _ hOd,hcb _ (ha _ _ _ hXd)⟩
 ·rw [<-hsO];refine (del V1.drew kd hOd hbd).mono ?_;rintro e w4 ⟨rfl,kv,k4,hb4,hs4,cur',g1,g2,g3⟩;have hO4:=k4 _ _ hgo hOd;have hX4:=kv _ _ (fun e=>hgb e.symm) hX;exact⟨rfl,⟨hO4,hcb _ hX4⟩,⟨ha _ _ _ hO4,hcb _ (ha _ _ _ hX4)⟩,ins (w4.alloc sO) w4.heap.size cur' (ha _ _ _ g1) g2 g3 (C w4 sO) (by have:=aF g1;omega) (fun g o hn ho=>ha _ _ _ (kv g o hn ho)) (ha _ _ _ hO4) (Sh.aC hb4 (D _) _)⟩
 ·rw [<-hsO];have hOn:(V1.drew.alloc sO).heap[V1.heap.size]? =some sO:=C V1.drew sO;refine (del (V1.drew.alloc sO) (fun g o ho=>ha _ _ _ (kd g o ho)) (ha _ _ _ hOd) (Sh.aC hbd (D _) _)).mono ?_;rintro e w4 ⟨rfl,kv,k4,hb4,hs4,cur',g1,g2,g3⟩;have hO4:=k4 _ _ hgo (ha _ _ _ hOd);have hng:V1.heap.size ≠ gs:=by have:=aBD.size;omega
  exact⟨rfl,⟨hO4,hcb _ (kv _ _ (fun e=>hgb e.symm) hX)⟩,ins w4 V1.heap.size cur' g1 g2 g3 (k4 _ _ hng hOn) hng kv hO4 hb4⟩
theorem aKL {lo hi:Nat} {w:M} {sv nv lv:α} {x:aP} (h:BkM lo hi w sv nv lv x) (hhi:hi<=w.heap.size) (hz:Small x) (s:ByteArray) (at_:Int):
  ζ Z 32 #[.agg #[sv,nv,lv],.string s,.int .i64 at_] w (jI w (qE x s at_) (dU x ((eH x.sheets s).getD 0) at_.toNat)):=by
 obtain⟨sa,sc,rfl,hs1,hs2⟩:=h.sh.slice;obtain⟨na,nc,rfl,_,_⟩:=h.nm.slice;obtain⟨la,lc,rfl,_,_⟩:=h.lk.slice;obtain⟨W,hW⟩:∃W,W=(w.alloc (bkO (.slice sa x.sheets.length sc) (.slice na x.names.length nc) (.slice la x.links.length lc))).alloc (.cells #[.slice none 0 0,.slice none 0 0,.slice none 0 0] 26):=⟨_,rfl⟩
 have HB0:X w.heap.size w W:=by rw [hW];exact Sh.aC (Sh.aC (S _ _) (D _) _) (D _) _
 have hX0:W.heap[w.heap.size]? =some (bkO (.slice sa x.sheets.length sc) (.slice na x.names.length nc) (.slice la x.links.length lc)):=by rw [hW,δ _ _ _ (by simp)];exact C w _
 have hX1:W.heap[w.heap.size+1]? =some (.cells #[.slice none 0 0,.slice none 0 0,.slice none 0 0] 26):=by rw [hW];simpa using C (w.alloc (bkO (.slice sa x.sheets.length sc) (.slice na x.names.length nc) (.slice la x.links.length lc))) (.cells #[.slice none 0 0,.slice none 0 0,.slice none 0 0] 26)
 have hlen:x.sheets.length<=1000:=hz.sh;have KX:∀u,X W.heap.size W u->u.heap[w.heap.size]? =some (bkO (.slice sa x.sheets.length sc) (.slice na x.names.length nc) (.slice la x.links.length lc))/\u.heap[w.heap.size+1]? =some (.cells #[.slice none 0 0,.slice none 0 0,.slice none 0 0] 26)/\X w.heap.size w u:=fun u hu=>⟨(hu.block _ (aF hX0)).trans hX0,(hu.block _ (aF hX1)).trans hX1,Sh.aD HB0 HB0.size hu⟩
 have C1:ζ Z 20 #[.agg #[.slice sa x.sheets.length sc,.slice na x.names.length nc,.slice la x.links.length lc],.string s] W fun e u=>e=.returned (.int .i64 (iQ (eH x.sheets s)))/\u.cell? ⟨w.heap.size,0,none⟩=some (.slice sa x.sheets.length sc)/\u.cell? ⟨w.heap.size,1,none⟩=some (.slice na x.names.length nc)/\u.cell? ⟨w.heap.size,2,none⟩=some (.slice la x.links.length lc)/\H (X W.heap.size W u):=(mG (h.below hhi HB0) (ε hhi HB0.size) s).mono (by
  rintro e u ⟨rfl,hu⟩;obtain⟨c0,c1,c2⟩:=bE (KX u hu).1;exact⟨rfl,c0,c1,c2,hu⟩)
 have bU:H (∀u,X W.heap.size W u->_):=fun u hu=>lK (KX u hu).2.2 (KX u hu).2.1 (by omega);obtain⟨d0,d1,d2⟩:=bE hX0;have HKX:H _:=KX;have HH:H (BkM lo hi w (.slice sa x.sheets.length sc) (.slice na x.names.length nc) (.slice la x.links.length lc) x):=h;have HZz:H (Small x):=hz;rw [hW] at d0 d1 d2;have HW:H ((w.alloc (bkO (.slice sa x.sheets.length sc) (.slice na x.names.length nc) (.slice la x.links.length lc))).alloc (.cells #[.slice none 0 0,.slice none 0 0,.slice none 0 0] 26)=W):=hW.symm;clear h HB0 hX0 hX1 hW hs1 hs2 KX hz;unfold qE;cases hO:eH x.sheets s with
 | none=>
  rw [hO] at C1;simp only [iQ] at C1;go_enter Tryz.func32,Tryz.ntmps32;go_wp2_with (first|(go_at_call 20;rw [HW.out];refine C1.mono ?_;clear C1;rintro e w1 ⟨rfl,c0,c1,c2,HB1⟩;obtain⟨RS,HZ,HBz⟩:=bU.out w1 HB1.out;clear bU)|((with_reducible show wL (ο 26 _));refine aY rfl 26 _ rfl _ _ (by go_simp) (bQ _) ?_)|((with_reducible show wL (γ 26 _ _));refine aA rfl 26 _ _ rfl _ _ _ rfl rfl RS.out ?_))
  refine K (res2 rfl rfl HZ.out rfl rfl) rfl ?_;exact⟨by rw [if_neg (by decide)];rfl,HBz.out⟩
 | some i=>
  rw [hO] at C1;simp only [iQ] at C1;have hil:=nY hO;have hni:decide ((i:Int) < 0)=B:=by simp
  dsimp only [Option.getD];clear hO;by_cases h9:at_ < 0\/(x.sheets.length:Int)<=at_
  ·rw [if_pos h9];by_cases g1:at_ < 0
   ·clear h9;go_enter Tryz.func32,Tryz.ntmps32;go_wp2_with (first|(go_at_call 20;rw [HW.out];refine C1.mono ?_;clear C1;rintro e w1 ⟨rfl,c0,c1,c2,HB1⟩;obtain⟨RS,HZ,HBz⟩:=bU.out w1 HB1.out;clear bU)|((with_reducible show wL (ο 26 _));refine aY rfl 26 _ rfl _ _ (by go_simp) (bQ _) ?_)|((with_reducible show wL (γ 26 _ _));refine aA rfl 26 _ _ rfl _ _ _ rfl rfl RS.out ?_))
    refine K (res2 rfl rfl HZ.out rfl rfl) rfl ?_;exact⟨by rw [if_neg (by decide)];rfl,HBz.out⟩
   ·have g1d:decide (at_ < 0)=B:=by simpa using g1
    have g2p:(x.sheets.length:Int)<=at_:=h9.resolve_left g1;clear h9 g1;go_enter Tryz.func32,Tryz.ntmps32;go_wp2_with (first|(go_at_call 20;rw [HW.out];refine C1.mono ?_;clear C1;rintro e w1 ⟨rfl,c0,c1,c2,HB1⟩;obtain⟨RS,HZ,HBz⟩:=bU.out w1 HB1.out;clear bU)|((with_reducible show wL (ο 26 _));refine aY rfl 26 _ rfl _ _ (by go_simp) (bQ _) ?_)|((with_reducible show wL (γ 26 _ _));refine aA rfl 26 _ _ rfl _ _ _ rfl rfl RS.out ?_))
    refine K (res2 rfl rfl HZ.out rfl rfl) rfl ?_;exact⟨by rw [if_neg (by decide)];rfl,HBz.out⟩
  ·rw [if_neg h9];obtain⟨j,rfl⟩:∃j:Nat,at_=(j:Int):=⟨at_.toNat,by omega⟩
   have hj:j < x.sheets.length:=by omega
   have g1d:decide ((j:Int) < 0)=B:=by simp
   have g2p:¬(x.sheets.length:Int)<=(j:Int):=by omega
   have C5:H (∀u,X W.heap.size W u->_):=fun u hu=>aHn (w:=w) (i:=i) (j:=j) (HH.out.below hhi (HKX.out u hu).2.2) (ε hhi (HKX.out u hu).2.2.size) HZz.out hil hj (HKX.out u hu).2.2 (HKX.out u hu).2.1;have HOK:H (∀sv nv lv w6,dD w.heap.size w6 sv nv lv (dU x i j)->X w.heap.size w w6->jI w 0 (dU x i j) (.returned (.tuple #[.agg #[sv,nv,lv],.int .i64 0])) w6):=fun sv nv lv w6 h1 h2=>⟨by rw [if_pos rfl];exact⟨_,_,_,rfl,h1⟩,h2⟩
   rw [Int.toNat_natCast];generalize jI w 0 (dU x i j)=Q0 at *;generalize dU x i j=Y at *;obtain⟨m1,hm1⟩:∃m1,m1=i+1:=⟨_,rfl⟩
   rw [<-hm1] at C5;have hin:(i:Int) < x.sheets.length:=by omega
   have e5:(i:Int)+1=(m1:Int):=by omega
   have e6:IntKind.i64.wrap (m1:Int)=(m1:Int):=by rw [κ];omega
   clear h9 bU HH HZz hj hm1;obtain⟨n1,hn1⟩:∃n1,n1=x.sheets.length - 1:=⟨_,rfl⟩
   unfold MvT at C5;rw [<-hn1] at C5;clear hn1;generalize x.sheets.length=n at *;go_enter Tryz.func32,Tryz.ntmps32;go_wp2_with (first|(go_at_call 20;rw [HW.out];refine C1.mono ?_;clear C1;rintro e w1 ⟨rfl,c0,c1,c2,HB1⟩)|(go_at_call 17;refine (C5.out _ HB1.out).mono ?_;clear C5;rintro e v ⟨A,gn,gl,nm,q,m,d,V1,rfl,cV,LD,ST,HS,HS2,CA,CB⟩)|((with_reducible show wL (θ 78 _));refine aB rfl 78 _ rfl _ _ rfl LD.out ?_;clear LD)|((with_reducible show wL (γ 78 _ _));refine aA rfl 78 _ _ rfl _ _ _ rfl rfl ST.out ?_;clear ST))
   refine aO (fun u=>u.heap[v.heap.size+1]? =some (dF nm (.slice q m d))/\u.cell? ⟨v.heap.size,0,none⟩=some (.slice (some A) n n)) (fun k=>k==11) (by kernel_rfl) ?_;refine dwp 0 ((pt v.heap.size)) ?_;refine dwl 1 ((.slice (some A) n n)) ?_ (hS:=HS.out) (hy:=(fun u hSu=>aJ rfl rfl (aGZ hSu.2)));refine dwp 2 ((.int .i64 (i:Int))) ?_;refine dwp 3 ((.int .i64 (i:Int))) ?_;refine dwp 4 ((.int .i64 (m1:Int))) ?_;refine dwp 6 ((.int .i64 (j:Int))) ?_;refine dwl 7 ((.agg #[.string nm,.slice q m d])) ?_ (hS:=HS.out) (hy:=(fun u hSu=>aJ rfl rfl (aNP hSu.1)));refine rC (i:=5) (j:=8) (by kernel_rfl) rfl rfl ?_ ?_
   ·intro K' hK';go_simp;refine CA.out.mono ?_;clear CA CB;rintro e w4 ⟨rfl,T1,T2,CI⟩;refine hK' _ _ (.inr fun _=>T1.out) ?_;clear hK';try simp only [P,Q,U,J]
    refine aH (i:=8) (by kernel_rfl) rfl ?_;intro K' hK';rw [if_pos (by rfl)];refine gZ rfl (by go_simp) (gT w4 nm q m d) ?_;refine hK' _ _ (.inr fun _=>T2.out) ?_;clear hK';try simp only [P,Q,U,J]
    refine aH (i:=9) (by kernel_rfl) rfl ?_;intro K' hK';go_simp;refine CI.out.mono ?_;clear CI;rintro e w5 ⟨rfl,T3,RS5,F1⟩;refine hK' _ _ (.inr fun _=>T3.out) ?_;clear hK';try simp only [P,Q,U,J]
    refine dwp 10 ((pt v.heap.size)) ?_;refine aH (i:=11) (by kernel_rfl) rfl ?_;intro K' hK';rw [if_pos (by rfl)];refine nZ rfl rfl rfl RS5.out ?_;refine hK' _ _ (.inl rfl) ?_;clear hK';try simp only [P,Q,U,J]
    refine aM (by kernel_rfl) ?_ _;obtain⟨w12,c50,f50,RL6,RS6,HG6,HO6,HB6⟩:=F1.out;go_wp2_with (first|((with_reducible show wL (θ 26 _));refine aB rfl 26 _ rfl _ _ rfl RL6.out ?_;clear RL6)|((with_reducible show wL (γ 26 _ _));refine aA rfl 26 _ _ rfl _ _ _ rfl rfl RS6.out ?_;clear RS6))
    refine K (res2 rfl rfl HG6.out rfl rfl) rfl ?_;exact HOK.out _ _ _ _ HO6.out HB6.out
   ·intro K' hK';rw [if_pos (by rfl)];refine gZ rfl (by go_simp) (gT V1.drew nm q m d) ?_;refine hK' _ _ (.inr fun _=>HS2.out) ?_;clear hK';try simp only [P,Q,U,J]
    refine aH (i:=5) (by kernel_rfl) rfl ?_;intro K' hK';go_simp;refine CB.out.mono ?_;clear CA CB;rintro e w4 ⟨rfl,T1,CI⟩;refine hK' _ _ (.inr fun _=>T1.out) ?_;clear hK';try simp only [P,Q,U,J]
    refine aH (i:=9) (by kernel_rfl) rfl ?_;intro K' hK';go_simp;refine CI.out.mono ?_;clear CI;rintro e w5 ⟨rfl,T3,RS5,F1⟩;refine hK' _ _ (.inr fun _=>T3.out) ?_;clear hK';try simp only [P,Q,U,J]
    refine dwp 10 ((pt v.heap.size)) ?_;refine aH (i:=11) (by kernel_rfl) rfl ?_;intro K' hK';rw [if_pos (by rfl)];refine nZ rfl rfl rfl RS5.out ?_;refine hK' _ _ (.inl rfl) ?_;clear hK';try simp only [P,Q,U,J]
    refine aM (by kernel_rfl) ?_ _;obtain⟨w12,c50,f50,RL6,RS6,HG6,HO6,HB6⟩:=F1.out;go_wp2_with (first|((with_reducible show wL (θ 26 _));refine aB rfl 26 _ rfl _ _ rfl RL6.out ?_;clear RL6)|((with_reducible show wL (γ 26 _ _));refine aA rfl 26 _ _ rfl _ _ _ rfl rfl RS6.out ?_;clear RS6))
    refine K (res2 rfl rfl HG6.out rfl rfl) rfl ?_;exact HOK.out _ _ _ _ HO6.out HB6.out
theorem aHo {lo hi:Nat} {w:M} {sv nv lv:α} {x:aP} (h:BkM lo hi w sv nv lv x) (hhi:hi<=w.heap.size) (hz:Small x) (s:ByteArray) (at_:Int):
  ζ Z 33 #[.agg #[sv,nv,lv],.string s,.int .i64 at_] w (jI w (qE x s at_) (dU x ((eH x.sheets s).getD 0) at_.toNat)):=by
 obtain⟨sa,sc,rfl,hs1,hs2⟩:=h.sh.slice;obtain⟨na,nc,rfl,_,_⟩:=h.nm.slice;obtain⟨la,lc,rfl,_,_⟩:=h.lk.slice;obtain⟨W,hW⟩:∃W,W=(w.alloc (bkO (.slice sa x.sheets.length sc) (.slice na x.names.length nc) (.slice la x.links.length lc))).alloc (.cells #[.slice none 0 0,.slice none 0 0,.slice none 0 0] 26):=⟨_,rfl⟩
 have HB0:X w.heap.size w W:=by rw [hW];exact Sh.aC (Sh.aC (S _ _) (D _) _) (D _) _
 have hX0:W.heap[w.heap.size]? =some (bkO (.slice sa x.sheets.length sc) (.slice na x.names.length nc) (.slice la x.links.length lc)):=by rw [hW,δ _ _ _ (by simp)];exact C w _
 have hX1:W.heap[w.heap.size+1]? =some (.cells #[.slice none 0 0,.slice none 0 0,.slice none 0 0] 26):=by rw [hW];simpa using C (w.alloc (bkO (.slice sa x.sheets.length sc) (.slice na x.names.length nc) (.slice la x.links.length lc))) (.cells #[.slice none 0 0,.slice none 0 0,.slice none 0 0] 26)
 have hlen:x.sheets.length<=1000:=hz.sh;have KX:∀u,X W.heap.size W u->u.heap[w.heap.size]? =some (bkO (.slice sa x.sheets.length sc) (.slice na x.names.length nc) (.slice la x.links.length lc))/\u.heap[w.heap.size+1]? =some (.cells #[.slice none 0 0,.slice none 0 0,.slice none 0 0] 26)/\X w.heap.size w u:=fun u hu=>⟨(hu.block _ (aF hX0)).trans hX0,(hu.block _ (aF hX1)).trans hX1,Sh.aD HB0 HB0.size hu⟩
 have C1:ζ Z 21 #[.agg #[.slice sa x.sheets.length sc,.slice na x.names.length nc,.slice la x.links.length lc],.string s] W fun e u=>e=.returned (.int .i64 (iQ (eH x.sheets s)))/\u.cell? ⟨w.heap.size,0,none⟩=some (.slice sa x.sheets.length sc)/\u.cell? ⟨w.heap.size,1,none⟩=some (.slice na x.names.length nc)/\u.cell? ⟨w.heap.size,2,none⟩=some (.slice la x.links.length lc)/\H (X W.heap.size W u):=(nI (h.below hhi HB0) (ε hhi HB0.size) s).mono (by
  rintro e u ⟨rfl,hu⟩;obtain⟨c0,c1,c2⟩:=bE (KX u hu).1;exact⟨rfl,c0,c1,c2,hu⟩)
 have bU:H (∀u,X W.heap.size W u->_):=fun u hu=>lK (KX u hu).2.2 (KX u hu).2.1 (by omega);obtain⟨d0,d1,d2⟩:=bE hX0;have HKX:H _:=KX;have HH:H (BkM lo hi w (.slice sa x.sheets.length sc) (.slice na x.names.length nc) (.slice la x.links.length lc) x):=h;have HZz:H (Small x):=hz;rw [hW] at d0 d1 d2;have HW:H ((w.alloc (bkO (.slice sa x.sheets.length sc) (.slice na x.names.length nc) (.slice la x.links.length lc))).alloc (.cells #[.slice none 0 0,.slice none 0 0,.slice none 0 0] 26)=W):=hW.symm;clear h HB0 hX0 hX1 hW hs1 hs2 KX hz;unfold qE;cases hO:eH x.sheets s with
 | none=>
  rw [hO] at C1;simp only [iQ] at C1;go_enter Tryz.func33,Tryz.ntmps33;go_wp2_with (first|(go_at_call 21;rw [HW.out];refine C1.mono ?_;clear C1;rintro e w1 ⟨rfl,c0,c1,c2,HB1⟩;obtain⟨RS,HZ,HBz⟩:=bU.out w1 HB1.out;clear bU)|((with_reducible show wL (ο 26 _));refine aY rfl 26 _ rfl _ _ (by go_simp) (bQ _) ?_)|((with_reducible show wL (γ 26 _ _));refine aA rfl 26 _ _ rfl _ _ _ rfl rfl RS.out ?_))
  refine K (res2 rfl rfl HZ.out rfl rfl) rfl ?_;exact⟨by rw [if_neg (by decide)];rfl,HBz.out⟩
 | some i=>
  rw [hO] at C1;simp only [iQ] at C1;have hil:=nY hO;have hni:decide ((i:Int) < 0)=B:=by simp
  dsimp only [Option.getD];clear hO;by_cases h9:at_ < 0\/(x.sheets.length:Int)<=at_
  ·rw [if_pos h9];by_cases g1:at_ < 0
   ·clear h9;go_enter Tryz.func33,Tryz.ntmps33;go_wp2_with (first|(go_at_call 21;rw [HW.out];refine C1.mono ?_;clear C1;rintro e w1 ⟨rfl,c0,c1,c2,HB1⟩;obtain⟨RS,HZ,HBz⟩:=bU.out w1 HB1.out;clear bU)|((with_reducible show wL (ο 26 _));refine aY rfl 26 _ rfl _ _ (by go_simp) (bQ _) ?_)|((with_reducible show wL (γ 26 _ _));refine aA rfl 26 _ _ rfl _ _ _ rfl rfl RS.out ?_))
    refine K (res2 rfl rfl HZ.out rfl rfl) rfl ?_;exact⟨by rw [if_neg (by decide)];rfl,HBz.out⟩
   ·have g1d:decide (at_ < 0)=B:=by simpa using g1
    have g2p:(x.sheets.length:Int)<=at_:=h9.resolve_left g1;clear h9 g1;go_enter Tryz.func33,Tryz.ntmps33;go_wp2_with (first|(go_at_call 21;rw [HW.out];refine C1.mono ?_;clear C1;rintro e w1 ⟨rfl,c0,c1,c2,HB1⟩;obtain⟨RS,HZ,HBz⟩:=bU.out w1 HB1.out;clear bU)|((with_reducible show wL (ο 26 _));refine aY rfl 26 _ rfl _ _ (by go_simp) (bQ _) ?_)|((with_reducible show wL (γ 26 _ _));refine aA rfl 26 _ _ rfl _ _ _ rfl rfl RS.out ?_))
    refine K (res2 rfl rfl HZ.out rfl rfl) rfl ?_;exact⟨by rw [if_neg (by decide)];rfl,HBz.out⟩
  ·rw [if_neg h9];obtain⟨j,rfl⟩:∃j:Nat,at_=(j:Int):=⟨at_.toNat,by omega⟩
   have hj:j < x.sheets.length:=by omega
   have g1d:decide ((j:Int) < 0)=B:=by simp
   have g2p:¬(x.sheets.length:Int)<=(j:Int):=by omega
   obtain⟨m',hm'⟩:∃m',m'=x.sheets.length - 1:=⟨_,rfl⟩
   have C5:H (∀u,X W.heap.size W u->_):=fun u hu=>aET (w:=w) (i:=i) (j:=j) (HH.out.below hhi (HKX.out u hu).2.2) (ε hhi (HKX.out u hu).2.2.size) HZz.out hil hj (HKX.out u hu).2.2 (HKX.out u hu).2.1 hm';have HOK:H (∀sv nv lv w6,dD w.heap.size w6 sv nv lv (dU x i j)->X w.heap.size w w6->jI w 0 (dU x i j) (.returned (.tuple #[.agg #[sv,nv,lv],.int .i64 0])) w6):=fun sv nv lv w6 h1 h2=>⟨by rw [if_pos rfl];exact⟨_,_,_,rfl,h1⟩,h2⟩
   rw [Int.toNat_natCast];generalize jI w 0 (dU x i j)=Q0 at *;generalize dU x i j=Y at *;have hin:(i:Int) < x.sheets.length:=by omega
   clear h9 bU HH HZz hm' hj;generalize x.sheets.length=n at *;go_enter Tryz.func33,Tryz.ntmps33;go_wp2_with (first|(go_at_call 21;rw [HW.out];refine C1.mono ?_;clear C1;rintro e w1 ⟨rfl,c0,c1,c2,HB1⟩)|(go_at_call 12;refine (C5.out _ HB1.out).mono ?_;clear C5;rintro e v ⟨A,k0,p1,n1,k1,p2,n2,k2,q,m,d,nm,rfl,cV,LD,ST,cV1,CW⟩)|((with_reducible show wL (θ 78 _));refine aB rfl 78 _ rfl _ _ rfl LD.out ?_;clear LD)|((with_reducible show wL (γ 78 _ _));refine aA rfl 78 _ _ rfl _ _ _ rfl rfl ST.out ?_;clear ST)|(go_at_call 80;refine CW.out.mono ?_;clear CW;rintro e w5 ⟨p,k,a1,b1,a2,b2,rfl,HS,S1,S2,⟨v1,w6,v2,w7,pa,pc,w8,A1,A2,A3,T1,T2,T3,F1⟩,⟨v3,w9,v4,w10,qa,qc,w11,A4,A5,A6,T4,T5,T6,F2⟩⟩))
   refine aO (fun u=>u.heap[v.heap.size+1]? =some (dF nm (.slice q m d))) (fun k=>k==6 || k==12) (by kernel_rfl) ?_;refine dwp 0 ((.slice none 0 0)) ?_;refine dwp 1 ((.slice p m' k)) ?_;refine dwp 2 ((.int .i64 (j:Nat))) ?_;refine dwp 3 ((.slice a1 j b1)) ?_ (hy:=(fun u=>dH rfl rfl rfl rfl rfl (S1.out u)));refine dwp 8 ((.slice p m' k)) ?_;refine dwp 9 ((.int .i64 (j:Nat))) ?_;refine dwp 10 ((.slice a2 (m' - j) b2)) ?_ (hy:=(fun u=>dH rfl rfl rfl rfl rfl (S2.out u)));refine dwl 5 ((.agg #[.string nm,.slice q m d])) ?_ (hS:=HS.out) (hy:=(fun u hSu=>aJ rfl rfl (aNP hSu)));refine rC (i:=4) (j:=6) (by kernel_rfl) rfl rfl ?_ ?_
   ·intro K' hK';rw [if_pos (by rfl)];refine dI rfl rfl rfl A1.out ?_;refine hK' _ _ (.inr fun _=>T1.out) ?_;clear hK';try simp only [P,Q,U,J]
    refine aH (i:=6) (by kernel_rfl) rfl ?_;intro K' hK';rw [if_pos (by rfl)];refine gZ rfl (by go_simp) (gT w6 nm q m d) ?_;refine hK' _ _ (.inl rfl) ?_;clear hK';try simp only [P,Q,U,J]
    refine aH (i:=7) (by kernel_rfl) rfl ?_;intro K' hK';rw [if_pos (by rfl)];refine dI rfl rfl rfl A2.out ?_;refine hK' _ _ (.inr fun _=>T2.out) ?_;clear hK';try simp only [P,Q,U,J]
    refine aH (i:=11) (by kernel_rfl) rfl ?_;intro K' hK';rw [if_pos (by rfl)];refine dI rfl rfl rfl A3.out ?_;refine hK' _ _ (.inr fun _=>T3.out) ?_;clear hK';try simp only [P,Q,U,J]
    refine dwp 12 ((.slice pa (m'+1) pc)) ?_;refine aM (by kernel_rfl) ?_ _;obtain⟨w12,c50,f50,RL6,RS6,HG6,HO6,HB6⟩:=F1.out;go_wp2_with (first|((with_reducible show wL (θ 26 _));refine aB rfl 26 _ rfl _ _ rfl RL6.out ?_;clear RL6)|((with_reducible show wL (γ 26 _ _));refine aA rfl 26 _ _ rfl _ _ _ rfl rfl RS6.out ?_;clear RS6))
    refine K (res2 rfl rfl HG6.out rfl rfl) rfl ?_;exact HOK.out _ _ _ _ HO6.out HB6.out
   ·intro K' hK';rw [if_pos (by rfl)];refine gZ rfl (by go_simp) (gT w5.drew nm q m d) ?_;refine hK' _ _ (.inl rfl) ?_;clear hK';try simp only [P,Q,U,J]
    refine aH (i:=4) (by kernel_rfl) rfl ?_;intro K' hK';rw [if_pos (by rfl)];refine dI rfl rfl rfl A4.out ?_;refine hK' _ _ (.inr fun _=>T4.out) ?_;clear hK';try simp only [P,Q,U,J]
    refine aH (i:=7) (by kernel_rfl) rfl ?_;intro K' hK';rw [if_pos (by rfl)];refine dI rfl rfl rfl A5.out ?_;refine hK' _ _ (.inr fun _=>T5.out) ?_;clear hK';try simp only [P,Q,U,J]
    refine aH (i:=11) (by kernel_rfl) rfl ?_;intro K' hK';rw [if_pos (by rfl)];refine dI rfl rfl rfl A6.out ?_;refine hK' _ _ (.inr fun _=>T6.out) ?_;clear hK';try simp only [P,Q,U,J]
    refine dwp 12 ((.slice qa (m'+1) qc)) ?_;refine aM (by kernel_rfl) ?_ _;obtain⟨w12,c50,f50,RL6,RS6,HG6,HO6,HB6⟩:=F2.out;go_wp2_with (first|((with_reducible show wL (θ 26 _));refine aB rfl 26 _ rfl _ _ rfl RL6.out ?_;clear RL6)|((with_reducible show wL (γ 26 _ _));refine aA rfl 26 _ _ rfl _ _ _ rfl rfl RS6.out ?_;clear RS6))
    refine K (res2 rfl rfl HG6.out rfl rfl) rfl ?_;exact HOK.out _ _ _ _ HO6.out HB6.out
theorem aOR {u:M} {g o:Nat} {a:Option ρ} {n c:Nat} {old:α} (hc:u.cell? ⟨g,o,none⟩=some old) (hf:u.frozen? ⟨g,o,none⟩=B):(β 22 (.pointer (some ⟨g,o,none⟩)) (.slice a n c)).run Z u=.ok () (u.setCell ⟨g,o,none⟩ (.slice a n c)):=by have h1:=Tryz.underlying22;have h2:=Tryz.isAgg22;have h3:=Tryz.sizeOf22;go_simp
theorem aP4 (w:M) (s:ByteArray) (a:Option ρ) (n c:Nat):(β 78 (pt w.heap.size) (.agg #[.string s,.slice a n c])).run Z (w.alloc (.cells #[dP,.slice none 0 0] 78))=.ok () (w.alloc (dF s (.slice a n c))):=run_storeAt_new w 78 #[dP,.slice none 0 0] #[.string s,.slice a n c] (by kernel_rfl) rfl (by simp [Value.oneCell'])
abbrev AdS (v0 g1 g2:Nat) (s1:α) (so:Obj) (u:M):Prop:=u.cell? ⟨v0,0,none⟩=some s1/\u.heap[g1]? =some so/\u.cell? ⟨g2,0,none⟩=some bI
theorem aHp {w u0:M} {j:Nat} {x:aP} {lo hi:Nat} {sv nv lv:α} (h:BkM lo hi u0 sv nv lv x) (hhi:hi<=u0.heap.size) (hz:Small x) (hj:j<=x.sheets.length) (hw:X w.heap.size w u0) (hX1:u0.heap[w.heap.size+1]? =some (bkO bI bI bI)) (s:ByteArray) {lo2 hi2:Nat} {a:Option ρ} {c:Nat} {L:List aN} (hL:Cls lo2 hi2 w (.slice a L.length c) L) (hhi2:hi2<=w.heap.size) (hln:L.length<=1000):
  ζ Z 12 #[.agg #[sv,nv,lv]] u0 fun e v=>∃p0 c0 p1 n1 c1 p2 n2 c2 qa qc w2 W3 W4,e=.returned (.agg #[.slice p0 x.sheets.length c0,.slice p1 n1 c1,.slice p2 n2 c2])/\
   H ((η #[27,27] 27 #[.slice (some ⟨v.heap.size+1,0,none⟩) 0 0,.slice a L.length c]).run Z ((v.alloc (.cells #[.slice p0 x.sheets.length c0,.slice p1 n1 c1,.slice p2 n2 c2] 26)).alloc (.cells #[] 57))=.ok (.slice qa L.length qc) w2)/\
   H ((β 78 (pt w2.heap.size) (.agg #[.string s,.slice qa L.length qc])).run Z (w2.alloc (.cells #[dP,.slice none 0 0] 78))=.ok () W3)/\
   W3.cell? ⟨v.heap.size,1,none⟩=some (.slice p1 n1 c1)/\W3.cell? ⟨v.heap.size,2,none⟩=some (.slice p2 n2 c2)/\H (W3.alloc (.cells #[.slice none 0 0,.slice p1 n1 c1,.slice p2 n2 c2] 26)=W4)/\
   H (AdS v.heap.size w2.heap.size W3.heap.size (.slice p0 x.sheets.length c0) (dF s (.slice qa L.length qc)) W4.drew)/\∃a1 k1 a2 k2,
    H (∀u,(τ 22 (.slice p0 x.sheets.length c0) none (some (.int .i64 (j:Nat))) none).run Z u=.ok (.slice a1 j k1) u)/\H (∀u,(τ 22 (.slice p0 x.sheets.length c0) (some (.int .i64 (j:Nat))) none none).run Z u=.ok (.slice a2 (x.sheets.length - j) k2) u)/\
    (∃v1 w1 v2 w5 pa pc w3,H ((η #[22,22] 22 #[bI,.slice a1 j k1]).run Z W4.drew=.ok v1 w1)/\H ((η #[22,22] 22 #[v1,.slice (some ⟨w1.heap.size,0,none⟩) 1 1]).run Z (w1.alloc (dF s (.slice qa L.length qc)))=.ok v2 w5)/\
     H ((η #[22,22] 22 #[v2,.slice a2 (x.sheets.length - j) k2]).run Z w5=.ok (.slice pa (x.sheets.length+1) pc) w3)/\H (AdS v.heap.size w2.heap.size W3.heap.size (.slice p0 x.sheets.length c0) (dF s (.slice qa L.length qc)) w1)/\H (AdS v.heap.size w2.heap.size W3.heap.size (.slice p0 x.sheets.length c0) (dF s (.slice qa L.length qc)) (w1.alloc (dF s (.slice qa L.length qc))))/\H (AdS v.heap.size w2.heap.size W3.heap.size (.slice p0 x.sheets.length c0) (dF s (.slice qa L.length qc)) w5)/\H (AdS v.heap.size w2.heap.size W3.heap.size (.slice p0 x.sheets.length c0) (dF s (.slice qa L.length qc)) w3)/\
     H ((β 22 (pt W3.heap.size) (.slice pa (x.sheets.length+1) pc)).run Z w3=.ok () (w3.setCell ⟨W3.heap.size,0,none⟩ (.slice pa (x.sheets.length+1) pc)))/\H (aES w W3.heap.size bI (.slice p1 n1 c1) (.slice p2 n2 c2) (bZ x j ⟨s,L⟩) w3 pa (x.sheets.length+1) pc))/\
    (∃v1 w1 v2 w5 pa pc w3,H ((η #[22,22] 22 #[bI,.slice a1 j k1]).run Z (W4.drew.alloc (dF s (.slice qa L.length qc)))=.ok v1 w1)/\H ((η #[22,22] 22 #[v1,.slice (some ⟨W4.heap.size,0,none⟩) 1 1]).run Z w1=.ok v2 w5)/\
     H ((η #[22,22] 22 #[v2,.slice a2 (x.sheets.length - j) k2]).run Z w5=.ok (.slice pa (x.sheets.length+1) pc) w3)/\H (AdS v.heap.size w2.heap.size W3.heap.size (.slice p0 x.sheets.length c0) (dF s (.slice qa L.length qc)) (W4.drew.alloc (dF s (.slice qa L.length qc))))/\H (AdS v.heap.size w2.heap.size W3.heap.size (.slice p0 x.sheets.length c0) (dF s (.slice qa L.length qc)) w1)/\H (AdS v.heap.size w2.heap.size W3.heap.size (.slice p0 x.sheets.length c0) (dF s (.slice qa L.length qc)) w5)/\H (AdS v.heap.size w2.heap.size W3.heap.size (.slice p0 x.sheets.length c0) (dF s (.slice qa L.length qc)) w3)/\
     H ((β 22 (pt W3.heap.size) (.slice pa (x.sheets.length+1) pc)).run Z w3=.ok () (w3.setCell ⟨W3.heap.size,0,none⟩ (.slice pa (x.sheets.length+1) pc)))/\H (aES w W3.heap.size bI (.slice p1 n1 c1) (.slice p2 n2 c2) (bZ x j ⟨s,L⟩) w3 pa (x.sheets.length+1) pc)):=by
 have hlen:x.sheets.length<=1000:=hz.sh;refine (pJ h hhi hz).mono ?_;rintro e v ⟨s1,m1,l1,rfl,hO,hb⟩;have hl1:=aF hX1;have hO:=hO.le hw.size;obtain⟨p1,c1,rfl⟩:=aW hO.nm;obtain⟨p2,c2,rfl⟩:=aW hO.lk;obtain⟨cv,q1,_⟩:=hO.sh;obtain⟨p0,c0,rfl⟩:=aW q1;obtain⟨V,hV⟩:∃V,V=v.alloc (.cells #[.slice p0 x.sheets.length c0,.slice p1 x.names.length c1,.slice p2 x.links.length c2] 26):=⟨_,rfl⟩
 have hX:V.heap[v.heap.size]? =some (.cells #[.slice p0 x.sheets.length c0,.slice p1 x.names.length c1,.slice p2 x.links.length c2] 26):=by rw [hV];exact C v _
 have hbV:X v.heap.size v V:=by rw [hV];exact Sh.aC (S _ _) (D _) _
 have hVs:V.heap.size=v.heap.size+1:=by rw [hV];simp
 have hwv:X w.heap.size w v:=Sh.aD hw hw.size hb;have hbw:X w.heap.size w V:=Sh.aD hwv hwv.size hbV;have aDt:=(hb.block _ hl1).trans hX1;have nN:=(hbV.block _ (aF aDt)).trans aDt;have hne:w.heap.size+1 ≠ v.heap.size:=by have:=hb.size;omega
 have hOV:=hO.below hbV;have hbE:X V.heap.size V (V.alloc (.cells #[] 57)):=Sh.aC (S _ _) (D _) _;have o1:(V.alloc (.cells #[] 57)).ownsRow w.heap.size 57 3 (.slice (some ⟨V.heap.size,0,none⟩) 0 0) 0 []:=bS (C V _) rfl hbw.size (by decide);have hsrc:=(hL.below hhi2 (Sh.aD hbw hbw.size hbE)).src;obtain⟨v2,w2,RA,o2,g2,b2,_⟩:=rtC.cat o1 (p:=a) (m:=L.length) (c:=c) (news:=L.flatMap cellC) (aFN hL) (by rw [bL bK]) (fun ad e j u hj=>by
  rcases hsrc with ⟨e1,_⟩ | ⟨ad',e1,h⟩
  ·rw [e] at e1;cases e1
  ·rw [e] at e1;cases e1;exact h j u hj) (lS iN L) (by omega) (by decide) (Sh.aD hbw hbw.size hbE).size
 rw [Nat.zero_add,List.nil_append] at o2;obtain⟨qa,qc,rfl⟩:=aW o2;have k2:∀g o,V.heap[g]? =some o->w2.heap[g]? =some o:=fun g o ho=>by have hlt:=aF ho;have h1:=(hbE.block _ hlt).trans ho;exact(g2.block g (aF h1) (by simp [Value.ownBlock];omega)).trans h1
 have hs2:V.heap.size<=w2.heap.size:=ε hbE.size g2.size;have aN1:X V.heap.size V w2:=⟨g2.os.trans hbE.os,g2.tape.trans hbE.tape,g2.output.trans hbE.output,hs2,fun g hg=>by
  obtain⟨o,ho⟩:∃o,V.heap[g]? =some o:=⟨_,Array.getElem?_eq_getElem hg⟩
  rw [k2 g o ho,ho]⟩
 obtain⟨W3,hW3⟩:∃W3,W3=w2.alloc (dF s (.slice qa L.length qc)):=⟨_,rfl⟩
 have hb3:X w2.heap.size w2 W3:=by rw [hW3];exact Sh.aC (S _ _) (D _) _
 have hB3:W3.heap[w2.heap.size]? =some (dF s (.slice qa L.length qc)):=by rw [hW3];exact C w2 _
 obtain⟨W4,hW4⟩:∃W4,W4=W3.alloc (.cells #[.slice none 0 0,.slice p1 x.names.length c1,.slice p2 x.links.length c2] 26):=⟨_,rfl⟩
 have hb4:X W3.heap.size W3 W4:=by rw [hW4];exact Sh.aC (S _ _) (D _) _
 have hT4:W4.heap[W3.heap.size]? =some (.cells #[.slice none 0 0,.slice p1 x.names.length c1,.slice p2 x.links.length c2] 26):=by rw [hW4];exact C W3 _
 have aOS:X w2.heap.size w2 W4.drew:=(Sh.aD hb3 hb3.size hb4).drew;have aMA:X V.heap.size V W4.drew:=Sh.aD aN1 hs2 aOS;have aEU:X w.heap.size w W4.drew:=Sh.aD hbw hbw.size aMA;have hX4:=(aMA.block _ (aF hX)).trans hX;have aKu:=(aMA.block _ (aF nN)).trans nN;have hB4:W4.drew.heap[w2.heap.size]? =some (dF s (.slice qa L.length qc)):=(hb4.block _ (aF hB3)).trans hB3;have aHq:W4.drew.heap[W3.heap.size]? =some (.cells #[.slice none 0 0,.slice p1 x.names.length c1,.slice p2 x.links.length c2] 26):=hT4;have hX3:=(hb3.block _ (aF ((aN1.block _ (aF hX)).trans hX))).trans ((aN1.block _ (aF hX)).trans hX);have hr3:w.heap.size+1 ≠ W3.heap.size:=by have:=aF nN;have:=hb3.size;omega
 have ads:∀u,X W4.drew.heap.size W4.drew u->AdS v.heap.size w2.heap.size W3.heap.size (.slice p0 x.sheets.length c0) (dF s (.slice qa L.length qc)) u:=fun u hu=>
  ⟨aI ((hu.block _ (aF hX4)).trans hX4) rfl,(hu.block _ (aF hB4)).trans hB4,aI ((hu.block _ (aF aHq)).trans aHq) rfl⟩
 have fin:∀{pa:Option ρ} {pc:Nat} {w3:M},dD w.heap.size w3 (.slice pa (x.sheets.length+1) pc) (.slice p1 x.names.length c1) (.slice p2 x.links.length c2) (bZ x j ⟨s,L⟩)->X W4.drew.heap.size W4.drew w3->
   aES w W3.heap.size bI (.slice p1 x.names.length c1) (.slice p2 x.links.length c2) (bZ x j ⟨s,L⟩) w3 pa (x.sheets.length+1) pc:=fun h3 hu=>
  tV h3 ((hu.block _ (aF aHq)).trans aHq) ((hu.block _ (aF aKu)).trans aKu) hr3 (Sh.aD aEU aEU.size hu) (by have:=hbw.size;have:=hb3.size;omega) (by omega)
 have sto:∀{pa:Option ρ} {pc:Nat} {w3:M},X W4.drew.heap.size W4.drew w3->(β 22 (pt W3.heap.size) (.slice pa (x.sheets.length+1) pc)).run Z w3=.ok () (w3.setCell ⟨W3.heap.size,0,none⟩ (.slice pa (x.sheets.length+1) pc)):=fun {pa pc w3} hu=>by have:=(hu.block _ (aF aHq)).trans aHq;exact aOR (aI this rfl) (by simp [World.frozen?,this])
 have ho2:W4.drew.ownsRow w.heap.size 57 3 (.slice qa L.length qc) L.length (L.flatMap cellC):=dY o2 fun g _ hg _=>aOS.block g (aF hg);obtain⟨a1,k1,a2,k2',S1,S2,⟨v1,w1,v2,w5,pa,pc,w3,A1,A2,A3,B1,B1a,B2,O3,B3⟩,⟨v1',w1',v2',w5',pa',pc',w3',A1',A2',A3',B0',B1',B2',O3',B3'⟩⟩:=aOJ (j:=j) (t:=⟨s,L⟩) (hOV.below aMA) ho2 hj hlen aEU.size;refine ⟨p0,c0,p1,_,c1,p2,_,c2,qa,qc,w2,W3,W4,rfl, ?_, ?_,aI hX3 rfl,aI hX3 rfl,hW4.symm,ads _ (S _ _),a1,k1,a2,k2',S1,S2,⟨v1,w1,v2,w5,pa,pc,w3,A1,A2,A3,ads _ B1.out,ads _ B1a.out,ads _ B2.out,ads _ B3.out,sto B3.out,fin O3.out B3.out⟩,⟨v1',w1',v2',w5',pa',pc',w3',A1',A2',A3',ads _ B0'.out,ads _ B1'.out,ads _ B2'.out,ads _ B3'.out,sto B3'.out,fin O3'.out B3'.out⟩⟩
 ·rw [<-hV,<-hVs];exact RA
 ·rw [hW3];exact aP4 w2 s qa L.length qc
end Go.Proofs.YtfedoljlipfhdaaGreatDoor.Sh
