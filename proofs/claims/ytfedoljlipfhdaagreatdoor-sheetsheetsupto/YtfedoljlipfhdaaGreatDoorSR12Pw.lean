/- SMay, SChk, SOwn, SR9, SPutB0, SDrop, SAdd0, SAdd, SR11, SR12. -/
import Derived.Test.YtfedoljlipfhdaaGreatDoorFParsePw
set_option linter.unusedVariables false
set_option linter.unusedSimpArgs false
set_option maxHeartbeats 16000000
set_option maxRecDepth 100000
open Go.Proofs.Tryz renaming prog->Z,isAgg3->δ,isAgg9->ψ
open List renaming setIfInBounds_toArray->Y,set_cons_zero->J,set_cons_succ->H,getElem?_eq_getElem->E,getElem?_eq_none->ε,getElem?_take->η,getElem_mem->μ,length_take->ρ,flatMap_append->σ,getElem?_drop->φ,ext_getElem?->χ,drop_eq_getElem_cons->Ξ,nil_append->Ω
open Go.RowKit renaming Hid->X,Below->U
open Go renaming Value->G,World->A,setRow_other->M,heap_alloc_new->N,bodyPost_ret->β,setRow_heap->ι,TypeId->ξ,Calls->ο,Addr->τ
open Bool renaming false->D,true->f
open Go.Instr renaming loadAt->B,storeAt->I,buildSlice->Ψ,sureAddr->z3,build->z6
open Nat renaming le_refl->O,le_trans->κ,zero_add->Φ,zero_le->z1
open Go.RowKit.Below renaming refl->d,heap_alloc->ν
open Go.World.ownsRow renaming lt->l
open Go.Value renaming oneCell'->γ,ownBlock->z0,slice->z5
open Go.Op renaming store->ζ,build->π,load->z2
open Go.Act renaming put->θ
open Go.Builtin renaming append_->υ
open Array renaming getElem?_setIfInBounds_ne->ω,length_toList->Γ
open Go.World renaming ownsRow_nil->Δ,frozen?->z4
open Go.Result renaming andThen_ok->Θ
namespace Go.Proofs.YtfedoljlipfhdaaGreatDoor.Sh
open Go.RowKit Go.Fm
def gJ (s:ByteArray):Int:=if 255 < s.size then 3 else if (Ad.strip 61 s.data.toList).1=f then (if (uX (Ad.strip 61 s.data.toList).2).2=0 then 0 else 10) else 0
theorem aFL (s:ByteArray) (w:A) (T:dS w):CR 26 #[.string s] w (.int .i64 (gJ s)):=by
 have hs:s=⟨s.data.toList.toArray⟩:=by cases s;rfl
 have CP:=mD 61 s.data.toList w;rw [<-hs] at CP;have PR:=aEw (Ad.strip 61 s.data.toList).2 w T;have P2:ο Z 74 #[.string ⟨(Ad.strip 61 s.data.toList).2.toArray⟩] w fun e w'=>∃es,e=.returned (.tuple #[.agg es,.int .i64 (uX (Ad.strip 61 s.data.toList).2).2])/\X ((I 67 (pt w'.heap.size) (.agg es)).run Z (w'.alloc (.cells nd0 67))=.ok () (w'.alloc (.cells es 67)))/\X (U w.heap.size w (w'.alloc (.cells es 67))):=PR.mono (by
  rintro e w1 ⟨es,rfl,hN,_,hb⟩;exact⟨es,rfl,(aCS w1 hN).1,Sh.aC hb (O _) _⟩)
 unfold gJ;generalize (uX (Ad.strip 61 s.data.toList).2).2=pe at *;generalize (Ad.strip 61 s.data.toList).2=rs at *;generalize (Ad.strip 61 s.data.toList).1=sb at *;clear PR hs T;generalize hz:s.size=n at *;have HZ:(s.size:Int)=(n:Int):=by omega
 clear hz;by_cases hlong:255 < n
 ·rw [if_pos hlong];have hli:(255:Int) < n:=by omega
  go_enter Tryz.func26,Tryz.ntmps26;go_wp2;go_ret;exact⟨rfl,d _ _⟩
 ·rw [if_neg hlong];have hli:¬(255:Int) < n:=by omega
  cases sb with
  | false=>
   rw [if_neg (by decide)];go_enter Tryz.func26,Tryz.ntmps26;go_wp2_with (go_at_call 73;refine CP.mono ?_;clear CP;rintro e w1 ⟨rfl,hw⟩;obtain rfl:=hw.symm;clear hw)
   go_ret;exact⟨rfl,d _ _⟩
  | true=>
   rw [if_pos rfl];by_cases hp:pe=0
   ·subst hp;rw [if_pos rfl];go_enter Tryz.func26,Tryz.ntmps26;go_wp2_with (first|(go_at_call 73;refine CP.mono ?_;clear CP;rintro e w1 ⟨rfl,hw⟩;obtain rfl:=hw.symm;clear hw)|(go_at_call 74;refine P2.mono ?_;clear P2;rintro e w1 ⟨es,rfl,RS,HB⟩)|(refine aA rfl 67 _ _ rfl _ _ _ rfl rfl RS.out ?_;clear RS))
    go_ret;exact⟨rfl,HB.out⟩
   ·rw [if_neg hp];have hpb:(pe !=0)=f:=by simpa using hp
    go_enter Tryz.func26,Tryz.ntmps26;go_wp2_with (first|(go_at_call 73;refine CP.mono ?_;clear CP;rintro e w1 ⟨rfl,hw⟩;obtain rfl:=hw.symm;clear hw)|(go_at_call 74;refine P2.mono ?_;clear P2;rintro e w1 ⟨es,rfl,RS,HB⟩)|(refine aA rfl 67 _ _ rfl _ _ _ rfl rfl RS.out ?_;clear RS))
    go_ret;exact⟨rfl,HB.out⟩
def dM:List aN->Int
 | []=>0
 | c:: r=>if gJ c.text ≠ 0 then gJ c.text else dM r
theorem aGX {lo hi:Nat} {w:A} {a:Option τ} {c:Nat} {L:List aN} (h:Cls lo hi w (.slice a L.length c) L) (hhi:hi<=w.heap.size) (T:dS w):
  CR 55 #[.slice a L.length c] w (.int .i64 (dM L)):=by
 obtain⟨_,_,he,hz1,hz2⟩:=h.slice;cases he
 have hlen:L.length<=9223372036854775807:=by unfold maxLen at hz2;omega
 have HS:X (Cls lo hi w (.slice a L.length c) L):=h;have HT:X (dS w):=T;generalize hO:dM L=tf;have HO:X (dM (L.drop 0)=tf):=by show _=_;rw [List.drop_zero];exact hO
 clear h hz1 hz2 hO T;go_enter Tryz.func55,Tryz.ntmps55;go_wp2;go_loopw [8] (fun i wr=>∃(k:Nat),k<=L.length/\i=.int .i64 (k:Nat)/\X (dM (L.drop k)=tf)/\X (U w.heap.size w wr)) (fun i _=>L.length - (intOf i).toNat)
 case atStart=>exact⟨0,z1 _,rfl,HO,d _ _⟩
 case round=>
  obtain⟨k,hk,rfl,HA,HD⟩:=hrel;clear HO;by_cases hkL:k < L.length
  ·have hki:(k:Int) < L.length:=by omega
   obtain⟨a',ov,W',rfl,rfl,hW',R2,R3, -⟩:=(HS.out.below hhi HD.out).runs hkL;obtain⟨_,_,c2⟩:=fH (show W'.heap[wr.heap.size]? =some (.cells (cellC L[k]).toArray 57) by rw [hW'];exact N wr _);have HD2:X (U w.heap.size w W'):=by rw [hW'];exact Sh.aC HD.out (O _) _
   have C:=aFL L[k].text W' (HT.out.below HD2.out);have mF:k < 9223372036854775807:=by omega
   have HX:X (gJ L[k].text ≠ 0->tf=gJ L[k].text):=fun e=>by rw [<-HA.out,Ξ hkL];unfold dM;rw [if_pos e]
   have HY:X (gJ L[k].text=0->dM (L.drop (k+1))=tf):=fun e=>by rw [<-HA.out,Ξ hkL,dM,if_neg (by simpa using e)]
   clear hW';generalize L[k]=y at *;obtain⟨yr,yc,yt⟩:=y;dsimp only at *;generalize gJ yt=me at *;by_cases e1:me=0
   ·have HY2:X _:=HY.out e1;subst e1;clear HX HY;go_wp2_with (first|(refine aB rfl 57 _ rfl _ _ rfl R2.out ?_;clear R2)|(refine aA rfl 57 _ _ rfl _ _ _ rfl rfl R3.out ?_;clear R3)|(go_at_call 26;refine C.mono ?_;clear C;rintro e w1 ⟨rfl,hb⟩;have HB1:X _:=Sh.aD HD2.out HD2.out.size hb;clear hb))
    go_roundw
    case rel=>exact⟨k+1,by omega,by go_num,HY2,HB1⟩
    case measure=>simp [intOf];omega
   ·have hpb:(me !=0)=f:=by simpa using e1
    obtain rfl:=HX.out e1;clear HX HY;go_wp2_with (first|(refine aB rfl 57 _ rfl _ _ rfl R2.out ?_;clear R2)|(refine aA rfl 57 _ _ rfl _ _ _ rfl rfl R3.out ?_;clear R3)|(go_at_call 26;refine C.mono ?_;clear C;rintro e w1 ⟨rfl,hb⟩;have HB1:X _:=Sh.aD HD2.out HD2.out.size hb;clear hb))
    go_ret;exact⟨rfl,HB1.out⟩
  ·have hki:¬(k:Int) < L.length:=by omega
   obtain rfl:tf=0:=by rw [<-HA.out,List.drop_of_length_le (by omega)];rfl
   go_wp2;go_ret;exact⟨rfl,HD.out⟩
theorem aC9 {L:List aN} {k:Nat} (hk:k < L.length) (h0:k=0):stB L k=(lT L[k].row L[k].col && !(L[k].text.toList==[])):=by subst h0;unfold stB;simp only [E hk];simp
theorem aDa {L:List aN} {k j:Nat} (hk:k < L.length) (hj:k=j+1):stB L k=(lT L[k].row L[k].col && (!(L[k].text.toList==[]) && decide (jT (L[j]'(by omega)) L[k] < 0))):=by subst hj;unfold stB;simp only [E hk,Nat.add_sub_cancel,E (show j < L.length by omega)];simp
theorem aJG {lo hi:Nat} {w:A} {a:Option τ} {c:Nat} {L:List aN} (h:Cls lo hi w (.slice a L.length c) L) (hhi:hi<=w.heap.size):
  CR 77 #[.slice a L.length c] w (.bool (laidB L)):=by
 obtain⟨_,_,he,hz1,hz2⟩:=h.slice;cases he
 have hlen:L.length<=9223372036854775807:=by unfold maxLen at hz2;omega
 have HS0:X (Cls lo hi w (.slice a L.length c) L):=h;generalize hO:laidB L=lb;have HO:X (laidB L=lb):=hO;clear h hz1 hz2 hO;go_enter Tryz.func77,Tryz.ntmps77;go_wp2;go_loopw [7] (fun i wr=>∃(k:Nat),k<=L.length/\i=.int .i64 (k:Nat)/\X (∀j,j < k->stB L j=f)/\X (U w.heap.size w wr)) (fun i _=>L.length - (intOf i).toNat)
 case atStart=>exact⟨0,z1 _,rfl,fun j hj=>by omega,d _ _⟩
 case round=>
  obtain⟨k,hk,rfl,HA,HD⟩:=hrel;by_cases hkL:k < L.length
  ·have hki:(k:Int) < L.length:=by omega
   have HF:=HS0.out.below hhi HD.out;obtain⟨a',ov,W',rfl,rfl,hW',R2,R3,R4⟩:=HF.runs hkL;have HD2:X (U w.heap.size w W'):=by rw [hW'];exact Sh.aC HD.out (O _) _
   have HDd:X (U w.heap.size w W'.drew):=HD2.out.drew;have hX:W'.drew.heap[wr.heap.size]? =some (.cells (cellC L[k]).toArray 57):=by rw [hW'];exact N wr _
   obtain⟨c0,c1,c2⟩:=fH hX;have C1:=iJ L[k].row L[k].col W'.drew;have mF:k < 9223372036854775807:=by omega
   have HNO:X (stB L k=D->lb=D):=fun e=>by rw [<-HO.out];exact aFs hkL e
   have nH:X (stB L k=f->∀j,j < k+1->stB L j=f):=fun e j hj=>by
    by_cases hjk:j=k
    ·subst hjk;exact e
    ·exact HA.out j (by omega)
   have hLX:=ldC hX;by_cases hk0:k=0
   ·have hkz:decide ((0:Int) < (k:Int))=D:=by simpa using hk0
    have yU:=aC9 hkL hk0;have HST:X (stB L k=(lT L[k].row L[k].col && !(L[k].text.toList==[]))):=yU;have HK0:X (k=0):=hk0;clear yU HF hW' R4 hX hk0;generalize L[k]=y at *;obtain⟨yr,yc,yt⟩:=y;dsimp only at *;have HS:X (W'.drew.cell? ⟨wr.heap.size,0,none⟩=some (.int .i64 yr)/\W'.drew.cell? ⟨wr.heap.size,1,none⟩=some (.int .i64 yc)/\W'.drew.cell? ⟨wr.heap.size,2,none⟩=some (.string yt)/\(B 57 (pt wr.heap.size)).run Z W'.drew=.ok (cellV ⟨yr,yc,yt⟩) W'.drew):=⟨c0,c1,c2,hLX⟩
    clear c0 c1 c2 hLX;cases hin:lT yr yc with
    | false=>
     rw [hin] at C1 HST;obtain rfl:=HNO.out (by rw [HST.out];rfl);clear HNO nH;go_wp2_with (first|(refine aB rfl 57 _ rfl _ _ rfl R2.out ?_;clear R2)|(refine aA rfl 57 _ _ rfl _ _ _ rfl rfl R3.out ?_;clear R3))
     refine aO (fun u=>u.cell? ⟨wr.heap.size,0,none⟩=some (.int .i64 yr)/\u.cell? ⟨wr.heap.size,1,none⟩=some (.int .i64 yc)/\u.cell? ⟨wr.heap.size,2,none⟩=some (.string yt)/\(B 57 (pt wr.heap.size)).run Z u=.ok (cellV ⟨yr,yc,yt⟩) u) (fun j=>D) (by kernel_rfl) ?_;refine dwp 0 ((pt wr.heap.size)) ?_;refine dwl 1 ((.int .i64 yr)) ?_ (hS:=HS.out) (hy:=(fun u hSu=>aJ rfl rfl (ld1 hSu.1 (δ _))));refine dwp 2 ((.pointer (some ⟨wr.heap.size,1,none⟩))) ?_;refine dwl 3 ((.int .i64 yc)) ?_ (hS:=HS.out) (hy:=(fun u hSu=>aJ rfl rfl (ld1 hSu.2.1 (δ _))));refine aH (i:=4) (by kernel_rfl) rfl ?_;intro K' hK';go_simp;refine C1.mono ?_;clear C1;rintro e w1 ⟨rfl,hw⟩;obtain rfl:=hw.symm;clear hw;refine hK' _ _ (.inr id) ?_;clear hK';try simp only [θ,Y,J,H]
     refine dwp 5 ((.bool f)) ?_;refine dwp 6 ((.bool f)) ?_;refine dws 7 ?_;refine dws 8 ?_;refine dws 9 ?_;refine dwp 10 ((.bool f)) ?_;refine dwp 11 ((.bool f)) ?_;refine dws 12 ?_;refine dws 13 ?_;refine dws 14 ?_;refine dws 15 ?_;refine dws 16 ?_;refine dws 17 ?_;refine dws 18 ?_;refine dws 19 ?_;refine dws 20 ?_;refine dws 21 ?_;refine dws 22 ?_;refine dws 23 ?_;refine dwp 24 ((.bool f)) ?_;refine aM (by kernel_rfl) ?_ _;go_wp2;go_ret;exact⟨rfl,HDd.out⟩
    | true=>
     rw [hin] at C1 HST;cases hte:yt.toList==[] with
     | true=>
      rw [hte] at HST;obtain rfl:=HNO.out (by rw [HST.out];rfl);clear HNO nH;go_wp2_with (first|(refine aB rfl 57 _ rfl _ _ rfl R2.out ?_;clear R2)|(refine aA rfl 57 _ _ rfl _ _ _ rfl rfl R3.out ?_;clear R3))
      refine aO (fun u=>u.cell? ⟨wr.heap.size,0,none⟩=some (.int .i64 yr)/\u.cell? ⟨wr.heap.size,1,none⟩=some (.int .i64 yc)/\u.cell? ⟨wr.heap.size,2,none⟩=some (.string yt)/\(B 57 (pt wr.heap.size)).run Z u=.ok (cellV ⟨yr,yc,yt⟩) u) (fun j=>D) (by kernel_rfl) ?_;refine dwp 0 ((pt wr.heap.size)) ?_;refine dwl 1 ((.int .i64 yr)) ?_ (hS:=HS.out) (hy:=(fun u hSu=>aJ rfl rfl (ld1 hSu.1 (δ _))));refine dwp 2 ((.pointer (some ⟨wr.heap.size,1,none⟩))) ?_;refine dwl 3 ((.int .i64 yc)) ?_ (hS:=HS.out) (hy:=(fun u hSu=>aJ rfl rfl (ld1 hSu.2.1 (δ _))));refine aH (i:=4) (by kernel_rfl) rfl ?_;intro K' hK';go_simp;refine C1.mono ?_;clear C1;rintro e w1 ⟨rfl,hw⟩;obtain rfl:=hw.symm;clear hw;refine hK' _ _ (.inr id) ?_;clear hK';try simp only [θ,Y,J,H]
      refine dwp 5 ((.bool D)) ?_;refine dwp 6 ((.bool D)) ?_;refine dwp 7 ((.pointer (some ⟨wr.heap.size,2,none⟩))) ?_;refine dwl 8 ((.string yt)) ?_ (hS:=HS.out) (hy:=(fun u hSu=>aJ rfl rfl (ld1 hSu.2.2.1 (ψ _))));refine dwp 9 ((.bool f)) ?_;refine dwp 10 ((.bool f)) ?_;refine dwp 11 ((.bool f)) ?_;refine dws 12 ?_;refine dws 13 ?_;refine dws 14 ?_;refine dws 15 ?_;refine dws 16 ?_;refine dws 17 ?_;refine dws 18 ?_;refine dws 19 ?_;refine dws 20 ?_;refine dws 21 ?_;refine dws 22 ?_;refine dws 23 ?_;refine dwp 24 ((.bool f)) ?_;refine aM (by kernel_rfl) ?_ _;go_wp2;go_ret;exact⟨rfl,HDd.out⟩
     | false=>
      rw [hte] at HST;have HY2:X _:=nH.out (by rw [HST.out];rfl);clear HNO nH;go_wp2_with (first|(refine aB rfl 57 _ rfl _ _ rfl R2.out ?_;clear R2)|(refine aA rfl 57 _ _ rfl _ _ _ rfl rfl R3.out ?_;clear R3))
      refine aO (fun u=>u.cell? ⟨wr.heap.size,0,none⟩=some (.int .i64 yr)/\u.cell? ⟨wr.heap.size,1,none⟩=some (.int .i64 yc)/\u.cell? ⟨wr.heap.size,2,none⟩=some (.string yt)/\(B 57 (pt wr.heap.size)).run Z u=.ok (cellV ⟨yr,yc,yt⟩) u) (fun j=>D) (by kernel_rfl) ?_;refine dwp 0 ((pt wr.heap.size)) ?_;refine dwl 1 ((.int .i64 yr)) ?_ (hS:=HS.out) (hy:=(fun u hSu=>aJ rfl rfl (ld1 hSu.1 (δ _))));refine dwp 2 ((.pointer (some ⟨wr.heap.size,1,none⟩))) ?_;refine dwl 3 ((.int .i64 yc)) ?_ (hS:=HS.out) (hy:=(fun u hSu=>aJ rfl rfl (ld1 hSu.2.1 (δ _))));refine aH (i:=4) (by kernel_rfl) rfl ?_;intro K' hK';go_simp;refine C1.mono ?_;clear C1;rintro e w1 ⟨rfl,hw⟩;obtain rfl:=hw.symm;clear hw;refine hK' _ _ (.inr id) ?_;clear hK';try simp only [θ,Y,J,H]
      refine dwp 5 ((.bool D)) ?_;refine dwp 6 ((.bool D)) ?_;refine dwp 7 ((.pointer (some ⟨wr.heap.size,2,none⟩))) ?_;refine dwl 8 ((.string yt)) ?_ (hS:=HS.out) (hy:=(fun u hSu=>aJ rfl rfl (ld1 hSu.2.2.1 (ψ _))));refine dwp 9 ((.bool D)) ?_;refine dwp 10 ((.bool D)) ?_;refine dwp 11 ((.bool D)) ?_;refine dwp 12 ((.int .i64 (k:Int))) ?_;refine dwp 13 ((.bool D)) ?_ (hy:=(by intro u;go_simp;have:=HK0.out;omega));refine dwp 14 ((.bool D)) ?_;refine dws 15 ?_;refine dws 16 ?_;refine dws 17 ?_;refine dws 18 ?_;refine dws 19 ?_;refine dws 20 ?_;refine dws 21 ?_;refine dws 22 ?_;refine dwp 23 ((.bool D)) ?_;refine dwp 24 ((.bool D)) ?_;refine aM (by kernel_rfl) ?_ _;go_wp2;go_roundw
      case rel=>exact⟨k+1,by omega,by go_num,HY2,HDd⟩
      case measure=>simp [intOf];omega
   ·obtain ⟨j,hj⟩:∃j,k=j+1:=⟨k - 1,by omega⟩
    have hjL:j < L.length:=by omega
    have hkz:(0:Int) < k:=by omega
    have hji:(k:Int) - 1=(j:Int):=by omega
    have hjw:IntKind.i64.wrap (j:Int)=(j:Int):=by rw [IntKind.wrap_i64];omega
    have hjn:(j:Int) < L.length:=by omega
    have HFd:=HS0.out.below hhi HDd.out;obtain⟨b',_,_,e2,rfl,_,RJ, -, -⟩:=HFd.runs hjL;cases e2
    have yU:=aDa hkL hj;have HST:X (stB L k=(lT L[k].row L[k].col && (!(L[k].text.toList==[]) && decide (jT L[j] L[k] < 0)))):=yU;have C2:=uN L[j] L[k] W'.drew;have jU:X (∀u,U W'.drew.heap.size W'.drew u->u.cell? ⟨wr.heap.size,0,none⟩=some (.int .i64 L[k].row)/\u.cell? ⟨wr.heap.size,1,none⟩=some (.int .i64 L[k].col)/\u.cell? ⟨wr.heap.size,2,none⟩=some (.string L[k].text)/\(B 57 (pt wr.heap.size)).run Z u=.ok (cellV L[k]) u/\(B 57 (.pointer (some (a'.add (j * 3))))).run Z u=.ok (cellV L[j]) u):=fun u hu=>by
     have hXu:=(hu.block _ (aF hX)).trans hX;obtain⟨q0,q1,q2⟩:=fH hXu;obtain⟨_,_,_,e3,rfl,_,RJ2, -, -⟩:=(HS0.out.below hhi (Sh.aD HDd.out HDd.out.size hu)).runs hjL;cases e3
     exact⟨q0,q1,q2,ldC hXu,RJ2.out⟩
    clear yU HF HFd hW' R4 hX hk0 hj;generalize L[j]=p at *;generalize L[k]=y at *;obtain⟨yr,yc,yt⟩:=y;dsimp only at *;have HS:X (W'.drew.cell? ⟨wr.heap.size,0,none⟩=some (.int .i64 yr)/\W'.drew.cell? ⟨wr.heap.size,1,none⟩=some (.int .i64 yc)/\W'.drew.cell? ⟨wr.heap.size,2,none⟩=some (.string yt)/\(B 57 (pt wr.heap.size)).run Z W'.drew=.ok (cellV ⟨yr,yc,yt⟩) W'.drew/\(B 57 (.pointer (some (a'.add (j * 3))))).run Z W'.drew=.ok (cellV p) W'.drew):=⟨c0,c1,c2,hLX,RJ.out⟩
    clear c0 c1 c2 hLX RJ;generalize jT p ⟨yr,yc,yt⟩=cv at *;cases hin:lT yr yc with
    | false=>
     rw [hin] at C1 HST;obtain rfl:=HNO.out (by rw [HST.out];rfl);clear HNO nH C2 jU;go_wp2_with (first|(refine aB rfl 57 _ rfl _ _ rfl R2.out ?_;clear R2)|(refine aA rfl 57 _ _ rfl _ _ _ rfl rfl R3.out ?_;clear R3))
     refine aO (fun u=>u.cell? ⟨wr.heap.size,0,none⟩=some (.int .i64 yr)/\u.cell? ⟨wr.heap.size,1,none⟩=some (.int .i64 yc)/\u.cell? ⟨wr.heap.size,2,none⟩=some (.string yt)/\(B 57 (pt wr.heap.size)).run Z u=.ok (cellV ⟨yr,yc,yt⟩) u/\(B 57 (.pointer (some (a'.add (j * 3))))).run Z u=.ok (cellV p) u) (fun j=>D) (by kernel_rfl) ?_;refine dwp 0 ((pt wr.heap.size)) ?_;refine dwl 1 ((.int .i64 yr)) ?_ (hS:=HS.out) (hy:=(fun u hSu=>aJ rfl rfl (ld1 hSu.1 (δ _))));refine dwp 2 ((.pointer (some ⟨wr.heap.size,1,none⟩))) ?_;refine dwl 3 ((.int .i64 yc)) ?_ (hS:=HS.out) (hy:=(fun u hSu=>aJ rfl rfl (ld1 hSu.2.1 (δ _))));refine aH (i:=4) (by kernel_rfl) rfl ?_;intro K' hK';go_simp;refine C1.mono ?_;clear C1;rintro e w1 ⟨rfl,hw⟩;obtain rfl:=hw.symm;clear hw;refine hK' _ _ (.inr id) ?_;clear hK';try simp only [θ,Y,J,H]
     refine dwp 5 ((.bool f)) ?_;refine dwp 6 ((.bool f)) ?_;refine dws 7 ?_;refine dws 8 ?_;refine dws 9 ?_;refine dwp 10 ((.bool f)) ?_;refine dwp 11 ((.bool f)) ?_;refine dws 12 ?_;refine dws 13 ?_;refine dws 14 ?_;refine dws 15 ?_;refine dws 16 ?_;refine dws 17 ?_;refine dws 18 ?_;refine dws 19 ?_;refine dws 20 ?_;refine dws 21 ?_;refine dws 22 ?_;refine dws 23 ?_;refine dwp 24 ((.bool f)) ?_;refine aM (by kernel_rfl) ?_ _;go_wp2;go_ret;exact⟨rfl,HDd.out⟩
    | true=>
     rw [hin] at C1 HST;cases hte:yt.toList==[] with
     | true=>
      rw [hte] at HST;obtain rfl:=HNO.out (by rw [HST.out];rfl);clear HNO nH C2 jU;go_wp2_with (first|(refine aB rfl 57 _ rfl _ _ rfl R2.out ?_;clear R2)|(refine aA rfl 57 _ _ rfl _ _ _ rfl rfl R3.out ?_;clear R3))
      refine aO (fun u=>u.cell? ⟨wr.heap.size,0,none⟩=some (.int .i64 yr)/\u.cell? ⟨wr.heap.size,1,none⟩=some (.int .i64 yc)/\u.cell? ⟨wr.heap.size,2,none⟩=some (.string yt)/\(B 57 (pt wr.heap.size)).run Z u=.ok (cellV ⟨yr,yc,yt⟩) u/\(B 57 (.pointer (some (a'.add (j * 3))))).run Z u=.ok (cellV p) u) (fun j=>D) (by kernel_rfl) ?_;refine dwp 0 ((pt wr.heap.size)) ?_;refine dwl 1 ((.int .i64 yr)) ?_ (hS:=HS.out) (hy:=(fun u hSu=>aJ rfl rfl (ld1 hSu.1 (δ _))));refine dwp 2 ((.pointer (some ⟨wr.heap.size,1,none⟩))) ?_;refine dwl 3 ((.int .i64 yc)) ?_ (hS:=HS.out) (hy:=(fun u hSu=>aJ rfl rfl (ld1 hSu.2.1 (δ _))));refine aH (i:=4) (by kernel_rfl) rfl ?_;intro K' hK';go_simp;refine C1.mono ?_;clear C1;rintro e w1 ⟨rfl,hw⟩;obtain rfl:=hw.symm;clear hw;refine hK' _ _ (.inr id) ?_;clear hK';try simp only [θ,Y,J,H]
      refine dwp 5 ((.bool D)) ?_;refine dwp 6 ((.bool D)) ?_;refine dwp 7 ((.pointer (some ⟨wr.heap.size,2,none⟩))) ?_;refine dwl 8 ((.string yt)) ?_ (hS:=HS.out) (hy:=(fun u hSu=>aJ rfl rfl (ld1 hSu.2.2.1 (ψ _))));refine dwp 9 ((.bool f)) ?_;refine dwp 10 ((.bool f)) ?_;refine dwp 11 ((.bool f)) ?_;refine dws 12 ?_;refine dws 13 ?_;refine dws 14 ?_;refine dws 15 ?_;refine dws 16 ?_;refine dws 17 ?_;refine dws 18 ?_;refine dws 19 ?_;refine dws 20 ?_;refine dws 21 ?_;refine dws 22 ?_;refine dws 23 ?_;refine dwp 24 ((.bool f)) ?_;refine aM (by kernel_rfl) ?_ _;go_wp2;go_ret;exact⟨rfl,HDd.out⟩
     | false=>
      rw [hte] at HST;by_cases hc:cv < 0
      ·have HY2:X _:=nH.out (by rw [HST.out];simp [hc]);have hc2:¬0<=cv:=by omega
       clear HNO nH;go_wp2_with (first|(refine aB rfl 57 _ rfl _ _ rfl R2.out ?_;clear R2)|(refine aA rfl 57 _ _ rfl _ _ _ rfl rfl R3.out ?_;clear R3))
       refine aO (fun u=>u.cell? ⟨wr.heap.size,0,none⟩=some (.int .i64 yr)/\u.cell? ⟨wr.heap.size,1,none⟩=some (.int .i64 yc)/\u.cell? ⟨wr.heap.size,2,none⟩=some (.string yt)/\(B 57 (pt wr.heap.size)).run Z u=.ok (cellV ⟨yr,yc,yt⟩) u/\(B 57 (.pointer (some (a'.add (j * 3))))).run Z u=.ok (cellV p) u) (fun j=>D) (by kernel_rfl) ?_;refine dwp 0 ((pt wr.heap.size)) ?_;refine dwl 1 ((.int .i64 yr)) ?_ (hS:=HS.out) (hy:=(fun u hSu=>aJ rfl rfl (ld1 hSu.1 (δ _))));refine dwp 2 ((.pointer (some ⟨wr.heap.size,1,none⟩))) ?_;refine dwl 3 ((.int .i64 yc)) ?_ (hS:=HS.out) (hy:=(fun u hSu=>aJ rfl rfl (ld1 hSu.2.1 (δ _))));refine aH (i:=4) (by kernel_rfl) rfl ?_;intro K' hK';go_simp;refine C1.mono ?_;clear C1;rintro e w1 ⟨rfl,hw⟩;obtain rfl:=hw.symm;clear hw;refine hK' _ _ (.inr id) ?_;clear hK';try simp only [θ,Y,J,H]
       refine dwp 5 ((.bool D)) ?_;refine dwp 6 ((.bool D)) ?_;refine dwp 7 ((.pointer (some ⟨wr.heap.size,2,none⟩))) ?_;refine dwl 8 ((.string yt)) ?_ (hS:=HS.out) (hy:=(fun u hSu=>aJ rfl rfl (ld1 hSu.2.2.1 (ψ _))));refine dwp 9 ((.bool D)) ?_;refine dwp 10 ((.bool D)) ?_;refine dwp 11 ((.bool D)) ?_;refine dwp 12 ((.int .i64 (k:Int))) ?_;refine dwp 13 ((.bool f)) ?_ (hy:=(by intro u;go_simp;omega));refine dwp 14 ((.bool f)) ?_;refine dwp 15 ((.slice (some a') L.length c)) ?_;refine dwp 16 ((.int .i64 (k:Int))) ?_;refine dwp 17 ((.int .i64 (j:Int))) ?_;refine dwp 18 ((.pointer (some (a'.add (j * 3))))) ?_;refine dwl 19 ((cellV p)) ?_ (hS:=HS.out) (hy:=(fun u hSu=>aJ rfl rfl hSu.2.2.2.2));refine dwl 20 ((cellV ⟨yr,yc,yt⟩)) ?_ (hS:=HS.out) (hy:=(fun u hSu=>aJ rfl rfl hSu.2.2.2.1));refine aH (i:=21) (by kernel_rfl) rfl ?_;intro K' hK';go_simp;refine C2.mono ?_;clear C2;rintro e w2 ⟨rfl,hb⟩;have HB1:X (U w.heap.size w w2):=Sh.aD HDd.out HDd.out.size hb;have HKP:=jU.out w2 hb;clear hb;refine hK' _ _ (.inr fun _=>HKP) ?_;clear hK';try simp only [θ,Y,J,H]
       refine dwp 22 ((.bool D)) ?_;refine dwp 23 ((.bool D)) ?_;refine dwp 24 ((.bool D)) ?_;refine aM (by kernel_rfl) ?_ _;go_wp2;go_roundw
       case rel=>exact⟨k+1,by omega,by go_num,HY2,HB1⟩
       case measure=>simp [intOf];omega
      ·obtain rfl:=HNO.out (by rw [HST.out];simp [hc]);have hc2:0<=cv:=by omega
       clear HNO nH;go_wp2_with (first|(refine aB rfl 57 _ rfl _ _ rfl R2.out ?_;clear R2)|(refine aA rfl 57 _ _ rfl _ _ _ rfl rfl R3.out ?_;clear R3))
       refine aO (fun u=>u.cell? ⟨wr.heap.size,0,none⟩=some (.int .i64 yr)/\u.cell? ⟨wr.heap.size,1,none⟩=some (.int .i64 yc)/\u.cell? ⟨wr.heap.size,2,none⟩=some (.string yt)/\(B 57 (pt wr.heap.size)).run Z u=.ok (cellV ⟨yr,yc,yt⟩) u/\(B 57 (.pointer (some (a'.add (j * 3))))).run Z u=.ok (cellV p) u) (fun j=>D) (by kernel_rfl) ?_;refine dwp 0 ((pt wr.heap.size)) ?_;refine dwl 1 ((.int .i64 yr)) ?_ (hS:=HS.out) (hy:=(fun u hSu=>aJ rfl rfl (ld1 hSu.1 (δ _))));refine dwp 2 ((.pointer (some ⟨wr.heap.size,1,none⟩))) ?_;refine dwl 3 ((.int .i64 yc)) ?_ (hS:=HS.out) (hy:=(fun u hSu=>aJ rfl rfl (ld1 hSu.2.1 (δ _))));refine aH (i:=4) (by kernel_rfl) rfl ?_;intro K' hK';go_simp;refine C1.mono ?_;clear C1;rintro e w1 ⟨rfl,hw⟩;obtain rfl:=hw.symm;clear hw;refine hK' _ _ (.inr id) ?_;clear hK';try simp only [θ,Y,J,H]
       refine dwp 5 ((.bool D)) ?_;refine dwp 6 ((.bool D)) ?_;refine dwp 7 ((.pointer (some ⟨wr.heap.size,2,none⟩))) ?_;refine dwl 8 ((.string yt)) ?_ (hS:=HS.out) (hy:=(fun u hSu=>aJ rfl rfl (ld1 hSu.2.2.1 (ψ _))));refine dwp 9 ((.bool D)) ?_;refine dwp 10 ((.bool D)) ?_;refine dwp 11 ((.bool D)) ?_;refine dwp 12 ((.int .i64 (k:Int))) ?_;refine dwp 13 ((.bool f)) ?_ (hy:=(by intro u;go_simp;omega));refine dwp 14 ((.bool f)) ?_;refine dwp 15 ((.slice (some a') L.length c)) ?_;refine dwp 16 ((.int .i64 (k:Int))) ?_;refine dwp 17 ((.int .i64 (j:Int))) ?_;refine dwp 18 ((.pointer (some (a'.add (j * 3))))) ?_;refine dwl 19 ((cellV p)) ?_ (hS:=HS.out) (hy:=(fun u hSu=>aJ rfl rfl hSu.2.2.2.2));refine dwl 20 ((cellV ⟨yr,yc,yt⟩)) ?_ (hS:=HS.out) (hy:=(fun u hSu=>aJ rfl rfl hSu.2.2.2.1));refine aH (i:=21) (by kernel_rfl) rfl ?_;intro K' hK';go_simp;refine C2.mono ?_;clear C2;rintro e w2 ⟨rfl,hb⟩;have HB1:X (U w.heap.size w w2):=Sh.aD HDd.out HDd.out.size hb;have HKP:=jU.out w2 hb;clear hb;refine hK' _ _ (.inr fun _=>HKP) ?_;clear hK';try simp only [θ,Y,J,H]
       refine dwp 22 ((.bool f)) ?_;refine dwp 23 ((.bool f)) ?_;refine dwp 24 ((.bool f)) ?_;refine aM (by kernel_rfl) ?_ _;go_wp2;go_ret;exact⟨rfl,HB1.out⟩
  ·have hki:¬(k:Int) < L.length:=by omega
   obtain rfl:lb=f:=by rw [<-HO.out];exact aCK fun i hi=>HA.out i (by omega)
   go_wp2;go_ret;exact⟨rfl,HD.out⟩
def aLV (L:List aT):Prop:=∀s ∈ L,s.name.size<=9223372036854775807
abbrev pairs (L:List aT) (cv:Nat->G):List (aT × G):=L.mapIdx fun j s=>(s,cv j)
abbrev bW (p:aT × G):List G:=bY p.1 p.2
structure dD (base:Nat) (w:A) (sv nv lv:G) (x:aP):Prop where
 sh:∃cv,w.ownsRow base 78 2 sv x.sheets.length ((pairs x.sheets cv).flatMap bW)/\∀j o,x.sheets[j]? =some o->w.ownsRow base 57 3 (cv j) o.cells.length (o.cells.flatMap cellC)
 nm:w.ownsRow base 89 3 nv x.names.length (x.names.flatMap kE)
 lk:w.ownsRow base 91 7 lv x.links.length (x.links.flatMap kF)
theorem oF {α:Type} {enc:α->List G} {sz base:Nat} {t:ξ} {w:A} {v:G} {L:List α} (he:∀x,(enc x).length=sz) (h:w.ownsRow base t sz v L.length (L.flatMap enc)):Rws base w.heap.size sz w v L.length fun j=>(L[j]?.map enc).getD []:=by
 rcases h.2 with ⟨rfl,h0⟩ | ⟨g,cap,cur,rfl,hb,hg,hn,hm,hs,hx⟩
 ·exact .inl ⟨rfl,h0⟩
 ·exact (aIX he hg hx hn hm).mono hb (aF hg)
theorem dD.bkm {base:Nat} {w:A} {sv nv lv:G} {x:aP} (h:dD base w sv nv lv x):BkM base w.heap.size w sv nv lv x:=by
 obtain⟨cv,h1,h2⟩:=h.sh;refine ⟨⟨cv, ?_,fun j o hj=>oF bK (h2 j o hj)⟩,oF gV h.nm,oF gW h.lk⟩;have hl:(pairs x.sheets cv).length=x.sheets.length:=by simp
 have:=oF (enc:=bW) (L:=pairs x.sheets cv) bD (by rw [hl];exact h1);rw [hl] at this;refine this.congr fun j hj=> ?_;simp [iG,E hj]
theorem aW {base:Nat} {t:ξ} {sz n:Nat} {w:A} {v:G} {xs:List G} (h:w.ownsRow base t sz v n xs):∃a c,v=.slice a n c:=by
 rcases h.2 with ⟨rfl,rfl⟩ | ⟨g,cap,cur,rfl,_⟩
 ·exact ⟨_,_,rfl⟩
 ·exact ⟨_,_,rfl⟩
theorem dY {base:Nat} {t:ξ} {sz n:Nat} {w w':A} {v:G} {xs:List G} (h:w.ownsRow base t sz v n xs) (hk:∀g cur,w.heap[g]? =some (.cells cur t (0,0))->v.ownBlock=some g->w'.heap[g]? =w.heap[g]?):w'.ownsRow base t sz v n xs:=by
 refine bT h fun g hg=> ?_;rcases h.2 with ⟨rfl,_⟩ | ⟨g',cap,cur,rfl,_,h3,_⟩
 ·cases hg
 ·cases hg
  exact hk _ _ h3 rfl
theorem yV {L:List aT} {cv:Nat->G} {cur:Array G} (hs:cur.size=L.length * 2) (hc:∀j (hj:j < L.length),cur[j * 2]? =some (.string L[j].name)/\cur[j * 2+1]? =some (cv j)):cur.toList=(pairs L cv).flatMap bW:=by
 have hl:(pairs L cv).length=L.length:=by simp
 apply χ
 intro k;by_cases hk:k < L.length * 2
 ·have hq:k / 2 < L.length:=by omega
  have hd:k / 2 * 2+k % 2=k:=by omega
  have hf:=xR (enc:=bW) bD (pairs L cv) (k / 2) (k % 2) (by rw [hl];exact hq) (by omega);rw [hd] at hf;rw [hf,Array.getElem?_toList];have hh:=hc (k / 2) hq;rcases Nat.mod_two_eq_zero_or_one k with e | e
  ·rw [e];have h1:=hh.1;rw [show k / 2 * 2=k by omega] at h1;rw [h1];simp [bY]
  ·rw [e];have h1:=hh.2;rw [show k / 2 * 2+1=k by omega] at h1;rw [h1];simp [bY]
 ·rw [ε (by rw [Γ,hs];omega),ε (by rw [bL (enc:=bW) bD,hl];omega)]
def putAt (x:aP) (i:Nat) (t:aN):aP:=⟨x.sheets.modify i fun s=>⟨s.name,kT s.cells t⟩,x.names,x.links⟩
theorem aGY (x:aP) (i:Nat) (t:aN):(putAt x i t).sheets.length=x.sheets.length:=by simp [putAt]
theorem aLW {base gs gn gl i:Nat} {w1 w2 w3:A} {x:aP} {t:aN} {v:G} (h:CpB base w1 gs gn gl x) (hz:Small x) (hi:i < x.sheets.length)
  (h2:w2.ownsRow base 57 3 v (kT x.sheets[i].cells t).length ((kT x.sheets[i].cells t).flatMap cellC)) (hg:w1.grownBy w2 (some (gs+1+i))) (hnew:v.ownBlock ≠ some gs)
  (h3:∀cur,w2.heap[gs]? =some (.cells cur 78 (0,0))->w3.heap[gs]? =some (.cells (cur.setIfInBounds (i * 2+1) v) 78 (0,0))) (hk:∀g cur (t:ξ),g ≠ gs->t ≠ 26->w2.heap[g]? =some (.cells cur t (0,0))->w3.heap[g]? =w2.heap[g]?):
  dD base w3 (newS gs x.sheets.length) (newS gn x.names.length) (newS gl x.links.length) (putAt x i t):=by
 obtain⟨cur,r1,r2,r3⟩:=h.row;have b1:=h.b1;have b2:=h.b2;have b3:=h.b3;have k2:∀g o,w1.heap[g]? =some o->g ≠ gs+1+i->w2.heap[g]? =some o:=fun g o hgo hne=>(hg.block g (aF hgo) (by simpa using hne)).trans hgo;have k3:∀g cur (t:ξ),g ≠ gs->t ≠ 26->w2.heap[g]? =some (.cells cur t (0,0))->w3.heap[g]? =some (.cells cur t (0,0)):=fun g cur t hne ht ho=>(hk g cur t hne ht ho).trans ho;have q1:=h3 _ (k2 _ _ r1 (by omega));have hxs:(putAt x i t).sheets.length=x.sheets.length:=aGY x i t;have hgx:∀j (hj:j < x.sheets.length),(putAt x i t).sheets[j]'(by omega)=if i=j then ⟨x.sheets[j].name,kT x.sheets[j].cells t⟩ else x.sheets[j]:=fun j hj=>by simp only [putAt,List.getElem_modify]
 refine ⟨⟨fun j=>if j=i then v else newS (gs+1+j) ((x.sheets[j]?.map (·.cells.length)).getD 0),⟨?_,.inr ⟨gs,x.sheets.length,_,by rw [hxs],b1,q1,by omega,bG hz.sh,by simpa using r2, ?_⟩⟩,fun j o hj=> ?_⟩, ?_, ?_⟩
 ·rw [bL (enc:=bW) bD];simp
 ·rw [hxs,List.take_of_length_le (by rw [Γ,Array.size_setIfInBounds];omega)];refine yV (by rw [Array.size_setIfInBounds,hxs];exact r2) fun j hj=> ?_;rw [hxs] at hj;have hr:=r3 j hj;rw [hgx j hj,ω (by omega),hr.1];refine ⟨by split <;> rfl, ?_⟩;by_cases e:j=i
  ·subst e;rw [Array.getElem?_setIfInBounds_self_of_lt (by omega),if_pos rfl]
  ·rw [ω (by omega),if_neg e,hr.2];simp [E hj]
 ·obtain ⟨hjl,ho⟩:=List.getElem?_eq_some_iff.1 hj;rw [hxs] at hjl;rw [hgx j hjl] at ho;by_cases e:j=i
  ·subst e;rw [if_pos rfl] at ho;subst ho;dsimp only;rw [if_pos rfl];refine dY h2 fun g cur' hgc he=>hk g cur' 57 (fun eq=>hnew (by rw [he,eq])) (by decide) hgc
  ·rw [if_neg (fun eq=>e eq.symm)] at ho;subst ho;dsimp only;rw [if_neg e,E hjl];have hc:=k3 _ _ _ (by omega) (by decide) (k2 _ _ (h.cls j hjl) (by omega));exact bS hc (by rw [bL bK];rfl) (by omega) (bG (hz.cl _ (μ hjl)))
 ·exact bS (k3 _ _ _ (by omega) (by decide) (k2 _ _ h.nms (by omega))) (by rw [bL gV];rfl) (by omega) (bG hz.nm)
 ·exact bS (k3 _ _ _ (by omega) (by decide) (k2 _ _ h.lks (by omega))) (by rw [bL gW];rfl) (by omega) (bG hz.lk)
end Go.Proofs.YtfedoljlipfhdaaGreatDoor.Sh
namespace Go.Proofs.YtfedoljlipfhdaaGreatDoor.Sh
open Go.RowKit
theorem RT.cat {S t:ξ} {sz bytes:Nat} {zv:G} (R:RT S t sz bytes zv) {base n:Nat} {w:A} {v:G} {xs:List G} (h:w.ownsRow base t sz v n xs) {p:Option τ} {m c:Nat} {news:List G} (hp:p=none->m=0/\c=0) (hl:news.length=m * sz) (hc:∀a,p=some a->∀j u,news[j]? =some u->w.cell? (a.add j)=some u) (h1:∀u ∈ news,u.oneCell'=f) (hn:n+m<=1000000) (hy:bytes<=80) (hbase:base<=w.heap.size):
  ∃v' w',X ((υ #[S,S] S #[v,.slice p m c]).run Z w=.ok v' w')/\w'.ownsRow base t sz v' (n+m) (xs++news)/\w.grownBy w' v.ownBlock/\U base w w'/\(v'.ownBlock=v.ownBlock\/v'.ownBlock=some w.heap.size):=by
 obtain⟨i,hi,hz,hs,hb⟩:=R.size;have hrow:=fun k hk=>(l h k hk).1;cases p with
 | none=>
  obtain⟨rfl,rfl⟩:=hp rfl;obtain rfl:news=[]:=List.eq_nil_of_length_eq_zero (by rw [hl,Nat.zero_mul]);exact⟨v,w,run_append_owned_none w base S S t i sz R.st hi v _ _ h,by rw [List.append_nil];exact h,World.grownBy.refl _ _,d _ _,.inl rfl⟩
 | some a=>
  have hk:(n+m) * bytes<=140737488355328:=κ (Nat.mul_le_mul hn hy) (by decide);obtain⟨v',w',r1,o1,g1,_,l1⟩:=run_append_own_at w base S S t i zv sz bytes R.st hi hz hs hb R.zs R.pos v _ _ h a m c news hl (hc a rfl) h1 (by simp only [maxLen];omega) hk hbase;exact⟨v',w',r1,o1,g1,(d base w).grown g1 hbase hrow,l1⟩
end Go.Proofs.YtfedoljlipfhdaaGreatDoor.Sh
namespace Go.Proofs.YtfedoljlipfhdaaGreatDoor.Sh
open Go.RowKit Go.Fm
def aFM (x:aP):Prop:=∀s ∈ x.sheets,qO s.cells
def full (x:aP) (i:Nat) (r c:Int) (t:ByteArray):Bool:= !(t.toList==[]) && (decide (200<=dN x.sheets) && !(((x.sheets[i]?.map (·.cells)).getD []).any (atB r c)))
def aJH (x:aP) (s:ByteArray) (r c:Int) (t:ByteArray):Int:=
 if gJ t=3 then 3 else match eH x.sheets s with
  | none=>6
  | some i=>if lT r c=D then 9 else if gJ t ≠ 0 then gJ t else if full x i r c t=f then 5 else 0
abbrev aEx:G:=.agg #[.slice none 0 0,.slice none 0 0,.slice none 0 0]
def jI (w:A) (err:Int) (y:aP) (e:Ending) (w':A):Prop:=
 (if err=0 then ∃sv nv lv,e=.returned (.tuple #[.agg #[sv,nv,lv],.int .i64 0])/\dD w.heap.size w' sv nv lv y else e=.returned (.tuple #[aEx,.int .i64 err]))/\U w.heap.size w w'
theorem bQ (u:A):(z6 26 #[]).run Z u=.ok aEx u:=by kernel_rfl
theorem res2 {fn:Func} {p q:Tmp} (h:fn.results=#[.cell p 26,.tmp q]) {tmps:Array G} {w:A} {g:Nat} {y:Array G} {v2:G} (hp:tmps.getD p undef=pt g) (hg:w.heap[g]? =some (.cells y 26)) (hy:y.size=3) (hv:tmps.getD q undef=v2):
  (results fn tmps).run Z w=.ok (.tuple #[.agg y,v2]) w:=by
 have hi:(Tryz.prog.info? 26).map (·.size)=some y.size:=by rw [hy];kernel_rfl
 rw [results_cell_tmp h,hp,hv];simp [asAddr,run_loadVar_row (P:=Z) w g 26 26 y (0,0) _ hg Tryz.underlying26 rfl hi,Result.andThen]
theorem lK {w u:A} (hu:U w.heap.size w u) {g:Nat} (hg:u.heap[g]? =some (.cells #[.slice none 0 0,.slice none 0 0,.slice none 0 0] 26)) (hb:w.heap.size<=g):
  X ((I 26 (pt g) aEx).run Z u=.ok () (u.setRow g #[.slice none 0 0,.slice none 0 0,.slice none 0 0]))/\X ((u.setRow g #[.slice none 0 0,.slice none 0 0,.slice none 0 0]).heap[g]? =some (.cells #[.slice none 0 0,.slice none 0 0,.slice none 0 0] 26))/\X (U w.heap.size w (u.setRow g #[.slice none 0 0,.slice none 0 0,.slice none 0 0])):=
 ⟨xX hg rfl rfl (by simp [γ]),ι _ _ _ _ _ _ hg,below_setRow hu hb _⟩
theorem uY {x:aP} (h:Small x):dN x.sheets<=1000000:=by
 have:∀(L:List aT),(∀s ∈ L,s.cells.length<=1000)->dN L<=L.length * 1000:=by
  intro L;induction L with
  | nil=>intro _;simp [dN]
  | cons s r ih=>
   intro h;have h1:=h s (by simp);have h2:=ih (fun t ht=>h t (by simp [ht]));unfold dN at *;simp only [List.map_cons,List.sum_cons,List.length_cons];omega
 have h1:=this _ h.cl;have h2:=h.sh;have:x.sheets.length * 1000<=1000 * 1000:=Nat.mul_le_mul_right _ h2;omega
theorem bE {u:A} {g:Nat} {a b c:G} {z:Nat × Nat} (h:u.heap[g]? =some (.cells #[a,b,c] 26 z)):u.cell? ⟨g,0,none⟩=some a/\u.cell? ⟨g,1,none⟩=some b/\u.cell? ⟨g,2,none⟩=some c:=
 ⟨aI h rfl,aI h rfl,aI h rfl⟩
theorem CpB.mono {base base' gs gn gl:Nat} {w:A} {x:aP} (h:CpB base w gs gn gl x) (hb:base'<=base):CpB base' w gs gn gl x:=⟨h.row,h.cls,h.nms,h.lks,κ hb h.b1,h.b2,h.b3⟩
theorem CpB.below {base gs gn gl:Nat} {w w':A} {x:aP} (h:CpB base w gs gn gl x) (hb:U w.heap.size w w'):CpB base w' gs gn gl x:=by obtain⟨cur,r1,r2,r3⟩:=h.row;have k:∀g o,w.heap[g]? =some o->w'.heap[g]? =some o:=fun g o ho=>(hb.block g (aF ho)).trans ho;exact⟨⟨cur,k _ _ r1,r2,r3⟩,fun j hj=>k _ _ (h.cls j hj),k _ _ h.nms,k _ _ h.lks,h.b1,h.b2,h.b3⟩
theorem aJI {w v:A} {gs gn gl i:Nat} {x:aP} (h:CpB w.heap.size v gs gn gl x) (hz:Small x) (hR:aFM x) (hi:i < x.sheets.length) (hb:U w.heap.size w v) (hgs:w.heap.size+1 < gs) (hX1:v.heap[w.heap.size+1]? =some (.cells #[.slice none 0 0,.slice none 0 0,.slice none 0 0] 26)) (t:aN):
  ∃V:A,V=v.alloc (.cells #[newS gs x.sheets.length,newS gn x.names.length,newS gl x.links.length] 26)/\V.cell? ⟨v.heap.size,0,none⟩=some (newS gs x.sheets.length)/\V.cell? ⟨gs,i * 2+1,none⟩=some (newS (gs+1+i) x.sheets[i].cells.length)/\
   ο Z 58 #[newS (gs+1+i) x.sheets[i].cells.length,cellV t] V fun e w4=>∃pa pn pc w6,e=.returned (.slice pa pn pc)/\w4.cell? ⟨gs,i * 2+1,none⟩=some (newS (gs+1+i) x.sheets[i].cells.length)/\w4.frozen? ⟨gs,i * 2+1,none⟩=D/\
    X ((B 26 (pt v.heap.size)).run Z (w4.setCell ⟨gs,i * 2+1,none⟩ (.slice pa pn pc))=.ok (.agg #[newS gs x.sheets.length,newS gn x.names.length,newS gl x.links.length]) (w4.setCell ⟨gs,i * 2+1,none⟩ (.slice pa pn pc)))/\
    X ((I 26 (.pointer (some ⟨w.heap.size+1,0,none⟩)) (.agg #[newS gs x.sheets.length,newS gn x.names.length,newS gl x.links.length])).run Z (w4.setCell ⟨gs,i * 2+1,none⟩ (.slice pa pn pc))=.ok () w6)/\
    X (w6.heap[w.heap.size+1]? =some (.cells #[newS gs x.sheets.length,newS gn x.names.length,newS gl x.links.length] 26))/\
    X (dD w.heap.size w6 (newS gs x.sheets.length) (newS gn x.names.length) (newS gl x.links.length) (putAt x i t))/\X (U w.heap.size w w6):=by
 have b1:=h.b1;have hbV:U v.heap.size v (v.alloc (.cells #[newS gs x.sheets.length,newS gn x.names.length,newS gl x.links.length] 26)):=Sh.aC (d _ _) (O _) _;obtain⟨V,hV⟩:∃V,V=v.alloc (.cells #[newS gs x.sheets.length,newS gn x.names.length,newS gl x.links.length] 26):=⟨_,rfl⟩
 rw [<-hV] at hbV;have hX:V.heap[v.heap.size]? =some (.cells #[newS gs x.sheets.length,newS gn x.names.length,newS gl x.links.length] 26):=by rw [hV];exact N v _
 have hC:=h.below hbV;obtain⟨cur,r1,r2,r3⟩:=hC.row;have hcl:=hC.cls i hi;have hgv:=aF r1;have hbw:U w.heap.size w V:=Sh.aD hb hb.size hbV;have aQa:gs < v.heap.size:=by obtain⟨_,q,_⟩:=h.row;exact aF q
 have nN:=(hbV.block _ (aF hX1)).trans hX1;refine ⟨V,hV,aI hX rfl,aI r1 (r3 i hi).2, ?_⟩;refine (aI2 (base:=w.heap.size) hcl (by omega) (hz.cl _ (μ hi)) (hR _ (μ hi)) t).mono ?_;rintro e w4 ⟨⟨v',rfl,ho⟩,hg⟩;have k4:∀g o,V.heap[g]? =some o->g ≠ gs+1+i->w4.heap[g]? =some o:=fun g o hgo hne=>(hg.block g (aF hgo) (by simpa using hne)).trans hgo;have s4:=k4 _ _ r1 (by omega);obtain⟨pa,pc,rfl⟩:=aW ho;have hnew:(z5 pa (kT x.sheets[i].cells t).length pc).ownBlock ≠ some gs:=by
  intro eq;rcases ho.2 with ⟨e,_⟩ | ⟨g,cap,cur',e,_,h3,_⟩
  ·rw [e] at eq;cases eq
  ·rw [e] at eq;cases eq
   rw [s4] at h3;cases h3
 have hxne:v.heap.size ≠ gs+1+i:=by have:=hC.cls i hi;intro eq;rw [<-eq,hX] at this;simp at this
 have aMK:w.heap.size+1 ≠ gs+1+i:=by omega
 have hset:=uO (i:=i * 2+1) (v:=.slice pa (kT x.sheets[i].cells t).length pc) s4;have aEy:(w4.setCell ⟨gs,i * 2+1,none⟩ (.slice pa (kT x.sheets[i].cells t).length pc)).heap[v.heap.size]? =some (.cells #[newS gs x.sheets.length,newS gn x.names.length,newS gl x.links.length] 26):=by rw [hset,M _ _ _ _ (by omega)];exact k4 _ _ hX hxne
 have hres:(w4.setCell ⟨gs,i * 2+1,none⟩ (.slice pa (kT x.sheets[i].cells t).length pc)).heap[w.heap.size+1]? =some (.cells #[.slice none 0 0,.slice none 0 0,.slice none 0 0] 26):=by rw [hset,M _ _ _ _ (by omega)];exact k4 _ _ nN aMK
 refine ⟨pa,_,pc,_,rfl,aI s4 (r3 i hi).2,by simp [z4,s4],ldB aEy,xX hres rfl rfl (by simp [γ]),ι _ _ _ _ _ _ hres, ?_, ?_⟩
 ·refine aLW hC hz hi ho hg hnew (fun cur' hc'=> ?_) (fun g cur' ty hne hty hgc=> ?_)
  ·rw [M _ _ _ _ (by omega),uO hc'];exact ι _ _ _ _ _ _ hc'
  ·have hg1:g ≠ w.heap.size+1:=by
    intro eq;rw [eq,k4 _ _ nN aMK] at hgc;cases hgc
    exact hty rfl
   rw [M _ _ _ _ hg1,hset,M _ _ _ _ hne]
 ·rw [hset];have hb4:U w.heap.size w w4:=hbw.grown hg hbw.size (fun k hk=>by cases hk;omega);exact below_setRow (below_setRow hb4 (by omega) _) (by omega) _
def qD (x:aP) (s:ByteArray):Int:=match eH x.sheets s with
 | none=>6
 | some _=>if x.sheets.length=1 then 15 else 0
def bJ (x:aP) (i:Nat):aP:=⟨x.sheets.eraseIdx i,x.names,x.links⟩
theorem oG {L:List aT} {cv:Nat->G} {i:Nat}:(pairs L cv).take i++(pairs L cv).drop (i+1)=pairs (L.eraseIdx i) (fun j=>if j < i then cv j else cv (j+1)):=by
 apply χ
 intro k;rw [List.getElem?_append,η,φ,ρ];simp only [pairs,List.getElem?_mapIdx,List.getElem?_eraseIdx,List.length_mapIdx];by_cases h1:k < i
 ·by_cases h2:k < min i L.length
  ·rw [if_pos h2,if_pos h1,if_pos h1];cases L[k]? <;> simp [h1]
  ·rw [if_neg h2,if_pos h1];have h3:L.length<=k:=by omega
   have h4:L[k]? =none:=ε h3;rw [ε (by omega)];simp [h1,h4]
 ·rw [if_neg (by omega),if_neg h1];by_cases h3:i<=L.length
  ·rw [show i+1+(k - min i L.length)=k+1 by omega];cases L[k+1]? <;> simp [h1]
  ·have h4:L[k+1]? =none:=ε (by omega);rw [ε (by omega)];simp [h1,h4]
theorem CpB.flat {base gs gn gl:Nat} {w:A} {x:aP} (h:CpB base w gs gn gl x):∃cur,w.heap[gs]? =some (.cells cur 78 (0,0))/\cur.size=x.sheets.length * 2/\cur.toList=(pairs x.sheets fun j=>newS (gs+1+j) ((x.sheets[j]?.map (·.cells.length)).getD 0)).flatMap bW/\∀u ∈ cur.toList,u.oneCell'=f:=by obtain⟨cur,r1,r2,r3⟩:=h.row;have hf:=yV (cv:=fun j=>newS (gs+1+j) ((x.sheets[j]?.map (·.cells.length)).getD 0)) r2 (fun j hj=>⟨(r3 j hj).1,by rw [(r3 j hj).2];simp [E hj]⟩);refine ⟨cur,r1,r2,hf, ?_⟩;rw [hf];intro u hu;obtain⟨p,hp,hu⟩:=List.mem_flatMap.1 hu;obtain⟨j,hj,rfl⟩:=List.mem_mapIdx.1 hp;simp only [bY,List.mem_cons,List.not_mem_nil,or_false] at hu;rcases hu with rfl | rfl <;> rfl
theorem aJJ {base gs gn gl i:Nat} {w1 w3:A} {x:aP} (h:CpB base w1 gs gn gl x) (hz:Small x) (hi:i < x.sheets.length) {cur':Array G} (h3:w3.heap[gs]? =some (.cells cur' 78 (0,0))) (hs:cur'.size=x.sheets.length * 2)
  (hc:cur'.toList.take ((x.sheets.length - 1) * 2)=(pairs (bJ x i).sheets (fun j=>if j < i then newS (gs+1+j) ((x.sheets[j]?.map (·.cells.length)).getD 0) else newS (gs+1+(j+1)) ((x.sheets[j+1]?.map (·.cells.length)).getD 0))).flatMap bW)
  (hk:∀g cur (t:ξ),g ≠ gs->t ≠ 26->w1.heap[g]? =some (.cells cur t (0,0))->w3.heap[g]? =w1.heap[g]?):
  dD base w3 (.slice (some ⟨gs,0,none⟩) (x.sheets.length - 1) x.sheets.length) (newS gn x.names.length) (newS gl x.links.length) (bJ x i):=by
 have b1:=h.b1;have b2:=h.b2;have b3:=h.b3;have k3:∀g cur (t:ξ),g ≠ gs->t ≠ 26->w1.heap[g]? =some (.cells cur t (0,0))->w3.heap[g]? =some (.cells cur t (0,0)):=fun g cur t hne ht ho=>(hk g cur t hne ht ho).trans ho;have hxl:(bJ x i).sheets.length=x.sheets.length - 1:=by simp [bJ,List.length_eraseIdx,hi]
 refine ⟨⟨_,⟨?_,.inr ⟨gs,x.sheets.length,cur',by rw [hxl],b1,h3,by omega,bG hz.sh,hs,by rw [hxl];exact hc⟩⟩,fun j o hj=> ?_⟩, ?_, ?_⟩
 ·rw [bL (enc:=bW) bD];simp
 ·have hj2:x.sheets[if j < i then j else j+1]? =some o:=by rw [<-hj];simp only [bJ,List.getElem?_eraseIdx];by_cases e:j < i <;> simp [e]
  obtain⟨hl,ho⟩:=List.getElem?_eq_some_iff.1 hj2;have hcl:=h.cls _ hl;rw [ho] at hcl;have hc3:=k3 _ _ _ (by omega) (by decide) hcl;have hle:=hz.cl o (by rw [<-ho];exact μ hl);try dsimp only
  by_cases e:j < i
  ·rw [if_pos e] at hj2 hc3 ⊢;rw [hj2];exact bS hc3 (by rw [bL bK];rfl) (by omega) (bG hle)
  ·rw [if_neg e] at hj2 hc3 ⊢;rw [hj2];exact bS hc3 (by rw [bL bK];rfl) (by omega) (bG hle)
 ·exact bS (k3 _ _ _ (by omega) (by decide) h.nms) (by rw [bL gV];rfl) (by omega) (bG hz.nm)
 ·exact bS (k3 _ _ _ (by omega) (by decide) h.lks) (by rw [bL gW];rfl) (by omega) (bG hz.lk)
theorem drop_tail {w v:A} {gs gn gl i:Nat} {x:aP} (h:CpB w.heap.size v gs gn gl x) (hz:Small x) (hi:i < x.sheets.length) (hb:U w.heap.size w v) (hgs:w.heap.size+1 < gs) (hX1:v.heap[w.heap.size+1]? =some (.cells #[.slice none 0 0,.slice none 0 0,.slice none 0 0] 26)):
  ∃V:A,V=v.alloc (.cells #[newS gs x.sheets.length,newS gn x.names.length,newS gl x.links.length] 26)/\V.cell? ⟨v.heap.size,0,none⟩=some (newS gs x.sheets.length)/\
   ο Z 79 #[newS gs x.sheets.length,.int .i64 (i:Nat),.int .i64 ((i+1:Nat):Int)] V fun e w4=>∃w6,e=.returned (.slice (some ⟨gs,0,none⟩) (x.sheets.length - 1) x.sheets.length)/\w4.cell? ⟨v.heap.size,0,none⟩=some (newS gs x.sheets.length)/\w4.frozen? ⟨v.heap.size,0,none⟩=D/\
    X ((B 26 (pt v.heap.size)).run Z (w4.setCell ⟨v.heap.size,0,none⟩ (.slice (some ⟨gs,0,none⟩) (x.sheets.length - 1) x.sheets.length))=.ok (.agg #[.slice (some ⟨gs,0,none⟩) (x.sheets.length - 1) x.sheets.length,newS gn x.names.length,newS gl x.links.length]) (w4.setCell ⟨v.heap.size,0,none⟩ (.slice (some ⟨gs,0,none⟩) (x.sheets.length - 1) x.sheets.length)))/\
    X ((I 26 (.pointer (some ⟨w.heap.size+1,0,none⟩)) (.agg #[.slice (some ⟨gs,0,none⟩) (x.sheets.length - 1) x.sheets.length,newS gn x.names.length,newS gl x.links.length])).run Z (w4.setCell ⟨v.heap.size,0,none⟩ (.slice (some ⟨gs,0,none⟩) (x.sheets.length - 1) x.sheets.length))=.ok () w6)/\
    X (w6.heap[w.heap.size+1]? =some (.cells #[.slice (some ⟨gs,0,none⟩) (x.sheets.length - 1) x.sheets.length,newS gn x.names.length,newS gl x.links.length] 26))/\
    X (dD w.heap.size w6 (.slice (some ⟨gs,0,none⟩) (x.sheets.length - 1) x.sheets.length) (newS gn x.names.length) (newS gl x.links.length) (bJ x i))/\X (U w.heap.size w w6):=by
 have b1:=h.b1;have hbV:U v.heap.size v (v.alloc (.cells #[newS gs x.sheets.length,newS gn x.names.length,newS gl x.links.length] 26)):=Sh.aC (d _ _) (O _) _;obtain⟨V,hV⟩:∃V,V=v.alloc (.cells #[newS gs x.sheets.length,newS gn x.names.length,newS gl x.links.length] 26):=⟨_,rfl⟩
 rw [<-hV] at hbV;have hX:V.heap[v.heap.size]? =some (.cells #[newS gs x.sheets.length,newS gn x.names.length,newS gl x.links.length] 26):=by rw [hV];exact N v _
 have hC:=h.below hbV;obtain⟨cur,r1,r2,r3,r4⟩:=hC.flat;have hbw:U w.heap.size w V:=Sh.aD hb hb.size hbV;have nN:=(hbV.block _ (aF hX1)).trans hX1;have aPC:=aF hX1;refine ⟨V,hV,aI hX rfl, ?_⟩;refine (aAx r1 r2 hi (by have:=hz.sh;omega) r4).mono ?_;rintro e w4 ⟨rfl,⟨cur',q1,q2,q3⟩,q4,hg⟩;have hgx:v.heap.size ≠ gs:=by intro eq;rw [eq,r1] at hX;simp at hX
 have k4:∀g o,V.heap[g]? =some o->g ≠ gs->w4.heap[g]? =some o:=fun g o hgo hne=>(hg.block g (aF hgo) (by simpa using hne)).trans hgo;have s4:=k4 _ _ hX hgx;have hset:=uO (i:=0) (v:=.slice (some ⟨gs,0,none⟩) (x.sheets.length - 1) x.sheets.length) s4;have aEy:(w4.setCell ⟨v.heap.size,0,none⟩ (.slice (some ⟨gs,0,none⟩) (x.sheets.length - 1) x.sheets.length)).heap[v.heap.size]? =some (.cells #[.slice (some ⟨gs,0,none⟩) (x.sheets.length - 1) x.sheets.length,newS gn x.names.length,newS gl x.links.length] 26):=by rw [hset];exact ι _ _ _ _ _ _ s4
 have hres:(w4.setCell ⟨v.heap.size,0,none⟩ (.slice (some ⟨gs,0,none⟩) (x.sheets.length - 1) x.sheets.length)).heap[w.heap.size+1]? =some (.cells #[.slice none 0 0,.slice none 0 0,.slice none 0 0] 26):=by rw [hset,M _ _ _ _ (by omega)];exact k4 _ _ nN (by omega)
 refine ⟨_,rfl,aI s4 rfl,by simp [z4,s4],ldB aEy,xX hres rfl rfl (by simp [γ]),ι _ _ _ _ _ _ hres, ?_, ?_⟩
 ·refine aJJ (w1:=V) hC hz hi (cur':=cur') ?_ q2 ?_ (fun g aP5 ty hne hty hgc=> ?_)
  ·rw [M _ _ _ _ (by omega),hset,M _ _ _ _ (fun eq=>hgx eq.symm)];exact q1
  ·rw [q3,r3,<-lI (enc:=bW) bD,<-lH (enc:=bW) bD,<-σ,oG];rfl
  ·have hg1:g ≠ w.heap.size+1:=by
    intro eq;rw [eq,nN] at hgc;cases hgc
    exact hty rfl
   have hg2:g ≠ v.heap.size:=by
    intro eq;rw [eq,hX] at hgc;cases hgc
    exact hty rfl
   rw [M _ _ _ _ hg1,hset,M _ _ _ _ hg2];exact(k4 _ _ hgc hne).trans hgc.symm
 ·rw [hset];have hb4:U w.heap.size w w4:=hbw.grown hg hbw.size (fun k hk=>by cases hk;omega);exact below_setRow (below_setRow hb4 hb.size _) (by omega) _
theorem aDb {lo hi:Nat} {w:A} {sv nv lv:G} {x:aP} (h:BkM lo hi w sv nv lv x) (hhi:hi<=w.heap.size) (hz:Small x) (s:ByteArray):
  ο Z 30 #[.agg #[sv,nv,lv],.string s] w (jI w (qD x s) (bJ x ((eH x.sheets s).getD 0))):=by
 obtain⟨sa,sc,rfl,hs1,hs2⟩:=h.sh.slice;obtain⟨na,nc,rfl,_,_⟩:=h.nm.slice;obtain⟨la,lc,rfl,_,_⟩:=h.lk.slice;obtain⟨W,hW⟩:∃W,W=(w.alloc (bkO (.slice sa x.sheets.length sc) (.slice na x.names.length nc) (.slice la x.links.length lc))).alloc (.cells #[.slice none 0 0,.slice none 0 0,.slice none 0 0] 26):=⟨_,rfl⟩
 have HB0:U w.heap.size w W:=by rw [hW];exact Sh.aC (Sh.aC (d _ _) (O _) _) (O _) _
 have hX0:W.heap[w.heap.size]? =some (bkO (.slice sa x.sheets.length sc) (.slice na x.names.length nc) (.slice la x.links.length lc)):=by rw [hW,ν _ _ _ (by simp)];exact N w _
 have hX1:W.heap[w.heap.size+1]? =some (.cells #[.slice none 0 0,.slice none 0 0,.slice none 0 0] 26):=by rw [hW];simpa using N (w.alloc (bkO (.slice sa x.sheets.length sc) (.slice na x.names.length nc) (.slice la x.links.length lc))) (.cells #[.slice none 0 0,.slice none 0 0,.slice none 0 0] 26)
 have hlen:x.sheets.length<=1000:=hz.sh;have KX:∀u,U W.heap.size W u->u.heap[w.heap.size]? =some (bkO (.slice sa x.sheets.length sc) (.slice na x.names.length nc) (.slice la x.links.length lc))/\u.heap[w.heap.size+1]? =some (.cells #[.slice none 0 0,.slice none 0 0,.slice none 0 0] 26)/\U w.heap.size w u:=fun u hu=>⟨(hu.block _ (aF hX0)).trans hX0,(hu.block _ (aF hX1)).trans hX1,Sh.aD HB0 HB0.size hu⟩
 have C1:ο Z 20 #[.agg #[.slice sa x.sheets.length sc,.slice na x.names.length nc,.slice la x.links.length lc],.string s] W fun e u=>e=.returned (.int .i64 (iQ (eH x.sheets s)))/\u.cell? ⟨w.heap.size,0,none⟩=some (.slice sa x.sheets.length sc)/\u.cell? ⟨w.heap.size,1,none⟩=some (.slice na x.names.length nc)/\u.cell? ⟨w.heap.size,2,none⟩=some (.slice la x.links.length lc)/\X (U W.heap.size W u):=(mG (h.below hhi HB0) (κ hhi HB0.size) s).mono (by
  rintro e u ⟨rfl,hu⟩;obtain⟨c0,c1,c2⟩:=bE (KX u hu).1;exact⟨rfl,c0,c1,c2,hu⟩)
 have bU:X (∀u,U W.heap.size W u->_):=fun u hu=>lK (KX u hu).2.2 (KX u hu).2.1 (by omega);obtain⟨d0,d1,d2⟩:=bE hX0;have HKX:X _:=KX;have HH:X (BkM lo hi w (.slice sa x.sheets.length sc) (.slice na x.names.length nc) (.slice la x.links.length lc) x):=h;have HZz:X (Small x):=hz;rw [hW] at d0 d1 d2;have HW:X ((w.alloc (bkO (.slice sa x.sheets.length sc) (.slice na x.names.length nc) (.slice la x.links.length lc))).alloc (.cells #[.slice none 0 0,.slice none 0 0,.slice none 0 0] 26)=W):=hW.symm;clear h HB0 hX0 hX1 hW hs1 hs2 KX hz;unfold qD;cases hO:eH x.sheets s with
 | none=>
  rw [hO] at C1;simp only [iQ] at C1;go_enter Tryz.func30,Tryz.ntmps30;go_wp2_with (first|(go_at_call 20;rw [HW.out];refine C1.mono ?_;clear C1;rintro e w1 ⟨rfl,c0,c1,c2,HB1⟩;obtain⟨RS,HZ,HBz⟩:=bU.out w1 HB1.out;clear bU)|((with_reducible show wL (π 26 _));refine aY rfl 26 _ rfl _ _ (by go_simp) (bQ _) ?_)|((with_reducible show wL (ζ 26 _ _));refine aA rfl 26 _ _ rfl _ _ _ rfl rfl RS.out ?_))
  refine β (res2 rfl rfl HZ.out rfl rfl) rfl ?_;exact⟨by rw [if_neg (by decide)];rfl,HBz.out⟩
 | some i=>
  rw [hO] at C1;simp only [iQ] at C1;have hil:=nY hO;have hni:decide ((i:Int) < 0)=D:=by simp
  dsimp only [Option.getD];clear hO;by_cases h1:x.sheets.length=1
  ·rw [if_pos h1];have h1b:((x.sheets.length:Int)==1)=f:=by rw [h1];rfl
   clear hil h1;generalize x.sheets.length=n at *;go_enter Tryz.func30,Tryz.ntmps30;go_wp2_with (first|(go_at_call 20;rw [HW.out];refine C1.mono ?_;clear C1;rintro e w1 ⟨rfl,c0,c1,c2,HB1⟩;obtain⟨RS,HZ,HBz⟩:=bU.out w1 HB1.out;clear bU)|((with_reducible show wL (π 26 _));refine aY rfl 26 _ rfl _ _ (by go_simp) (bQ _) ?_)|((with_reducible show wL (ζ 26 _ _));refine aA rfl 26 _ _ rfl _ _ _ rfl rfl RS.out ?_))
   refine β (res2 rfl rfl HZ.out rfl rfl) rfl ?_;exact⟨by rw [if_neg (by decide)];rfl,HBz.out⟩
  ·rw [if_neg h1];have h1b:((x.sheets.length:Int)==1)=D:=by simp only [beq_eq_false_iff_ne];omega
   have C5:X (∀u,U W.heap.size W u->ο Z 17 #[.agg #[.slice sa x.sheets.length sc,.slice na x.names.length nc,.slice la x.links.length lc]] u fun e v=>∃gs gn gl,e=.returned (.agg #[newS gs x.sheets.length,newS gn x.names.length,newS gl x.links.length])/\(v.alloc (.cells #[newS gs x.sheets.length,newS gn x.names.length,newS gl x.links.length] 26)).cell? ⟨v.heap.size,0,none⟩=some (newS gs x.sheets.length)/\
     X (ο Z 79 #[newS gs x.sheets.length,.int .i64 (i:Nat),.int .i64 ((i+1:Nat):Int)] (v.alloc (.cells #[newS gs x.sheets.length,newS gn x.names.length,newS gl x.links.length] 26)) fun e w4=>∃w6,e=.returned (.slice (some ⟨gs,0,none⟩) (x.sheets.length - 1) x.sheets.length)/\w4.cell? ⟨v.heap.size,0,none⟩=some (newS gs x.sheets.length)/\w4.frozen? ⟨v.heap.size,0,none⟩=D/\
    X ((B 26 (pt v.heap.size)).run Z (w4.setCell ⟨v.heap.size,0,none⟩ (.slice (some ⟨gs,0,none⟩) (x.sheets.length - 1) x.sheets.length))=.ok (.agg #[.slice (some ⟨gs,0,none⟩) (x.sheets.length - 1) x.sheets.length,newS gn x.names.length,newS gl x.links.length]) (w4.setCell ⟨v.heap.size,0,none⟩ (.slice (some ⟨gs,0,none⟩) (x.sheets.length - 1) x.sheets.length)))/\
    X ((I 26 (.pointer (some ⟨w.heap.size+1,0,none⟩)) (.agg #[.slice (some ⟨gs,0,none⟩) (x.sheets.length - 1) x.sheets.length,newS gn x.names.length,newS gl x.links.length])).run Z (w4.setCell ⟨v.heap.size,0,none⟩ (.slice (some ⟨gs,0,none⟩) (x.sheets.length - 1) x.sheets.length))=.ok () w6)/\
    X (w6.heap[w.heap.size+1]? =some (.cells #[.slice (some ⟨gs,0,none⟩) (x.sheets.length - 1) x.sheets.length,newS gn x.names.length,newS gl x.links.length] 26))/\
    X (dD w.heap.size w6 (.slice (some ⟨gs,0,none⟩) (x.sheets.length - 1) x.sheets.length) (newS gn x.names.length) (newS gl x.links.length) (bJ x i))/\X (U w.heap.size w w6))):=fun u hu=>
    (sQ (HH.out.below hhi (HKX.out u hu).2.2) (κ hhi (HKX.out u hu).2.2.size) HZz.out).mono (by
     rintro e v ⟨⟨gs,gn,gl,rfl,hC⟩,hv⟩;have hub:=(HKX.out u hu).2.2;have hb1:=hC.b1;have hx1:=(HKX.out u hu).2.1;have hl1:=aF hx1;obtain⟨V,hV,c1,CC⟩:=drop_tail (w:=w) (hC.mono hub.size) HZz.out hil (Sh.aD hub hub.size hv) (by omega) ((hv.block _ hl1).trans hx1);rw [hV] at c1 CC;exact⟨gs,gn,gl,rfl,c1,CC⟩)
   have HOK:X (∀sv nv lv w6,dD w.heap.size w6 sv nv lv (bJ x i)->U w.heap.size w w6->jI w 0 (bJ x i) (.returned (.tuple #[.agg #[sv,nv,lv],.int .i64 0])) w6):=fun sv nv lv w6 h1 h2=>⟨by rw [if_pos rfl];exact⟨_,_,_,rfl,h1⟩,h2⟩
   generalize jI w 0 (bJ x i)=Q0 at *;obtain⟨m,hm⟩:∃m,m=i+1:=⟨_,rfl⟩
   rw [<-hm] at C5;have e5:(i:Int)+1=(m:Int):=by omega
   have e6:IntKind.i64.wrap (m:Int)=(m:Int):=by rw [IntKind.wrap_i64];omega
   obtain⟨n1,hn1⟩:∃n1,n1=x.sheets.length - 1:=⟨_,rfl⟩
   rw [<-hn1] at C5;clear hil h1 bU HH HZz hm hn1;go_enter Tryz.func30,Tryz.ntmps30;go_wp2_with (first|(go_at_call 20;rw [HW.out];refine C1.mono ?_;clear C1;rintro e w1 ⟨rfl,c0,c1,c2,HB1⟩)|(go_at_call 17;refine (C5.out _ HB1.out).mono ?_;clear C5;rintro e v ⟨gs,gn,gl,rfl,cV,CW⟩)|(go_at_call 79;refine CW.out.mono ?_;clear CW;rintro e w5 ⟨w6,rfl,c50,f50,RL6,RS6,HG6,HO6,HB6⟩)|((with_reducible show wL (z2 26 _));refine aB rfl 26 _ rfl _ _ rfl RL6.out ?_;clear RL6)|((with_reducible show wL (ζ 26 _ _));refine aA rfl 26 _ _ rfl _ _ _ rfl rfl RS6.out ?_;clear RS6))
   refine β (res2 rfl rfl HG6.out rfl rfl) rfl ?_;exact HOK.out _ _ _ _ HO6.out HB6.out
def aBv (x:aP) (s:ByteArray) (at_:Int) (L:List aN):Int:=
 if gnF s.data.toList=D then 8 else if 0<=iQ (eH x.sheets s) then 7 else if at_ < 0\/(x.sheets.length:Int) < at_\/laidB L=D\/dM L ≠ 0 then 9 else if 4<=x.sheets.length then 15 else if 200 < dN x.sheets+L.length then 5 else 0
def bZ (x:aP) (i:Nat) (t:aT):aP:=⟨x.sheets.take i++t:: x.sheets.drop i,x.names,x.links⟩
theorem uZ {L:List aT} {cv:Nat->G} {i:Nat} {t:aT} {v:G} (hi:i<=L.length):(pairs L cv).take i++(t,v):: (pairs L cv).drop i=pairs (L.take i++t:: L.drop i) (fun j=>if j < i then cv j else if j=i then v else cv (j - 1)):=by
 apply χ
 intro k;have hl:((pairs L cv).take i).length=i:=by rw [ρ];simp;omega
 have hl2:(L.take i).length=i:=by rw [ρ];omega
 rw [List.getElem?_append,hl,List.getElem?_mapIdx,List.getElem?_append,hl2];by_cases h1:k < i
 ·rw [if_pos h1,if_pos h1,η,if_pos h1,η,if_pos h1,List.getElem?_mapIdx];cases L[k]? <;> simp [h1]
 ·rw [if_neg h1,if_neg h1];by_cases h2:k=i
  ·subst h2;simp
  ·obtain ⟨m,hm⟩:∃m,k=i+(m+1):=⟨k - i - 1,by omega⟩
   subst hm;rw [show i+(m+1) - i=m+1 by omega,List.getElem?_cons_succ,List.getElem?_cons_succ,φ,φ,List.getElem?_mapIdx];have e1:¬i+(m+1) < i:=by omega
   have e2:¬i+(m+1)=i:=by omega
   have e3:i+(m+1) - 1=i+m:=by omega
   cases L[i+m]? with
   | none=>simp
   | some y=>
    simp only [Option.map_some,if_neg e1,if_neg e2,e3]
theorem add_get {x:aP} {i j:Nat} {t o:aT} (hi:i<=x.sheets.length) (h:(bZ x i t).sheets[j]? =some o):(j=i/\o=t)\/(j < i/\x.sheets[j]? =some o)\/(i < j/\x.sheets[j - 1]? =some o):=by
 have hl2:(x.sheets.take i).length=i:=by rw [ρ];omega
 simp only [bZ] at h;rw [List.getElem?_append,hl2] at h;by_cases h1:j < i
 ·rw [if_pos h1,η,if_pos h1] at h;exact .inr (.inl ⟨h1,h⟩)
 ·rw [if_neg h1] at h;by_cases h2:j=i
  ·subst h2;simp at h;exact .inl ⟨rfl,h.symm⟩
  ·obtain ⟨m,hm⟩:∃m,j=i+(m+1):=⟨j - i - 1,by omega⟩
   subst hm;rw [show i+(m+1) - i=m+1 by omega,List.getElem?_cons_succ,φ] at h;refine .inr (.inr ⟨by omega, ?_⟩);rw [show i+(m+1) - 1=i+m by omega];exact h
theorem aLX {base gs gn gl gL i:Nat} {w1 w3:A} {x:aP} {t:aT} {v:G} (h:CpB base w1 gs gn gl x) (hz:Small x) (hi:i<=x.sheets.length) (ht:t.cells.length<=1000) (hL:w3.heap[gL]? =some (.cells (t.cells.flatMap cellC).toArray 57)) (hgL:base<=gL)
  (hv:w3.ownsRow base 78 2 v (x.sheets.length+1) ((pairs (bZ x i t).sheets (fun j=>if j < i then newS (gs+1+j) ((x.sheets[j]?.map (·.cells.length)).getD 0) else if j=i then newS gL t.cells.length else newS (gs+1+(j - 1)) ((x.sheets[j - 1]?.map (·.cells.length)).getD 0))).flatMap bW))
  (hk:∀g cur (t:ξ),t ≠ 26->g ≠ gs->w1.heap[g]? =some (.cells cur t (0,0))->w3.heap[g]? =w1.heap[g]?):
  dD base w3 v (newS gn x.names.length) (newS gl x.links.length) (bZ x i t):=by
 have b1:=h.b1;have b2:=h.b2;have b3:=h.b3;have k3:∀g cur (t:ξ),t ≠ 26->g ≠ gs->w1.heap[g]? =some (.cells cur t (0,0))->w3.heap[g]? =some (.cells cur t (0,0)):=fun g cur t ht hne ho=>(hk g cur t ht hne ho).trans ho;have hxl:(bZ x i t).sheets.length=x.sheets.length+1:=by simp [bZ];omega
 refine ⟨⟨_,by rw [hxl];exact hv,fun j o hj=> ?_⟩, ?_, ?_⟩
 ·rcases add_get hi hj with ⟨rfl,rfl⟩ | ⟨e,hj2⟩ | ⟨e,hj2⟩
  ·try dsimp only
   rw [if_neg (by omega),if_pos rfl];exact bS hL (by rw [bL bK]) hgL (bG ht)
  ·obtain ⟨hl,ho⟩:=List.getElem?_eq_some_iff.1 hj2;have hcl:=h.cls _ hl;rw [ho] at hcl;try dsimp only
   rw [if_pos e,hj2];exact bS (k3 _ _ _ (by decide) (by omega) hcl) (by rw [bL bK];rfl) (by omega) (bG (hz.cl o (by rw [<-ho];exact μ hl)))
  ·obtain ⟨hl,ho⟩:=List.getElem?_eq_some_iff.1 hj2;have hcl:=h.cls _ hl;rw [ho] at hcl;try dsimp only
   rw [if_neg (by omega),if_neg (by omega),hj2];exact bS (k3 _ _ _ (by decide) (by omega) hcl) (by rw [bL bK];rfl) (by omega) (bG (hz.cl o (by rw [<-ho];exact μ hl)))
 ·exact bS (k3 _ _ _ (by decide) (by omega) h.nms) (by rw [bL gV];rfl) (by omega) (bG hz.nm)
 ·exact bS (k3 _ _ _ (by decide) (by omega) h.lks) (by rw [bL gW];rfl) (by omega) (bG hz.lk)
theorem aJK (u:A) (s:ByteArray) (a:Option τ) (n c:Nat):(z6 78 #[(0,.string s),(1,.slice a n c)]).run Z u=.ok (.agg #[.string s,.slice a n c]) u:=by kernel_rfl
theorem gT (u:A) (s:ByteArray) (a:Option τ) (n c:Nat):(Ψ 22 1 #[(0,.agg #[.string s,.slice a n c])]).run Z u=.ok (.slice (some ⟨u.heap.size,0,none⟩) 1 1) (u.alloc (.cells #[.string s,.slice a n c] 78)):=by kernel_rfl
theorem aJL {w v:A} {gs gn gl i:Nat} {x:aP} (h:CpB w.heap.size v gs gn gl x) (hz:Small x) (hi:i<=x.sheets.length) (hb:U w.heap.size w v) (hgs:w.heap.size+1 < gs) (hX1:v.heap[w.heap.size+1]? =some (.cells #[.slice none 0 0,.slice none 0 0,.slice none 0 0] 26)) (s:ByteArray) {lo hi2:Nat} {a:Option τ} {c:Nat} {L:List aN} (hL:Cls lo hi2 w (.slice a L.length c) L) (hhi:hi2<=w.heap.size) (hln:L.length<=1000):
  ∃V:A,V=v.alloc (.cells #[newS gs x.sheets.length,newS gn x.names.length,newS gl x.links.length] 26)/\V.cell? ⟨v.heap.size,0,none⟩=some (newS gs x.sheets.length)/\
   ο Z 62 #[.slice a L.length c] V.drew fun e w2=>∃gL,e=.returned (newS gL L.length)/\w2.cell? ⟨v.heap.size,0,none⟩=some (newS gs x.sheets.length)/\
    X (ο Z 78 #[newS gs x.sheets.length,.int .i64 (i:Nat),.slice (some ⟨w2.heap.size,0,none⟩) 1 1] (w2.alloc (.cells #[.string s,newS gL L.length] 78)) fun e w4=>∃pa pn pc w5 w6,e=.returned (.slice pa pn pc)/\
     X ((I 22 (pt v.heap.size) (.slice pa pn pc)).run Z w4=.ok () w5)/\
     X ((B 26 (pt v.heap.size)).run Z w5=.ok (.agg #[.slice pa pn pc,newS gn x.names.length,newS gl x.links.length]) w5)/\
     X ((I 26 (.pointer (some ⟨w.heap.size+1,0,none⟩)) (.agg #[.slice pa pn pc,newS gn x.names.length,newS gl x.links.length])).run Z w5=.ok () w6)/\
     X (w6.heap[w.heap.size+1]? =some (.cells #[.slice pa pn pc,newS gn x.names.length,newS gl x.links.length] 26))/\
     X (dD w.heap.size w6 (.slice pa pn pc) (newS gn x.names.length) (newS gl x.links.length) (bZ x i ⟨s,L⟩))/\X (U w.heap.size w w6)):=by
 have b1:=h.b1;have hbV:U v.heap.size v (v.alloc (.cells #[newS gs x.sheets.length,newS gn x.names.length,newS gl x.links.length] 26)):=Sh.aC (d _ _) (O _) _;obtain⟨V,hV⟩:∃V,V=v.alloc (.cells #[newS gs x.sheets.length,newS gn x.names.length,newS gl x.links.length] 26):=⟨_,rfl⟩
 rw [<-hV] at hbV;have hX:V.heap[v.heap.size]? =some (.cells #[newS gs x.sheets.length,newS gn x.names.length,newS gl x.links.length] 26):=by rw [hV];exact N v _
 have hbw:U w.heap.size w V:=Sh.aD hb hb.size hbV;have aPC:=aF hX1;refine ⟨V,hV,aI hX rfl, ?_⟩;refine (aAw (w:=V.drew) (hL.below hhi hbw.drew).src (by rw [bL bK]) (lS iN L) (by omega)).mono ?_;rintro e w2 ⟨rfl,q1,q2,q3⟩;have q3':U V.heap.size V w2:=⟨q3.os,q3.tape,q3.output,q3.size,q3.block⟩
 have hX2:=(q3'.block _ (aF hX)).trans hX;refine ⟨_,rfl,aI hX2 rfl, ?_⟩;obtain⟨W3,hW3⟩:∃W3,W3=w2.alloc (.cells #[.string s,newS V.drew.heap.size L.length] 78):=⟨_,rfl⟩
 have hb3:U w2.heap.size w2 W3:=by rw [hW3];exact Sh.aC (d _ _) (O _) _
 have aLY:U V.heap.size V W3:=Sh.aD q3' q3'.size hb3;have hC:=(h.below hbV).below aLY;obtain⟨cur,r1,r2,r3,r4⟩:=hC.flat;have hnew:W3.heap[w2.heap.size]? =some (.cells #[.string s,newS V.drew.heap.size L.length] 78):=by rw [hW3];exact N w2 _
 have hcur:cur=cur.toList.toArray:=by simp
 rw [hcur] at r1;have hxs:x.sheets.length<=1000:=hz.sh;show ο _ _ _ _ _;rw [<-hW3];refine (aGH (base:=w.heap.size) (es:=[.string s,newS V.drew.heap.size L.length]) r1 (by rw [Γ];exact r2) (by omega) hxs hi hnew rfl (by simp [γ]) r4).mono ?_;rintro e w4 ⟨⟨v',rfl,ho⟩,hg⟩;have aOs:U w.heap.size w W3:=Sh.aD hbw hbw.size aLY;have k4:∀g o,W3.heap[g]? =some o->g ≠ gs->w4.heap[g]? =some o:=fun g o hgo hne=>(hg.block g (aF hgo) (by simpa using hne)).trans hgo;have hX3:=(aLY.block _ (aF hX)).trans hX;have hgx:v.heap.size ≠ gs:=by intro eq;rw [eq,r1] at hX3;simp at hX3
 have nN:=(hbV.block _ (aF hX1)).trans hX1;have aNy:=(aLY.block _ (aF nN)).trans nN;have hL3:W3.heap[V.drew.heap.size]? =some (.cells (L.flatMap cellC).toArray 57):=(hb3.block _ (aF q1)).trans q1;have hLg:V.drew.heap.size ≠ gs:=by intro eq;rw [eq,r1] at hL3;simp at hL3
 obtain⟨pa,pc,rfl⟩:=aW ho;have s4:=k4 _ _ hX3 hgx;have hset:=uO (i:=0) (v:=.slice pa (x.sheets.length+1) pc) s4;have aEy:(w4.setCell ⟨v.heap.size,0,none⟩ (.slice pa (x.sheets.length+1) pc)).heap[v.heap.size]? =some (.cells #[.slice pa (x.sheets.length+1) pc,newS gn x.names.length,newS gl x.links.length] 26):=by rw [hset];exact ι _ _ _ _ _ _ s4
 have hres:(w4.setCell ⟨v.heap.size,0,none⟩ (.slice pa (x.sheets.length+1) pc)).heap[w.heap.size+1]? =some (.cells #[.slice none 0 0,.slice none 0 0,.slice none 0 0] 26):=by rw [hset,M _ _ _ _ (by omega)];exact k4 _ _ aNy (by omega)
 refine ⟨pa,_,pc,w4.setCell ⟨v.heap.size,0,none⟩ (.slice pa (x.sheets.length+1) pc),_,rfl, ?_,ldB aEy,xX hres rfl rfl (by simp [γ]),ι _ _ _ _ _ _ hres, ?_, ?_⟩
 ·have hst:=run_storeCells_at Z v.heap.size 0 26 [.slice pa (x.sheets.length+1) pc] 0 _ w4 s4 (by simp) (by simp [γ]);have z22:=Tryz.sizeOf22 w4;rw [hset];show _=_;simp only [I,z3,storeVar,Sem.run_bind,Sem.run_pure,Θ,z22,Value.cells];simpa using hst
 ·have hkk:∀g cur' (ty:ξ),ty ≠ 26->g ≠ gs->W3.heap[g]? =some (.cells cur' ty (0,0))->((w4.setCell ⟨v.heap.size,0,none⟩ (.slice pa (x.sheets.length+1) pc)).setRow (w.heap.size+1) #[.slice pa (x.sheets.length+1) pc,newS gn x.names.length,newS gl x.links.length]).heap[g]? =W3.heap[g]? :=fun g cur' ty hty hne hgc=>by
   have hg1:g ≠ w.heap.size+1:=by
    intro eq;rw [eq,aNy] at hgc;cases hgc
    exact hty rfl
   have hg2:g ≠ v.heap.size:=by
    intro eq;rw [eq,hX3] at hgc;cases hgc
    exact hty rfl
   rw [M _ _ _ _ hg1,hset,M _ _ _ _ hg2];exact(k4 _ _ hgc hne).trans hgc.symm
  refine aLX (t:=⟨s,L⟩) hC hz hi hln ((hkk _ _ _ (by decide) hLg hL3).trans hL3) (by have:=hbw.size;show _<=V.heap.size;omega) ?_ hkk;refine dY (w:=w4) ?_ (fun g cur' hgc he=> ?_)
  ·rw [r3,<-lI (enc:=bW) bD,<-lH (enc:=bW) bD] at ho;have e0: [Value.string s,newS V.drew.heap.size L.length]=[((⟨s,L⟩:aT),newS V.drew.heap.size L.length)].flatMap bW:=rfl;rw [e0,<-σ,<-σ,List.append_assoc,List.singleton_append,uZ hi] at ho;exact ho
  ·have hg1:g ≠ w.heap.size+1:=by intro eq;rw [eq,k4 _ _ aNy (by omega)] at hgc;simp at hgc
   have hg2:g ≠ v.heap.size:=by intro eq;rw [eq,s4] at hgc;simp at hgc
   rw [M _ _ _ _ hg1,hset,M _ _ _ _ hg2]
 ·rw [hset];have hb4:U w.heap.size w w4:=aOs.grown hg aOs.size (fun k hk=>by cases hk;omega);exact below_setRow (below_setRow hb4 hb.size _) (by omega) _
theorem aGZ {u:A} {p:τ} {v:G} (h:u.cell? p=some v):(B 22 (.pointer (some p))).run Z u=.ok v u:=ld1 h (Tryz.isAgg22 u)
theorem gZ {P:Program} {o:Oper} {a:Act} {w w':A} {K:Act->A->Prop} {Q:Exit->Act->A->Prop} {ty:ξ} {len:Nat} {xs:Array (Nat × Operand)} {ps:Array (Nat × G)} {v:G} (ho:o.op=.buildSlice ty len xs) (hx:(xs.map fun (i,x)=>(i,a.eval x))=ps) (hrun:(Ψ ty len ps).run P w=.ok v w') (h:K (a.put o.dst v) w'):Oper.wp P o a w K Q:=by unfold Oper.wp execOp;simp only [ho,hx,Sem.run_bind,Sem.run_pure,hrun,Θ];exact h
theorem aEz {w:A} {a:τ} {v:G} (h:w.cell? a=some v) (o:Obj):(w.alloc o).cell? a=some v:=(World.cell?_of_block (ν w o _ (World.block_lt_of_cell? w a h))).trans h
theorem aLZ {lo hi lo2 hi2:Nat} {w:A} {sv nv lv:G} {x:aP} (h:BkM lo hi w sv nv lv x) (hhi:hi<=w.heap.size) (hz:Small x) (T:dS w) (s:ByteArray) (hs:s.size<=9223372036854775807) (at_:Int) {a:Option τ} {c:Nat} {L:List aN} (hL:Cls lo2 hi2 w (.slice a L.length c) L) (hhi2:hi2<=w.heap.size) (hln:L.length<=1099511627776):
  ο Z 28 #[.agg #[sv,nv,lv],.string s,.int .i64 at_,.slice a L.length c] w (jI w (aBv x s at_ L) (bZ x at_.toNat ⟨s,L⟩)):=by
 obtain⟨sa,sc,rfl,hs1,hs2⟩:=h.sh.slice;obtain⟨na,nc,rfl,_,_⟩:=h.nm.slice;obtain⟨la,lc,rfl,_,_⟩:=h.lk.slice;obtain⟨W,hW⟩:∃W,W=(w.alloc (bkO (.slice sa x.sheets.length sc) (.slice na x.names.length nc) (.slice la x.links.length lc))).alloc (.cells #[.slice none 0 0,.slice none 0 0,.slice none 0 0] 26):=⟨_,rfl⟩
 have HB0:U w.heap.size w W:=by rw [hW];exact Sh.aC (Sh.aC (d _ _) (O _) _) (O _) _
 have hX0:W.heap[w.heap.size]? =some (bkO (.slice sa x.sheets.length sc) (.slice na x.names.length nc) (.slice la x.links.length lc)):=by rw [hW,ν _ _ _ (by simp)];exact N w _
 have hX1:W.heap[w.heap.size+1]? =some (.cells #[.slice none 0 0,.slice none 0 0,.slice none 0 0] 26):=by rw [hW];simpa using N (w.alloc (bkO (.slice sa x.sheets.length sc) (.slice na x.names.length nc) (.slice la x.links.length lc))) (.cells #[.slice none 0 0,.slice none 0 0,.slice none 0 0] 26)
 have hlen:x.sheets.length<=1000:=hz.sh;have KX:∀u,U W.heap.size W u->u.heap[w.heap.size]? =some (bkO (.slice sa x.sheets.length sc) (.slice na x.names.length nc) (.slice la x.links.length lc))/\u.heap[w.heap.size+1]? =some (.cells #[.slice none 0 0,.slice none 0 0,.slice none 0 0] 26)/\U w.heap.size w u:=fun u hu=>⟨(hu.block _ (aF hX0)).trans hX0,(hu.block _ (aF hX1)).trans hX1,Sh.aD HB0 HB0.size hu⟩
 have C76:ο Z 76 #[.string s] W fun e u=>e=.returned (.bool (gnF s.data.toList))/\(u.cell? ⟨w.heap.size,0,none⟩=some (.slice sa x.sheets.length sc)/\u.cell? ⟨w.heap.size,1,none⟩=some (.slice na x.names.length nc)/\u.cell? ⟨w.heap.size,2,none⟩=some (.slice la x.links.length lc))/\X (U W.heap.size W u):=(kI s hs W (T.below HB0).t.t).mono (by
  rintro e u ⟨rfl,hu⟩;exact⟨rfl,bE (KX u hu).1,hu⟩)
 have C20:X (∀u,U W.heap.size W u->ο Z 20 #[.agg #[.slice sa x.sheets.length sc,.slice na x.names.length nc,.slice la x.links.length lc],.string s] u fun e v=>e=.returned (.int .i64 (iQ (eH x.sheets s)))/\(v.cell? ⟨w.heap.size,0,none⟩=some (.slice sa x.sheets.length sc)/\v.cell? ⟨w.heap.size,1,none⟩=some (.slice na x.names.length nc)/\v.cell? ⟨w.heap.size,2,none⟩=some (.slice la x.links.length lc))/\X (U W.heap.size W v)):=fun u hu=>(mG (h.below hhi (KX u hu).2.2) (κ hhi (KX u hu).2.2.size) s).mono (by
  rintro e v ⟨rfl,hv⟩;have hv2:=Sh.aD hu hu.size hv;exact⟨rfl,bE (KX v hv2).1,hv2⟩)
 have C77:X (∀u,U W.heap.size W u->ο Z 77 #[.slice a L.length c] u fun e v=>e=.returned (.bool (laidB L))/\(v.cell? ⟨w.heap.size,0,none⟩=some (.slice sa x.sheets.length sc)/\v.cell? ⟨w.heap.size,1,none⟩=some (.slice na x.names.length nc)/\v.cell? ⟨w.heap.size,2,none⟩=some (.slice la x.links.length lc))/\X (U W.heap.size W v)):=fun u hu=>(aJG (hL.below hhi2 (KX u hu).2.2) (κ hhi2 (KX u hu).2.2.size)).mono (by
  rintro e v ⟨rfl,hv⟩;have hv2:=Sh.aD hu hu.size hv;exact⟨rfl,bE (KX v hv2).1,hv2⟩)
 have C55:X (∀u,U W.heap.size W u->ο Z 55 #[.slice a L.length c] u fun e v=>e=.returned (.int .i64 (dM L))/\(v.cell? ⟨w.heap.size,0,none⟩=some (.slice sa x.sheets.length sc)/\v.cell? ⟨w.heap.size,1,none⟩=some (.slice na x.names.length nc)/\v.cell? ⟨w.heap.size,2,none⟩=some (.slice la x.links.length lc))/\X (U W.heap.size W v)):=fun u hu=>(aGX (hL.below hhi2 (KX u hu).2.2) (κ hhi2 (KX u hu).2.2.size) (T.below (KX u hu).2.2)).mono (by
  rintro e v ⟨rfl,hv⟩;have hv2:=Sh.aD hu hu.size hv;exact⟨rfl,bE (KX v hv2).1,hv2⟩)
 have hcz:=uY hz;have C24:X (∀u,U W.heap.size W u->ο Z 24 #[.agg #[.slice sa x.sheets.length sc,.slice na x.names.length nc,.slice la x.links.length lc]] u fun e v=>e=.returned (.int .i64 (dN x.sheets:Nat))/\(v.cell? ⟨w.heap.size,0,none⟩=some (.slice sa x.sheets.length sc)/\v.cell? ⟨w.heap.size,1,none⟩=some (.slice na x.names.length nc)/\v.cell? ⟨w.heap.size,2,none⟩=some (.slice la x.links.length lc))/\X (U W.heap.size W v)):=fun u hu=>(oM (h.below hhi (KX u hu).2.2) (κ hhi (KX u hu).2.2.size) (by omega)).mono (by
  rintro e v ⟨rfl,hv⟩;have hv2:=Sh.aD hu hu.size hv;exact⟨rfl,bE (KX v hv2).1,hv2⟩)
 have bU:X (∀u,U W.heap.size W u->_):=fun u hu=>lK (KX u hu).2.2 (KX u hu).2.1 (by omega);have HKX:X _:=KX;have HH:X (BkM lo hi w (.slice sa x.sheets.length sc) (.slice na x.names.length nc) (.slice la x.links.length lc) x):=h;have HZz:X (Small x):=hz;have HLL:X (Cls lo2 hi2 w (.slice a L.length c) L):=hL;have HW:X ((w.alloc (bkO (.slice sa x.sheets.length sc) (.slice na x.names.length nc) (.slice la x.links.length lc))).alloc (.cells #[.slice none 0 0,.slice none 0 0,.slice none 0 0] 26)=W):=hW.symm;clear h HB0 hX0 hX1 hW hs1 hs2 KX hz T hL hs;unfold aBv;cases hg:gnF s.data.toList with
 | false=>
  rw [if_pos rfl];rw [hg] at C76;go_enter Tryz.func28,Tryz.ntmps28;go_wp2_with (first|(go_at_call 76;rw [HW.out];refine C76.mono ?_;clear C76;rintro e w1 ⟨rfl,⟨c10,c11,c12⟩,HB1⟩;obtain⟨RS,HZ,HBz⟩:=bU.out w1 HB1.out;clear bU)|((with_reducible show wL (π 26 _));refine aY rfl 26 _ rfl _ _ (by go_simp) (bQ _) ?_)|((with_reducible show wL (ζ 26 _ _));refine aA rfl 26 _ _ rfl _ _ _ rfl rfl RS.out ?_))
  refine β (res2 rfl rfl HZ.out rfl rfl) rfl ?_;exact⟨by rw [if_neg (by decide)];rfl,HBz.out⟩
 | true=>
  rw [if_neg (by decide)];rw [hg] at C76;clear hg;by_cases h7:0<=iQ (eH x.sheets s)
  ·rw [if_pos h7];generalize iQ (eH x.sheets s)=oi at *;go_enter Tryz.func28,Tryz.ntmps28;go_wp2_with (first|(go_at_call 76;rw [HW.out];refine C76.mono ?_;clear C76;rintro e w1 ⟨rfl,⟨c10,c11,c12⟩,HB1⟩)|(go_at_call 20;refine (C20.out _ HB1.out).mono ?_;clear C20;rintro e w2 ⟨rfl,⟨c20,c21,c22⟩,HB2⟩;obtain⟨RS,HZ,HBz⟩:=bU.out w2 HB2.out;clear bU)|((with_reducible show wL (π 26 _));refine aY rfl 26 _ rfl _ _ (by go_simp) (bQ _) ?_)|((with_reducible show wL (ζ 26 _ _));refine aA rfl 26 _ _ rfl _ _ _ rfl rfl RS.out ?_))
   refine β (res2 rfl rfl HZ.out rfl rfl) rfl ?_;exact⟨by rw [if_neg (by decide)];rfl,HBz.out⟩
  ·rw [if_neg h7];generalize iQ (eH x.sheets s)=oi at *;have h7d:decide (0<=oi)=D:=by simpa using h7
   clear h7;by_cases h9:at_ < 0\/(x.sheets.length:Int) < at_\/laidB L=D\/dM L ≠ 0
   ·rw [if_pos h9];by_cases g1:at_ < 0
    ·clear h9;go_enter Tryz.func28,Tryz.ntmps28;go_wp2_with (first|(go_at_call 76;rw [HW.out];refine C76.mono ?_;clear C76;rintro e w1 ⟨rfl,⟨c10,c11,c12⟩,HB1⟩)|(go_at_call 20;refine (C20.out _ HB1.out).mono ?_;clear C20;rintro e w2 ⟨rfl,⟨c20,c21,c22⟩,HB2⟩;obtain⟨RS,HZ,HBz⟩:=bU.out w2 HB2.out;clear bU)|((with_reducible show wL (π 26 _));refine aY rfl 26 _ rfl _ _ (by go_simp) (bQ _) ?_)|((with_reducible show wL (ζ 26 _ _));refine aA rfl 26 _ _ rfl _ _ _ rfl rfl RS.out ?_))
     refine β (res2 rfl rfl HZ.out rfl rfl) rfl ?_;exact⟨by rw [if_neg (by decide)];rfl,HBz.out⟩
    ·have g1d:decide (at_ < 0)=D:=by simpa using g1
     by_cases g2:(x.sheets.length:Int) < at_
     ·clear h9 g1;go_enter Tryz.func28,Tryz.ntmps28;go_wp2_with (first|(go_at_call 76;rw [HW.out];refine C76.mono ?_;clear C76;rintro e w1 ⟨rfl,⟨c10,c11,c12⟩,HB1⟩)|(go_at_call 20;refine (C20.out _ HB1.out).mono ?_;clear C20;rintro e w2 ⟨rfl,⟨c20,c21,c22⟩,HB2⟩;obtain⟨RS,HZ,HBz⟩:=bU.out w2 HB2.out;clear bU)|((with_reducible show wL (π 26 _));refine aY rfl 26 _ rfl _ _ (by go_simp) (bQ _) ?_)|((with_reducible show wL (ζ 26 _ _));refine aA rfl 26 _ _ rfl _ _ _ rfl rfl RS.out ?_))
      refine β (res2 rfl rfl HZ.out rfl rfl) rfl ?_;exact⟨by rw [if_neg (by decide)];rfl,HBz.out⟩
     ·have g2d:decide ((x.sheets.length:Int) < at_)=D:=by simpa using g2
      cases g3:laidB L with
      | false=>
       rw [g3] at C77;clear h9 g1 g2;go_enter Tryz.func28,Tryz.ntmps28;go_wp2_with (first|(go_at_call 76;rw [HW.out];refine C76.mono ?_;clear C76;rintro e w1 ⟨rfl,⟨c10,c11,c12⟩,HB1⟩)|(go_at_call 20;refine (C20.out _ HB1.out).mono ?_;clear C20;rintro e w2 ⟨rfl,⟨c20,c21,c22⟩,HB2⟩)|(go_at_call 77;refine (C77.out _ HB2.out).mono ?_;clear C77;rintro e w3 ⟨rfl,⟨c30,c31,c32⟩,HB3⟩;obtain⟨RS,HZ,HBz⟩:=bU.out w3 HB3.out;clear bU)|((with_reducible show wL (π 26 _));refine aY rfl 26 _ rfl _ _ (by go_simp) (bQ _) ?_)|((with_reducible show wL (ζ 26 _ _));refine aA rfl 26 _ _ rfl _ _ _ rfl rfl RS.out ?_))
       refine β (res2 rfl rfl HZ.out rfl rfl) rfl ?_;exact⟨by rw [if_neg (by decide)];rfl,HBz.out⟩
      | true=>
       rw [g3] at C77;have g4:dM L ≠ 0:=by
        rcases h9 with e | e | e | e
        ·exact absurd e g1
        ·exact absurd e g2
        ·rw [g3] at e;cases e
        ·exact e
       have g4b:(dM L !=0)=f:=by simpa using g4
       generalize dM L=tf at *;clear h9 g1 g2 g4;go_enter Tryz.func28,Tryz.ntmps28;go_wp2_with (first|(go_at_call 76;rw [HW.out];refine C76.mono ?_;clear C76;rintro e w1 ⟨rfl,⟨c10,c11,c12⟩,HB1⟩)|(go_at_call 20;refine (C20.out _ HB1.out).mono ?_;clear C20;rintro e w2 ⟨rfl,⟨c20,c21,c22⟩,HB2⟩)|(go_at_call 77;refine (C77.out _ HB2.out).mono ?_;clear C77;rintro e w3 ⟨rfl,⟨c30,c31,c32⟩,HB3⟩)|(go_at_call 55;refine (C55.out _ HB3.out).mono ?_;clear C55;rintro e w4 ⟨rfl,⟨c40,c41,c42⟩,HB4⟩;obtain⟨RS,HZ,HBz⟩:=bU.out w4 HB4.out;clear bU)|((with_reducible show wL (π 26 _));refine aY rfl 26 _ rfl _ _ (by go_simp) (bQ _) ?_)|((with_reducible show wL (ζ 26 _ _));refine aA rfl 26 _ _ rfl _ _ _ rfl rfl RS.out ?_))
       refine β (res2 rfl rfl HZ.out rfl rfl) rfl ?_;exact⟨by rw [if_neg (by decide)];rfl,HBz.out⟩
   ·rw [if_neg h9];obtain⟨j,rfl⟩:∃j:Nat,at_=(j:Int):=⟨at_.toNat,by omega⟩
    have hj:j<=x.sheets.length:=by omega
    have g1d:decide ((j:Int) < 0)=D:=by simp
    have g2p:¬(x.sheets.length:Int) < (j:Int):=by omega
    have g3:laidB L=f:=by
     cases e:laidB L with
     | true=>rfl
     | false=>exact absurd (.inr (.inr (.inl e))) h9
    have g4:dM L=0:=Classical.byContradiction fun e=>h9 (.inr (.inr (.inr e)));rw [g3] at C77;rw [g4] at C55;clear h9 g3 g4;by_cases h15:4<=x.sheets.length
    ·rw [if_pos h15];have aNz:(4:Int)<=(x.sheets.length:Int):=by omega
     clear h15 hj;have HLN:X (x.sheets.length<=1000):=hlen;go_enter Tryz.func28,Tryz.ntmps28;go_wp2_with (first|(go_at_call 76;rw [HW.out];refine C76.mono ?_;clear C76;rintro e w1 ⟨rfl,⟨c10,c11,c12⟩,HB1⟩)|(go_at_call 20;refine (C20.out _ HB1.out).mono ?_;clear C20;rintro e w2 ⟨rfl,⟨c20,c21,c22⟩,HB2⟩)|(go_at_call 77;refine (C77.out _ HB2.out).mono ?_;clear C77;rintro e w3 ⟨rfl,⟨c30,c31,c32⟩,HB3⟩)|(go_at_call 55;refine (C55.out _ HB3.out).mono ?_;clear C55;rintro e w4 ⟨rfl,⟨c40,c41,c42⟩,HB4⟩;obtain⟨RS,HZ,HBz⟩:=bU.out w4 HB4.out;clear bU)|((with_reducible show wL (π 26 _));refine aY rfl 26 _ rfl _ _ (by go_simp) (bQ _) ?_)|((with_reducible show wL (ζ 26 _ _));refine aA rfl 26 _ _ rfl _ _ _ rfl rfl RS.out ?_))
     refine β (res2 rfl rfl HZ.out rfl rfl) rfl ?_;exact⟨by rw [if_neg (by decide)];rfl,HBz.out⟩
    ·rw [if_neg h15];have aNz:¬(4:Int)<=(x.sheets.length:Int):=by omega
     obtain⟨q,hq⟩:∃q,q=dN x.sheets+L.length:=⟨_,rfl⟩
     have e1:(dN x.sheets:Int)+(L.length:Int)=(q:Int):=by omega
     have e2:IntKind.i64.wrap (q:Int)=(q:Int):=by rw [IntKind.wrap_i64];omega
     rw [<-hq];by_cases h5:200 < q
     ·rw [if_pos h5];have h5p:(200:Int) < (q:Int):=by omega
      generalize dN x.sheets=ct at *;clear h5 hq hcz hj h15;go_enter Tryz.func28,Tryz.ntmps28;go_wp2_with (first|(go_at_call 76;rw [HW.out];refine C76.mono ?_;clear C76;rintro e w1 ⟨rfl,⟨c10,c11,c12⟩,HB1⟩)|(go_at_call 20;refine (C20.out _ HB1.out).mono ?_;clear C20;rintro e w2 ⟨rfl,⟨c20,c21,c22⟩,HB2⟩)|(go_at_call 77;refine (C77.out _ HB2.out).mono ?_;clear C77;rintro e w3 ⟨rfl,⟨c30,c31,c32⟩,HB3⟩)|(go_at_call 55;refine (C55.out _ HB3.out).mono ?_;clear C55;rintro e w4 ⟨rfl,⟨c40,c41,c42⟩,HB4⟩)|(go_at_call 24;refine (C24.out _ HB4.out).mono ?_;clear C24;rintro e w5 ⟨rfl,⟨c50,c51,c52⟩,HB5⟩;obtain⟨RS,HZ,HBz⟩:=bU.out w5 HB5.out;clear bU)|((with_reducible show wL (π 26 _));refine aY rfl 26 _ rfl _ _ (by go_simp) (bQ _) ?_)|((with_reducible show wL (ζ 26 _ _));refine aA rfl 26 _ _ rfl _ _ _ rfl rfl RS.out ?_))
      refine β (res2 rfl rfl HZ.out rfl rfl) rfl ?_;exact⟨by rw [if_neg (by decide)];rfl,HBz.out⟩
     ·rw [if_neg h5];have h5p:¬(200:Int) < (q:Int):=by omega
      have hL2:L.length<=1000:=by omega
      have C5:X (∀u,U W.heap.size W u->ο Z 17 #[.agg #[.slice sa x.sheets.length sc,.slice na x.names.length nc,.slice la x.links.length lc]] u fun e v=>∃gs gn gl,e=.returned (.agg #[newS gs x.sheets.length,newS gn x.names.length,newS gl x.links.length])/\X ((v.alloc (.cells #[newS gs x.sheets.length,newS gn x.names.length,newS gl x.links.length] 26)).drew.cell? ⟨v.heap.size,0,none⟩=some (newS gs x.sheets.length))/\
   X (ο Z 62 #[.slice a L.length c] (v.alloc (.cells #[newS gs x.sheets.length,newS gn x.names.length,newS gl x.links.length] 26)).drew fun e w2=>∃gL,e=.returned (newS gL L.length)/\w2.cell? ⟨v.heap.size,0,none⟩=some (newS gs x.sheets.length)/\
    X (ο Z 78 #[newS gs x.sheets.length,.int .i64 (j:Nat),.slice (some ⟨w2.heap.size,0,none⟩) 1 1] (w2.alloc (.cells #[.string s,newS gL L.length] 78)) fun e w4=>∃pa pn pc w5 w6,e=.returned (.slice pa pn pc)/\
     X ((I 22 (pt v.heap.size) (.slice pa pn pc)).run Z w4=.ok () w5)/\
     X ((B 26 (pt v.heap.size)).run Z w5=.ok (.agg #[.slice pa pn pc,newS gn x.names.length,newS gl x.links.length]) w5)/\
     X ((I 26 (.pointer (some ⟨w.heap.size+1,0,none⟩)) (.agg #[.slice pa pn pc,newS gn x.names.length,newS gl x.links.length])).run Z w5=.ok () w6)/\
     X (w6.heap[w.heap.size+1]? =some (.cells #[.slice pa pn pc,newS gn x.names.length,newS gl x.links.length] 26))/\
     X (dD w.heap.size w6 (.slice pa pn pc) (newS gn x.names.length) (newS gl x.links.length) (bZ x j ⟨s,L⟩))/\X (U w.heap.size w w6)))):=fun u hu=>
       (sQ (HH.out.below hhi (HKX.out u hu).2.2) (κ hhi (HKX.out u hu).2.2.size) HZz.out).mono (by
        rintro e v ⟨⟨gs,gn,gl,rfl,hC⟩,hv⟩;have hub:=(HKX.out u hu).2.2;have hb1:=hC.b1;have hx1:=(HKX.out u hu).2.1;have hl1:=aF hx1;obtain⟨V,hV,c1,CC⟩:=aJL (w:=w) (hC.mono hub.size) HZz.out hj (Sh.aD hub hub.size hv) (by omega) ((hv.block _ hl1).trans hx1) s HLL.out hhi2 hL2;rw [hV] at c1 CC;exact⟨gs,gn,gl,rfl,c1,CC⟩)
      have HOK:X (∀sv nv lv w6,dD w.heap.size w6 sv nv lv (bZ x j ⟨s,L⟩)->U w.heap.size w w6->jI w 0 (bZ x j ⟨s,L⟩) (.returned (.tuple #[.agg #[sv,nv,lv],.int .i64 0])) w6):=fun sv nv lv w6 h1 h2=>⟨by rw [if_pos rfl];exact⟨_,_,_,rfl,h1⟩,h2⟩
      rw [Int.toNat_natCast];generalize jI w 0 (bZ x j ⟨s,L⟩)=Q0 at *;generalize dN x.sheets=ct at *;clear h5 hq hcz hj h15 bU HH HZz HLL;go_enter Tryz.func28,Tryz.ntmps28;go_wp2_with (first|(go_at_call 76;rw [HW.out];refine C76.mono ?_;clear C76;rintro e w1 ⟨rfl,⟨c10,c11,c12⟩,HB1⟩)|(go_at_call 20;refine (C20.out _ HB1.out).mono ?_;clear C20;rintro e w2 ⟨rfl,⟨c20,c21,c22⟩,HB2⟩)|(go_at_call 77;refine (C77.out _ HB2.out).mono ?_;clear C77;rintro e w3 ⟨rfl,⟨c30,c31,c32⟩,HB3⟩)|(go_at_call 55;refine (C55.out _ HB3.out).mono ?_;clear C55;rintro e w4 ⟨rfl,⟨c40,c41,c42⟩,HB4⟩)|(go_at_call 24;refine (C24.out _ HB4.out).mono ?_;clear C24;rintro e w5 ⟨rfl,⟨c50,c51,c52⟩,HB5⟩)|(go_at_call 17;refine (C5.out _ HB5.out).mono ?_;clear C5;rintro e v ⟨gs,gn,gl,rfl,HS,CW⟩))
      refine aO (fun u=>u.cell? ⟨v.heap.size,0,none⟩=some (newS gs x.sheets.length)) (fun j=>j==8 || j==10) (by kernel_rfl) ?_;refine dwp 0 ((pt v.heap.size)) ?_;refine dwl 1 ((newS gs x.sheets.length)) ?_ (hS:=HS.out) (hy:=(fun u hSu=>aJ rfl rfl (aGZ hSu)));refine dwp 2 ((.int .i64 (j:Int))) ?_;refine dwp 3 ((.string s)) ?_;refine dwp 4 ((.slice a L.length c)) ?_;refine aH (i:=5) (by kernel_rfl) rfl ?_;intro K' hK';go_simp;refine CW.out.mono ?_;clear CW;rintro e u2 ⟨gL,rfl,HS2,CI⟩;refine hK' _ _ (.inr fun _=>HS2) ?_;clear hK';try simp only [θ,Y,J,H]
      refine dwp 6 ((.agg #[.string s,newS gL L.length])) ?_ (hy:=(fun u=>qP rfl (by go_simp) (aJK u _ _ _ _)));refine aH (i:=7) (by kernel_rfl) rfl ?_;intro K' hK';rw [if_pos (by rfl)];refine gZ rfl (by go_simp) (gT u2 s (some ⟨gL,0,none⟩) L.length L.length) ?_;refine hK' _ _ (.inr fun _=>aEz HS2 _) ?_;clear hK';try simp only [θ,Y,J,H]
      refine aH (i:=8) (by kernel_rfl) rfl ?_;intro K' hK';go_simp;refine CI.out.mono ?_;clear CI;rintro e u4 ⟨pa,pn,pc,u5,u6,rfl,RS5,RL6,RS6,HG6,HO6,HB6⟩;refine hK' _ _ (.inl rfl) ?_;clear hK';try simp only [θ,Y,J,H]
      refine dwp 9 ((pt v.heap.size)) ?_;refine aH (i:=10) (by kernel_rfl) rfl ?_;intro K' hK';rw [if_pos (by rfl)];refine nZ rfl rfl rfl RS5.out ?_;refine hK' _ _ (.inl rfl) ?_;clear hK';try simp only [θ,Y,J,H]
      refine aM (by kernel_rfl) ?_ _;go_wp2_with (first|((with_reducible show wL (z2 26 _));refine aB rfl 26 _ rfl _ _ rfl RL6.out ?_;clear RL6)|((with_reducible show wL (ζ 26 _ _));refine aA rfl 26 _ _ rfl _ _ _ rfl rfl RS6.out ?_;clear RS6))
      refine β (res2 rfl rfl HG6.out rfl rfl) rfl ?_;exact HOK.out _ _ _ _ HO6.out HB6.out
end Go.Proofs.YtfedoljlipfhdaaGreatDoor.Sh
namespace Go.Proofs.YtfedoljlipfhdaaGreatDoor.Sh
open Go.RowKit
abbrev bI:G:=.slice none 0 0
theorem aDc {w:A} {g o:Nat} {t ty:ξ} {cur:Array G} {v:G} {vs:List G} (hg:w.heap[g]? =some (.cells cur t (0,0))) (hc:v.cells=vs.toArray) (hfit:o+vs.length<=cur.size) (h1:∀u ∈ vs,u.oneCell'=f) (hz:(sizeOf ty).run Z w=.ok vs.length w):
  (I ty (.pointer (some ⟨g,o,none⟩)) v).run Z w=.ok () (w.setRow g (cur.toList.take o++vs++cur.toList.drop (o+vs.length)).toArray):=by
 have hst:=run_storeCells_at Z g o t vs 0 cur w hg (by simpa using hfit) h1;simp only [I,z3,storeVar,Sem.run_bind,Sem.run_pure,Θ,hz,hc];simpa using hst
theorem aOt {w:A} {g:Nat} {a b c:G} {p:Option τ} {n m:Nat} (hg:w.heap[g]? =some (bkO a b c)):(I 22 (pt g) (.slice p n m)).run Z w=.ok () (w.setRow g #[.slice p n m,b,c]):=by have:=aDc (o:=0) (ty:=22) (v:=.slice p n m) (vs:=[.slice p n m]) hg rfl (by simp) (by simp [γ]) (Tryz.sizeOf22 w);simpa using this
theorem aOu {w:A} {g:Nat} {a b c:G} {p:Option τ} {n m:Nat} (hg:w.heap[g]? =some (bkO a b c)):(I 23 (.pointer (some ⟨g,1,none⟩)) (.slice p n m)).run Z w=.ok () (w.setRow g #[a,.slice p n m,c]):=by have:=aDc (o:=1) (ty:=23) (v:=.slice p n m) (vs:=[.slice p n m]) hg rfl (by simp) (by simp [γ]) (Tryz.sizeOf23 w);simpa using this
theorem aOv {w:A} {g:Nat} {a b c:G} {p:Option τ} {n m:Nat} (hg:w.heap[g]? =some (bkO a b c)):(I 24 (.pointer (some ⟨g,2,none⟩)) (.slice p n m)).run Z w=.ok () (w.setRow g #[a,b,.slice p n m]):=by have:=aDc (o:=2) (ty:=24) (v:=.slice p n m) (vs:=[.slice p n m]) hg rfl (by simp) (by simp [γ]) (Tryz.sizeOf24 w);simpa using this
theorem aAK {w:A} {base n sz:Nat} {t:ξ} {v:G} {xs:List G} (h:w.ownsRow base t sz v n xs) {g:Nat} (hg:v.ownBlock=some g):∃cur,w.heap[g]? =some (.cells cur t (0,0)):=by
 rcases h.2 with ⟨rfl,_⟩ | ⟨g',cap,cur,rfl,_,hgg,_⟩
 ·cases hg
 ·cases hg;exact⟨_,hgg⟩
theorem jM {w:A} {base base' n sz:Nat} {t:ξ} {v:G} {xs:List G} (h:w.ownsRow base t sz v n xs) (hb:base'<=base):w.ownsRow base' t sz v n xs:=by
 refine ⟨h.1, ?_⟩;rcases h.2 with e | ⟨g,cap,cur,e,h1,h2⟩
 ·exact .inl e
 ·exact .inr ⟨g,cap,cur,e,κ hb h1,h2⟩
theorem aL0 {w:A} {base base' n n' sz sz':Nat} {t t':ξ} {v v':G} {xs xs':List G} (h:w.ownsRow base t sz v n xs) (h':w.ownsRow base' t' sz' v' n' xs') (ht:t ≠ t') {g:Nat} (hg:v.ownBlock=some g):v'.ownBlock ≠ some g:=by
 intro e;obtain⟨c1,e1⟩:=aAK h hg;obtain⟨c2,e2⟩:=aAK h' e;rw [e1] at e2;cases e2
 exact ht rfl
theorem oH {w w':A} {base n sz:Nat} {t:ξ} {v:G} {xs:List G} (h:w.ownsRow base t sz v n xs) (hb:∀g,g < w.heap.size->w'.heap[g]? =w.heap[g]?):w'.ownsRow base t sz v n xs:=
 bT h fun g hg=>hb g (l h g hg).2
structure RcI (base:Nat) (w:A) (b:Nat) (sv:G) (k:Nat) (L:List aT):Prop where
 box:w.heap[b]? =some (bkO sv bI bI)
 sh:∃cv,w.ownsRow base 78 2 sv k ((pairs (L.take k) cv).flatMap bW)/\∀j o,(L.take k)[j]? =some o->w.ownsRow base 57 3 (cv j) o.cells.length (o.cells.flatMap cellC)
theorem RcI.bel {base b k:Nat} {w w':A} {sv:G} {L:List aT} (h:RcI base w b sv k L) (hb:∀g,g < w.heap.size->w'.heap[g]? =w.heap[g]?):RcI base w' b sv k L:=by obtain⟨cv,h1,h2⟩:=h.sh;exact⟨(hb _ (aF h.box)).trans h.box,cv,oH h1 hb,fun j o hj=>oH (h2 j o hj) hb⟩
theorem aEA {L:List aT} {cv:Nat->G} {k:Nat} (hk:k < L.length) (v:G):pairs (L.take (k+1)) (fun j=>if j=k then v else cv j)=pairs (L.take k) cv++ [(L[k],v)]:=by
 apply χ
 intro j;simp only [pairs,List.getElem?_mapIdx,η,List.getElem?_append,List.length_mapIdx,ρ];rcases Nat.lt_trichotomy j k with h | h | h
 ·have h1:j < k+1:=by omega
  have h2:j < min k L.length:=by omega
  have h3:¬j=k:=by omega
  simp only [if_pos h1,if_pos h2,if_neg h3,if_pos h]
 ·subst h;have h1:j < j+1:=by omega
  have h2:¬j < min j L.length:=by omega
  have h3:j - min j L.length=0:=by omega
  simp only [if_pos h1,if_neg h2,h3,E hk];simp
 ·have h1:¬j < k+1:=by omega
  have h2:¬j < min k L.length:=by omega
  simp only [if_neg h1,if_neg h2];rw [ε (by simp;omega)];rfl
theorem aFN {lo hi:Nat} {w:A} {a:Option τ} {n c:Nat} {L:List aN} (h:Cls lo hi w (.slice a n c) L):a=none->n=0/\c=0:=by
 intro e;rcases h with ⟨e1,_⟩ | ⟨a',cap,e1,_⟩
 ·cases e1;exact⟨rfl,rfl⟩
 ·rw [e] at e1;cases e1
theorem aL1 {base:Nat} {w:A} {b:Nat} {sv:G} {k:Nat} {L:List aT} (h:RcI base w b sv k L) (hb:b < base) (hbs:base<=w.heap.size) (hk:k < L.length) (hL:L.length<=1000) (hn:L[k].cells.length<=1000) {lo hi:Nat} {a:Option τ} {c:Nat} (hc:Cls lo hi w (.slice a L[k].cells.length c) L[k].cells) (hhi:hi<=w.heap.size):
  ∃(qa:Option τ) (qc:Nat) (pa:Option τ) (pc:Nat) (w2 w4 w5:A),
   X ((υ #[27,27] 27 #[.slice (some ⟨w.heap.size,0,none⟩) 0 0,.slice a L[k].cells.length c]).run Z (w.alloc (.cells #[] 57))=.ok (.slice qa L[k].cells.length qc) w2)/\
   X ((υ #[22,22] 22 #[sv,.slice (some ⟨w2.heap.size,0,none⟩) 1 1]).run Z (w2.alloc (.cells #[.string L[k].name,.slice qa L[k].cells.length qc] 78))=.ok (.slice pa (k+1) pc) w4)/\
   X ((I 22 (pt b) (.slice pa (k+1) pc)).run Z w4=.ok () w5)/\
   X (∀g,g < w.heap.size->w2.heap[g]? =w.heap[g]?)/\X (∀g,g < w.heap.size->sv.ownBlock ≠ some g->w4.heap[g]? =w.heap[g]?)/\
   X (RcI base w5 b (.slice pa (k+1) pc) (k+1) L)/\X (U b w w5):=by
 obtain⟨cv,h1,h2⟩:=h.sh;have hb1:U w.heap.size w (w.alloc (.cells #[] 57)):=Sh.aC (d _ _) (O _) _;have o1:(w.alloc (.cells #[] 57)).ownsRow base 57 3 (.slice (some ⟨w.heap.size,0,none⟩) 0 0) 0 []:=bS (N w _) rfl hbs (by decide);have hsrc:=(hc.below hhi hb1).src;have hs1:(w.alloc (.cells #[] 57)).heap.size=w.heap.size+1:=by simp
 obtain⟨v2,w2,RA,o2,g2,b2,_⟩:=rtC.cat o1 (p:=a) (m:=L[k].cells.length) (c:=c) (news:=L[k].cells.flatMap cellC) (aFN hc) (by rw [bL bK]) (fun ad e j u hj=>by
  rcases hsrc with ⟨e1,_⟩ | ⟨ad',e1,h⟩
  ·rw [e] at e1;cases e1
  ·rw [e] at e1;cases e1;exact h j u hj) (lS iN _) (by omega) (by decide) (by omega)
 rw [Φ,Ω] at o2;obtain⟨qa,qc,rfl⟩:=aW o2;have k2:∀g,g < w.heap.size->w2.heap[g]? =w.heap[g]? :=fun g hg=>(g2.block g (by omega) (by simp [z0];omega)).trans (hb1.block g hg);have hs2:=g2.size;obtain⟨W3,hW3⟩:∃W3,W3=w2.alloc (.cells #[.string L[k].name,.slice qa L[k].cells.length qc] 78):=⟨_,rfl⟩
 have hb3:U w2.heap.size w2 W3:=by rw [hW3];exact Sh.aC (d _ _) (O _) _
 have hs3:=hb3.size;have hnew:W3.heap[w2.heap.size]? =some (.cells #[.string L[k].name,.slice qa L[k].cells.length qc] 78):=by rw [hW3];exact N w2 _
 have k3:∀g,g < w.heap.size->W3.heap[g]? =w.heap[g]? :=fun g hg=>(hb3.block g (by omega)).trans (k2 g hg);have o3:W3.ownsRow base 78 2 sv k ((pairs (L.take k) cv).flatMap bW):=oH h1 k3;have o2':W3.ownsRow base 57 3 (.slice qa L[k].cells.length qc) L[k].cells.length (L[k].cells.flatMap cellC):=oH o2 fun g hg=>hb3.block g hg;obtain⟨v4,w4,RB,o4,g4,b4,_⟩:=rtS.cat o3 (p:=some ⟨w2.heap.size,0,none⟩) (m:=1) (c:=1) (news:=[.string L[k].name,.slice qa L[k].cells.length qc]) (fun e=>by cases e) rfl (fun ad e j u hj=>by
  cases e
  rw [Addr.add_mid,Φ];exact aI hnew (by simpa using hj)) (by simp [γ]) (by omega) (by decide) (by omega)
 obtain⟨pa,pc,rfl⟩:=aW o4;have k4:∀g,g < w.heap.size->sv.ownBlock ≠ some g->w4.heap[g]? =w.heap[g]? :=fun g hg hne=>(g4.block g (by omega) (fun e=>hne e.symm)).trans (k3 g hg);have hbl:=aF h.box;have aPD:sv.ownBlock ≠ some b:=fun e=>by have:=(l h1 _ e).1;omega
 have hX:w4.heap[b]? =some (bkO sv bI bI):=(k4 b hbl aPD).trans h.box;refine ⟨qa,qc,pa,pc,w2,w4,w4.setRow b #[.slice pa (k+1) pc,bI,bI],RA, ?_,aOt hX,k2,k4,⟨ι _ _ _ _ _ _ hX,fun j=>if j=k then .slice qa L[k].cells.length qc else cv j, ?_,fun j o hj=> ?_⟩, ?_⟩
 ·rw [<-hW3];exact RB
 ·have e0: [Value.string L[k].name,.slice qa L[k].cells.length qc]=[(L[k],z5 qa L[k].cells.length qc)].flatMap bW:=rfl;rw [e0,<-σ,<-aEA hk] at o4;exact bT o4 fun g hg=>M _ _ _ _ (by have:=(l o4 _ hg).1;omega)
 ·have hfin:∀{v:G} {n:Nat} {xs:List G},W3.ownsRow base 57 3 v n xs->(w4.setRow b #[.slice pa (k+1) pc,bI,bI]).ownsRow base 57 3 v n xs:=fun {v n xs} ho=>bT ho fun g hg=>by have hl:=l ho _ hg;rw [M _ _ _ _ (by omega)];exact g4.block g hl.2 (fun e=>aL0 ho o3 (by decide) hg e.symm)
  dsimp only;rw [η] at hj;by_cases hjk:j=k
  ·subst hjk;rw [if_pos (by omega),E hk] at hj;cases hj
   rw [if_pos rfl];exact hfin o2'
  ·by_cases hlt:j < k
   ·rw [if_pos (by omega)] at hj;rw [if_neg hjk];exact hfin (oH (h2 j o (by rw [η,if_pos hlt];exact hj)) k3)
   ·rw [if_neg (by omega)] at hj;cases hj
 ·have hB:U base w w4:=((hb1.mono hbs).trans b2).trans ((hb3.mono (by omega)).trans b4);exact below_setRow (hB.mono (by omega)) (O _) _
theorem aNA {base lo hi:Nat} {w w0:A} {b r:Nat} {sv:G} {x:aP} (h:RcI base w b sv x.sheets.length x.sheets) (hb:b < base) (hbs:base<=w.heap.size) (hz:Small x) {na la:Option τ} {nc lc:Nat} (hn:Nms lo hi w (.slice na x.names.length nc) x.names) (hl:Lks lo hi w (.slice la x.links.length lc) x.links) (hhi:hi<=b) {r0:Nat} (hr0:r0 < b) {a1 a2 a3:G} (hR0:w.heap[r0]? =some (bkO a1 a2 a3)) (hr:r < b) (hR:w.heap[r]? =some (bkO bI bI bI)) (hrb:w0.heap.size<=r) (hB:U w0.heap.size w0 w):
  ∃(pa:Option τ) (pc:Nat) (qa:Option τ) (qc:Nat) (w1 w2 w3 w4 w5:A),
   X ((υ #[23,23] 23 #[bI,.slice na x.names.length nc]).run Z w=.ok (.slice pa x.names.length pc) w1)/\
   X ((I 23 (.pointer (some ⟨b,1,none⟩)) (.slice pa x.names.length pc)).run Z w1=.ok () w2)/\
   (w2.cell? ⟨b,2,none⟩=some bI/\w2.cell? ⟨r0,2,none⟩=some a3)/\
   X ((υ #[24,24] 24 #[bI,.slice la x.links.length lc]).run Z w2=.ok (.slice qa x.links.length qc) w3)/\
   X ((I 24 (.pointer (some ⟨b,2,none⟩)) (.slice qa x.links.length qc)).run Z w3=.ok () w4)/\
   X ((B 26 (pt b)).run Z w4=.ok (.agg #[sv,.slice pa x.names.length pc,.slice qa x.links.length qc]) w4)/\
   X ((I 26 (pt r) (.agg #[sv,.slice pa x.names.length pc,.slice qa x.links.length qc])).run Z w4=.ok () w5)/\
   X (w5.heap[r]? =some (bkO sv (.slice pa x.names.length pc) (.slice qa x.links.length qc)))/\
   X (dD w0.heap.size w5 sv (.slice pa x.names.length pc) (.slice qa x.links.length qc) x)/\X (U w0.heap.size w0 w5):=by
 obtain⟨cv,h1,h2⟩:=h.sh;rw [List.take_length] at h1 h2;obtain⟨sa,sc,rfl⟩:=aW h1;have hbl:=aF h.box;have hsn:w.ownsRow base 89 3 bI 0 []:=Δ w base 89 3;have hnn:na=none->x.names.length=0/\nc=0:=by
  intro e;rcases hn with ⟨e1,e2⟩ | ⟨a',cap,e1,_⟩
  ·simp only [Value.slice.injEq] at e1;exact⟨e2,e1.2.2⟩
  ·simp only [Value.slice.injEq] at e1;rw [e] at e1;exact absurd e1.1 (by simp)
 have aOw:=hn.src;obtain⟨v1,w1,RA,o1,g1,b1,_⟩:=rtN.cat hsn (p:=na) (m:=x.names.length) (c:=nc) (news:=x.names.flatMap kE) hnn (by rw [bL gV]) (fun ad e j u hj=>by
  rcases aOw with ⟨e1,_⟩ | ⟨ad',e1,h⟩
  ·rw [e] at e1;cases e1
  ·rw [e] at e1;cases e1;exact h j u hj) (lS aAu _) (by have:=hz.nm;omega) (by decide) hbs
 rw [Φ,Ω] at o1;obtain⟨pa,pc,rfl⟩:=aW o1;have k1:∀g,g < w.heap.size->w1.heap[g]? =w.heap[g]? :=fun g hg=>g1.block g hg (by simp [z0]);have hX1:=(k1 b hbl).trans h.box;obtain⟨W2,hW2⟩:∃W2,W2=w1.setRow b #[.slice sa x.sheets.length sc,.slice pa x.names.length pc,bI]:=⟨_,rfl⟩
 have hX2:W2.heap[b]? =some (bkO (.slice sa x.sheets.length sc) (.slice pa x.names.length pc) bI):=by rw [hW2];exact ι _ _ _ _ _ _ hX1
 have k2:∀g,g ≠ b->W2.heap[g]? =w1.heap[g]? :=fun g hg=>by rw [hW2];exact M _ _ _ _ hg
 have hs2:W2.heap.size=w1.heap.size:=by rw [hW2,setRow_size]
 have hs1:=g1.size;have hl2:Lks lo hi W2 (.slice la x.links.length lc) x.links:=hl.kept fun i _ hi'=>(k2 i (by omega)).trans (k1 i (by omega));have hll:la=none->x.links.length=0/\lc=0:=by
  intro e;rcases hl with ⟨e1,e2⟩ | ⟨a',cap,e1,_⟩
  ·simp only [Value.slice.injEq] at e1;exact⟨e2,e1.2.2⟩
  ·simp only [Value.slice.injEq] at e1;rw [e] at e1;exact absurd e1.1 (by simp)
 have aOx:=hl2.src;have hsl:W2.ownsRow base 91 7 bI 0 []:=Δ W2 base 91 7;obtain⟨v3,w3,RB,o3,g3,b3,_⟩:=rtL.cat hsl (p:=la) (m:=x.links.length) (c:=lc) (news:=x.links.flatMap kF) hll (by rw [bL gW]) (fun ad e j u hj=>by
  rcases aOx with ⟨e1,_⟩ | ⟨ad',e1,h⟩
  ·rw [e] at e1;cases e1
  ·rw [e] at e1;cases e1;exact h j u hj) (lS aAv _) (by have:=hz.lk;omega) (by decide) (by omega)
 rw [Φ,Ω] at o3;obtain⟨qa,qc,rfl⟩:=aW o3;have k3:∀g,g < W2.heap.size->w3.heap[g]? =W2.heap[g]? :=fun g hg=>g3.block g hg (by simp [z0]);have hs3:=g3.size;have hX3:=(k3 b (by omega)).trans hX2;obtain⟨W4,hW4⟩:∃W4,W4=w3.setRow b #[.slice sa x.sheets.length sc,.slice pa x.names.length pc,.slice qa x.links.length qc]:=⟨_,rfl⟩
 have hX4:W4.heap[b]? =some (bkO (.slice sa x.sheets.length sc) (.slice pa x.names.length pc) (.slice qa x.links.length qc)):=by rw [hW4];exact ι _ _ _ _ _ _ hX3
 have k4:∀g,g ≠ b->W4.heap[g]? =w3.heap[g]? :=fun g hg=>by rw [hW4];exact M _ _ _ _ hg
 have hR4:W4.heap[r]? =some (bkO bI bI bI):=by rw [k4 r (by omega),k3 r (by omega),k2 r (by omega),k1 r (by omega)];exact hR
 have hall:∀g,g < w.heap.size->g ≠ b->g ≠ r->(W4.setRow r #[.slice sa x.sheets.length sc,.slice pa x.names.length pc,.slice qa x.links.length qc]).heap[g]? =w.heap[g]? :=fun g hg hgb hgr=>by rw [M _ _ _ _ hgr,k4 g hgb,k3 g (by omega),k2 g hgb,k1 g hg]
 have hrow:∀{t:ξ} {sz n:Nat} {v:G} {xs:List G},w.ownsRow base t sz v n xs->(W4.setRow r #[.slice sa x.sheets.length sc,.slice pa x.names.length pc,.slice qa x.links.length qc]).ownsRow base t sz v n xs:=fun {t sz n v xs} ho=>bT ho fun g hg=>by have hl:=l ho _ hg;exact hall g hl.2 (by omega) (by omega)
 have aPE:W2.heap[r0]? =some (bkO a1 a2 a3):=by rw [k2 r0 (by omega),k1 r0 (by omega)];exact hR0
 refine ⟨pa,pc,qa,qc,w1,W2,w3,W4,_,RA,by rw [hW2];exact aOu hX1,⟨(bE hX2).2.2,(bE aPE).2.2⟩,RB,by rw [hW4];exact aOv hX3,ldB hX4,xX hR4 rfl rfl (by simp [γ]),ι _ _ _ _ _ _ hR4,⟨⟨cv,jM (hrow h1) (by have:=hB.size;omega),fun j o hj=>jM (hrow (h2 j o hj)) (by have:=hB.size;omega)⟩, ?_, ?_⟩, ?_⟩
 ·refine jM (base:=base) (bT o1 fun g hg=> ?_) (by omega);have hl:=l o1 _ hg;rw [M _ _ _ _ (by omega),k4 g (by omega),k3 g (by omega),k2 g (by omega)]
 ·refine jM (base:=base) (bT o3 fun g hg=> ?_) (by omega);have hl:=l o3 _ hg;rw [M _ _ _ _ (by omega),k4 g (by omega)]
 ·have hb2:U w0.heap.size w0 W2:=by rw [hW2];exact below_setRow (hB.trans ((b1.mono (by omega)))) (by omega) _
  have hb4:U w0.heap.size w0 W4:=by rw [hW4];exact below_setRow (hb2.trans (b3.mono (by omega))) (by omega) _
  exact below_setRow hb4 hrb _
theorem aL2 (u:A):(Ψ 27 0 #[]).run Z u=.ok (.slice (some ⟨u.heap.size,0,none⟩) 0 0) (u.alloc (.cells #[] 57)):=by kernel_rfl
theorem pJ {lo hi:Nat} {w:A} {sv nv lv:G} {x:aP} (h:BkM lo hi w sv nv lv x) (hhi:hi<=w.heap.size) (hz:Small x):
  ο Z 12 #[.agg #[sv,nv,lv]] w fun e w'=>∃s1 n1 l1,e=.returned (.agg #[s1,n1,l1])/\dD w.heap.size w' s1 n1 l1 x/\U w.heap.size w w':=by
 obtain⟨sa,sc,rfl,hs1,hs2⟩:=h.sh.slice;obtain⟨na,nc,rfl,_,_⟩:=h.nm.slice;obtain⟨la,lc,rfl,_,_⟩:=h.lk.slice;have HZ:X (Small x):=hz;have HH:X (BkM lo hi w (.slice sa x.sheets.length sc) (.slice na x.names.length nc) (.slice la x.links.length lc) x):=h;obtain⟨W0,hW0⟩:∃W0,W0=w.alloc (bkO (.slice sa x.sheets.length sc) (.slice na x.names.length nc) (.slice la x.links.length lc)):=⟨_,rfl⟩
 have hs0:W0.heap.size=w.heap.size+1:=by rw [hW0];simp
 obtain⟨W1,hW1⟩:∃W1,W1=W0.alloc (bkO bI bI bI):=⟨_,rfl⟩
 have aNB:W1.heap.size=w.heap.size+2:=by rw [hW1];simp [hs0]
 obtain⟨W,hW⟩:∃W,W=W1.alloc (bkO bI bI bI):=⟨_,rfl⟩
 have hWs:W.heap.size=w.heap.size+3:=by rw [hW];simp [aNB]
 have b0:U w.heap.size w W0:=by rw [hW0];exact Sh.aC (d _ _) (O _) _
 have b1:U W0.heap.size W0 W1:=by rw [hW1];exact Sh.aC (d _ _) (O _) _
 have b2:U W1.heap.size W1 W:=by rw [hW];exact Sh.aC (d _ _) (O _) _
 have HBW:X (U w.heap.size w W):=Sh.aD (Sh.aD b0 b0.size b1) (by omega) b2;have G0':W0.heap[w.heap.size]? =some (bkO (.slice sa x.sheets.length sc) (.slice na x.names.length nc) (.slice la x.links.length lc)):=by rw [hW0];exact N w _
 have G1':W1.heap[w.heap.size+1]? =some (bkO bI bI bI):=by rw [hW1,<-hs0];exact N W0 _
 have hG0:X (W.heap[w.heap.size]? =some (bkO (.slice sa x.sheets.length sc) (.slice na x.names.length nc) (.slice la x.links.length lc))):=(b2.block _ (by omega)).trans ((b1.block _ (by omega)).trans G0');have hG1:X (W.heap[w.heap.size+1]? =some (bkO bI bI bI)):=(b2.block _ (by omega)).trans G1';have hG2:X (W.heap[w.heap.size+2]? =some (bkO bI bI bI)):=by show _=_;rw [hW,<-aNB];exact N W1 _
 have hWW:W=((w.alloc (bkO (.slice sa x.sheets.length sc) (.slice na x.names.length nc) (.slice la x.links.length lc))).alloc (bkO bI bI bI)).alloc (bkO bI bI bI):=by rw [hW,hW1,hW0]
 have HWs:X (W.heap.size=w.heap.size+3):=hWs;have hc0:=aI hG0.out (j:=0) rfl;rw [hWW] at hc0;have HWW:X (((w.alloc (bkO (.slice sa x.sheets.length sc) (.slice na x.names.length nc) (.slice la x.links.length lc))).alloc (bkO bI bI bI)).alloc (bkO bI bI bI)=W):=hWW.symm;have hlen:x.sheets.length<=1000:=hz.sh;clear h hz hs1 hs2 b0 b1 b2 G0' G1' hWs hs0 aNB hW hW1 hW0 hWW;go_enter Tryz.func12,Tryz.ntmps12;go_wp2;go_loopw [9] (fun i wr=>∃(k:Nat) (sk:G),k<=x.sheets.length/\i=.int .i64 (k:Nat)/\X (RcI (w.heap.size+3) wr (w.heap.size+2) sk k x.sheets)/\X (U (w.heap.size+2) W wr)) (fun i _=>x.sheets.length - (intOf i).toNat)
 case atStart=> rw [HWW.out];exact⟨0,bI,z1 _,rfl,⟨hG2.out,fun _=>bI,Δ _ _ _ _,fun j o hj=>by simp at hj⟩,d _ _⟩
 case round=>
  obtain⟨k,sk,hk,rfl,HI,HB⟩:=hrel;clear hc0;have HBw:X (U w.heap.size w wr):=HBW.out.trans (HB.out.mono (by omega));have hwr:w.heap.size+3<=wr.heap.size:=by have:=HB.out.size;have:=HWs.out;omega
  have HG0:X (wr.heap[w.heap.size]? =some (bkO (.slice sa x.sheets.length sc) (.slice na x.names.length nc) (.slice la x.links.length lc))):=(HB.out.block _ (by omega)).trans hG0.out;by_cases hkL:k < x.sheets.length
  ·have hki:(k:Int) < x.sheets.length:=by omega
   have mF:k < 9223372036854775807:=by omega
   obtain⟨a',cv,ov,W',rfl,rfl,hcl,hW',R2,R3,R4⟩:=(HH.out.sh.below hhi HBw.out).runs hkL;obtain⟨ca,cc,rfl,_,_⟩:=hcl.slice;have hb1:U wr.heap.size wr W':=by rw [hW'];exact Sh.aC (d _ _) (O _) _
   have hs1:W'.heap.size=wr.heap.size+1:=by rw [hW'];simp
   have hG5:W'.heap[wr.heap.size]? =some (.cells #[.string x.sheets[k].name,.slice ca x.sheets[k].cells.length cc] 78):=by rw [hW'];exact N wr _
   have hI':RcI (w.heap.size+3) W'.drew (w.heap.size+2) sk k x.sheets:=HI.out.bel fun g hg=>hb1.block g hg;have hsk:sk.ownBlock ≠ some wr.heap.size:=fun e=>by obtain⟨cv',q1,_⟩:=HI.out.sh;have:=(l q1 _ e).2;omega
   have aOy:sk.ownBlock ≠ some (w.heap.size+2):=fun e=>by obtain⟨cv',q1,_⟩:=HI.out.sh;have:=(l q1 _ e).1;omega
   have hcl':Cls lo hi W'.drew (.slice ca x.sheets[k].cells.length cc) x.sheets[k].cells:=hcl.kept fun i _ hi'=>hb1.block i (by omega);obtain⟨qa,qc,pa,pc,w2,w4,w5,RA,RB,RS,K2,K4,HI5,HB5⟩:=aL1 hI' (by omega) (by show _<=W'.heap.size;omega) hkL hlen (HZ.out.cl _ (μ hkL)) hcl' (by show _<=W'.heap.size;omega);have S0:W'.drew.heap[w.heap.size+2]? =some (bkO sk bI bI)/\W'.drew.heap[wr.heap.size]? =some (.cells #[.string x.sheets[k].name,.slice ca x.sheets[k].cells.length cc] 78):=⟨hI'.box,hG5⟩
   have HS:X (W'.drew.heap[w.heap.size+2]? =some (bkO sk bI bI)/\W'.drew.heap[wr.heap.size]? =some (.cells #[.string x.sheets[k].name,.slice ca x.sheets[k].cells.length cc] 78)):=S0;have hd:W'.drew.heap.size=wr.heap.size+1:=hs1;have HS1:X ((W'.drew.alloc (.cells #[] 57)).heap[w.heap.size+2]? =some (bkO sk bI bI)/\(W'.drew.alloc (.cells #[] 57)).heap[wr.heap.size]? =some (.cells #[.string x.sheets[k].name,.slice ca x.sheets[k].cells.length cc] 78)):=⟨(ν _ _ _ (by omega)).trans S0.1,(ν _ _ _ (by omega)).trans S0.2⟩
   have S2:=And.intro ((K2.out _ (by omega)).trans S0.1) ((K2.out _ (by omega)).trans S0.2);have HS2:X (w2.heap[w.heap.size+2]? =some (bkO sk bI bI)/\w2.heap[wr.heap.size]? =some (.cells #[.string x.sheets[k].name,.slice ca x.sheets[k].cells.length cc] 78)):=S2;have HS3:X ((w2.alloc (.cells #[.string x.sheets[k].name,.slice qa x.sheets[k].cells.length qc] 78)).heap[w.heap.size+2]? =some (bkO sk bI bI)/\(w2.alloc (.cells #[.string x.sheets[k].name,.slice qa x.sheets[k].cells.length qc] 78)).heap[wr.heap.size]? =some (.cells #[.string x.sheets[k].name,.slice ca x.sheets[k].cells.length cc] 78)):=⟨(ν _ _ _ (aF S2.1)).trans S2.1,(ν _ _ _ (aF S2.2)).trans S2.2⟩
   have HS4:X (w4.heap[w.heap.size+2]? =some (bkO sk bI bI)/\w4.heap[wr.heap.size]? =some (.cells #[.string x.sheets[k].name,.slice ca x.sheets[k].cells.length cc] 78)):=⟨(K4.out _ (by omega) aOy).trans S0.1,(K4.out _ (by omega) hsk).trans S0.2⟩
   have HBF:X (U (w.heap.size+2) W w5):=HB.out.trans ((hb1.mono (by omega)).drew.trans HB5.out);clear hI' hcl hcl' hb1 hG5 S0 S2 K2 K4 HB5 hW' R4 HI HB hsk aOy hs1 hd;generalize x.sheets[k].name=yn at *;generalize x.sheets[k].cells.length=yl at *;have hc0:=aI HG0.out (j:=0) rfl;go_wp2_with (first|((with_reducible show wL (z2 78 _));refine aB rfl 78 _ rfl _ _ rfl R2.out ?_;clear R2)|((with_reducible show wL (ζ 78 _ _));refine aA rfl 78 _ _ rfl _ _ _ rfl rfl R3.out ?_;clear R3))
   refine aO (fun u=>u.heap[w.heap.size+2]? =some (bkO sk bI bI)/\u.heap[wr.heap.size]? =some (.cells #[.string yn,.slice ca yl cc] 78)) (fun j=>j==12) (by kernel_rfl) ?_;refine dwp 0 ((.pointer (some ⟨w.heap.size+2,0,none⟩))) ?_;refine dwl 1 (sk) ?_ (hS:=HS.out) (hy:=(fun u hSu=>aJ rfl rfl (aGZ (bE hSu.1).1)));refine dwp 2 ((pt wr.heap.size)) ?_;refine dwl 3 ((.string yn)) ?_ (hS:=HS.out) (hy:=(fun u hSu=>aJ rfl rfl (ld1 (aI hSu.2 rfl) (ψ _))));refine dwp 5 ((.pointer (some ⟨wr.heap.size,1,none⟩))) ?_;refine dwl 6 ((.slice ca yl cc)) ?_ (hS:=HS.out) (hy:=(fun u hSu=>aJ rfl rfl (ld1 (aI hSu.2 rfl) (Tryz.isAgg27 _))));refine aH (i:=4) (by kernel_rfl) rfl ?_;intro K' hK';rw [if_pos (by rfl)];refine gZ rfl (by go_simp) (aL2 _) ?_;refine hK' _ _ (.inr fun _=>HS1.out) ?_;clear hK';try simp only [θ,Y,J,H]
   refine aH (i:=7) (by kernel_rfl) rfl ?_;intro K' hK';rw [if_pos (by rfl)];refine dI rfl rfl rfl RA.out ?_;refine hK' _ _ (.inr fun _=>HS2.out) ?_;clear hK';try simp only [θ,Y,J,H]
   refine dwp 8 ((.agg #[.string yn,.slice qa yl qc])) ?_ (hy:=(fun u=>qP rfl (by go_simp) (aJK u _ _ _ _)));refine aH (i:=9) (by kernel_rfl) rfl ?_;intro K' hK';rw [if_pos (by rfl)];refine gZ rfl (by go_simp) (gT w2 yn qa yl qc) ?_;refine hK' _ _ (.inr fun _=>HS3.out) ?_;clear hK';try simp only [θ,Y,J,H]
   refine aH (i:=10) (by kernel_rfl) rfl ?_;intro K' hK';rw [if_pos (by rfl)];refine dI rfl rfl rfl RB.out ?_;refine hK' _ _ (.inr fun _=>HS4.out) ?_;clear hK';try simp only [θ,Y,J,H]
   refine dwp 11 ((.pointer (some ⟨w.heap.size+2,0,none⟩))) ?_;refine aH (i:=12) (by kernel_rfl) rfl ?_;intro K' hK';rw [if_pos (by rfl)];refine nZ rfl rfl rfl RS.out ?_;refine hK' _ _ (.inl rfl) ?_;clear hK';try simp only [θ,Y,J,H]
   refine aM (by kernel_rfl) ?_ _;go_wp2;go_roundw
   case rel=>exact⟨k+1,_,by omega,by go_num,HI5,HBF⟩
   case measure=>simp [intOf];omega
  ·have hki:¬(k:Int) < x.sheets.length:=by omega
   obtain rfl:k=x.sheets.length:=by omega
   have HG1:wr.heap[w.heap.size+1]? =some (bkO bI bI bI):=(HB.out.block _ (by omega)).trans hG1.out;obtain⟨pa,pc,qa,qc,w1,w2,w3,w4,w5,RA,RS1,⟨d2,e2⟩,RB,RS2,RL,RS,HG,HO,HBF⟩:=aNA (w0:=w) HI.out (by omega) hwr HZ.out (HH.out.nm.below hhi HBw.out) (HH.out.lk.below hhi HBw.out) (by omega) (by omega) HG0.out (by omega) HG1 (by omega) HBw.out;obtain⟨_,d1,_⟩:=bE HI.out.box;obtain⟨_,e1,_⟩:=bE HG0.out;clear HI HB HG0 HG1;go_wp2_with (first|(at_builtin;refine eF rfl _ _ 23 23 rfl _ _ _ _ rfl rfl RA.out ?_;clear RA)|((with_reducible show wL (ζ 23 _ _));refine aA rfl 23 _ _ rfl _ _ _ rfl rfl RS1.out ?_;clear RS1)|(at_builtin;refine eF rfl _ _ 24 24 rfl _ _ _ _ rfl rfl RB.out ?_;clear RB)|((with_reducible show wL (ζ 24 _ _));refine aA rfl 24 _ _ rfl _ _ _ rfl rfl RS2.out ?_;clear RS2)|((with_reducible show wL (z2 26 _));refine aB rfl 26 _ rfl _ _ rfl RL.out ?_;clear RL)|((with_reducible show wL (ζ 26 _ _));refine aA rfl 26 _ _ rfl _ _ _ rfl rfl RS.out ?_;clear RS))
   refine β (aMG rfl rfl HG.out) rfl ?_;exact⟨_,_,_,rfl,HO.out,HBF.out⟩
end Go.Proofs.YtfedoljlipfhdaaGreatDoor.Sh
