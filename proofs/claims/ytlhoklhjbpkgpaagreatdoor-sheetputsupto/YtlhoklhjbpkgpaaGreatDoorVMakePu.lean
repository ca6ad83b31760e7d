/- NRDig, NRPrint, NRParse, NRParse2, VKind, VFuns, VName, VBad, VUp, VRUp, VTruth, VMake. -/
import Derived.Laws.IdiomStrings
import Derived.Lib.IndexLaws
import Derived.Test.YtlhoklhjbpkgpaaGreatDoorNLivesPu
set_option linter.unusedVariables false
set_option linter.unusedSimpArgs false
set_option maxHeartbeats 16000000
set_option maxRecDepth 100000
namespace Go.Proofs.YtlhoklhjbpkgpaaGreatDoor
open Go.RowKit
theorem uK (s:ByteArray) (k:Nat) (h:k < s.size) (hall:s.data.toList.all isD=true):isD s[k]=true:=by rw [byte_at s k h (by rw [aX];exact h)];exact List.all_eq_true.1 hall _ (List.getElem_mem _)
theorem aB0 (s:ByteArray) (k:Nat) (h:k < s.size) (ha:(s.data.toList.take k).all isD=true) (hb:isD s[k]=true):(s.data.toList.take (k+1)).all isD=true:=by rw [jE _ _ (by rw [aX];exact h),List.all_append,ha,<-byte_at s k h (by rw [aX];exact h)];simp [hb]
theorem aB1 (s:ByteArray) (m:Nat) (hm:m<=12) (w:World) (hs:s.size<=9223372036854775807):
  CW 238 #[.string s,.int .i64 1,.int .i64 m] w (.bool (jQ s.data.toList 1 m)):=by
 have hl:=aX s;generalize hr:jQ s.data.toList 1 m=r;have HR:Hid (jQ s.data.toList 1 m=r):=hr;clear hr;go_enter Tryz.func238,Tryz.ntmps238;go_wp2;go_loop [7] (fun i=>∃k:Nat,k<=s.size/\i=.int .i64 k/\Hid ((s.data.toList.take k).all isD=true)) (fun i=>s.size - (intOf i).toNat)
 case atStart=>exact⟨0,Nat.zero_le _,rfl,by simp [Hid]⟩
 case round=>
  obtain⟨k,hk,rfl,ha⟩:=hrel;by_cases hlt:k < s.size
  ·cases hd:isD s[k]
   ·have HE:Hid (r=false):=by
     show _=_;rw [<-HR.out];unfold jQ;cases hh:s.data.toList.all isD
     ·rfl
     ·rw [uK s k hlt hh] at hd;cases hd
    simp only [isD,Bool.and_eq_false_iff,decide_eq_false_iff_not] at hd;by_cases hb1:(s[k].toNat:Int) < 48
    ·go_wp2;go_ret;exact⟨by rw [HE.out];rfl,rfl⟩
    ·have hb2:57 < (s[k].toNat:Int):=by omega
     go_wp2;go_ret;exact⟨by rw [HE.out];rfl,rfl⟩
   ·have ha':Hid ((s.data.toList.take (k+1)).all isD=true):=aB0 s k hlt ha.out hd;simp only [isD,Bool.and_eq_true,decide_eq_true_eq] at hd;have hb1:¬(s[k].toNat:Int) < 48:=by omega
    have hb2:¬57 < (s[k].toNat:Int):=by omega
    go_wp2;go_round
    case rel=>exact⟨k+1,by omega,by go_num,ha'⟩
    case measure=>simp [intOf];omega
  ·have e:s.data.toList.take k=s.data.toList:=List.take_of_length_le (by omega);have HE:Hid (r=(decide (1<=s.size) && decide (s.size<=m))):=by show _=_;rw [<-HR.out];unfold jQ;have:=ha.out;rw [e] at this;rw [this,hl];simp
   by_cases h1:(1:Int)<=(s.size:Int)
   ·go_wp2;go_ret;refine ⟨?_,rfl⟩;rw [HE.out];simp;omega
   ·go_wp2;go_ret;refine ⟨?_,rfl⟩;rw [HE.out];simp;omega
theorem aDw (w:World) (z:Int):(convert 96 9 (.slice (some ⟨w.heap.size,0,none⟩) 1 1)).run Tryz.prog (w.alloc (.cells #[.int .u8 z] 5))=.ok (.string ⟨#[UInt8.ofNat z.toNat]⟩) (w.alloc (.cells #[.int .u8 z] 5)):=by
 have hl:(loadCells ⟨w.heap.size,0,none⟩ 1).run Tryz.prog (w.alloc (.cells #[.int .u8 z] 5))=.ok (([z]:List Int).map (Value.int .u8)).toArray (w.alloc (.cells #[.int .u8 z] 5)):=by
  refine run_loadCells_list (P:=Tryz.prog) _ ⟨w.heap.size,0,none⟩ [.int .u8 z] fun j u hj=> ?_
  match j,hj with
  | 0,hj=>
   cases hj
   simp only [World.cell?];rw [show ((⟨w.heap.size,0,none⟩:Addr).add 0)=⟨w.heap.size,0,none⟩ from rfl,heap_alloc_new];rfl
 rw [run_convert_bytes_string _ 96 9 5 _ 1 1 Tryz.underlying96 Tryz.underlying5 Tryz.underlying9,run_bytesToString _ _ 1 1 _ hl,foldl_push_bytes];rfl
theorem aAX (m:Nat) (h:¬m / 10=0):Lib.decDigits m=Lib.decDigits (m / 10)++ [UInt8.ofNat (48+m % 10)]:=by rw [Lib.decDigits,dif_neg (by omega)]
theorem vS (n:Nat) (hn:n < 18446744073709551616) (w:World):
  CR 186 #[.int .u64 n] w (.string ⟨(Lib.decDigits n).toArray⟩):=by
 have hlen:=(rW 20 n (by decide) (by omega)).2;generalize hr:(⟨(Lib.decDigits n).toArray⟩:ByteArray)=r;have HR:Hid ((⟨(Lib.decDigits n).toArray⟩:ByteArray)=r):=hr;clear hr;go_enter Tryz.func186,Tryz.ntmps186;go_wp2;go_loopw [0,3] (fun u0 u3 wr=>∃(m:Nat) (t:ByteArray),u0=.int .u64 m/\u3=.string t/\m < 18446744073709551616/\t.size<=20/\Hid (Below w.heap.size w wr/\∃L:List UInt8,t=⟨L.toArray⟩/\Lib.decDigits n=Lib.decDigits m++L)) (fun u0 _ _=>(intOf u0).toNat)
 case atStart=>exact⟨n,⟨#[]⟩,rfl,rfl,hn,by decide,Below.refl _ _,[],rfl,by simp⟩
 case round=>
  obtain⟨m,t,rfl,rfl,hm,ht,hH⟩:=hrel;have hcv:=aDw wr (48+(m:Int) % 10);have hne:Hid ((⟨#[UInt8.ofNat (48+(m:Int) % 10).toNat]⟩:ByteArray)++t=⟨([UInt8.ofNat (48+m % 10)]++(t.data.toList)).toArray⟩):=by show _=_;rw [show (48+(m:Int) % 10).toNat=48+m % 10 by omega];exact nV [UInt8.ofNat (48+m % 10)] t.data.toList
  generalize hX:(⟨#[UInt8.ofNat (48+(m:Int) % 10).toNat]⟩:ByteArray)=X at *;have hXs:X.size=1:=by rw [<-hX];rfl
  clear hX;have hsz:(X++t).size<=21:=by rw [ByteArray.size_append];omega
  by_cases hz:m / 10=0
  ·have hz':(m:Int) / 10=0:=by omega
   have HE:Hid (r=X++t):=by obtain⟨_,L,rfl,e⟩:=hH.out;show _=_;rw [<-HR.out,hne.out,e,Lib.decDigits_one (by omega)];rw [show m % 10=m by omega]
   go_wp2;go_ret;exact⟨by rw [HE.out];rfl,hH.out.1.alloc (hH.out.1.size) _⟩
  ·have hz':((m:Int) / 10==0)=false:=by simp;omega
   have HL:Hid (∃L:List UInt8,X++t=⟨L.toArray⟩/\Lib.decDigits n=Lib.decDigits (m / 10)++L):=by obtain⟨_,L,rfl,e⟩:=hH.out;refine ⟨_,hne.out, ?_⟩;rw [e,aAX m hz];simp
   have hs2:(X++t).size<=20:=by obtain⟨L,e1,e2⟩:=HL.out;rw [e1,size_mk];have:=congrArg List.length e2;simp at this;have:=(rW 20 (m / 10) (by decide) (by omega)).1;omega
   go_wp2;go_roundw
   case rel=>exact⟨m / 10,X++t,by go_num,rfl,by omega,hs2,hH.out.1.alloc (hH.out.1.size) _,HL.out⟩
   case measure=>simp [intOf];omega
def lenOf (v:Value):Nat:=match v with | .string t=>t.size | _=>0
theorem ext_list (t:ByteArray) (k:Nat) (h:k<=t.size):(t.extract 0 k).data.toList=t.data.toList.take k/\(t.extract 0 k).size=k:=by
 have e:(t.extract 0 k).data.toList=t.data.toList.take k:=by rw [ByteArray.data_extract];simp
 refine ⟨e, ?_⟩;rw [<-aX,e,List.length_take,aX];omega
theorem lG (t:ByteArray):(⟨t.data.toList.toArray⟩:ByteArray)=t:=by
 cases t
 simp
theorem rY (t:ByteArray) (L:List UInt8) (h:∃j,t=⟨(L++List.replicate j 48).toArray⟩):∃j,t++⟨#[48]⟩=⟨(L++List.replicate j 48).toArray⟩:=by obtain⟨j,rfl⟩:=h;refine ⟨j+1, ?_⟩;rw [show (⟨#[48]⟩:ByteArray)=⟨([48]:List UInt8).toArray⟩ from rfl,nV,List.append_assoc,<-List.replicate_succ']
theorem aKy (L:List UInt8) (j:Nat):cZ (L++List.replicate j 48)=cZ L * 10 ^ j:=by rw [iF,xH,List.length_replicate,Nat.add_zero]
theorem aET:∀j:Nat,(List.replicate j (48:UInt8)).all isD=true
 | 0=>rfl
 | j+1=>by rw [List.replicate_succ,List.all_cons,aET j];rfl
theorem rZ (B:ByteArray) (k:Nat) (h:k < B.size):cZ (B.data.toList.take (k+1))=cZ (B.data.toList.take k) * 10+((B[k]'h).toNat - 48):=by rw [jE _ _ (by rw [aX];exact h),iF,<-byte_at B k h (by rw [aX];exact h)];simp [cZ,pY]
theorem aEU:∀k:Nat,k<=16->10 ^ k<=10000000000000000:=by decide
theorem sD (l:List UInt8) (k:Nat) (h:l.all isD=true):(l.take k).all isD=true:=by rw [List.all_eq_true] at *;exact fun x hx=>h x (List.mem_of_mem_take hx)
theorem aHk {s0 s1 A2 A3:ByteArray} {w:World} (hs:s0.size<=9223372036854775807) (hs1:s1.size<=9223372036854775807) (h0:s1.size=0)
  (G1:∀u:World,CW 238 #[.string s1,.int .i64 1,.int .i64 12] u (.bool false))
  (hno:Hid (∀k (h:k < s1.size),((((s1[k]'h).toNat:Nat):Int)==46)=false)):
  CR 198 #[.string s1] w (two (0,false)):=by
 go_enter Tryz.func198,Tryz.ntmps198;go_wp2;go_loop [5,6,7,8] (fun u5 u6 u7 u8=>∃k:Nat,k<=s1.size/\u5=.string s1/\u6=.string ⟨#[]⟩/\u7=.bool false/\u8=.int .i64 k) (fun _ _ _ u8=>s1.size - (intOf u8).toNat)
 case atStart=>exact⟨0,Nat.zero_le _,rfl,rfl,rfl,rfl⟩
 case round=>
  obtain⟨k,hk,rfl,rfl,rfl,rfl⟩:=hrel;by_cases hlt:k < s1.size
  ·omega
  ·have hlt':¬(k:Int) < (s1.size:Int):=by omega
   go_wp2_with fail
   refine (G1 _).mono ?_;rintro e w' ⟨rfl,hw⟩;obtain rfl:=hw.symm;clear hw;go_wp2;go_ret2;exact⟨rfl,Below.refl _ _⟩
theorem aHl {s0 s1 A2 A3:ByteArray} {w:World} (hs:s0.size<=9223372036854775807) (hs1:s1.size<=9223372036854775807) (h1:0 < s1.size) (hb:((((s1[0]'h1).toNat:Nat):Int)==45)=false)
  (G1:∀u:World,CW 238 #[.string s1,.int .i64 1,.int .i64 12] u (.bool false))
  (hno:Hid (∀k (h:k < s1.size),((((s1[k]'h).toNat:Nat):Int)==46)=false)):
  CR 198 #[.string s1] w (two (0,false)):=by
 go_enter Tryz.func198,Tryz.ntmps198;go_wp2;go_loop [5,6,7,8] (fun u5 u6 u7 u8=>∃k:Nat,k<=s1.size/\u5=.string s1/\u6=.string ⟨#[]⟩/\u7=.bool false/\u8=.int .i64 k) (fun _ _ _ u8=>s1.size - (intOf u8).toNat)
 case atStart=>exact⟨0,Nat.zero_le _,rfl,rfl,rfl,rfl⟩
 case round=>
  obtain⟨k,hk,rfl,rfl,rfl,rfl⟩:=hrel;by_cases hlt:k < s1.size
  ·have hq:=hno.out k hlt;go_wp2;go_round
   case rel=>exact⟨k+1,by omega,rfl,rfl,rfl,by go_num⟩
   case measure=>simp [intOf];omega
  ·have hlt':¬(k:Int) < (s1.size:Int):=by omega
   go_wp2_with fail
   refine (G1 _).mono ?_;rintro e w' ⟨rfl,hw⟩;obtain rfl:=hw.symm;clear hw;go_wp2;go_ret2;exact⟨rfl,Below.refl _ _⟩
theorem aHm {s0 s1 A2 A3:ByteArray} {w:World} (hs:s0.size<=9223372036854775807) (hs1:s1.size<=9223372036854775807) (h1:0 < s1.size) (hb:((((s1[0]'h1).toNat:Nat):Int)==45)=false)
  (G1:∀u:World,CW 238 #[.string s1,.int .i64 1,.int .i64 12] u (.bool true))
  (hno:Hid (∀k (h:k < s1.size),((((s1[k]'h).toNat:Nat):Int)==46)=false))
  (LR:List UInt8) (V:Nat) (hW:1<=s1.size/\s1.size<=12) (h3:(⟨#[]⟩:ByteArray).size<=4) (hLR:Hid ((⟨#[]⟩:ByteArray)=⟨LR.toArray⟩))
  (hB:Hid (∀t:ByteArray,t.size=4->(∃j,t=⟨(LR++List.replicate j 48).toArray⟩)->(s1++t).size<=16/\(s1++t).data.toList.all isD=true/\cZ (s1++t).data.toList=V)) (hV:V < 10000000000000000):
  CR 198 #[.string s1] w (two (ans (V:Int))):=by
 go_enter Tryz.func198,Tryz.ntmps198;go_wp2;go_loop [5,6,7,8] (fun u5 u6 u7 u8=>∃k:Nat,k<=s1.size/\u5=.string s1/\u6=.string ⟨#[]⟩/\u7=.bool false/\u8=.int .i64 k) (fun _ _ _ u8=>s1.size - (intOf u8).toNat)
 case atStart=>exact⟨0,Nat.zero_le _,rfl,rfl,rfl,rfl⟩
 case round=>
  obtain⟨k,hk,rfl,rfl,rfl,rfl⟩:=hrel;by_cases hlt:k < s1.size
  ·have hq:=hno.out k hlt;go_wp2;go_round
   case rel=>exact⟨k+1,by omega,rfl,rfl,rfl,by go_num⟩
   case measure=>simp [intOf];omega
  ·have hlt':¬(k:Int) < (s1.size:Int):=by omega
   go_wp2_with fail
   refine (G1 _).mono ?_;rintro e w' ⟨rfl,hw⟩;obtain rfl:=hw.symm;clear hw;go_wp2;go_loop [6] (fun u6=>∃t:ByteArray,u6=.string t/\t.size<=4/\Hid (∃j,t=⟨(LR++List.replicate j 48).toArray⟩)) (fun u6=>4 - lenOf u6)
   case atStart=>exact⟨_,rfl,h3,0,by rw [hLR.out];simp⟩
   case round=>
    obtain⟨t,rfl,ht,hH⟩:=hrel;by_cases h4:t.size < 4
    ·have g4:(t.size:Int) < 4:=by omega
     have hS:(t++(⟨#[48]⟩:ByteArray)).size=t.size+1:=by rw [ByteArray.size_append];rfl
     have hone:(⟨#[48]⟩:ByteArray).size=1:=rfl;have HN:Hid (∃j,t++⟨#[48]⟩=⟨(LR++List.replicate j 48).toArray⟩):=rY t LR hH.out;go_wp2;go_round
     case rel=>exact⟨_,rfl,by omega,HN.out⟩
     case measure=>simp [lenOf,hS];omega
    ·have g4:¬(t.size:Int) < 4:=by omega
     have hb:=hB.out t (by omega) hH.out;have hBt:=hb.1;have HB2:Hid ((s1++t).data.toList.all isD=true/\cZ (s1++t).data.toList=V):=hb.2;clear hb;have hsum:s1.size+t.size<=16:=by rw [ByteArray.size_append] at hBt;exact hBt
     obtain⟨B,hBe⟩:∃B:ByteArray,s1++t=B:=⟨_,rfl⟩
     rw [hBe] at hBt HB2;go_wp2;go_loop [9,11] (fun u9 u11=>∃k N:Nat,u9=.int .i64 N/\u11=.int .i64 k/\k<=B.size/\N < 10000000000000000/\Hid (N=cZ (B.data.toList.take k))) (fun _ u11=>B.size - (intOf u11).toNat)
     case atStart=>exact⟨0,0,rfl,rfl,Nat.zero_le _,by omega,rfl⟩
     case round=>
      obtain⟨k,N,rfl,rfl,hk,hN,hH2⟩:=hrel;by_cases hlt:k < B.size
      ·have hd:=uK B k hlt HB2.out.1;simp only [isD,Bool.and_eq_true,decide_eq_true_eq] at hd;have hst:Hid (N * 10+((B[k]'hlt).toNat - 48)=cZ (B.data.toList.take (k+1))):=by show _=_;rw [rZ B k hlt,<-hH2.out]
       have hbd:N * 10+((B[k]'hlt).toNat - 48) < 10000000000000000:=by rw [hst.out];have h1:=lD _ (sD _ (k+1) HB2.out.1);have h2:=aEU (B.data.toList.take (k+1)).length (by have:=aX B;simp;omega);omega
       generalize hc:(B[k]'hlt).toNat=c at *;go_wp2;go_round
       case rel=>exact⟨k+1,N * 10+(c - 48),by go_num,by go_num,by omega,hbd,hst.out⟩
       case measure=>simp [intOf];omega
      ·have hVN:N=V:=by rw [hH2.out,List.take_of_length_le (by rw [aX];omega)];exact HB2.out.2
       subst hVN;go_wp2_with fail
       refine (wQ _ _).mono ?_;rintro e w' ⟨rfl,hw⟩;obtain rfl:=hw.symm;clear hw;unfold two;go_wp2;go_ret2;exact⟨rfl,Below.refl _ _⟩
theorem aHn {s0 s1 A2 A3:ByteArray} {w:World} (hs:s0.size<=9223372036854775807) (hs1:s1.size<=9223372036854775807) (h1:0 < s1.size) (hb:((((s1[0]'h1).toNat:Nat):Int)==45)=false)
  (G1:∀u:World,CW 238 #[.string A2,.int .i64 1,.int .i64 12] u (.bool false))
  (p:Nat) (hp:p < s1.size) (hpt:((((s1[p]'hp).toNat:Nat):Int)==46)=true) (hno:Hid (∀k (h:k < p),((((s1[k]'(Nat.lt_trans h hp)).toNat:Nat):Int)==46)=false)) (hA2:s1.extract 0 p=A2) (hA3:s1.extract (p+1) s1.size=A3):
  CR 198 #[.string s1] w (two (0,false)):=by
 go_enter Tryz.func198,Tryz.ntmps198;go_wp2;go_loop [5,6,7,8] (fun u5 u6 u7 u8=>∃k:Nat,k<=p/\u5=.string s1/\u6=.string ⟨#[]⟩/\u7=.bool false/\u8=.int .i64 k) (fun _ _ _ u8=>s1.size - (intOf u8).toNat)
 case atStart=>exact⟨0,Nat.zero_le _,rfl,rfl,rfl,rfl⟩
 case round=>
  obtain⟨k,hk,rfl,rfl,rfl,rfl⟩:=hrel;by_cases hlt:k < p
  ·have hlt2:k < s1.size:=by omega
   have hq:=hno.out k hlt;go_wp2;go_round
   case rel=>exact⟨k+1,by omega,rfl,rfl,rfl,by go_num⟩
   case measure=>simp [intOf];omega
  ·obtain rfl:k=p:=by omega
   go_wp2;go_region
   go_wp2_with fail
   refine (G1 _).mono ?_;rintro e w' ⟨rfl,hw⟩;obtain rfl:=hw.symm;clear hw;go_wp2;go_ret2;exact⟨rfl,(Below.refl _ _).drew⟩
theorem aHo {s0 s1 A2 A3:ByteArray} {w:World} (hs:s0.size<=9223372036854775807) (hs1:s1.size<=9223372036854775807) (h1:0 < s1.size) (hb:((((s1[0]'h1).toNat:Nat):Int)==45)=false)
  (G1:∀u:World,CW 238 #[.string A2,.int .i64 1,.int .i64 12] u (.bool true))
  (p:Nat) (hp:p < s1.size) (hpt:((((s1[p]'hp).toNat:Nat):Int)==46)=true) (hno:Hid (∀k (h:k < p),((((s1[k]'(Nat.lt_trans h hp)).toNat:Nat):Int)==46)=false)) (hA2:s1.extract 0 p=A2) (hA3:s1.extract (p+1) s1.size=A3)
  (G2:∀u:World,CW 238 #[.string A3,.int .i64 1,.int .i64 4] u (.bool false)):
  CR 198 #[.string s1] w (two (0,false)):=by
 go_enter Tryz.func198,Tryz.ntmps198;go_wp2;go_loop [5,6,7,8] (fun u5 u6 u7 u8=>∃k:Nat,k<=p/\u5=.string s1/\u6=.string ⟨#[]⟩/\u7=.bool false/\u8=.int .i64 k) (fun _ _ _ u8=>s1.size - (intOf u8).toNat)
 case atStart=>exact⟨0,Nat.zero_le _,rfl,rfl,rfl,rfl⟩
 case round=>
  obtain⟨k,hk,rfl,rfl,rfl,rfl⟩:=hrel;by_cases hlt:k < p
  ·have hlt2:k < s1.size:=by omega
   have hq:=hno.out k hlt;go_wp2;go_round
   case rel=>exact⟨k+1,by omega,rfl,rfl,rfl,by go_num⟩
   case measure=>simp [intOf];omega
  ·obtain rfl:k=p:=by omega
   go_wp2;go_region
   go_wp2_with fail
   refine (G1 _).mono ?_;rintro e w' ⟨rfl,hw⟩;obtain rfl:=hw.symm;clear hw;go_wp2_with fail
   refine (G2 _).mono ?_;rintro e w' ⟨rfl,hw⟩;obtain rfl:=hw.symm;clear hw;go_wp2;go_ret2;exact⟨rfl,(Below.refl _ _).drew⟩
theorem aHp {s0 s1 A2 A3:ByteArray} {w:World} (hs:s0.size<=9223372036854775807) (hs1:s1.size<=9223372036854775807) (h1:0 < s1.size) (hb:((((s1[0]'h1).toNat:Nat):Int)==45)=false)
  (G1:∀u:World,CW 238 #[.string A2,.int .i64 1,.int .i64 12] u (.bool true))
  (p:Nat) (hp:p < s1.size) (hpt:((((s1[p]'hp).toNat:Nat):Int)==46)=true) (hno:Hid (∀k (h:k < p),((((s1[k]'(Nat.lt_trans h hp)).toNat:Nat):Int)==46)=false)) (hA2:s1.extract 0 p=A2) (hA3:s1.extract (p+1) s1.size=A3)
  (G2:∀u:World,CW 238 #[.string A3,.int .i64 1,.int .i64 4] u (.bool true))
  (LR:List UInt8) (V:Nat) (hW:1<=A2.size/\A2.size<=12) (h3:A3.size<=4) (hLR:Hid (A3=⟨LR.toArray⟩))
  (hB:Hid (∀t:ByteArray,t.size=4->(∃j,t=⟨(LR++List.replicate j 48).toArray⟩)->(A2++t).size<=16/\(A2++t).data.toList.all isD=true/\cZ (A2++t).data.toList=V)) (hV:V < 10000000000000000):
  CR 198 #[.string s1] w (two (ans (V:Int))):=by
 go_enter Tryz.func198,Tryz.ntmps198;go_wp2;go_loop [5,6,7,8] (fun u5 u6 u7 u8=>∃k:Nat,k<=p/\u5=.string s1/\u6=.string ⟨#[]⟩/\u7=.bool false/\u8=.int .i64 k) (fun _ _ _ u8=>s1.size - (intOf u8).toNat)
 case atStart=>exact⟨0,Nat.zero_le _,rfl,rfl,rfl,rfl⟩
 case round=>
  obtain⟨k,hk,rfl,rfl,rfl,rfl⟩:=hrel;by_cases hlt:k < p
  ·have hlt2:k < s1.size:=by omega
   have hq:=hno.out k hlt;go_wp2;go_round
   case rel=>exact⟨k+1,by omega,rfl,rfl,rfl,by go_num⟩
   case measure=>simp [intOf];omega
  ·obtain rfl:k=p:=by omega
   go_wp2;go_region
   go_wp2_with fail
   refine (G1 _).mono ?_;rintro e w' ⟨rfl,hw⟩;obtain rfl:=hw.symm;clear hw;go_wp2_with fail
   refine (G2 _).mono ?_;rintro e w' ⟨rfl,hw⟩;obtain rfl:=hw.symm;clear hw;go_wp2;go_loop [6] (fun u6=>∃t:ByteArray,u6=.string t/\t.size<=4/\Hid (∃j,t=⟨(LR++List.replicate j 48).toArray⟩)) (fun u6=>4 - lenOf u6)
   case atStart=>exact⟨_,rfl,h3,0,by rw [hLR.out];simp⟩
   case round=>
    obtain⟨t,rfl,ht,hH⟩:=hrel;by_cases h4:t.size < 4
    ·have g4:(t.size:Int) < 4:=by omega
     have hS:(t++(⟨#[48]⟩:ByteArray)).size=t.size+1:=by rw [ByteArray.size_append];rfl
     have hone:(⟨#[48]⟩:ByteArray).size=1:=rfl;have HN:Hid (∃j,t++⟨#[48]⟩=⟨(LR++List.replicate j 48).toArray⟩):=rY t LR hH.out;go_wp2;go_round
     case rel=>exact⟨_,rfl,by omega,HN.out⟩
     case measure=>simp [lenOf,hS];omega
    ·have g4:¬(t.size:Int) < 4:=by omega
     have hb:=hB.out t (by omega) hH.out;have hBt:=hb.1;have HB2:Hid ((A2++t).data.toList.all isD=true/\cZ (A2++t).data.toList=V):=hb.2;clear hb;have hsum:A2.size+t.size<=16:=by rw [ByteArray.size_append] at hBt;exact hBt
     obtain⟨B,hBe⟩:∃B:ByteArray,A2++t=B:=⟨_,rfl⟩
     rw [hBe] at hBt HB2;go_wp2;go_loop [9,11] (fun u9 u11=>∃k N:Nat,u9=.int .i64 N/\u11=.int .i64 k/\k<=B.size/\N < 10000000000000000/\Hid (N=cZ (B.data.toList.take k))) (fun _ u11=>B.size - (intOf u11).toNat)
     case atStart=>exact⟨0,0,rfl,rfl,Nat.zero_le _,by omega,rfl⟩
     case round=>
      obtain⟨k,N,rfl,rfl,hk,hN,hH2⟩:=hrel;by_cases hlt:k < B.size
      ·have hd:=uK B k hlt HB2.out.1;simp only [isD,Bool.and_eq_true,decide_eq_true_eq] at hd;have hst:Hid (N * 10+((B[k]'hlt).toNat - 48)=cZ (B.data.toList.take (k+1))):=by show _=_;rw [rZ B k hlt,<-hH2.out]
       have hbd:N * 10+((B[k]'hlt).toNat - 48) < 10000000000000000:=by rw [hst.out];have h1:=lD _ (sD _ (k+1) HB2.out.1);have h2:=aEU (B.data.toList.take (k+1)).length (by have:=aX B;simp;omega);omega
       generalize hc:(B[k]'hlt).toNat=c at *;go_wp2;go_round
       case rel=>exact⟨k+1,N * 10+(c - 48),by go_num,by go_num,by omega,hbd,hst.out⟩
       case measure=>simp [intOf];omega
      ·have hVN:N=V:=by rw [hH2.out,List.take_of_length_le (by rw [aX];omega)];exact HB2.out.2
       subst hVN;go_wp2_with fail
       refine (wQ _ _).mono ?_;rintro e w' ⟨rfl,hw⟩;obtain rfl:=hw.symm;clear hw;unfold two;go_wp2;go_ret2;exact⟨rfl,(Below.refl _ _).drew⟩
theorem aHq {s0 s1 A2 A3:ByteArray} {w:World} (hs:s0.size<=9223372036854775807) (hs1:s1.size<=9223372036854775807) (h1:0 < s0.size) (hb:((((s0[0]'h1).toNat:Nat):Int)==45)=true) (he:s0.extract 1 s0.size=s1)
  (G1:∀u:World,CW 238 #[.string s1,.int .i64 1,.int .i64 12] u (.bool false))
  (hno:Hid (∀k (h:k < s1.size),((((s1[k]'h).toNat:Nat):Int)==46)=false)):
  CR 198 #[.string s0] w (two (0,false)):=by
 go_enter Tryz.func198,Tryz.ntmps198;go_wp2;go_loop [5,6,7,8] (fun u5 u6 u7 u8=>∃k:Nat,k<=s1.size/\u5=.string s1/\u6=.string ⟨#[]⟩/\u7=.bool false/\u8=.int .i64 k) (fun _ _ _ u8=>s1.size - (intOf u8).toNat)
 case atStart=>exact⟨0,Nat.zero_le _,rfl,rfl,rfl,rfl⟩
 case round=>
  obtain⟨k,hk,rfl,rfl,rfl,rfl⟩:=hrel;by_cases hlt:k < s1.size
  ·have hq:=hno.out k hlt;go_wp2;go_round
   case rel=>exact⟨k+1,by omega,rfl,rfl,rfl,by go_num⟩
   case measure=>simp [intOf];omega
  ·have hlt':¬(k:Int) < (s1.size:Int):=by omega
   go_wp2_with fail
   refine (G1 _).mono ?_;rintro e w' ⟨rfl,hw⟩;obtain rfl:=hw.symm;clear hw;go_wp2;go_ret2;exact⟨rfl,Below.refl _ _⟩
theorem aHr {s0 s1 A2 A3:ByteArray} {w:World} (hs:s0.size<=9223372036854775807) (hs1:s1.size<=9223372036854775807) (h1:0 < s0.size) (hb:((((s0[0]'h1).toNat:Nat):Int)==45)=true) (he:s0.extract 1 s0.size=s1)
  (G1:∀u:World,CW 238 #[.string s1,.int .i64 1,.int .i64 12] u (.bool true))
  (hno:Hid (∀k (h:k < s1.size),((((s1[k]'h).toNat:Nat):Int)==46)=false))
  (LR:List UInt8) (V:Nat) (hW:1<=s1.size/\s1.size<=12) (h3:(⟨#[]⟩:ByteArray).size<=4) (hLR:Hid ((⟨#[]⟩:ByteArray)=⟨LR.toArray⟩))
  (hB:Hid (∀t:ByteArray,t.size=4->(∃j,t=⟨(LR++List.replicate j 48).toArray⟩)->(s1++t).size<=16/\(s1++t).data.toList.all isD=true/\cZ (s1++t).data.toList=V)) (hV:V < 10000000000000000):
  CR 198 #[.string s0] w (two (ans (-(V:Int)))):=by
 go_enter Tryz.func198,Tryz.ntmps198;go_wp2;go_loop [5,6,7,8] (fun u5 u6 u7 u8=>∃k:Nat,k<=s1.size/\u5=.string s1/\u6=.string ⟨#[]⟩/\u7=.bool false/\u8=.int .i64 k) (fun _ _ _ u8=>s1.size - (intOf u8).toNat)
 case atStart=>exact⟨0,Nat.zero_le _,rfl,rfl,rfl,rfl⟩
 case round=>
  obtain⟨k,hk,rfl,rfl,rfl,rfl⟩:=hrel;by_cases hlt:k < s1.size
  ·have hq:=hno.out k hlt;go_wp2;go_round
   case rel=>exact⟨k+1,by omega,rfl,rfl,rfl,by go_num⟩
   case measure=>simp [intOf];omega
  ·have hlt':¬(k:Int) < (s1.size:Int):=by omega
   go_wp2_with fail
   refine (G1 _).mono ?_;rintro e w' ⟨rfl,hw⟩;obtain rfl:=hw.symm;clear hw;go_wp2;go_loop [6] (fun u6=>∃t:ByteArray,u6=.string t/\t.size<=4/\Hid (∃j,t=⟨(LR++List.replicate j 48).toArray⟩)) (fun u6=>4 - lenOf u6)
   case atStart=>exact⟨_,rfl,h3,0,by rw [hLR.out];simp⟩
   case round=>
    obtain⟨t,rfl,ht,hH⟩:=hrel;by_cases h4:t.size < 4
    ·have g4:(t.size:Int) < 4:=by omega
     have hS:(t++(⟨#[48]⟩:ByteArray)).size=t.size+1:=by rw [ByteArray.size_append];rfl
     have hone:(⟨#[48]⟩:ByteArray).size=1:=rfl;have HN:Hid (∃j,t++⟨#[48]⟩=⟨(LR++List.replicate j 48).toArray⟩):=rY t LR hH.out;go_wp2;go_round
     case rel=>exact⟨_,rfl,by omega,HN.out⟩
     case measure=>simp [lenOf,hS];omega
    ·have g4:¬(t.size:Int) < 4:=by omega
     have hb:=hB.out t (by omega) hH.out;have hBt:=hb.1;have HB2:Hid ((s1++t).data.toList.all isD=true/\cZ (s1++t).data.toList=V):=hb.2;clear hb;have hsum:s1.size+t.size<=16:=by rw [ByteArray.size_append] at hBt;exact hBt
     obtain⟨B,hBe⟩:∃B:ByteArray,s1++t=B:=⟨_,rfl⟩
     rw [hBe] at hBt HB2;go_wp2;go_loop [9,11] (fun u9 u11=>∃k N:Nat,u9=.int .i64 N/\u11=.int .i64 k/\k<=B.size/\N < 10000000000000000/\Hid (N=cZ (B.data.toList.take k))) (fun _ u11=>B.size - (intOf u11).toNat)
     case atStart=>exact⟨0,0,rfl,rfl,Nat.zero_le _,by omega,rfl⟩
     case round=>
      obtain⟨k,N,rfl,rfl,hk,hN,hH2⟩:=hrel;by_cases hlt:k < B.size
      ·have hd:=uK B k hlt HB2.out.1;simp only [isD,Bool.and_eq_true,decide_eq_true_eq] at hd;have hst:Hid (N * 10+((B[k]'hlt).toNat - 48)=cZ (B.data.toList.take (k+1))):=by show _=_;rw [rZ B k hlt,<-hH2.out]
       have hbd:N * 10+((B[k]'hlt).toNat - 48) < 10000000000000000:=by rw [hst.out];have h1:=lD _ (sD _ (k+1) HB2.out.1);have h2:=aEU (B.data.toList.take (k+1)).length (by have:=aX B;simp;omega);omega
       generalize hc:(B[k]'hlt).toNat=c at *;go_wp2;go_round
       case rel=>exact⟨k+1,N * 10+(c - 48),by go_num,by go_num,by omega,hbd,hst.out⟩
       case measure=>simp [intOf];omega
      ·have hVN:N=V:=by rw [hH2.out,List.take_of_length_le (by rw [aX];omega)];exact HB2.out.2
       subst hVN;go_wp2_with fail
       refine (wQ _ _).mono ?_;rintro e w' ⟨rfl,hw⟩;obtain rfl:=hw.symm;clear hw;unfold two;go_wp2;go_ret2;exact⟨rfl,Below.refl _ _⟩
theorem aHs {s0 s1 A2 A3:ByteArray} {w:World} (hs:s0.size<=9223372036854775807) (hs1:s1.size<=9223372036854775807) (h1:0 < s0.size) (hb:((((s0[0]'h1).toNat:Nat):Int)==45)=true) (he:s0.extract 1 s0.size=s1)
  (G1:∀u:World,CW 238 #[.string A2,.int .i64 1,.int .i64 12] u (.bool false))
  (p:Nat) (hp:p < s1.size) (hpt:((((s1[p]'hp).toNat:Nat):Int)==46)=true) (hno:Hid (∀k (h:k < p),((((s1[k]'(Nat.lt_trans h hp)).toNat:Nat):Int)==46)=false)) (hA2:s1.extract 0 p=A2) (hA3:s1.extract (p+1) s1.size=A3):
  CR 198 #[.string s0] w (two (0,false)):=by
 go_enter Tryz.func198,Tryz.ntmps198;go_wp2;go_loop [5,6,7,8] (fun u5 u6 u7 u8=>∃k:Nat,k<=p/\u5=.string s1/\u6=.string ⟨#[]⟩/\u7=.bool false/\u8=.int .i64 k) (fun _ _ _ u8=>s1.size - (intOf u8).toNat)
 case atStart=>exact⟨0,Nat.zero_le _,rfl,rfl,rfl,rfl⟩
 case round=>
  obtain⟨k,hk,rfl,rfl,rfl,rfl⟩:=hrel;by_cases hlt:k < p
  ·have hlt2:k < s1.size:=by omega
   have hq:=hno.out k hlt;go_wp2;go_round
   case rel=>exact⟨k+1,by omega,rfl,rfl,rfl,by go_num⟩
   case measure=>simp [intOf];omega
  ·obtain rfl:k=p:=by omega
   go_wp2;go_region
   go_wp2_with fail
   refine (G1 _).mono ?_;rintro e w' ⟨rfl,hw⟩;obtain rfl:=hw.symm;clear hw;go_wp2;go_ret2;exact⟨rfl,(Below.refl _ _).drew⟩
theorem aHt {s0 s1 A2 A3:ByteArray} {w:World} (hs:s0.size<=9223372036854775807) (hs1:s1.size<=9223372036854775807) (h1:0 < s0.size) (hb:((((s0[0]'h1).toNat:Nat):Int)==45)=true) (he:s0.extract 1 s0.size=s1)
  (G1:∀u:World,CW 238 #[.string A2,.int .i64 1,.int .i64 12] u (.bool true))
  (p:Nat) (hp:p < s1.size) (hpt:((((s1[p]'hp).toNat:Nat):Int)==46)=true) (hno:Hid (∀k (h:k < p),((((s1[k]'(Nat.lt_trans h hp)).toNat:Nat):Int)==46)=false)) (hA2:s1.extract 0 p=A2) (hA3:s1.extract (p+1) s1.size=A3)
  (G2:∀u:World,CW 238 #[.string A3,.int .i64 1,.int .i64 4] u (.bool false)):
  CR 198 #[.string s0] w (two (0,false)):=by
 go_enter Tryz.func198,Tryz.ntmps198;go_wp2;go_loop [5,6,7,8] (fun u5 u6 u7 u8=>∃k:Nat,k<=p/\u5=.string s1/\u6=.string ⟨#[]⟩/\u7=.bool false/\u8=.int .i64 k) (fun _ _ _ u8=>s1.size - (intOf u8).toNat)
 case atStart=>exact⟨0,Nat.zero_le _,rfl,rfl,rfl,rfl⟩
 case round=>
  obtain⟨k,hk,rfl,rfl,rfl,rfl⟩:=hrel;by_cases hlt:k < p
  ·have hlt2:k < s1.size:=by omega
   have hq:=hno.out k hlt;go_wp2;go_round
   case rel=>exact⟨k+1,by omega,rfl,rfl,rfl,by go_num⟩
   case measure=>simp [intOf];omega
  ·obtain rfl:k=p:=by omega
   go_wp2;go_region
   go_wp2_with fail
   refine (G1 _).mono ?_;rintro e w' ⟨rfl,hw⟩;obtain rfl:=hw.symm;clear hw;go_wp2_with fail
   refine (G2 _).mono ?_;rintro e w' ⟨rfl,hw⟩;obtain rfl:=hw.symm;clear hw;go_wp2;go_ret2;exact⟨rfl,(Below.refl _ _).drew⟩
theorem aHu {s0 s1 A2 A3:ByteArray} {w:World} (hs:s0.size<=9223372036854775807) (hs1:s1.size<=9223372036854775807) (h1:0 < s0.size) (hb:((((s0[0]'h1).toNat:Nat):Int)==45)=true) (he:s0.extract 1 s0.size=s1)
  (G1:∀u:World,CW 238 #[.string A2,.int .i64 1,.int .i64 12] u (.bool true))
  (p:Nat) (hp:p < s1.size) (hpt:((((s1[p]'hp).toNat:Nat):Int)==46)=true) (hno:Hid (∀k (h:k < p),((((s1[k]'(Nat.lt_trans h hp)).toNat:Nat):Int)==46)=false)) (hA2:s1.extract 0 p=A2) (hA3:s1.extract (p+1) s1.size=A3)
  (G2:∀u:World,CW 238 #[.string A3,.int .i64 1,.int .i64 4] u (.bool true))
  (LR:List UInt8) (V:Nat) (hW:1<=A2.size/\A2.size<=12) (h3:A3.size<=4) (hLR:Hid (A3=⟨LR.toArray⟩))
  (hB:Hid (∀t:ByteArray,t.size=4->(∃j,t=⟨(LR++List.replicate j 48).toArray⟩)->(A2++t).size<=16/\(A2++t).data.toList.all isD=true/\cZ (A2++t).data.toList=V)) (hV:V < 10000000000000000):
  CR 198 #[.string s0] w (two (ans (-(V:Int)))):=by
 go_enter Tryz.func198,Tryz.ntmps198;go_wp2;go_loop [5,6,7,8] (fun u5 u6 u7 u8=>∃k:Nat,k<=p/\u5=.string s1/\u6=.string ⟨#[]⟩/\u7=.bool false/\u8=.int .i64 k) (fun _ _ _ u8=>s1.size - (intOf u8).toNat)
 case atStart=>exact⟨0,Nat.zero_le _,rfl,rfl,rfl,rfl⟩
 case round=>
  obtain⟨k,hk,rfl,rfl,rfl,rfl⟩:=hrel;by_cases hlt:k < p
  ·have hlt2:k < s1.size:=by omega
   have hq:=hno.out k hlt;go_wp2;go_round
   case rel=>exact⟨k+1,by omega,rfl,rfl,rfl,by go_num⟩
   case measure=>simp [intOf];omega
  ·obtain rfl:k=p:=by omega
   go_wp2;go_region
   go_wp2_with fail
   refine (G1 _).mono ?_;rintro e w' ⟨rfl,hw⟩;obtain rfl:=hw.symm;clear hw;go_wp2_with fail
   refine (G2 _).mono ?_;rintro e w' ⟨rfl,hw⟩;obtain rfl:=hw.symm;clear hw;go_wp2;go_loop [6] (fun u6=>∃t:ByteArray,u6=.string t/\t.size<=4/\Hid (∃j,t=⟨(LR++List.replicate j 48).toArray⟩)) (fun u6=>4 - lenOf u6)
   case atStart=>exact⟨_,rfl,h3,0,by rw [hLR.out];simp⟩
   case round=>
    obtain⟨t,rfl,ht,hH⟩:=hrel;by_cases h4:t.size < 4
    ·have g4:(t.size:Int) < 4:=by omega
     have hS:(t++(⟨#[48]⟩:ByteArray)).size=t.size+1:=by rw [ByteArray.size_append];rfl
     have hone:(⟨#[48]⟩:ByteArray).size=1:=rfl;have HN:Hid (∃j,t++⟨#[48]⟩=⟨(LR++List.replicate j 48).toArray⟩):=rY t LR hH.out;go_wp2;go_round
     case rel=>exact⟨_,rfl,by omega,HN.out⟩
     case measure=>simp [lenOf,hS];omega
    ·have g4:¬(t.size:Int) < 4:=by omega
     have hb:=hB.out t (by omega) hH.out;have hBt:=hb.1;have HB2:Hid ((A2++t).data.toList.all isD=true/\cZ (A2++t).data.toList=V):=hb.2;clear hb;have hsum:A2.size+t.size<=16:=by rw [ByteArray.size_append] at hBt;exact hBt
     obtain⟨B,hBe⟩:∃B:ByteArray,A2++t=B:=⟨_,rfl⟩
     rw [hBe] at hBt HB2;go_wp2;go_loop [9,11] (fun u9 u11=>∃k N:Nat,u9=.int .i64 N/\u11=.int .i64 k/\k<=B.size/\N < 10000000000000000/\Hid (N=cZ (B.data.toList.take k))) (fun _ u11=>B.size - (intOf u11).toNat)
     case atStart=>exact⟨0,0,rfl,rfl,Nat.zero_le _,by omega,rfl⟩
     case round=>
      obtain⟨k,N,rfl,rfl,hk,hN,hH2⟩:=hrel;by_cases hlt:k < B.size
      ·have hd:=uK B k hlt HB2.out.1;simp only [isD,Bool.and_eq_true,decide_eq_true_eq] at hd;have hst:Hid (N * 10+((B[k]'hlt).toNat - 48)=cZ (B.data.toList.take (k+1))):=by show _=_;rw [rZ B k hlt,<-hH2.out]
       have hbd:N * 10+((B[k]'hlt).toNat - 48) < 10000000000000000:=by rw [hst.out];have h1:=lD _ (sD _ (k+1) HB2.out.1);have h2:=aEU (B.data.toList.take (k+1)).length (by have:=aX B;simp;omega);omega
       generalize hc:(B[k]'hlt).toNat=c at *;go_wp2;go_round
       case rel=>exact⟨k+1,N * 10+(c - 48),by go_num,by go_num,by omega,hbd,hst.out⟩
       case measure=>simp [intOf];omega
      ·have hVN:N=V:=by rw [hH2.out,List.take_of_length_le (by rw [aX];omega)];exact HB2.out.2
       subst hVN;go_wp2_with fail
       refine (wQ _ _).mono ?_;rintro e w' ⟨rfl,hw⟩;obtain rfl:=hw.symm;clear hw;unfold two;go_wp2;go_ret2;exact⟨rfl,(Below.refl _ _).drew⟩
theorem aMI (bl:List UInt8) (h:uH bl=true):∃p,∃hp:p < bl.length,bl[p]=46/\(∀k (hk:k < p),bl[k]'(Nat.lt_trans hk hp) ≠ 46)/\kD bl=bl.take p/\gF bl=bl.drop (p+1):=by
 have hge:=Lib.indexByte_ge bl 46;by_cases hi:Lib.indexByte bl 46= -1
 ·have:=((qM bl).1 hi).2.2;rw [h] at this;cases this
 ·obtain ⟨p,hp⟩:∃p:Nat,Lib.indexByte bl 46=p:=⟨(Lib.indexByte bl 46).toNat,by omega⟩
  obtain⟨h1,h2⟩:=Lib.indexByte_some hp;obtain⟨e1,e2,_⟩:=(qM bl).2 p hp;have hlt:p < bl.length:=by
   rcases Nat.lt_or_ge p bl.length with g | g
   ·exact g
   ·rw [List.getElem?_eq_none g] at h1;cases h1
  refine ⟨p,hlt, ?_,fun k hk e=> ?_,e1,e2⟩
  ·rw [List.getElem?_eq_getElem hlt] at h1;exact Option.some.inj h1
  ·refine h2 k hk ?_;rw [List.getElem?_eq_getElem (Nat.lt_trans hk hlt),e]
theorem aNQ (bl:List UInt8) (h:uH bl=false):(∀k (hk:k < bl.length),bl[k] ≠ 46)/\kD bl=bl:=by
 have hge:=Lib.indexByte_ge bl 46;by_cases hi:Lib.indexByte bl 46= -1
 ·refine ⟨fun k hk e=> ?_,((qM bl).1 hi).1⟩;refine Lib.indexByte_none hi k ?_;rw [List.getElem?_eq_getElem hk,e]
 ·have:=((qM bl).2 (Lib.indexByte bl 46).toNat (by omega)).2.2;rw [h] at this;cases this
theorem xM (l:List UInt8) (k:Nat) (h:k < l.length) (h2:k < (⟨l.toArray⟩:ByteArray).size):(⟨l.toArray⟩:ByteArray)[k]=l[k]:=by rw [byte_at _ k h2 (by simpa using h)]
theorem aDx (b c:UInt8) (h:b ≠ c):(((b.toNat:Nat):Int)==((c.toNat:Nat):Int))=false:=by rw [beq_eq_false_iff_ne];intro e;apply h;apply UInt8.toNat_inj.1;omega
theorem xO (F R:List UInt8) (hF:F.all isD=true/\1<=F.length/\F.length<=12) (hR:R.all isD=true/\R.length<=4):
  (∀t:ByteArray,t.size=4->(∃j,t=⟨(R++List.replicate j 48).toArray⟩)->((⟨F.toArray⟩:ByteArray)++t).size<=16/\((⟨F.toArray⟩:ByteArray)++t).data.toList.all isD=true/\cZ ((⟨F.toArray⟩:ByteArray)++t).data.toList=cZ F * 10000+cZ R * 10 ^ (4 - R.length))/\
   cZ F * 10000+cZ R * 10 ^ (4 - R.length) < 10000000000000000:=by
 constructor
 ·rintro t ht ⟨j,rfl⟩;rw [size_mk] at ht;simp at ht;have hj:j=4 - R.length:=by omega
  rw [nV,size_mk];refine ⟨by simp;omega, ?_, ?_⟩
  ·show (F++(R++List.replicate j 48)).all isD=true;rw [List.all_append,List.all_append,hF.1,hR.1,aET];rfl
  ·show cZ (F++(R++List.replicate j 48))=_;rw [iF,aKy,hj];simp;rw [show R.length+(4 - R.length)=4 by omega]
 ·have h1:=uJ F 12 hF.1 hF.2.2;have h2:=lD R hR.1;have h3:(cZ R+1) * 10 ^ (4 - R.length)<=10 ^ R.length * 10 ^ (4 - R.length):=Nat.mul_le_mul_right _ (by omega);rw [<-Nat.pow_add,show R.length+(4 - R.length)=4 by omega,Nat.add_mul] at h3;have h4:1<=10 ^ (4 - R.length):=Nat.one_le_pow _ _ (by decide);omega
theorem rg (l:List UInt8) (m:Nat) (hm:m<=12) (hl:l.length<=9223372036854775807) {r:Bool} (hr:jQ l 1 m=r) (u:World):
  CW 238 #[.string ⟨l.toArray⟩,.int .i64 1,.int .i64 m] u (.bool r):=by
 have:=aB1 ⟨l.toArray⟩ m hm u (by rw [size_mk];exact hl);rw [<-hr];exact this
theorem aDy (l:List UInt8) (w:World) (hl:l.length<=9223372036854775807):
  Calls Tryz.prog 198 #[.string ⟨l.toArray⟩] w fun e w'=>e=.returned (two (bS l))/\Below w.heap.size w w':=by
 have hbl:=rX l;have hs:(⟨l.toArray⟩:ByteArray).size<=9223372036854775807:=by rw [size_mk];exact hl
 have hs1:(⟨(body l).toArray⟩:ByteArray).size<=9223372036854775807:=by rw [size_mk];omega
 have hfl:=aER (body l);have hsl:=aES (body l);have aHv:(dash l=true/\∃h1:0 < (⟨l.toArray⟩:ByteArray).size,(((((⟨l.toArray⟩:ByteArray)[0]'h1).toNat:Nat):Int)==45)=true/\(⟨l.toArray⟩:ByteArray).extract 1 (⟨l.toArray⟩:ByteArray).size=⟨(body l).toArray⟩)\/
   (dash l=false/\body l=l/\((⟨(body l).toArray⟩:ByteArray).size=0\/∃h1:0 < (⟨(body l).toArray⟩:ByteArray).size,(((((⟨(body l).toArray⟩:ByteArray)[0]'h1).toNat:Nat):Int)==45)=false)):=by
  cases hd:dash l
  ·right;have hb:body l=l:=by unfold body;rw [hd];rfl
   refine ⟨rfl,hb, ?_⟩;rw [hb];cases l with
   | nil=>left;rfl
   | cons b l=>
    right;refine ⟨by rw [size_mk];simp, ?_⟩;rw [xM (b:: l) 0 (by simp)];refine aDx b 45 fun e=> ?_;subst e;cases hd
  ·left;have hb:body l=l.drop 1:=by unfold body;rw [hd];rfl
   refine ⟨rfl, ?_⟩;rw [hb,drop_mk];cases l with
   | nil=>cases hd
   | cons b l=>
    refine ⟨by rw [size_mk];simp, ?_,rfl⟩;rw [xM (b:: l) 0 (by simp)];have:b=45:=by unfold dash at hd;simpa using hd
    subst this;rfl
 unfold bS aHf;have e1:∀(V:Nat),aBS (V:Int) true= -(V:Int):=fun _=>rfl;have e0:∀(V:Nat),aBS (V:Int) false=(V:Int):=fun _=>rfl;cases hp:uH (body l)
 ·obtain ⟨hno,aMJ⟩:=aNQ (body l) hp;have hno':Hid (∀k (h:k < (⟨(body l).toArray⟩:ByteArray).size),(((((⟨(body l).toArray⟩:ByteArray)[k]'h).toNat:Nat):Int)==46)=false):=fun k h=>by
   have hk:k < (body l).length:=by rw [size_mk] at h;exact h
   rw [xM (body l) k hk h];exact aDx _ 46 (hno k hk)
  rw [aMJ];cases h1:jQ (body l) 1 12
  ·rw [if_neg (by simp)];have G1:=fun u=>rg (body l) 12 (by decide) (by omega) h1 u;rcases aHv with ⟨hd,hq,hb,he⟩ | ⟨hd,hb,h0 | ⟨hq,hb1⟩⟩
   ·exact aHq (A2:=⟨#[]⟩) (A3:=⟨#[]⟩) hs hs1 hq hb he G1 hno'
   ·conv=>arg 3;rw [<-hb]
    exact aHk (A2:=⟨#[]⟩) (A3:=⟨#[]⟩) hs hs1 h0 G1 hno'
   ·conv=>arg 3;rw [<-hb]
    exact aHl (A2:=⟨#[]⟩) (A3:=⟨#[]⟩) hs hs1 hq hb1 G1 hno'
  ·rw [if_pos ⟨rfl,fun h=>by cases h⟩,if_neg (by decide)];have hd1:=(mD _ _ _).1 h1;have G1:=fun u=>rg (body l) 12 (by decide) (by omega) h1 u;have ff:=xO (body l) [] hd1 ⟨rfl,by simp⟩;have ez:cZ ([]:List UInt8) * 10 ^ (4 - ([]:List UInt8).length)=0:=rfl;rw [ez] at ff;rcases aHv with ⟨hd,hq,hb,he⟩ | ⟨hd,hb,h0 | ⟨hq,hb1⟩⟩
   ·rw [hd,e1];exact aHr (A2:=⟨#[]⟩) (A3:=⟨#[]⟩) hs hs1 hq hb he G1 hno' [] _ (by rw [size_mk];exact hd1.2) (by decide) rfl ff.1 ff.2
   ·rw [size_mk] at h0;omega
   ·rw [hd,e0]
    conv=>arg 3;rw [<-hb]
    exact aHm (A2:=⟨#[]⟩) (A3:=⟨#[]⟩) hs hs1 hq hb1 G1 hno' [] _ (by rw [size_mk];exact hd1.2) (by decide) rfl ff.1 ff.2
 ·obtain ⟨p,hpl,hpt,hno,aMJ,aOJ⟩:=aMI (body l) hp;have hps:p < (⟨(body l).toArray⟩:ByteArray).size:=by rw [size_mk];exact hpl
  have aFQ:(((((⟨(body l).toArray⟩:ByteArray)[p]'hps).toNat:Nat):Int)==46)=true:=by rw [xM (body l) p hpl hps,hpt];rfl
  have hno':Hid (∀k (h:k < p),(((((⟨(body l).toArray⟩:ByteArray)[k]'(Nat.lt_trans h hps)).toNat:Nat):Int)==46)=false):=fun k h=>by rw [xM (body l) k (Nat.lt_trans h hpl)];exact aDx _ 46 (hno k h)
  have hA2:(⟨(body l).toArray⟩:ByteArray).extract 0 p=⟨(kD (body l)).toArray⟩:=by rw [<-lG ((⟨(body l).toArray⟩:ByteArray).extract 0 p),(ext_list _ p (by omega)).1,aMJ]
  have hA3:(⟨(body l).toArray⟩:ByteArray).extract (p+1) (⟨(body l).toArray⟩:ByteArray).size=⟨(gF (body l)).toArray⟩:=by rw [aOJ];apply ByteArray.ext;rw [size_mk,ByteArray.data_extract];simp;exact List.take_of_length_le (by simp)
  cases h1:jQ (kD (body l)) 1 12
  ·rw [if_neg (by simp)];have G1:=fun u=>rg (kD (body l)) 12 (by decide) (by omega) h1 u;rcases aHv with ⟨hd,hq,hb,he⟩ | ⟨hd,hb,h0 | ⟨hq,hb1⟩⟩
   ·exact aHs hs hs1 hq hb he G1 p hps aFQ hno' hA2 hA3
   ·rw [size_mk] at h0;omega
   ·conv=>arg 3;rw [<-hb]
    exact aHn hs hs1 hq hb1 G1 p hps aFQ hno' hA2 hA3
  ·have hd1:=(mD _ _ _).1 h1;have G1:=fun u=>rg (kD (body l)) 12 (by decide) (by omega) h1 u;cases h2:jQ (gF (body l)) 1 4
   ·rw [if_neg (by simp)];have G2:=fun u=>rg (gF (body l)) 4 (by decide) (by omega) h2 u;rcases aHv with ⟨hd,hq,hb,he⟩ | ⟨hd,hb,h0 | ⟨hq,hb1⟩⟩
    ·exact aHt hs hs1 hq hb he G1 p hps aFQ hno' hA2 hA3 G2
    ·rw [size_mk] at h0;omega
    ·conv=>arg 3;rw [<-hb]
     exact aHo hs hs1 hq hb1 G1 p hps aFQ hno' hA2 hA3 G2
   ·rw [if_pos ⟨rfl,fun _=>rfl⟩,if_pos rfl];have hd2:=(mD _ _ _).1 h2;have G2:=fun u=>rg (gF (body l)) 4 (by decide) (by omega) h2 u;have ff:=xO (kD (body l)) (gF (body l)) hd1 ⟨hd2.1,hd2.2.2⟩;rcases aHv with ⟨hd,hq,hb,he⟩ | ⟨hd,hb,h0 | ⟨hq,hb1⟩⟩
    ·rw [hd,e1];exact aHu hs hs1 hq hb he G1 p hps aFQ hno' hA2 hA3 G2 (gF (body l)) _ (by rw [size_mk];exact hd1.2) (by rw [size_mk];exact hd2.2.2) rfl ff.1 ff.2
    ·rw [size_mk] at h0;omega
    ·rw [hd,e0]
     conv=>arg 3;rw [<-hb]
     exact aHp hs hs1 hq hb1 G1 p hps aFQ hno' hA2 hA3 G2 (gF (body l)) _ (by rw [size_mk];exact hd1.2) (by rw [size_mk];exact hd2.2.2) rfl ff.1 ff.2
theorem aDz (n:Int) (s:ByteArray) (w:World):CR 216 #[.agg #[.int .i64 0,.int .i64 n,.string s]] w (.iface 248 (.agg #[])):=by go_enter Tryz.func216,Tryz.ntmps216;go_wp2;go_ret;exact⟨rfl,(Below.refl _ _).alloc (Nat.le_refl _) _⟩
theorem aHw (n:Int) (s:ByteArray) (w:World):CR 216 #[.agg #[.int .i64 1,.int .i64 n,.string s]] w (.iface 226 (.int .i64 n)):=by go_enter Tryz.func216,Tryz.ntmps216;go_wp2;go_ret;exact⟨rfl,(Below.refl _ _).alloc (Nat.le_refl _) _⟩
theorem aHx (n:Int) (s:ByteArray) (w:World):CR 216 #[.agg #[.int .i64 2,.int .i64 n,.string s]] w (.iface 227 (.string s)):=by go_enter Tryz.func216,Tryz.ntmps216;go_wp2;go_ret;exact⟨rfl,(Below.refl _ _).alloc (Nat.le_refl _) _⟩
theorem aFR (n:Int) (s:ByteArray) (w:World):CR 216 #[.agg #[.int .i64 3,.int .i64 n,.string s]] w (.iface 213 (.bool (n !=0))):=by go_enter Tryz.func216,Tryz.ntmps216;go_wp2;go_ret;exact⟨rfl,(Below.refl _ _).alloc (Nat.le_refl _) _⟩
theorem aHy (n:Int) (s:ByteArray) (w:World):CR 216 #[.agg #[.int .i64 4,.int .i64 n,.string s]] w (.iface 217 (.int .i64 n)):=by go_enter Tryz.func216,Tryz.ntmps216;go_wp2;go_ret;exact⟨rfl,(Below.refl _ _).alloc (Nat.le_refl _) _⟩
theorem aFS (k n:Int) (s:ByteArray) (w:World) (h0:(k==0)=false) (h1:(k==1)=false) (h2:(k==2)=false) (h3:(k==3)=false) (h4:(k==4)=false):CR 216 #[.agg #[.int .i64 k,.int .i64 n,.string s]] w (.iface 250 (.int .i64 n)):=by go_enter Tryz.func216,Tryz.ntmps216;go_wp2;go_ret;exact⟨rfl,(Below.refl _ _).alloc (Nat.le_refl _) _⟩
theorem aDA (b:Bool) (w:World):CW 253 #[.bool b] w (.int .i64 (if b=true then 1 else 0)):=by
 cases b
 all_goals
  go_enter Tryz.func253,Tryz.ntmps253;go_wp2;go_ret;exact⟨rfl,rfl⟩
def knB (n:Int):Bool:=decide (1<=n) && decide (n<=8)
theorem kK (n:Int) (w:World):CW 254 #[.int .i64 n] w (.bool (knB n)):=by go_enter Tryz.func254,Tryz.ntmps254;go_wp2;all_goals (go_ret;rename_i h;refine ⟨?_,rfl⟩;congr 2;simp [knB];try omega)
theorem aHz (W:World) (v:Value):(Instr.typeAssert (.iface 248 v) 20 226 true).run Tryz.prog W=.ok (.tuple #[.int .i64 0,.bool false]) W:=by kernel_rfl
theorem aHA (W:World) (v:Value):(Instr.typeAssert (.iface 248 v) 20 227 true).run Tryz.prog W=.ok (.tuple #[.string ByteArray.empty,.bool false]) W:=by kernel_rfl
theorem aHB (W:World) (v:Value):(Instr.typeAssert (.iface 248 v) 20 213 true).run Tryz.prog W=.ok (.tuple #[.bool false,.bool false]) W:=by kernel_rfl
theorem aHC (W:World) (v:Value):(Instr.typeAssert (.iface 248 v) 20 217 true).run Tryz.prog W=.ok (.tuple #[.int .i64 0,.bool false]) W:=by kernel_rfl
theorem aHD (W:World) (v:Value):(Instr.typeAssert (.iface 226 v) 20 226 true).run Tryz.prog W=.ok (.tuple #[v,.bool true]) W:=by kernel_rfl
theorem aHE (W:World) (v:Value):(Instr.typeAssert (.iface 226 v) 20 227 true).run Tryz.prog W=.ok (.tuple #[.string ByteArray.empty,.bool false]) W:=by kernel_rfl
theorem aHF (W:World) (v:Value):(Instr.typeAssert (.iface 226 v) 20 213 true).run Tryz.prog W=.ok (.tuple #[.bool false,.bool false]) W:=by kernel_rfl
theorem aHG (W:World) (v:Value):(Instr.typeAssert (.iface 226 v) 20 217 true).run Tryz.prog W=.ok (.tuple #[.int .i64 0,.bool false]) W:=by kernel_rfl
theorem aHH (W:World) (v:Value):(Instr.typeAssert (.iface 227 v) 20 226 true).run Tryz.prog W=.ok (.tuple #[.int .i64 0,.bool false]) W:=by kernel_rfl
theorem aHI (W:World) (v:Value):(Instr.typeAssert (.iface 227 v) 20 227 true).run Tryz.prog W=.ok (.tuple #[v,.bool true]) W:=by kernel_rfl
theorem aHJ (W:World) (v:Value):(Instr.typeAssert (.iface 227 v) 20 213 true).run Tryz.prog W=.ok (.tuple #[.bool false,.bool false]) W:=by kernel_rfl
theorem aHK (W:World) (v:Value):(Instr.typeAssert (.iface 227 v) 20 217 true).run Tryz.prog W=.ok (.tuple #[.int .i64 0,.bool false]) W:=by kernel_rfl
theorem aHL (W:World) (v:Value):(Instr.typeAssert (.iface 213 v) 20 226 true).run Tryz.prog W=.ok (.tuple #[.int .i64 0,.bool false]) W:=by kernel_rfl
theorem aHM (W:World) (v:Value):(Instr.typeAssert (.iface 213 v) 20 227 true).run Tryz.prog W=.ok (.tuple #[.string ByteArray.empty,.bool false]) W:=by kernel_rfl
theorem aHN (W:World) (v:Value):(Instr.typeAssert (.iface 213 v) 20 213 true).run Tryz.prog W=.ok (.tuple #[v,.bool true]) W:=by kernel_rfl
theorem aHO (W:World) (v:Value):(Instr.typeAssert (.iface 213 v) 20 217 true).run Tryz.prog W=.ok (.tuple #[.int .i64 0,.bool false]) W:=by kernel_rfl
theorem aHP (W:World) (v:Value):(Instr.typeAssert (.iface 217 v) 20 226 true).run Tryz.prog W=.ok (.tuple #[.int .i64 0,.bool false]) W:=by kernel_rfl
theorem aHQ (W:World) (v:Value):(Instr.typeAssert (.iface 217 v) 20 227 true).run Tryz.prog W=.ok (.tuple #[.string ByteArray.empty,.bool false]) W:=by kernel_rfl
theorem aHR (W:World) (v:Value):(Instr.typeAssert (.iface 217 v) 20 213 true).run Tryz.prog W=.ok (.tuple #[.bool false,.bool false]) W:=by kernel_rfl
theorem aHS (W:World) (v:Value):(Instr.typeAssert (.iface 217 v) 20 217 true).run Tryz.prog W=.ok (.tuple #[v,.bool true]) W:=by kernel_rfl
theorem aHT (W:World) (v:Value):(Instr.typeAssert (.iface 250 v) 20 226 true).run Tryz.prog W=.ok (.tuple #[.int .i64 0,.bool false]) W:=by kernel_rfl
theorem aHU (W:World) (v:Value):(Instr.typeAssert (.iface 250 v) 20 227 true).run Tryz.prog W=.ok (.tuple #[.string ByteArray.empty,.bool false]) W:=by kernel_rfl
theorem aHV (W:World) (v:Value):(Instr.typeAssert (.iface 250 v) 20 213 true).run Tryz.prog W=.ok (.tuple #[.bool false,.bool false]) W:=by kernel_rfl
theorem aHW (W:World) (v:Value):(Instr.typeAssert (.iface 250 v) 20 217 true).run Tryz.prog W=.ok (.tuple #[.int .i64 0,.bool false]) W:=by kernel_rfl
theorem aAr {W w1:World} (hb:Below W.heap.size W w1):(∀b o,b < W.heap.size->w1.cell? ⟨b,o,none⟩=W.cell? ⟨b,o,none⟩)/\(∀b o,b < W.heap.size->w1.frozen? ⟨b,o,none⟩=W.frozen? ⟨b,o,none⟩):=
 ⟨fun b o h=>hb.cell (p:=⟨b,o,none⟩) h,fun b o h=>hb.frozen (p:=⟨b,o,none⟩) h⟩
theorem aB2 (n:Int) (s:ByteArray) (w:World):CR 174 #[.agg #[.int .i64 0,.int .i64 n,.string s]] w (.string ⟨#[]⟩):=by
 have aHX:=aHz;have aHY:=aHA;have aHZ:=aHB;have aH0:=aHC;go_enter Tryz.func174,Tryz.ntmps174;go_wp2_with (first|(go_at_call 216;refine (aDz _ _ _).mono ?_;rintro e w1 ⟨rfl,hb⟩;have HB:Hid (Below w.heap.size w w1):=gU hb;obtain⟨hc,hf⟩:=aAr hb;have hz:=hb.size;simp at hz;clear hb))
 all_goals (go_ret;exact⟨rfl,HB.out⟩)
theorem aFT (n:Int) (s:ByteArray) (w:World) (X:ByteArray) (P:∀u:World,Below w.heap.size w u->CR 178 #[.int .i64 n] u (.string X)):CR 174 #[.agg #[.int .i64 1,.int .i64 n,.string s]] w (.string X):=by
 have aHX:=aHD;have aHY:=aHE;have aHZ:=aHF;have aH0:=aHG;go_enter Tryz.func174,Tryz.ntmps174;go_wp2_with (first|(go_at_call 216;refine (aHw _ _ _).mono ?_;rintro e w1 ⟨rfl,hb⟩;have HB:Hid (Below w.heap.size w w1):=gU hb;obtain⟨hc,hf⟩:=aAr hb;have hz:=hb.size;simp at hz;clear hb) | (go_at_call 178;refine (P _ HB.out).mono ?_;rintro e w2 ⟨rfl,hb⟩;have HB2:Hid (Below w.heap.size w w2):=aF HB.out hb;clear hb))
 go_ret;exact⟨rfl,HB2.out⟩
theorem aFU (n:Int) (s:ByteArray) (w:World):CR 174 #[.agg #[.int .i64 2,.int .i64 n,.string s]] w (.string s):=by
 have aHX:=aHH;have aHY:=aHI;have aHZ:=aHJ;have aH0:=aHK;go_enter Tryz.func174,Tryz.ntmps174;go_wp2_with (first|(go_at_call 216;refine (aHx _ _ _).mono ?_;rintro e w1 ⟨rfl,hb⟩;have HB:Hid (Below w.heap.size w w1):=gU hb;obtain⟨hc,hf⟩:=aAr hb;have hz:=hb.size;simp at hz;clear hb))
 all_goals (go_ret;exact⟨rfl,HB.out⟩)
theorem aFV (b:Bool) (w:World):CW 217 #[.bool b] w (.string (if b=true then ⟨#[84,82,85,69]⟩ else ⟨#[70,65,76,83,69]⟩)):=by
 cases b
 all_goals
  go_enter Tryz.func217,Tryz.ntmps217;go_wp2;go_ret;exact⟨rfl,rfl⟩
theorem aDB (n:Int) (s:ByteArray) (w:World) (b:Bool) (KB:∀u:World,CR 216 #[.agg #[.int .i64 3,.int .i64 n,.string s]] u (.iface 213 (.bool b))):CR 174 #[.agg #[.int .i64 3,.int .i64 n,.string s]] w (.string (if b=true then ⟨#[84,82,85,69]⟩ else ⟨#[70,65,76,83,69]⟩)):=by
 cases b
 all_goals
  have aHX:=aHL;have aHY:=aHM;have aHZ:=aHN;have aH0:=aHO;go_enter Tryz.func174,Tryz.ntmps174;go_wp2_with (first|(go_at_call 216;refine (KB _).mono ?_;rintro e w1 ⟨rfl,hb⟩;have HB:Hid (Below w.heap.size w w1):=gU hb;obtain⟨hc,hf⟩:=aAr hb;have hz:=hb.size;simp at hz;clear hb) | (go_at_call 217;refine mw (aFV _ _) ?_))
  all_goals (go_ret;exact⟨rfl,HB.out⟩)
theorem aFW (n:Int) (s:ByteArray) (w:World) (X:ByteArray) (P:∀u:World,Below w.heap.size w u->CW 218 #[.int .i64 n] u (.string X)):CR 174 #[.agg #[.int .i64 4,.int .i64 n,.string s]] w (.string X):=by
 have aHX:=aHP;have aHY:=aHQ;have aHZ:=aHR;have aH0:=aHS;go_enter Tryz.func174,Tryz.ntmps174;go_wp2_with (first|(go_at_call 216;refine (aHy _ _ _).mono ?_;rintro e w1 ⟨rfl,hb⟩;have HB:Hid (Below w.heap.size w w1):=gU hb;obtain⟨hc,hf⟩:=aAr hb;have hz:=hb.size;simp at hz;clear hb) | (go_at_call 218;refine mw (P _ HB.out) ?_))
 all_goals (go_ret;exact⟨rfl,HB.out⟩)
theorem aDC (k n:Int) (s:ByteArray) (w:World) (h0:(k==0)=false) (h1:(k==1)=false) (h2:(k==2)=false) (h3:(k==3)=false) (h4:(k==4)=false):CR 174 #[.agg #[.int .i64 k,.int .i64 n,.string s]] w (.string ⟨#[]⟩):=by
 have aHX:=aHT;have aHY:=aHU;have aHZ:=aHV;have aH0:=aHW;go_enter Tryz.func174,Tryz.ntmps174;go_wp2_with (first|(go_at_call 216;refine (aFS _ _ _ _ h0 h1 h2 h3 h4).mono ?_;rintro e w1 ⟨rfl,hb⟩;have HB:Hid (Below w.heap.size w w1):=gU hb;obtain⟨hc,hf⟩:=aAr hb;have hz:=hb.size;simp at hz;clear hb))
 all_goals (go_ret;exact⟨rfl,HB.out⟩)
def fnm:Nat->ByteArray
 | 1=>⟨#[35,68,73,86,47,48,33]⟩
 | 2=>⟨#[35,86,65,76,85,69,33]⟩
 | 3=>⟨#[35,82,69,70,33]⟩
 | 4=>⟨#[35,78,65,77,69,63]⟩
 | 5=>⟨#[35,78,85,77,33]⟩
 | 6=>⟨#[35,78,47,65]⟩
 | 7=>⟨#[35,67,89,67,76,69,33]⟩
 | 8=>⟨#[35,76,73,78,75,33]⟩
 | _=>⟨#[]⟩
def fnB (n:Int):ByteArray:=if knB n=true then fnm n.toNat else ⟨#[]⟩
def xP (w:World):Prop:=∀i,i < 9->w.cell? ⟨1,i,none⟩=some (.string (fnm i))
theorem xP.kept {w w':World} (h:xP w) (hk:∀i,i < w.heap.size->w'.heap[i]? =w.heap[i]?):xP w':=fun i hi=>by rw [<-h i hi];exact World.cell?_of_block (hk _ (World.block_lt_of_cell? w _ (h i hi)))
theorem xP.below {w w':World} (h:xP w) (hb:Below w.heap.size w w'):xP w':=h.kept hb.block
theorem aMK (n:Int):knB n=true↔n=1\/n=2\/n=3\/n=4\/n=5\/n=6\/n=7\/n=8:=by simp [knB];omega
theorem uL (n:Int) (w:World) (T:xP w):CW 218 #[.int .i64 n] w (.string (fnB n)):=by
 cases hk:knB n
 ·have e:fnB n=⟨#[]⟩:=by simp [fnB,hk]
  rw [e];have K:=fun u=>kK n u;rw [hk] at K;go_enter Tryz.func218,Tryz.ntmps218;go_wp2_with (go_at_call 254;refine mw (K _) ?_)
  go_ret;exact⟨rfl,rfl⟩
 ·have K:=fun u=>kK n u;rw [hk] at K;have e:fnB n=fnm n.toNat:=by simp [fnB,hk]
  rw [e];have h1:=T 1 (by decide);have h2:=T 2 (by decide);have h3:=T 3 (by decide);have h4:=T 4 (by decide);have h5:=T 5 (by decide);have h6:=T 6 (by decide);have h7:=T 7 (by decide);have h8:=T 8 (by decide);clear T e;rw [aMK] at hk;rcases hk with rfl | rfl | rfl | rfl | rfl | rfl | rfl | rfl;all_goals
   go_enter Tryz.func218,Tryz.ntmps218;go_wp2_with (go_at_call 254;refine mw (K _) ?_)
   go_ret;exact⟨rfl,rfl⟩
def iM:Array Value:=#[.string (fnm 0),.string (fnm 1),.string (fnm 2),.string (fnm 3),.string (fnm 4),.string (fnm 5),.string (fnm 6),.string (fnm 7),.string (fnm 8)]
theorem aFX (w:World):CR 183 #[] w (.agg iM):=by go_enter Tryz.func183,Tryz.ntmps183;go_wp2;exact bodyPost_ret (v:=.agg iM) (by simp [results,Tryz.results183,go_sem];rfl) rfl ⟨rfl,(Below.refl _ _).alloc (Nat.le_refl _) _⟩
theorem aKz {w w1:World} {a b c:Value} (hb:Below (w.alloc (.cells #[a,b,c] 62)).heap.size (w.alloc (.cells #[a,b,c] 62)) w1):
  (∀o,(w1.alloc o).cell? ⟨w.heap.size,0,none⟩=some a/\(w1.alloc o).cell? ⟨w.heap.size,1,none⟩=some b/\(w1.alloc o).cell? ⟨w.heap.size,2,none⟩=some c)
   /\(w1.cell? ⟨w.heap.size,0,none⟩=some a/\w1.cell? ⟨w.heap.size,1,none⟩=some b/\w1.cell? ⟨w.heap.size,2,none⟩=some c):=by
 have h0:w1.heap[w.heap.size]? =some (.cells #[a,b,c] 62 (0,0)):=by rw [hb.block _ (by simp)];exact heap_alloc_new w _
 refine ⟨fun o=> ?_,by simp [World.cell?,h0]⟩;have h1:(w1.alloc o).heap[w.heap.size]? =some (.cells #[a,b,c] 62 (0,0)):=by have hz:=hb.size;simp at hz;rw [Below.heap_alloc w1 o _ (by omega)];exact h0
 simp [World.cell?,h1]
def aFY (s:ByteArray):Bool:=decide (s.size<=255)
theorem aAs (s:ByteArray):((s.size:Int)<=255/\aFY s=true)\/(¬(s.size:Int)<=255/\aFY s=false):=by
 by_cases h:s.size<=255
 ·left;simp [aFY,h];omega
 ·right;simp [aFY,h];omega
theorem aOK (W:World):(Instr.index 200 (.agg iM) (.int .i64 0)).run Tryz.prog W=.ok (.string (fnm 0)) W:=by kernel_rfl
theorem aOL (W:World):(Instr.index 200 (.agg iM) (.int .i64 1)).run Tryz.prog W=.ok (.string (fnm 1)) W:=by kernel_rfl
theorem aOM (W:World):(Instr.index 200 (.agg iM) (.int .i64 2)).run Tryz.prog W=.ok (.string (fnm 2)) W:=by kernel_rfl
theorem aON (W:World):(Instr.index 200 (.agg iM) (.int .i64 3)).run Tryz.prog W=.ok (.string (fnm 3)) W:=by kernel_rfl
theorem aOO (W:World):(Instr.index 200 (.agg iM) (.int .i64 4)).run Tryz.prog W=.ok (.string (fnm 4)) W:=by kernel_rfl
theorem aOP (W:World):(Instr.index 200 (.agg iM) (.int .i64 5)).run Tryz.prog W=.ok (.string (fnm 5)) W:=by kernel_rfl
theorem aOQ (W:World):(Instr.index 200 (.agg iM) (.int .i64 6)).run Tryz.prog W=.ok (.string (fnm 6)) W:=by kernel_rfl
theorem aOR (W:World):(Instr.index 200 (.agg iM) (.int .i64 7)).run Tryz.prog W=.ok (.string (fnm 7)) W:=by kernel_rfl
theorem aOS (W:World):(Instr.index 200 (.agg iM) (.int .i64 8)).run Tryz.prog W=.ok (.string (fnm 8)) W:=by kernel_rfl
theorem aB3 (i:Nat) (h:i < 9) (W:World):(Instr.index 200 (.agg iM) (.int .i64 (i:Int))).run Tryz.prog W=.ok (.string (fnm i)) W:=by
 have h':i=0\/i=1\/i=2\/i=3\/i=4\/i=5\/i=6\/i=7\/i=8:=by omega
 rcases h' with rfl | rfl | rfl | rfl | rfl | rfl | rfl | rfl | rfl
 ·exact aOK W
 ·exact aOL W
 ·exact aOM W
 ·exact aON W
 ·exact aOO W
 ·exact aOP W
 ·exact aOQ W
 ·exact aOR W
 ·exact aOS W
def szB (a b:Nat) (c:UInt8):UInt8:=if a<=c.toNat/\c.toNat<=a+25 then UInt8.ofNat (c.toNat - a+b) else c
def szF (a b:Nat) (l:List UInt8):List UInt8:=l.map (szB a b)
def szP (a b:Nat) (l:List UInt8) (p:Nat):List UInt8:=szF a b (l.take p)++l.drop p
theorem aB4 (a b:Nat) (l:List UInt8):szP a b l 0=l:=by simp [szP,szF]
theorem aAY (a b:Nat) (l:List UInt8) (p:Nat):(szP a b l p).length=l.length:=by simp [szP,szF];omega
theorem aEV (a b:Nat) (l:List UInt8) (p:Nat) (h:l.length<=p):szP a b l p=szF a b l:=by simp [szP,List.take_of_length_le h,List.drop_eq_nil_of_le h]
theorem sF (a b:Nat) (l:List UInt8) (p i:Nat):(szP a b l p)[i]? =if i < p then l[i]?.map (szB a b) else l[i]? :=by
 unfold szP szF;rw [List.getElem?_append];by_cases hl:i < l.length
 ·by_cases hi:i < p
  ·rw [if_pos (by simp;omega),if_pos hi,List.getElem?_map,List.getElem?_take_of_lt hi]
  ·rw [if_neg (by simp;omega),if_neg hi,List.getElem?_drop];congr 1;simp;omega
 ·have e:l[i]? =none:=List.getElem?_eq_none (by omega);rw [e,if_neg (by simp;omega),List.getElem?_eq_none (by simp;omega)];split <;> rfl
theorem aDD (a b:Nat) (l:List UInt8) (p:Nat) (h:p < l.length):(szP a b l p)[p]? =some l[p]:=by rw [sF,if_neg (Nat.lt_irrefl _),List.getElem?_eq_getElem h]
theorem aB5 (a b:Nat) (l:List UInt8) (p:Nat) (h:p < l.length):szP a b l (p+1)=(szP a b l p).set p (szB a b l[p]):=by
 apply List.ext_getElem?
 intro i;rw [List.getElem?_set,sF,sF,aAY];by_cases e:p=i
 ·subst e;rw [if_pos (by omega),if_pos rfl,if_pos h,List.getElem?_eq_getElem h];rfl
 ·rw [if_neg e];by_cases hi:i < p
  ·rw [if_pos hi,if_pos (by omega)]
  ·rw [if_neg hi,if_neg (by omega)]
theorem aH1 (a b:Nat) (l:List UInt8) (p d:Nat) (h:∀j,p<=j->j < p+d->∀hj:j < l.length,szB a b l[j]=l[j]):szP a b l (p+d)=szP a b l p:=by
 apply List.ext_getElem?
 intro i;rw [sF,sF];by_cases hi:i < p
 ·rw [if_pos hi,if_pos (by omega)]
 ·rw [if_neg hi];by_cases hd:i < p+d
  ·rw [if_pos hd];by_cases hl:i < l.length
   ·rw [List.getElem?_eq_getElem hl,Option.map_some,h i (by omega) hd hl]
   ·rw [List.getElem?_eq_none (by omega)];rfl
  ·rw [if_neg hd]
theorem aH2 (a b:Nat) (c:UInt8) (ha:a+25 < 128) (hc:128<=c.toNat):szB a b c=c:=by unfold szB;rw [if_neg (by omega)]
theorem sG (s:ByteArray) (pos:Nat) (h:pos < s.size) (ha:128<=(s[pos]'h).toNat):
  pos+(Utf8.decode s pos).2<=s.size/\∀k,k < (Utf8.decode s pos).2->128<=(s.get! (pos+k)).toNat:=by
 have hn:¬(s[pos]'h).toNat < 128:=by omega
 have g0:128<=(s.get! (pos+0)).toNat:=by rw [get_at s pos h];exact ha
 have one:∀k,k < 1->128<=(s.get! (pos+k)).toNat:=fun k hk=>by
  obtain rfl:k=0:=by omega
  exact g0
 have c1:∀k,((s.get! (pos+k)).toNat / 64==2)=true->128<=(s.get! (pos+k)).toNat:=fun k hk=>by simp at hk;omega
 simp only [Utf8.decode,get_at s pos h,hn,if_false];split
 ·rename_i h2
  simp only [Bool.and_eq_true,decide_eq_true_eq] at h2;split
  ·refine ⟨by simp;omega,fun k hk=> ?_⟩;have hk':k=0\/k=1:=by simp at hk;omega
   rcases hk' with rfl | rfl
   ·exact g0
   ·exact c1 1 h2.2.2
  ·exact ⟨by simp;omega,one⟩
 ·split
  ·rename_i h3
   simp only [Bool.and_eq_true,decide_eq_true_eq] at h3;split
   ·refine ⟨by simp;omega,fun k hk=> ?_⟩;have hk':k=0\/k=1\/k=2:=by simp at hk;omega
    rcases hk' with rfl | rfl | rfl
    ·exact g0
    ·exact c1 1 h3.1.2.2
    ·exact c1 2 h3.2.2
   ·exact ⟨by simp;omega,one⟩
  ·split
   ·rename_i h4
    simp only [Bool.and_eq_true,decide_eq_true_eq] at h4;split
    ·refine ⟨by simp;omega,fun k hk=> ?_⟩;have hk':k=0\/k=1\/k=2\/k=3:=by simp at hk;omega
     rcases hk' with rfl | rfl | rfl | rfl
     ·exact g0
     ·exact c1 1 h4.1.1.2.2
     ·exact c1 2 h4.1.2.2
     ·exact c1 3 h4.2.2
    ·exact ⟨by simp;omega,one⟩
   ·exact ⟨by simp;omega,one⟩
theorem aB6 (s:ByteArray) (j:Nat) (h:j < s.data.toList.length):s.get! j=s.data.toList[j]:=by
 have h':j < s.size:=by simpa using h
 simp [ByteArray.get!,getElem!_pos,h']
structure RW (w:World) (s:ByteArray) (L:List UInt8) (p:Nat) (u:World):Prop where
 row:∃C:Array Value,u.heap[w.heap.size]? =some (.cells C 5 (C.size,C.size+1))/\∀j (h:j < L.length),C[j]? =some (.int .u8 (L[j].toNat:Nat))
 it:u.heap[w.heap.size+1]? =some (.stringIter s p)
 bel:Below w.heap.size w u
theorem run_next_at {P:Program} {u:World} {b:Nat} {s:ByteArray} {pos:Nat} (hi:u.heap[b]? =some (.stringIter s pos)) (ty:TypeId) (h:pos < s.size):
  (Instr.next (pt b) true ty).run P u=
   .ok (.tuple #[.bool true,.int .i64 pos,.int .i32 (Utf8.decode s pos).1]) { u with heap:=u.heap.setIfInBounds b (.stringIter s (pos+(Utf8.decode s pos).2)) }:=by
 simp only [Instr.next,getObj,setObj,Sem.run_bind,Sem.run,hi,Result.andThen,h,if_true];simp [goInt]
theorem qE {P:Program} {u:World} {b:Nat} {s:ByteArray} {pos:Nat} (hi:u.heap[b]? =some (.stringIter s pos)) (ty:TypeId) (h:¬pos < s.size):
  (Instr.next (pt b) true ty).run P u=.ok (.tuple #[.bool false]) u:=by
 simp [Instr.next,getObj,Sem.run,hi,h]
theorem RW.next {w u:World} {s:ByteArray} {L:List UInt8} {p:Nat} (h:RW w s L p u) (hp:p < s.size):
  ∃u1,(∀ty,(Instr.next (.pointer (some ⟨w.heap.size+1,0,none⟩)) true ty).run Tryz.prog u=.ok (.tuple #[.bool true,.int .i64 p,.int .i32 (Utf8.decode s p).1]) u1)/\RW w s L (p+(Utf8.decode s p).2) u1:=by
 refine ⟨_,fun ty=>run_next_at h.it ty hp, ?_, ?_, ?_⟩
 ·obtain ⟨C,h1,h2⟩:=h.row;refine ⟨C, ?_,h2⟩;show (u.heap.setIfInBounds (w.heap.size+1) _)[w.heap.size]? =_;rw [Array.getElem?_setIfInBounds_ne (by omega)];exact h1
 ·show (u.heap.setIfInBounds (w.heap.size+1) _)[w.heap.size+1]? =_;have:w.heap.size+1 < u.heap.size:=(Array.getElem?_eq_some_iff.1 h.it).1;rw [Array.getElem?_setIfInBounds_self_of_lt this]
 ·obtain ⟨a,b,c,d,e⟩:=h.bel;refine ⟨a,b,c, ?_,fun i hi=> ?_⟩
  ·show w.heap.size<=(u.heap.setIfInBounds _ _).size;simp;omega
  ·show (u.heap.setIfInBounds _ _)[i]? =_;rw [Array.getElem?_setIfInBounds_ne (by omega)];exact e i hi
theorem RW.cell {w u:World} {s:ByteArray} {L:List UInt8} {p:Nat} (h:RW w s L p u) {j:Nat} (hj:j < L.length):
  u.cell? ⟨w.heap.size,j,none⟩=some (.int .u8 (L[j].toNat:Nat))/\u.frozen? ⟨w.heap.size,j,none⟩=false:=by
 obtain⟨C,h1,h2⟩:=h.row;have hc:j < C.size:=(Array.getElem?_eq_some_iff.1 (h2 j hj)).1;constructor
 ·rw [cell_of_row u _ _ C 5 _ h1];exact h2 j hj
 ·simp [World.frozen?,h1];omega
theorem RW.store {w u:World} {s:ByteArray} {L:List UInt8} {p:Nat} (h:RW w s L p u) {j:Nat} (hj:j < L.length) (x:UInt8):
  RW w s (L.set j x) p (u.setCell ⟨w.heap.size,j,none⟩ (.int .u8 (x.toNat:Nat))):=by
 obtain⟨C,h1,h2⟩:=h.row;have hc:j < C.size:=(Array.getElem?_eq_some_iff.1 (h2 j hj)).1;refine ⟨⟨C.setIfInBounds j (.int .u8 (x.toNat:Nat)), ?_,fun i hi=> ?_⟩, ?_,h.bel.setCell (Nat.le_refl _) _⟩
 ·simp [World.setCell,Array.getElem?_modify,h1]
 ·rw [List.length_set] at hi;rw [Array.getElem?_setIfInBounds,List.getElem_set];by_cases e:j=i
  ·subst e;simp [hc]
  ·simp [e,h2 i hi]
 ·have:w.heap.size ≠ w.heap.size+1:=by omega
  simp [World.setCell,Array.getElem?_modify,h.it]
theorem RW.begin {w:World} {s:ByteArray} {cap:Nat}:RW w s s.data.toList 0 ((w.drew.alloc (.cells (bytesRow s cap) 5 ((bytesRow s cap).size,(bytesRow s cap).size+1))).iter s 0):=by
 refine ⟨⟨bytesRow s cap, ?_,fun j hj=> ?_⟩, ?_, ?_⟩
 ·show ((w.drew.alloc (.cells (bytesRow s cap) 5 _)).alloc (.stringIter s 0)).heap[w.heap.size]? =_;rw [Below.heap_alloc _ _ _ (by simp)];exact heap_alloc_new w.drew _
 ·have:=bytesRow_at s cap j (by simpa using hj);rw [this];simp
 ·have:=World.iter_heap (w.drew.alloc (.cells (bytesRow s cap) 5 ((bytesRow s cap).size,(bytesRow s cap).size+1))) s 0;simpa using this
 ·exact ((((Below.refl _ _).drew).alloc (Nat.le_refl _) _).alloc (by simp) _)
theorem RW.conv {w u:World} {s:ByteArray} {L:List UInt8} {p cap:Nat} (h:RW w s L p u):
  (convert 96 9 (.slice (some ⟨w.heap.size,0,none⟩) L.length cap)).run Tryz.prog u=.ok (.string ⟨L.toArray⟩) u:=
 run_convert_bytes_back u 96 9 5 _ cap L Tryz.underlying96 Tryz.underlying5 Tryz.underlying9 fun j hj=>by
  have hp:(⟨w.heap.size,0,none⟩:Addr).add j=⟨w.heap.size,j,none⟩:=by unfold Addr.add;split <;> simp_all
  rw [hp];exact(h.cell hj).1
theorem RW.pos {w u:World} {s:ByteArray} {L:List UInt8} {p:Nat} (h:RW w s L p u):u.iterPos (w.heap.size+1)=p:=by simp [World.iterPos,h.it]
theorem aH3 (a b:Nat) (c:UInt8) (h:a<=c.toNat/\c.toNat<=a+25) (hb:b<=200):(((szB a b c).toNat:Nat):Int)=(c.toNat:Int) - a+b:=by
 unfold szB;rw [if_pos h];have:(UInt8.ofNat (c.toNat - a+b)).toNat=c.toNat - a+b:=by simp;omega
 rw [this];omega
theorem aEW (a b:Nat) (c:UInt8) (h:¬(a<=c.toNat/\c.toNat<=a+25)):szB a b c=c:=by unfold szB;rw [if_neg h]
theorem aDE (s:ByteArray) (hs:s.size<=9223372036854775807) (w:World):Calls Tryz.prog 255 #[.string s,.int .i32 97,.int .i32 65] w fun e w'=>e=.returned (.string ⟨(szF 97 65 s.data.toList).toArray⟩)/\Below w.heap.size w w':=by
 have hlen:s.data.toList.length=s.size:=by simp
 have HL:Hid (∀p,(szP 97 65 s.data.toList p).length=s.size):=fun p=>by rw [aAY,hlen]
 have CV:∀W:World,(convert 9 96 (.string s)).run Tryz.prog W=_:=fun W=>run_bytes_of_string W 9 96 5 s Tryz.underlying9 Tryz.underlying96 Tryz.underlying5;go_enter Tryz.func255,Tryz.ntmps255;go_wp2;generalize hcap:grownCap w s.size 0 5=cap;go_loopw [8] (fun i w'=>∃(p:Nat),p<=s.size/\RW w s (szP 97 65 s.data.toList p) p w') (fun _ w'=>s.size - w'.iterPos (w.heap.size+1))
 case atStart=>exact⟨0,Nat.zero_le _,by rw [aB4];exact RW.begin⟩
 case round=>
  clear CV;obtain⟨p,hp,hR⟩:=hrel;have hpos:=hR.pos;by_cases hlt:p < s.size
  ·obtain ⟨u1,hnx,hR1⟩:=hR.next hlt;have hpl:p < s.data.toList.length:=by rw [hlen];exact hlt
   have hgl:s.data.toList[p]=s[p]:=by simp;rfl
   by_cases ha:(s[p]'hlt).toNat < 128
   ·rw [decode_ascii s p hlt ha] at hnx hR1;have aAa:=aB5 97 65 s.data.toList p hpl;rw [hgl] at aAa;generalize hcc:s[p]'hlt=c at *;by_cases hin:97<=c.toNat/\c.toNat<=97+25
    ·have hi1:97<=(c.toNat:Int):=by omega
     have hi2:(c.toNat:Int) < 97+26:=by omega
     have hj:p < (szP 97 65 s.data.toList p).length:=by rw [HL.out];exact hlt
     obtain⟨k1,k2⟩:=hR1.cell hj;have HR2:Hid (RW w s ((szP 97 65 s.data.toList p).set p (szB 97 65 c)) (p+1) (u1.setCell ⟨w.heap.size,p,none⟩ (.int .u8 ((c.toNat:Int) - 97+65)))):=by have:=hR1.store hj (szB 97 65 c);rw [aH3 97 65 c hin (by decide)] at this;exact this
     have HS:Hid _:=aAa;clear aAa hR1 hR;go_wp2;go_roundw
     case rel=>exact⟨p+1,by omega,by rw [HS.out];exact HR2.out⟩
     case measure=> have:=HR2.out.pos;rw [hpos,this];omega
    ·have HR2:Hid (RW w s (szP 97 65 s.data.toList (p+1)) (p+1) u1):=by
      show RW _ _ _ _ _;rw [aAa,aEW _ _ _ hin];have e:(szP 97 65 s.data.toList p).set p c=szP 97 65 s.data.toList p:=by
       apply List.ext_getElem?
       intro i;rw [List.getElem?_set];split
       ·rename_i e;subst e;rw [aDD _ _ _ _ hpl,hgl,if_pos (by rw [HL.out];exact hlt)]
       ·rfl
      rw [e];exact hR1
     clear aAa hR1 hR;have hi:¬97<=(c.toNat:Int)\/(97<=(c.toNat:Int)/\¬(c.toNat:Int) < 97+26):=by omega
     rcases hi with hi | ⟨hi1,hi2⟩;all_goals
      go_wp2;go_roundw
      case rel=>exact⟨p+1,by omega,HR2.out⟩
      case measure=> have:=HR2.out.pos;rw [hpos,this];omega
   ·have dh:=decode_high s p hlt (by omega);have db:=sG s p hlt (by omega);have HR2:Hid (RW w s (szP 97 65 s.data.toList (p+(Utf8.decode s p).2)) (p+(Utf8.decode s p).2) u1):=by
     show RW _ _ _ _ _;rw [aH1]
     ·exact hR1
     ·intro j h1 h2 hj;refine aH2 _ _ _ (by decide) ?_;have:=db.2 (j - p) (by omega);rw [show p+(j - p)=j by omega,aB6 s j hj] at this;exact this
    clear hR1 hR;generalize (Utf8.decode s p).2=d at *;have hr1:∃r:Nat,(Utf8.decode s p).1=r/\128<=r:=⟨_,rfl,dh.1⟩
    obtain⟨r,hr,hr2⟩:=hr1;rw [hr] at hnx;clear hr;have hi1:97<=(r:Int):=by omega
    have hi2:¬(r:Int) < 97+26:=by omega
    have hd1:=dh.2;have hd2:=db.1;clear dh db;go_wp2;go_roundw
    case rel=>exact⟨p+d,hd2,HR2.out⟩
    case measure=> have:=HR2.out.pos;rw [hpos,this];omega
  ·have hnx:∀ty,(Instr.next (.pointer (some ⟨w.heap.size+1,0,none⟩)) true ty).run Tryz.prog wr=.ok (.tuple #[.bool false]) wr:=fun ty=>qE hR.it ty hlt;have CB:=hR.conv (cap:=cap)
   rw [HL.out,aEV _ _ _ _ (by rw [hlen];omega)] at CB;have HB:Hid _:=hR.bel;clear hR;go_wp2;go_ret;exact⟨rfl,HB.out⟩
theorem aDF (s:ByteArray) (hs:s.size<=9223372036854775807) (w:World):CR 214 #[.string s] w (.string ⟨(szF 97 65 s.data.toList).toArray⟩):=by
 have R:=fun u=>aDE s hs u;generalize szF 97 65 s.data.toList=X at *;go_enter Tryz.func214,Tryz.ntmps214;go_wp2_with (go_at_call 255;refine (R _).mono ?_;rintro e w1 ⟨rfl,hb⟩;have HB:Hid _:=hb;clear hb)
 go_ret;exact⟨rfl,HB.out⟩
structure RX (w:World) (L:List UInt8) (u:World):Prop where
 row:∃C:Array Value,u.heap[w.heap.size]? =some (.cells C 5 (C.size,C.size+1))/\∀j (h:j < L.length),C[j]? =some (.int .u8 (L[j].toNat:Nat))
 bel:Below w.heap.size w u
theorem RX.cell {w u:World} {L:List UInt8} (h:RX w L u) {j:Nat} (hj:j < L.length):
  u.cell? ⟨w.heap.size,j,none⟩=some (.int .u8 (L[j].toNat:Nat))/\u.frozen? ⟨w.heap.size,j,none⟩=false:=by
 obtain⟨C,h1,h2⟩:=h.row;have hc:j < C.size:=(Array.getElem?_eq_some_iff.1 (h2 j hj)).1;constructor
 ·rw [cell_of_row u _ _ C 5 _ h1];exact h2 j hj
 ·simp [World.frozen?,h1];omega
theorem RX.store {w u:World} {L:List UInt8} (h:RX w L u) {j:Nat} (hj:j < L.length) (x:UInt8):
  RX w (L.set j x) (u.setCell ⟨w.heap.size,j,none⟩ (.int .u8 (x.toNat:Nat))):=by
 obtain⟨C,h1,h2⟩:=h.row;have hc:j < C.size:=(Array.getElem?_eq_some_iff.1 (h2 j hj)).1;refine ⟨⟨C.setIfInBounds j (.int .u8 (x.toNat:Nat)), ?_,fun i hi=> ?_⟩,h.bel.setCell (Nat.le_refl _) _⟩
 ·simp [World.setCell,Array.getElem?_modify,h1]
 ·rw [List.length_set] at hi;rw [Array.getElem?_setIfInBounds,List.getElem_set];by_cases e:j=i
  ·subst e;simp [hc]
  ·simp [e,h2 i hi]
theorem RX.begin {w:World} {s:ByteArray} {cap:Nat}:RX w s.data.toList (w.drew.alloc (.cells (bytesRow s cap) 5 ((bytesRow s cap).size,(bytesRow s cap).size+1))):=by refine ⟨⟨bytesRow s cap,heap_alloc_new w.drew _,fun j hj=> ?_⟩,((Below.refl _ _).drew).alloc (Nat.le_refl _) _⟩;have:=bytesRow_at s cap j (by simpa using hj);rw [this];simp
theorem RX.conv {w u:World} {L:List UInt8} {cap:Nat} (h:RX w L u):
  (convert 96 9 (.slice (some ⟨w.heap.size,0,none⟩) L.length cap)).run Tryz.prog u=.ok (.string ⟨L.toArray⟩) u:=
 run_convert_bytes_back u 96 9 5 _ cap L Tryz.underlying96 Tryz.underlying5 Tryz.underlying9 fun j hj=>by
  have hp:(⟨w.heap.size,0,none⟩:Addr).add j=⟨w.heap.size,j,none⟩:=by unfold Addr.add;split <;> simp_all
  rw [hp];exact(h.cell hj).1
theorem aAZ (s:ByteArray) (hs:s.size<=9223372036854775807) (w:World):Calls Tryz.prog 142 #[.string s] w fun e w'=>e=.returned (.string ⟨(szF 97 65 s.data.toList).toArray⟩)/\Below w.heap.size w w':=by
 have hlen:s.data.toList.length=s.size:=by simp
 have HL:Hid (∀p,(szP 97 65 s.data.toList p).length=s.size):=fun p=>by rw [aAY,hlen]
 have CV:∀W:World,(convert 9 96 (.string s)).run Tryz.prog W=_:=fun W=>run_bytes_of_string W 9 96 5 s Tryz.underlying9 Tryz.underlying96 Tryz.underlying5;go_enter Tryz.func142,Tryz.ntmps142;go_wp2;generalize hcap:grownCap w s.size 0 5=cap;go_loopw [10] (fun i w'=>∃(p:Nat),p<=s.size/\i=.int .i64 p/\RX w (szP 97 65 s.data.toList p) w') (fun i _=>s.size - (intOf i).toNat)
 case atStart=>exact⟨0,Nat.zero_le _,rfl,by rw [aB4];exact RX.begin⟩
 case round=>
  clear CV;obtain⟨p,hp,rfl,hR⟩:=hrel;by_cases hlt:p < s.size
  ·have hpl:p < s.data.toList.length:=by rw [hlen];exact hlt
   have hj:p < (szP 97 65 s.data.toList p).length:=by rw [HL.out];exact hlt
   obtain⟨k1,k2⟩:=hR.cell hj;have aAa:=aB5 97 65 s.data.toList p hpl;have hat:(szP 97 65 s.data.toList p)[p]=s.data.toList[p]:=Option.some.inj ((List.getElem?_eq_getElem hj).symm.trans (aDD 97 65 s.data.toList p hpl));rw [hat] at k1;generalize hcc:s.data.toList[p]=c at *;by_cases hin:97<=c.toNat/\c.toNat<=97+25
   ·have hi1:97<=(c.toNat:Int):=by omega
    have hi2:(c.toNat:Int)<=97+25:=by omega
    have HR2:Hid (RX w ((szP 97 65 s.data.toList p).set p (szB 97 65 c)) (wr.setCell ⟨w.heap.size,p,none⟩ (.int .u8 ((c.toNat:Int) - 32)))):=by have:=hR.store hj (szB 97 65 c);rw [aH3 97 65 c hin (by decide),show (c.toNat:Int) - (97:Nat)+(65:Nat)=(c.toNat:Int) - 32 by omega] at this;exact this
    have HS:Hid _:=aAa;clear aAa hR hat;go_wp2;go_roundw
    case rel=>exact⟨p+1,by omega,by go_num,by rw [HS.out];exact HR2.out⟩
    case measure=>simp [intOf];omega
   ·have HR2:Hid (RX w (szP 97 65 s.data.toList (p+1)) wr):=by
     show RX _ _ _;rw [aAa,aEW _ _ _ hin];have e:(szP 97 65 s.data.toList p).set p c=szP 97 65 s.data.toList p:=by
      apply List.ext_getElem?
      intro i;rw [List.getElem?_set];split
      ·rename_i e;subst e;rw [aDD _ _ _ _ hpl,hcc];try rw [if_pos (by rw [HL.out];exact hlt)]
      ·rfl
     rw [e];exact hR
    clear aAa hR hat;have hi:¬97<=(c.toNat:Int)\/(97<=(c.toNat:Int)/\¬(c.toNat:Int)<=97+25):=by omega
    rcases hi with hi | ⟨hi1,hi2⟩;all_goals
     go_wp2;go_roundw
     case rel=>exact⟨p+1,by omega,by go_num,HR2.out⟩
     case measure=>simp [intOf];omega
  ·have CB:=hR.conv (cap:=cap)
   rw [HL.out,aEV _ _ _ _ (by rw [hlen];omega)] at CB;have HB:Hid _:=hR.bel;clear hR;go_wp2;go_ret;exact⟨rfl,HB.out⟩
def aFZ (X:List UInt8):Bool × Bool:=if X=[84,82,85,69] then (true,true) else if X=[70,65,76,83,69] then (false,true) else (false,false)
def qN (X:List UInt8):Int:=if X=[84,82,85,69] then 1 else if X=[70,65,76,83,69] then 0 else -1
def jR (s:ByteArray):Bool × Bool:=aFZ (szF 97 65 s.data.toList)
theorem mF (X:List UInt8):(X=[84,82,85,69]/\aFZ X=(true,true)/\qN X=1)\/(X=[70,65,76,83,69]/\aFZ X=(false,true)/\qN X=0)\/((X==[84,82,85,69])=false/\(X==[70,65,76,83,69])=false/\aFZ X=(false,false)/\qN X= -1):=by
 by_cases h:X=[84,82,85,69]
 ·subst h;left;exact⟨rfl,rfl,rfl⟩
 ·by_cases g:X=[70,65,76,83,69]
  ·subst g;right;left;exact⟨rfl,rfl,rfl⟩
  ·right;right;simp [aFZ,qN,h,g]
theorem aDG (s:ByteArray) (hs:s.size<=9223372036854775807) (w:World):CR 205 #[.string s] w (.tuple #[.bool (jR s).1,.bool (jR s).2]):=by
 have R:=fun u=>aDF s hs u;unfold jR;generalize szF 97 65 s.data.toList=X at *;rcases mF X with ⟨rfl,h,_⟩ | ⟨rfl,h,_⟩ | ⟨h1,h2,h,_⟩;all_goals
  rw [h];go_enter Tryz.func205,Tryz.ntmps205;go_wp2_with (go_at_call 214;refine (R _).mono ?_;rintro e w1 ⟨rfl,hb⟩;have HB:Hid _:=hb;clear hb)
  go_ret2;exact⟨rfl,HB.out⟩
theorem qO (s:ByteArray) (hs:s.size<=9223372036854775807) (w:World):CR 92 #[.string s] w (.int .i64 (qN (szF 97 65 s.data.toList))):=by
 have R:=fun u=>aAZ s hs u;generalize szF 97 65 s.data.toList=X at *;rcases mF X with ⟨rfl,_,h⟩ | ⟨rfl,_,h⟩ | ⟨h1,h2,_,h⟩;all_goals
  rw [h];go_enter Tryz.func92,Tryz.ntmps92;go_wp2_with (go_at_call 142;refine (R _).mono ?_;rintro e w1 ⟨rfl,hb⟩;have HB:Hid _:=hb;clear hb)
  go_ret;exact⟨rfl,HB.out⟩
theorem uM (s:ByteArray) (w:World):CR 202 #[.string s] w (.agg #[.int .i64 2,.int .i64 0,.string s]):=by go_enter Tryz.func202,Tryz.ntmps202;go_wp2;exact bodyPost_ret (v:=.agg #[.int .i64 2,.int .i64 0,.string s]) (by simp [results,Tryz.results202,go_sem]) rfl ⟨rfl,(Below.refl _ _).alloc (Nat.le_refl _) _⟩
theorem aDH (b:Bool) (w:World):CR 206 #[.bool b] w (.agg #[.int .i64 3,.int .i64 (if b=true then 1 else 0),.string ⟨#[]⟩]):=by
 cases b
 all_goals
  go_enter Tryz.func206,Tryz.ntmps206;go_wp2_with (go_at_call 253;refine mw (aDA _ _) ?_)
 ·exact bodyPost_ret (v:=.agg #[.int .i64 3,.int .i64 0,.string ⟨#[]⟩]) (by simp [results,Tryz.results206,go_sem]) rfl ⟨rfl,(Below.refl _ _).alloc (Nat.le_refl _) _⟩
 ·exact bodyPost_ret (v:=.agg #[.int .i64 3,.int .i64 1,.string ⟨#[]⟩]) (by simp [results,Tryz.results206,go_sem]) rfl ⟨rfl,(Below.refl _ _).alloc (Nat.le_refl _) _⟩
def xQ (n:Int):Int:=if knB n=true then n else 2
theorem sH (n:Int) (w:World):CR 208 #[.int .i64 n] w (.agg #[.int .i64 4,.int .i64 (xQ n),.string ⟨#[]⟩]):=by
 have K:=fun u=>kK n u;cases hk:knB n
 all_goals
  rw [hk] at K
 ·have e:xQ n=2:=by simp [xQ,hk]
  rw [e];go_enter Tryz.func208,Tryz.ntmps208;go_wp2_with (go_at_call 254;refine mw (K _) ?_)
  exact bodyPost_ret (v:=.agg #[.int .i64 4,.int .i64 2,.string ⟨#[]⟩]) (by simp [results,Tryz.results208,go_sem]) rfl ⟨rfl,(Below.refl _ _).alloc (Nat.le_refl _) _⟩
 ·have e:xQ n=n:=by simp [xQ,hk]
  rw [e];go_enter Tryz.func208,Tryz.ntmps208;go_wp2_with (go_at_call 254;refine mw (K _) ?_)
  exact bodyPost_ret (v:=.agg #[.int .i64 4,.int .i64 n,.string ⟨#[]⟩]) (by simp [results,Tryz.results208,go_sem]) rfl ⟨rfl,(Below.refl _ _).alloc (Nat.le_refl _) _⟩
theorem fD {w w1:World} {a b c:Value} (hb:Below (w.alloc (.cells #[a,b,c] 62)).heap.size (w.alloc (.cells #[a,b,c] 62)) w1):
  (w1.cell? ⟨w.heap.size,0,none⟩=some a/\w1.cell? ⟨w.heap.size,1,none⟩=some b/\w1.cell? ⟨w.heap.size,2,none⟩=some c)/\
  (w1.frozen? ⟨w.heap.size,0,none⟩=false/\w1.frozen? ⟨w.heap.size,1,none⟩=false/\w1.frozen? ⟨w.heap.size,2,none⟩=false):=by
 have h0:w1.heap[w.heap.size]? =some (.cells #[a,b,c] 62 (0,0)):=by rw [hb.block _ (by simp)];exact heap_alloc_new w _
 exact⟨(aKz hb).2,by simp [World.frozen?,h0]⟩
theorem aB7 {w w1:World} {a b c:Value} (h:Below w.heap.size w w1):Below w.heap.size w (((w1.setCell ⟨w.heap.size,0,none⟩ a).setCell ⟨w.heap.size,1,none⟩ b).setCell ⟨w.heap.size,2,none⟩ c):=
 ((h.setCell (Nat.le_refl _) _).setCell (Nat.le_refl _) _).setCell (Nat.le_refl _) _
def ofV (n:Int) (ok:Bool):Value:=if (ok && gd n)=true then .agg #[.int .i64 1,.int .i64 n,.string ⟨#[]⟩] else .agg #[.int .i64 4,.int .i64 5,.string ⟨#[]⟩]
theorem aH4 (n:Int) (ok:Bool) (w:World):CR 204 #[.int .i64 n,.bool ok] w (ofV n ok):=by
 have G:=fun u=>aBT n u;unfold ofV;cases ok <;> cases hg:gd n
 all_goals
  rw [hg] at G;simp only [Bool.and_true,Bool.and_false,Bool.false_eq_true,if_true,if_false];go_enter Tryz.func204,Tryz.ntmps204;go_wp2_with (first|(go_at_call 252;refine mw (G _) ?_) | (go_at_call 208;refine (sH _ _).mono ?_;rintro e w1 ⟨rfl,hb⟩;have HB:Hid (Below w.heap.size w w1):=gU hb;obtain⟨⟨c0,c1,c2⟩,f0,f1,f2⟩:=fD hb;clear hb))
  first
  | exact bodyPost_ret (v:=.agg #[.int .i64 4,.int .i64 5,.string ⟨#[]⟩]) (by simp [results,Tryz.results204,go_sem,c0,c1,c2];rfl) rfl ⟨rfl,aB7 HB.out⟩
  | exact bodyPost_ret (v:=.agg #[.int .i64 1,.int .i64 n,.string ⟨#[]⟩]) (by simp [results,Tryz.results204,go_sem]) rfl ⟨rfl,(Below.refl _ _).alloc (Nat.le_refl _) _⟩
end Go.Proofs.YtlhoklhjbpkgpaaGreatDoor
