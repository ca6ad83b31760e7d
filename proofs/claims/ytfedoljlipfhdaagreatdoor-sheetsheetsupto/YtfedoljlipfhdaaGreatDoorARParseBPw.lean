/- NRParse2, VKind, VFuns, VName, VBad, VUp, VRUp, VTruth, VMake, VTyped, VJoin, AName, AGood, ARName, APrint, ADig, ARCell, ARow, AParse, AParse2, ARParse, ARParseB. -/
import Derived.Laws.IdiomStrings
import Derived.Lib.IndexLaws
import Derived.Test.YtfedoljlipfhdaaGreatDoorNRParsePw
set_option linter.unusedVariables false
set_option linter.unusedSimpArgs false
set_option maxHeartbeats 16000000
set_option maxRecDepth 100000
open Go renaming World->Q,bodyPost_ret->S,Value->α,heap_alloc_new->ν,cell_of_row->Θ,TypeId->Ω
open Bool renaming false->Z,true->J,and_eq_true->δ,eq_iff_iff->Ψ
open Go.Proofs.Tryz renaming prog->H,underlying96->μ,underlying9->ξ,underlying5->ο
open Go.Instr renaming typeAssert->B,index->ι
open Go.RowKit renaming Below->M,Hid->I
open Go.RowKit.Below renaming refl->E,heap_alloc->Φ
open Nat renaming le_refl->O,zero_le->ψ
open Go.Lib renaming decDigits->y,indexByte->υ
open List renaming getElem?_eq_getElem->β,take_of_length_le->ζ,getElem?_eq_none->π,ext_getElem?->τ,eq_nil_of_length_eq_zero->χ,replicate->ω,getElem_mem->Ξ
open Array renaming getElem?_modify->γ,getElem?_setIfInBounds_ne->φ
open Go.ByteArray renaming toList_eq->ε
open Go.Utf8 renaming decode->η
open UInt8 renaming ofNat->θ
open Go.World renaming setCell->κ,block_lt_of_cell?->σ,frozen?->Γ
open ByteArray renaming empty->ρ,ext->Δ
namespace Go.Proofs.YtfedoljlipfhdaaGreatDoor
open Go.RowKit
theorem aMW (bl:List UInt8) (h:uE bl=J):∃p,∃hp:p < bl.length,bl[p]=46/\(∀k (hk:k < p),bl[k]'(Nat.lt_trans hk hp) ≠ 46)/\kH bl=bl.take p/\gI bl=bl.drop (p+1):=by
 have hge:=Lib.indexByte_ge bl 46;by_cases hi:υ bl 46= -1
 ·have:=((qI bl).1 hi).2.2;rw [h] at this;cases this
 ·obtain ⟨p,hp⟩:∃p:Nat,υ bl 46=p:=⟨(υ bl 46).toNat,by omega⟩
  obtain⟨h1,h2⟩:=Lib.indexByte_some hp;obtain⟨e1,e2,_⟩:=(qI bl).2 p hp;have hlt:p < bl.length:=by
   rcases Nat.lt_or_ge p bl.length with g | g
   ·exact g
   ·rw [π g] at h1;cases h1
  refine ⟨p,hlt, ?_,fun k hk e=> ?_,e1,e2⟩
  ·rw [β hlt] at h1;exact Option.some.inj h1
  ·refine h2 k hk ?_;rw [β (Nat.lt_trans hk hlt),e]
theorem aN5 (bl:List UInt8) (h:uE bl=Z):(∀k (hk:k < bl.length),bl[k] ≠ 46)/\kH bl=bl:=by
 have hge:=Lib.indexByte_ge bl 46;by_cases hi:υ bl 46= -1
 ·refine ⟨fun k hk e=> ?_,((qI bl).1 hi).1⟩;refine Lib.indexByte_none hi k ?_;rw [β hk,e]
 ·have:=((qI bl).2 (υ bl 46).toNat (by omega)).2.2;rw [h] at this;cases this
theorem wX (l:List UInt8) (k:Nat) (h:k < l.length) (h2:k < (⟨l.toArray⟩:ByteArray).size):(⟨l.toArray⟩:ByteArray)[k]=l[k]:=by rw [byte_at _ k h2 (by simpa using h)]
theorem aDK (b c:UInt8) (h:b ≠ c):(((b.toNat:Nat):Int)==((c.toNat:Nat):Int))=Z:=by rw [beq_eq_false_iff_ne];intro e;apply h;apply UInt8.toNat_inj.1;omega
theorem wY (F R:List UInt8) (hF:F.all isD=J/\1<=F.length/\F.length<=12) (hR:R.all isD=J/\R.length<=4):
  (∀t:ByteArray,t.size=4->(∃j,t=⟨(R++ω j 48).toArray⟩)->((⟨F.toArray⟩:ByteArray)++t).size<=16/\((⟨F.toArray⟩:ByteArray)++t).data.toList.all isD=J/\dJ ((⟨F.toArray⟩:ByteArray)++t).data.toList=dJ F * 10000+dJ R * 10 ^ (4 - R.length))/\
   dJ F * 10000+dJ R * 10 ^ (4 - R.length) < 10000000000000000:=by
 constructor
 ·rintro t ht ⟨j,rfl⟩;rw [size_mk] at ht;simp at ht;have hj:j=4 - R.length:=by omega
  rw [nO,size_mk];refine ⟨by simp;omega, ?_, ?_⟩
  ·show (F++(R++ω j 48)).all isD=J;rw [List.all_append,List.all_append,hF.1,hR.1,aFa];rfl
  ·show dJ (F++(R++ω j 48))=_;rw [iM,aKU,hj];simp;rw [show R.length+(4 - R.length)=4 by omega]
 ·have h1:=uG F 12 hF.1 hF.2.2;have h2:=kY R hR.1;have h3:(dJ R+1) * 10 ^ (4 - R.length)<=10 ^ R.length * 10 ^ (4 - R.length):=Nat.mul_le_mul_right _ (by omega);rw [<-Nat.pow_add,show R.length+(4 - R.length)=4 by omega,Nat.add_mul] at h3;have h4:1<=10 ^ (4 - R.length):=Nat.one_le_pow _ _ (by decide);omega
theorem rg (l:List UInt8) (m:Nat) (hm:m<=12) (hl:l.length<=9223372036854775807) {r:Bool} (hr:jP l 1 m=r) (u:Q):
  CW 238 #[.string ⟨l.toArray⟩,.int .i64 1,.int .i64 m] u (.bool r):=by
 have:=aCd ⟨l.toArray⟩ m hm u (by rw [size_mk];exact hl);rw [<-hr];exact this
theorem aDL (l:List UInt8) (w:Q) (hl:l.length<=9223372036854775807):
  Calls H 198 #[.string ⟨l.toArray⟩] w fun e w'=>e=.returned (two (cK l))/\M w.heap.size w w':=by
 have hbl:=rT l;have hs:(⟨l.toArray⟩:ByteArray).size<=9223372036854775807:=by rw [size_mk];exact hl
 have hs1:(⟨(body l).toArray⟩:ByteArray).size<=9223372036854775807:=by rw [size_mk];omega
 have hfl:=aE8 (body l);have hsl:=aE9 (body l);have aHR:(dash l=J/\∃h1:0 < (⟨l.toArray⟩:ByteArray).size,(((((⟨l.toArray⟩:ByteArray)[0]'h1).toNat:Nat):Int)==45)=J/\(⟨l.toArray⟩:ByteArray).extract 1 (⟨l.toArray⟩:ByteArray).size=⟨(body l).toArray⟩)\/
   (dash l=Z/\body l=l/\((⟨(body l).toArray⟩:ByteArray).size=0\/∃h1:0 < (⟨(body l).toArray⟩:ByteArray).size,(((((⟨(body l).toArray⟩:ByteArray)[0]'h1).toNat:Nat):Int)==45)=Z)):=by
  cases hd:dash l
  ·right;have hb:body l=l:=by unfold body;rw [hd];rfl
   refine ⟨rfl,hb, ?_⟩;rw [hb];cases l with
   | nil=>left;rfl
   | cons b l=>
    right;refine ⟨by rw [size_mk];simp, ?_⟩;rw [wX (b:: l) 0 (by simp)];refine aDK b 45 fun e=> ?_;subst e;cases hd
  ·left;have hb:body l=l.drop 1:=by unfold body;rw [hd];rfl
   refine ⟨rfl, ?_⟩;rw [hb,drop_mk];cases l with
   | nil=>cases hd
   | cons b l=>
    refine ⟨by rw [size_mk];simp, ?_,rfl⟩;rw [wX (b:: l) 0 (by simp)];have:b=45:=by unfold dash at hd;simpa using hd
    subst this;rfl
 unfold cK aHB;have e1:∀(V:Nat),aB4 (V:Int) J= -(V:Int):=fun _=>rfl;have e0:∀(V:Nat),aB4 (V:Int) Z=(V:Int):=fun _=>rfl;cases hp:uE (body l)
 ·obtain ⟨hno,aMX⟩:=aN5 (body l) hp;have hno':I (∀k (h:k < (⟨(body l).toArray⟩:ByteArray).size),(((((⟨(body l).toArray⟩:ByteArray)[k]'h).toNat:Nat):Int)==46)=Z):=fun k h=>by
   have hk:k < (body l).length:=by rw [size_mk] at h;exact h
   rw [wX (body l) k hk h];exact aDK _ 46 (hno k hk)
  rw [aMX];cases h1:jP (body l) 1 12
  ·rw [if_neg (by simp)];have G1:=fun u=>rg (body l) 12 (by decide) (by omega) h1 u;rcases aHR with ⟨hd,hq,hb,he⟩ | ⟨hd,hb,h0 | ⟨hq,hb1⟩⟩
   ·exact aHM (A2:=⟨#[]⟩) (A3:=⟨#[]⟩) hs hs1 hq hb he G1 hno'
   ·conv=>arg 3;rw [<-hb]
    exact aHG (A2:=⟨#[]⟩) (A3:=⟨#[]⟩) hs hs1 h0 G1 hno'
   ·conv=>arg 3;rw [<-hb]
    exact aHH (A2:=⟨#[]⟩) (A3:=⟨#[]⟩) hs hs1 hq hb1 G1 hno'
  ·rw [if_pos ⟨rfl,fun h=>by cases h⟩,if_neg (by decide)];have hd1:=(lZ _ _ _).1 h1;have G1:=fun u=>rg (body l) 12 (by decide) (by omega) h1 u;have ff:=wY (body l) [] hd1 ⟨rfl,by simp⟩;have ez:dJ ([]:List UInt8) * 10 ^ (4 - ([]:List UInt8).length)=0:=rfl;rw [ez] at ff;rcases aHR with ⟨hd,hq,hb,he⟩ | ⟨hd,hb,h0 | ⟨hq,hb1⟩⟩
   ·rw [hd,e1];exact aHN (A2:=⟨#[]⟩) (A3:=⟨#[]⟩) hs hs1 hq hb he G1 hno' [] _ (by rw [size_mk];exact hd1.2) (by decide) rfl ff.1 ff.2
   ·rw [size_mk] at h0;omega
   ·rw [hd,e0]
    conv=>arg 3;rw [<-hb]
    exact aHI (A2:=⟨#[]⟩) (A3:=⟨#[]⟩) hs hs1 hq hb1 G1 hno' [] _ (by rw [size_mk];exact hd1.2) (by decide) rfl ff.1 ff.2
 ·obtain ⟨p,hpl,hpt,hno,aMX,aO2⟩:=aMW (body l) hp;have hps:p < (⟨(body l).toArray⟩:ByteArray).size:=by rw [size_mk];exact hpl
  have aF8:(((((⟨(body l).toArray⟩:ByteArray)[p]'hps).toNat:Nat):Int)==46)=J:=by rw [wX (body l) p hpl hps,hpt];rfl
  have hno':I (∀k (h:k < p),(((((⟨(body l).toArray⟩:ByteArray)[k]'(Nat.lt_trans h hps)).toNat:Nat):Int)==46)=Z):=fun k h=>by rw [wX (body l) k (Nat.lt_trans h hpl)];exact aDK _ 46 (hno k h)
  have hA2:(⟨(body l).toArray⟩:ByteArray).extract 0 p=⟨(kH (body l)).toArray⟩:=by rw [<-lC ((⟨(body l).toArray⟩:ByteArray).extract 0 p),(ext_list _ p (by omega)).1,aMX]
  have hA3:(⟨(body l).toArray⟩:ByteArray).extract (p+1) (⟨(body l).toArray⟩:ByteArray).size=⟨(gI (body l)).toArray⟩:=by rw [aO2];apply Δ;rw [size_mk,ByteArray.data_extract];simp;exact ζ (by simp)
  cases h1:jP (kH (body l)) 1 12
  ·rw [if_neg (by simp)];have G1:=fun u=>rg (kH (body l)) 12 (by decide) (by omega) h1 u;rcases aHR with ⟨hd,hq,hb,he⟩ | ⟨hd,hb,h0 | ⟨hq,hb1⟩⟩
   ·exact aHO hs hs1 hq hb he G1 p hps aF8 hno' hA2 hA3
   ·rw [size_mk] at h0;omega
   ·conv=>arg 3;rw [<-hb]
    exact aHJ hs hs1 hq hb1 G1 p hps aF8 hno' hA2 hA3
  ·have hd1:=(lZ _ _ _).1 h1;have G1:=fun u=>rg (kH (body l)) 12 (by decide) (by omega) h1 u;cases h2:jP (gI (body l)) 1 4
   ·rw [if_neg (by simp)];have G2:=fun u=>rg (gI (body l)) 4 (by decide) (by omega) h2 u;rcases aHR with ⟨hd,hq,hb,he⟩ | ⟨hd,hb,h0 | ⟨hq,hb1⟩⟩
    ·exact aHP hs hs1 hq hb he G1 p hps aF8 hno' hA2 hA3 G2
    ·rw [size_mk] at h0;omega
    ·conv=>arg 3;rw [<-hb]
     exact aHK hs hs1 hq hb1 G1 p hps aF8 hno' hA2 hA3 G2
   ·rw [if_pos ⟨rfl,fun _=>rfl⟩,if_pos rfl];have hd2:=(lZ _ _ _).1 h2;have G2:=fun u=>rg (gI (body l)) 4 (by decide) (by omega) h2 u;have ff:=wY (kH (body l)) (gI (body l)) hd1 ⟨hd2.1,hd2.2.2⟩;rcases aHR with ⟨hd,hq,hb,he⟩ | ⟨hd,hb,h0 | ⟨hq,hb1⟩⟩
    ·rw [hd,e1];exact aHQ hs hs1 hq hb he G1 p hps aF8 hno' hA2 hA3 G2 (gI (body l)) _ (by rw [size_mk];exact hd1.2) (by rw [size_mk];exact hd2.2.2) rfl ff.1 ff.2
    ·rw [size_mk] at h0;omega
    ·rw [hd,e0]
     conv=>arg 3;rw [<-hb]
     exact aHL hs hs1 hq hb1 G1 p hps aF8 hno' hA2 hA3 G2 (gI (body l)) _ (by rw [size_mk];exact hd1.2) (by rw [size_mk];exact hd2.2.2) rfl ff.1 ff.2
theorem aDM (n:Int) (s:ByteArray) (w:Q):CR 216 #[.agg #[.int .i64 0,.int .i64 n,.string s]] w (.iface 248 (.agg #[])):=by go_enter Tryz.func216,Tryz.ntmps216;go_wp2;go_ret;exact⟨rfl,(E _ _).alloc (O _) _⟩
theorem aHS (n:Int) (s:ByteArray) (w:Q):CR 216 #[.agg #[.int .i64 1,.int .i64 n,.string s]] w (.iface 226 (.int .i64 n)):=by go_enter Tryz.func216,Tryz.ntmps216;go_wp2;go_ret;exact⟨rfl,(E _ _).alloc (O _) _⟩
theorem aHT (n:Int) (s:ByteArray) (w:Q):CR 216 #[.agg #[.int .i64 2,.int .i64 n,.string s]] w (.iface 227 (.string s)):=by go_enter Tryz.func216,Tryz.ntmps216;go_wp2;go_ret;exact⟨rfl,(E _ _).alloc (O _) _⟩
theorem aF9 (n:Int) (s:ByteArray) (w:Q):CR 216 #[.agg #[.int .i64 3,.int .i64 n,.string s]] w (.iface 213 (.bool (n !=0))):=by go_enter Tryz.func216,Tryz.ntmps216;go_wp2;go_ret;exact⟨rfl,(E _ _).alloc (O _) _⟩
theorem aHU (n:Int) (s:ByteArray) (w:Q):CR 216 #[.agg #[.int .i64 4,.int .i64 n,.string s]] w (.iface 217 (.int .i64 n)):=by go_enter Tryz.func216,Tryz.ntmps216;go_wp2;go_ret;exact⟨rfl,(E _ _).alloc (O _) _⟩
theorem aGa (k n:Int) (s:ByteArray) (w:Q) (h0:(k==0)=Z) (h1:(k==1)=Z) (h2:(k==2)=Z) (h3:(k==3)=Z) (h4:(k==4)=Z):CR 216 #[.agg #[.int .i64 k,.int .i64 n,.string s]] w (.iface 250 (.int .i64 n)):=by go_enter Tryz.func216,Tryz.ntmps216;go_wp2;go_ret;exact⟨rfl,(E _ _).alloc (O _) _⟩
theorem aDN (b:Bool) (w:Q):CW 253 #[.bool b] w (.int .i64 (if b=J then 1 else 0)):=by
 cases b
 all_goals
  go_enter Tryz.func253,Tryz.ntmps253;go_wp2;go_ret;exact⟨rfl,rfl⟩
def knB (n:Int):Bool:=decide (1<=n) && decide (n<=8)
theorem kN (n:Int) (w:Q):CW 254 #[.int .i64 n] w (.bool (knB n)):=by go_enter Tryz.func254,Tryz.ntmps254;go_wp2;all_goals (go_ret;rename_i h;refine ⟨?_,rfl⟩;congr 2;simp [knB];try omega)
theorem aHV (W:Q) (v:α):(B (.iface 248 v) 20 226 J).run H W=.ok (.tuple #[.int .i64 0,.bool Z]) W:=by kernel_rfl
theorem aHW (W:Q) (v:α):(B (.iface 248 v) 20 227 J).run H W=.ok (.tuple #[.string ρ,.bool Z]) W:=by kernel_rfl
theorem aHX (W:Q) (v:α):(B (.iface 248 v) 20 213 J).run H W=.ok (.tuple #[.bool Z,.bool Z]) W:=by kernel_rfl
theorem aHY (W:Q) (v:α):(B (.iface 248 v) 20 217 J).run H W=.ok (.tuple #[.int .i64 0,.bool Z]) W:=by kernel_rfl
theorem aHZ (W:Q) (v:α):(B (.iface 226 v) 20 226 J).run H W=.ok (.tuple #[v,.bool J]) W:=by kernel_rfl
theorem aH0 (W:Q) (v:α):(B (.iface 226 v) 20 227 J).run H W=.ok (.tuple #[.string ρ,.bool Z]) W:=by kernel_rfl
theorem aH1 (W:Q) (v:α):(B (.iface 226 v) 20 213 J).run H W=.ok (.tuple #[.bool Z,.bool Z]) W:=by kernel_rfl
theorem aH2 (W:Q) (v:α):(B (.iface 226 v) 20 217 J).run H W=.ok (.tuple #[.int .i64 0,.bool Z]) W:=by kernel_rfl
theorem aH3 (W:Q) (v:α):(B (.iface 227 v) 20 226 J).run H W=.ok (.tuple #[.int .i64 0,.bool Z]) W:=by kernel_rfl
theorem aH4 (W:Q) (v:α):(B (.iface 227 v) 20 227 J).run H W=.ok (.tuple #[v,.bool J]) W:=by kernel_rfl
theorem aH5 (W:Q) (v:α):(B (.iface 227 v) 20 213 J).run H W=.ok (.tuple #[.bool Z,.bool Z]) W:=by kernel_rfl
theorem aH6 (W:Q) (v:α):(B (.iface 227 v) 20 217 J).run H W=.ok (.tuple #[.int .i64 0,.bool Z]) W:=by kernel_rfl
theorem aH7 (W:Q) (v:α):(B (.iface 213 v) 20 226 J).run H W=.ok (.tuple #[.int .i64 0,.bool Z]) W:=by kernel_rfl
theorem aH8 (W:Q) (v:α):(B (.iface 213 v) 20 227 J).run H W=.ok (.tuple #[.string ρ,.bool Z]) W:=by kernel_rfl
theorem aH9 (W:Q) (v:α):(B (.iface 213 v) 20 213 J).run H W=.ok (.tuple #[v,.bool J]) W:=by kernel_rfl
theorem aIa (W:Q) (v:α):(B (.iface 213 v) 20 217 J).run H W=.ok (.tuple #[.int .i64 0,.bool Z]) W:=by kernel_rfl
theorem aIb (W:Q) (v:α):(B (.iface 217 v) 20 226 J).run H W=.ok (.tuple #[.int .i64 0,.bool Z]) W:=by kernel_rfl
theorem aIc (W:Q) (v:α):(B (.iface 217 v) 20 227 J).run H W=.ok (.tuple #[.string ρ,.bool Z]) W:=by kernel_rfl
theorem aId (W:Q) (v:α):(B (.iface 217 v) 20 213 J).run H W=.ok (.tuple #[.bool Z,.bool Z]) W:=by kernel_rfl
theorem aIe (W:Q) (v:α):(B (.iface 217 v) 20 217 J).run H W=.ok (.tuple #[v,.bool J]) W:=by kernel_rfl
theorem aIf (W:Q) (v:α):(B (.iface 250 v) 20 226 J).run H W=.ok (.tuple #[.int .i64 0,.bool Z]) W:=by kernel_rfl
theorem aIg (W:Q) (v:α):(B (.iface 250 v) 20 227 J).run H W=.ok (.tuple #[.string ρ,.bool Z]) W:=by kernel_rfl
theorem aIh (W:Q) (v:α):(B (.iface 250 v) 20 213 J).run H W=.ok (.tuple #[.bool Z,.bool Z]) W:=by kernel_rfl
theorem aIi (W:Q) (v:α):(B (.iface 250 v) 20 217 J).run H W=.ok (.tuple #[.int .i64 0,.bool Z]) W:=by kernel_rfl
theorem aAq {W w1:Q} (hb:M W.heap.size W w1):(∀b o,b < W.heap.size->w1.cell? ⟨b,o,none⟩=W.cell? ⟨b,o,none⟩)/\(∀b o,b < W.heap.size->w1.frozen? ⟨b,o,none⟩=W.frozen? ⟨b,o,none⟩):=
 ⟨fun b o h=>hb.cell (p:=⟨b,o,none⟩) h,fun b o h=>hb.frozen (p:=⟨b,o,none⟩) h⟩
theorem aCe (n:Int) (s:ByteArray) (w:Q):CR 174 #[.agg #[.int .i64 0,.int .i64 n,.string s]] w (.string ⟨#[]⟩):=by
 have aIj:=aHV;have aIk:=aHW;have aIl:=aHX;have aIm:=aHY;go_enter Tryz.func174,Tryz.ntmps174;go_wp2_with (first|(go_at_call 216;refine (aDM _ _ _).mono ?_;rintro e w1 ⟨rfl,hb⟩;have HB:I (M w.heap.size w w1):=iC hb;obtain⟨hc,hf⟩:=aAq hb;have hz:=hb.size;simp at hz;clear hb))
 all_goals (go_ret;exact⟨rfl,HB.out⟩)
theorem aGb (n:Int) (s:ByteArray) (w:Q) (X:ByteArray) (P:∀u:Q,M w.heap.size w u->CR 178 #[.int .i64 n] u (.string X)):CR 174 #[.agg #[.int .i64 1,.int .i64 n,.string s]] w (.string X):=by
 have aIj:=aHZ;have aIk:=aH0;have aIl:=aH1;have aIm:=aH2;go_enter Tryz.func174,Tryz.ntmps174;go_wp2_with (first|(go_at_call 216;refine (aHS _ _ _).mono ?_;rintro e w1 ⟨rfl,hb⟩;have HB:I (M w.heap.size w w1):=iC hb;obtain⟨hc,hf⟩:=aAq hb;have hz:=hb.size;simp at hz;clear hb) | (go_at_call 178;refine (P _ HB.out).mono ?_;rintro e w2 ⟨rfl,hb⟩;have HB2:I (M w.heap.size w w2):=aD HB.out hb;clear hb))
 go_ret;exact⟨rfl,HB2.out⟩
theorem aGc (n:Int) (s:ByteArray) (w:Q):CR 174 #[.agg #[.int .i64 2,.int .i64 n,.string s]] w (.string s):=by
 have aIj:=aH3;have aIk:=aH4;have aIl:=aH5;have aIm:=aH6;go_enter Tryz.func174,Tryz.ntmps174;go_wp2_with (first|(go_at_call 216;refine (aHT _ _ _).mono ?_;rintro e w1 ⟨rfl,hb⟩;have HB:I (M w.heap.size w w1):=iC hb;obtain⟨hc,hf⟩:=aAq hb;have hz:=hb.size;simp at hz;clear hb))
 all_goals (go_ret;exact⟨rfl,HB.out⟩)
theorem aGd (b:Bool) (w:Q):CW 217 #[.bool b] w (.string (if b=J then ⟨#[84,82,85,69]⟩ else ⟨#[70,65,76,83,69]⟩)):=by
 cases b
 all_goals
  go_enter Tryz.func217,Tryz.ntmps217;go_wp2;go_ret;exact⟨rfl,rfl⟩
theorem aDO (n:Int) (s:ByteArray) (w:Q) (b:Bool) (KB:∀u:Q,CR 216 #[.agg #[.int .i64 3,.int .i64 n,.string s]] u (.iface 213 (.bool b))):CR 174 #[.agg #[.int .i64 3,.int .i64 n,.string s]] w (.string (if b=J then ⟨#[84,82,85,69]⟩ else ⟨#[70,65,76,83,69]⟩)):=by
 cases b
 all_goals
  have aIj:=aH7;have aIk:=aH8;have aIl:=aH9;have aIm:=aIa;go_enter Tryz.func174,Tryz.ntmps174;go_wp2_with (first|(go_at_call 216;refine (KB _).mono ?_;rintro e w1 ⟨rfl,hb⟩;have HB:I (M w.heap.size w w1):=iC hb;obtain⟨hc,hf⟩:=aAq hb;have hz:=hb.size;simp at hz;clear hb) | (go_at_call 217;refine mw (aGd _ _) ?_))
  all_goals (go_ret;exact⟨rfl,HB.out⟩)
theorem aGe (n:Int) (s:ByteArray) (w:Q) (X:ByteArray) (P:∀u:Q,M w.heap.size w u->CW 218 #[.int .i64 n] u (.string X)):CR 174 #[.agg #[.int .i64 4,.int .i64 n,.string s]] w (.string X):=by
 have aIj:=aIb;have aIk:=aIc;have aIl:=aId;have aIm:=aIe;go_enter Tryz.func174,Tryz.ntmps174;go_wp2_with (first|(go_at_call 216;refine (aHU _ _ _).mono ?_;rintro e w1 ⟨rfl,hb⟩;have HB:I (M w.heap.size w w1):=iC hb;obtain⟨hc,hf⟩:=aAq hb;have hz:=hb.size;simp at hz;clear hb) | (go_at_call 218;refine mw (P _ HB.out) ?_))
 all_goals (go_ret;exact⟨rfl,HB.out⟩)
theorem aDP (k n:Int) (s:ByteArray) (w:Q) (h0:(k==0)=Z) (h1:(k==1)=Z) (h2:(k==2)=Z) (h3:(k==3)=Z) (h4:(k==4)=Z):CR 174 #[.agg #[.int .i64 k,.int .i64 n,.string s]] w (.string ⟨#[]⟩):=by
 have aIj:=aIf;have aIk:=aIg;have aIl:=aIh;have aIm:=aIi;go_enter Tryz.func174,Tryz.ntmps174;go_wp2_with (first|(go_at_call 216;refine (aGa _ _ _ _ h0 h1 h2 h3 h4).mono ?_;rintro e w1 ⟨rfl,hb⟩;have HB:I (M w.heap.size w w1):=iC hb;obtain⟨hc,hf⟩:=aAq hb;have hz:=hb.size;simp at hz;clear hb))
 all_goals (go_ret;exact⟨rfl,HB.out⟩)
def fnm:Nat->ByteArray
 | 1=>⟨#[35,68,73,86,47,48,33]⟩
 | 2=>⟨#[35,86,65,76,85,69,33]⟩
 | 3=>⟨#[35,82,69,70,33]⟩
 | 4=>⟨#[35,78,65,77,69,63]⟩
 | 5=>⟨#[35,78,85,77,33]⟩
 | 6=>⟨#[35,78,47,65]⟩
 | 7=>⟨#[35,67,89,67,76,69,33]⟩
 | 8=>⟨#[35,76,73,78,75,33]⟩
 | _=>⟨#[]⟩
def fnB (n:Int):ByteArray:=if knB n=J then fnm n.toNat else ⟨#[]⟩
def wZ (w:Q):Prop:=∀i,i < 9->w.cell? ⟨1,i,none⟩=some (.string (fnm i))
theorem wZ.kept {w w':Q} (h:wZ w) (hk:∀i,i < w.heap.size->w'.heap[i]? =w.heap[i]?):wZ w':=fun i hi=>by rw [<-h i hi];exact World.cell?_of_block (hk _ (σ w _ (h i hi)))
theorem wZ.below {w w':Q} (h:wZ w) (hb:M w.heap.size w w'):wZ w':=h.kept hb.block
theorem aMY (n:Int):knB n=J↔n=1\/n=2\/n=3\/n=4\/n=5\/n=6\/n=7\/n=8:=by simp [knB];omega
theorem uI (n:Int) (w:Q) (T:wZ w):CW 218 #[.int .i64 n] w (.string (fnB n)):=by
 cases hk:knB n
 ·have e:fnB n=⟨#[]⟩:=by simp [fnB,hk]
  rw [e];have K:=fun u=>kN n u;rw [hk] at K;go_enter Tryz.func218,Tryz.ntmps218;go_wp2_with (go_at_call 254;refine mw (K _) ?_)
  go_ret;exact⟨rfl,rfl⟩
 ·have K:=fun u=>kN n u;rw [hk] at K;have e:fnB n=fnm n.toNat:=by simp [fnB,hk]
  rw [e];have h1:=T 1 (by decide);have h2:=T 2 (by decide);have h3:=T 3 (by decide);have h4:=T 4 (by decide);have h5:=T 5 (by decide);have h6:=T 6 (by decide);have h7:=T 7 (by decide);have h8:=T 8 (by decide);clear T e;rw [aMY] at hk;rcases hk with rfl | rfl | rfl | rfl | rfl | rfl | rfl | rfl;all_goals
   go_enter Tryz.func218,Tryz.ntmps218;go_wp2_with (go_at_call 254;refine mw (K _) ?_)
   go_ret;exact⟨rfl,rfl⟩
def iT:Array α:=#[.string (fnm 0),.string (fnm 1),.string (fnm 2),.string (fnm 3),.string (fnm 4),.string (fnm 5),.string (fnm 6),.string (fnm 7),.string (fnm 8)]
theorem aGf (w:Q):CR 183 #[] w (.agg iT):=by go_enter Tryz.func183,Tryz.ntmps183;go_wp2;exact S (v:=.agg iT) (by simp [results,Tryz.results183,go_sem];rfl) rfl ⟨rfl,(E _ _).alloc (O _) _⟩
theorem aKV {w w1:Q} {a b c:α} (hb:M (w.alloc (.cells #[a,b,c] 62)).heap.size (w.alloc (.cells #[a,b,c] 62)) w1):
  (∀o,(w1.alloc o).cell? ⟨w.heap.size,0,none⟩=some a/\(w1.alloc o).cell? ⟨w.heap.size,1,none⟩=some b/\(w1.alloc o).cell? ⟨w.heap.size,2,none⟩=some c)
   /\(w1.cell? ⟨w.heap.size,0,none⟩=some a/\w1.cell? ⟨w.heap.size,1,none⟩=some b/\w1.cell? ⟨w.heap.size,2,none⟩=some c):=by
 have h0:w1.heap[w.heap.size]? =some (.cells #[a,b,c] 62 (0,0)):=by rw [hb.block _ (by simp)];exact ν w _
 refine ⟨fun o=> ?_,by simp [World.cell?,h0]⟩;have h1:(w1.alloc o).heap[w.heap.size]? =some (.cells #[a,b,c] 62 (0,0)):=by have hz:=hb.size;simp at hz;rw [Φ w1 o _ (by omega)];exact h0
 simp [World.cell?,h1]
def aGg (s:ByteArray):Bool:=decide (s.size<=255)
theorem aAr (s:ByteArray):((s.size:Int)<=255/\aGg s=J)\/(¬(s.size:Int)<=255/\aGg s=Z):=by
 by_cases h:s.size<=255
 ·left;simp [aGg,h];omega
 ·right;simp [aGg,h];omega
theorem aO3 (W:Q):(ι 200 (.agg iT) (.int .i64 0)).run H W=.ok (.string (fnm 0)) W:=by kernel_rfl
theorem aO4 (W:Q):(ι 200 (.agg iT) (.int .i64 1)).run H W=.ok (.string (fnm 1)) W:=by kernel_rfl
theorem aO5 (W:Q):(ι 200 (.agg iT) (.int .i64 2)).run H W=.ok (.string (fnm 2)) W:=by kernel_rfl
theorem aO6 (W:Q):(ι 200 (.agg iT) (.int .i64 3)).run H W=.ok (.string (fnm 3)) W:=by kernel_rfl
theorem aO7 (W:Q):(ι 200 (.agg iT) (.int .i64 4)).run H W=.ok (.string (fnm 4)) W:=by kernel_rfl
theorem aO8 (W:Q):(ι 200 (.agg iT) (.int .i64 5)).run H W=.ok (.string (fnm 5)) W:=by kernel_rfl
theorem aO9 (W:Q):(ι 200 (.agg iT) (.int .i64 6)).run H W=.ok (.string (fnm 6)) W:=by kernel_rfl
theorem aPa (W:Q):(ι 200 (.agg iT) (.int .i64 7)).run H W=.ok (.string (fnm 7)) W:=by kernel_rfl
theorem aPb (W:Q):(ι 200 (.agg iT) (.int .i64 8)).run H W=.ok (.string (fnm 8)) W:=by kernel_rfl
theorem aCf (i:Nat) (h:i < 9) (W:Q):(ι 200 (.agg iT) (.int .i64 (i:Int))).run H W=.ok (.string (fnm i)) W:=by
 have h':i=0\/i=1\/i=2\/i=3\/i=4\/i=5\/i=6\/i=7\/i=8:=by omega
 rcases h' with rfl | rfl | rfl | rfl | rfl | rfl | rfl | rfl | rfl
 ·exact aO3 W
 ·exact aO4 W
 ·exact aO5 W
 ·exact aO6 W
 ·exact aO7 W
 ·exact aO8 W
 ·exact aO9 W
 ·exact aPa W
 ·exact aPb W
def szB (a b:Nat) (c:UInt8):UInt8:=if a<=c.toNat/\c.toNat<=a+25 then θ (c.toNat - a+b) else c
def szF (a b:Nat) (l:List UInt8):List UInt8:=l.map (szB a b)
def szP (a b:Nat) (l:List UInt8) (p:Nat):List UInt8:=szF a b (l.take p)++l.drop p
theorem aCg (a b:Nat) (l:List UInt8):szP a b l 0=l:=by simp [szP,szF]
theorem aAY (a b:Nat) (l:List UInt8) (p:Nat):(szP a b l p).length=l.length:=by simp [szP,szF];omega
theorem aFc (a b:Nat) (l:List UInt8) (p:Nat) (h:l.length<=p):szP a b l p=szF a b l:=by simp [szP,ζ h,List.drop_eq_nil_of_le h]
theorem rX (a b:Nat) (l:List UInt8) (p i:Nat):(szP a b l p)[i]? =if i < p then l[i]?.map (szB a b) else l[i]? :=by
 unfold szP szF;rw [List.getElem?_append];by_cases hl:i < l.length
 ·by_cases hi:i < p
  ·rw [if_pos (by simp;omega),if_pos hi,List.getElem?_map,List.getElem?_take_of_lt hi]
  ·rw [if_neg (by simp;omega),if_neg hi,List.getElem?_drop];congr 1;simp;omega
 ·have e:l[i]? =none:=π (by omega);rw [e,if_neg (by simp;omega),π (by simp;omega)];split <;> rfl
theorem aDQ (a b:Nat) (l:List UInt8) (p:Nat) (h:p < l.length):(szP a b l p)[p]? =some l[p]:=by rw [rX,if_neg (Nat.lt_irrefl _),β h]
theorem aCh (a b:Nat) (l:List UInt8) (p:Nat) (h:p < l.length):szP a b l (p+1)=(szP a b l p).set p (szB a b l[p]):=by
 apply τ
 intro i;rw [List.getElem?_set,rX,rX,aAY];by_cases e:p=i
 ·subst e;rw [if_pos (by omega),if_pos rfl,if_pos h,β h];rfl
 ·rw [if_neg e];by_cases hi:i < p
  ·rw [if_pos hi,if_pos (by omega)]
  ·rw [if_neg hi,if_neg (by omega)]
theorem aIn (a b:Nat) (l:List UInt8) (p d:Nat) (h:∀j,p<=j->j < p+d->∀hj:j < l.length,szB a b l[j]=l[j]):szP a b l (p+d)=szP a b l p:=by
 apply τ
 intro i;rw [rX,rX];by_cases hi:i < p
 ·rw [if_pos hi,if_pos (by omega)]
 ·rw [if_neg hi];by_cases hd:i < p+d
  ·rw [if_pos hd];by_cases hl:i < l.length
   ·rw [β hl,Option.map_some,h i (by omega) hd hl]
   ·rw [π (by omega)];rfl
  ·rw [if_neg hd]
theorem aIo (a b:Nat) (c:UInt8) (ha:a+25 < 128) (hc:128<=c.toNat):szB a b c=c:=by unfold szB;rw [if_neg (by omega)]
theorem rY (s:ByteArray) (pos:Nat) (h:pos < s.size) (ha:128<=(s[pos]'h).toNat):
  pos+(η s pos).2<=s.size/\∀k,k < (η s pos).2->128<=(s.get! (pos+k)).toNat:=by
 have hn:¬(s[pos]'h).toNat < 128:=by omega
 have g0:128<=(s.get! (pos+0)).toNat:=by rw [get_at s pos h];exact ha
 have one:∀k,k < 1->128<=(s.get! (pos+k)).toNat:=fun k hk=>by
  obtain rfl:k=0:=by omega
  exact g0
 have c1:∀k,((s.get! (pos+k)).toNat / 64==2)=J->128<=(s.get! (pos+k)).toNat:=fun k hk=>by simp at hk;omega
 simp only [η,get_at s pos h,hn,if_false];split
 ·rename_i h2
  simp only [δ,decide_eq_true_eq] at h2;split
  ·refine ⟨by simp;omega,fun k hk=> ?_⟩;have hk':k=0\/k=1:=by simp at hk;omega
   rcases hk' with rfl | rfl
   ·exact g0
   ·exact c1 1 h2.2.2
  ·exact ⟨by simp;omega,one⟩
 ·split
  ·rename_i h3
   simp only [δ,decide_eq_true_eq] at h3;split
   ·refine ⟨by simp;omega,fun k hk=> ?_⟩;have hk':k=0\/k=1\/k=2:=by simp at hk;omega
    rcases hk' with rfl | rfl | rfl
    ·exact g0
    ·exact c1 1 h3.1.2.2
    ·exact c1 2 h3.2.2
   ·exact ⟨by simp;omega,one⟩
  ·split
   ·rename_i h4
    simp only [δ,decide_eq_true_eq] at h4;split
    ·refine ⟨by simp;omega,fun k hk=> ?_⟩;have hk':k=0\/k=1\/k=2\/k=3:=by simp at hk;omega
     rcases hk' with rfl | rfl | rfl | rfl
     ·exact g0
     ·exact c1 1 h4.1.1.2.2
     ·exact c1 2 h4.1.2.2
     ·exact c1 3 h4.2.2
    ·exact ⟨by simp;omega,one⟩
   ·exact ⟨by simp;omega,one⟩
theorem aCi (s:ByteArray) (j:Nat) (h:j < s.data.toList.length):s.get! j=s.data.toList[j]:=by
 have h':j < s.size:=by simpa using h
 simp [ByteArray.get!,getElem!_pos,h']
structure RW (w:Q) (s:ByteArray) (L:List UInt8) (p:Nat) (u:Q):Prop where
 row:∃C:Array α,u.heap[w.heap.size]? =some (.cells C 5 (C.size,C.size+1))/\∀j (h:j < L.length),C[j]? =some (.int .u8 (L[j].toNat:Nat))
 it:u.heap[w.heap.size+1]? =some (.stringIter s p)
 bel:M w.heap.size w u
theorem run_next_at {P:Program} {u:Q} {b:Nat} {s:ByteArray} {pos:Nat} (hi:u.heap[b]? =some (.stringIter s pos)) (ty:Ω) (h:pos < s.size):
  (Instr.next (pt b) J ty).run P u=
   .ok (.tuple #[.bool J,.int .i64 pos,.int .i32 (η s pos).1]) { u with heap:=u.heap.setIfInBounds b (.stringIter s (pos+(η s pos).2)) }:=by
 simp only [Instr.next,getObj,setObj,Sem.run_bind,Sem.run,hi,Result.andThen,h,if_true];simp [goInt]
theorem pX {P:Program} {u:Q} {b:Nat} {s:ByteArray} {pos:Nat} (hi:u.heap[b]? =some (.stringIter s pos)) (ty:Ω) (h:¬pos < s.size):
  (Instr.next (pt b) J ty).run P u=.ok (.tuple #[.bool Z]) u:=by
 simp [Instr.next,getObj,Sem.run,hi,h]
theorem RW.next {w u:Q} {s:ByteArray} {L:List UInt8} {p:Nat} (h:RW w s L p u) (hp:p < s.size):
  ∃u1,(∀ty,(Instr.next (.pointer (some ⟨w.heap.size+1,0,none⟩)) J ty).run H u=.ok (.tuple #[.bool J,.int .i64 p,.int .i32 (η s p).1]) u1)/\RW w s L (p+(η s p).2) u1:=by
 refine ⟨_,fun ty=>run_next_at h.it ty hp, ?_, ?_, ?_⟩
 ·obtain ⟨C,h1,h2⟩:=h.row;refine ⟨C, ?_,h2⟩;show (u.heap.setIfInBounds (w.heap.size+1) _)[w.heap.size]? =_;rw [φ (by omega)];exact h1
 ·show (u.heap.setIfInBounds (w.heap.size+1) _)[w.heap.size+1]? =_;have:w.heap.size+1 < u.heap.size:=(Array.getElem?_eq_some_iff.1 h.it).1;rw [Array.getElem?_setIfInBounds_self_of_lt this]
 ·obtain ⟨a,b,c,d,e⟩:=h.bel;refine ⟨a,b,c, ?_,fun i hi=> ?_⟩
  ·show w.heap.size<=(u.heap.setIfInBounds _ _).size;simp;omega
  ·show (u.heap.setIfInBounds _ _)[i]? =_;rw [φ (by omega)];exact e i hi
theorem RW.cell {w u:Q} {s:ByteArray} {L:List UInt8} {p:Nat} (h:RW w s L p u) {j:Nat} (hj:j < L.length):
  u.cell? ⟨w.heap.size,j,none⟩=some (.int .u8 (L[j].toNat:Nat))/\u.frozen? ⟨w.heap.size,j,none⟩=Z:=by
 obtain⟨C,h1,h2⟩:=h.row;have hc:j < C.size:=(Array.getElem?_eq_some_iff.1 (h2 j hj)).1;constructor
 ·rw [Θ u _ _ C 5 _ h1];exact h2 j hj
 ·simp [Γ,h1];omega
theorem RW.store {w u:Q} {s:ByteArray} {L:List UInt8} {p:Nat} (h:RW w s L p u) {j:Nat} (hj:j < L.length) (x:UInt8):
  RW w s (L.set j x) p (u.setCell ⟨w.heap.size,j,none⟩ (.int .u8 (x.toNat:Nat))):=by
 obtain⟨C,h1,h2⟩:=h.row;have hc:j < C.size:=(Array.getElem?_eq_some_iff.1 (h2 j hj)).1;refine ⟨⟨C.setIfInBounds j (.int .u8 (x.toNat:Nat)), ?_,fun i hi=> ?_⟩, ?_,h.bel.setCell (O _) _⟩
 ·simp [κ,γ,h1]
 ·rw [List.length_set] at hi;rw [Array.getElem?_setIfInBounds,List.getElem_set];by_cases e:j=i
  ·subst e;simp [hc]
  ·simp [e,h2 i hi]
 ·have:w.heap.size ≠ w.heap.size+1:=by omega
  simp [κ,γ,h.it]
theorem RW.begin {w:Q} {s:ByteArray} {cap:Nat}:RW w s s.data.toList 0 ((w.drew.alloc (.cells (bytesRow s cap) 5 ((bytesRow s cap).size,(bytesRow s cap).size+1))).iter s 0):=by
 refine ⟨⟨bytesRow s cap, ?_,fun j hj=> ?_⟩, ?_, ?_⟩
 ·show ((w.drew.alloc (.cells (bytesRow s cap) 5 _)).alloc (.stringIter s 0)).heap[w.heap.size]? =_;rw [Φ _ _ _ (by simp)];exact ν w.drew _
 ·have:=bytesRow_at s cap j (by simpa using hj);rw [this];simp
 ·have:=World.iter_heap (w.drew.alloc (.cells (bytesRow s cap) 5 ((bytesRow s cap).size,(bytesRow s cap).size+1))) s 0;simpa using this
 ·exact ((((E _ _).drew).alloc (O _) _).alloc (by simp) _)
theorem RW.conv {w u:Q} {s:ByteArray} {L:List UInt8} {p cap:Nat} (h:RW w s L p u):
  (convert 96 9 (.slice (some ⟨w.heap.size,0,none⟩) L.length cap)).run H u=.ok (.string ⟨L.toArray⟩) u:=
 run_convert_bytes_back u 96 9 5 _ cap L μ ο ξ fun j hj=>by
  have hp:(⟨w.heap.size,0,none⟩:Addr).add j=⟨w.heap.size,j,none⟩:=by unfold Addr.add;split <;> simp_all
  rw [hp];exact(h.cell hj).1
theorem RW.pos {w u:Q} {s:ByteArray} {L:List UInt8} {p:Nat} (h:RW w s L p u):u.iterPos (w.heap.size+1)=p:=by simp [World.iterPos,h.it]
theorem aIp (a b:Nat) (c:UInt8) (h:a<=c.toNat/\c.toNat<=a+25) (hb:b<=200):(((szB a b c).toNat:Nat):Int)=(c.toNat:Int) - a+b:=by
 unfold szB;rw [if_pos h];have:(θ (c.toNat - a+b)).toNat=c.toNat - a+b:=by simp;omega
 rw [this];omega
theorem aFd (a b:Nat) (c:UInt8) (h:¬(a<=c.toNat/\c.toNat<=a+25)):szB a b c=c:=by unfold szB;rw [if_neg h]
theorem aDR (s:ByteArray) (hs:s.size<=9223372036854775807) (w:Q):Calls H 255 #[.string s,.int .i32 97,.int .i32 65] w fun e w'=>e=.returned (.string ⟨(szF 97 65 s.data.toList).toArray⟩)/\M w.heap.size w w':=by
 have hlen:s.data.toList.length=s.size:=by simp
 have HL:I (∀p,(szP 97 65 s.data.toList p).length=s.size):=fun p=>by rw [aAY,hlen]
 have CV:∀W:Q,(convert 9 96 (.string s)).run H W=_:=fun W=>run_bytes_of_string W 9 96 5 s ξ μ ο;go_enter Tryz.func255,Tryz.ntmps255;go_wp2;generalize hcap:grownCap w s.size 0 5=cap;go_loopw [8] (fun i w'=>∃(p:Nat),p<=s.size/\RW w s (szP 97 65 s.data.toList p) p w') (fun _ w'=>s.size - w'.iterPos (w.heap.size+1))
 case atStart=>exact⟨0,ψ _,by rw [aCg];exact RW.begin⟩
 case round=>
  clear CV;obtain⟨p,hp,hR⟩:=hrel;have hpos:=hR.pos;by_cases hlt:p < s.size
  ·obtain ⟨u1,hnx,hR1⟩:=hR.next hlt;have hpl:p < s.data.toList.length:=by rw [hlen];exact hlt
   have hgl:s.data.toList[p]=s[p]:=by simp;rfl
   by_cases ha:(s[p]'hlt).toNat < 128
   ·rw [decode_ascii s p hlt ha] at hnx hR1;have zM:=aCh 97 65 s.data.toList p hpl;rw [hgl] at zM;generalize hcc:s[p]'hlt=c at *;by_cases hin:97<=c.toNat/\c.toNat<=97+25
    ·have hi1:97<=(c.toNat:Int):=by omega
     have hi2:(c.toNat:Int) < 97+26:=by omega
     have hj:p < (szP 97 65 s.data.toList p).length:=by rw [HL.out];exact hlt
     obtain⟨k1,k2⟩:=hR1.cell hj;have HR2:I (RW w s ((szP 97 65 s.data.toList p).set p (szB 97 65 c)) (p+1) (u1.setCell ⟨w.heap.size,p,none⟩ (.int .u8 ((c.toNat:Int) - 97+65)))):=by have:=hR1.store hj (szB 97 65 c);rw [aIp 97 65 c hin (by decide)] at this;exact this
     have HS:I _:=zM;clear zM hR1 hR;go_wp2;go_roundw
     case rel=>exact⟨p+1,by omega,by rw [HS.out];exact HR2.out⟩
     case measure=> have:=HR2.out.pos;rw [hpos,this];omega
    ·have HR2:I (RW w s (szP 97 65 s.data.toList (p+1)) (p+1) u1):=by
      show RW _ _ _ _ _;rw [zM,aFd _ _ _ hin];have e:(szP 97 65 s.data.toList p).set p c=szP 97 65 s.data.toList p:=by
       apply τ
       intro i;rw [List.getElem?_set];split
       ·rename_i e;subst e;rw [aDQ _ _ _ _ hpl,hgl,if_pos (by rw [HL.out];exact hlt)]
       ·rfl
      rw [e];exact hR1
     clear zM hR1 hR;have hi:¬97<=(c.toNat:Int)\/(97<=(c.toNat:Int)/\¬(c.toNat:Int) < 97+26):=by omega
     rcases hi with hi | ⟨hi1,hi2⟩;all_goals
      go_wp2;go_roundw
      case rel=>exact⟨p+1,by omega,HR2.out⟩
      case measure=> have:=HR2.out.pos;rw [hpos,this];omega
   ·have dh:=decode_high s p hlt (by omega);have db:=rY s p hlt (by omega);have HR2:I (RW w s (szP 97 65 s.data.toList (p+(η s p).2)) (p+(η s p).2) u1):=by
     show RW _ _ _ _ _;rw [aIn]
     ·exact hR1
     ·intro j h1 h2 hj;refine aIo _ _ _ (by decide) ?_;have:=db.2 (j - p) (by omega);rw [show p+(j - p)=j by omega,aCi s j hj] at this;exact this
    clear hR1 hR;generalize (η s p).2=d at *;have hr1:∃r:Nat,(η s p).1=r/\128<=r:=⟨_,rfl,dh.1⟩
    obtain⟨r,hr,hr2⟩:=hr1;rw [hr] at hnx;clear hr;have hi1:97<=(r:Int):=by omega
    have hi2:¬(r:Int) < 97+26:=by omega
    have hd1:=dh.2;have hd2:=db.1;clear dh db;go_wp2;go_roundw
    case rel=>exact⟨p+d,hd2,HR2.out⟩
    case measure=> have:=HR2.out.pos;rw [hpos,this];omega
  ·have hnx:∀ty,(Instr.next (.pointer (some ⟨w.heap.size+1,0,none⟩)) J ty).run H wr=.ok (.tuple #[.bool Z]) wr:=fun ty=>pX hR.it ty hlt;have CB:=hR.conv (cap:=cap)
   rw [HL.out,aFc _ _ _ _ (by rw [hlen];omega)] at CB;have HB:I _:=hR.bel;clear hR;go_wp2;go_ret;exact⟨rfl,HB.out⟩
theorem aDS (s:ByteArray) (hs:s.size<=9223372036854775807) (w:Q):CR 214 #[.string s] w (.string ⟨(szF 97 65 s.data.toList).toArray⟩):=by
 have R:=fun u=>aDR s hs u;generalize szF 97 65 s.data.toList=X at *;go_enter Tryz.func214,Tryz.ntmps214;go_wp2_with (go_at_call 255;refine (R _).mono ?_;rintro e w1 ⟨rfl,hb⟩;have HB:I _:=hb;clear hb)
 go_ret;exact⟨rfl,HB.out⟩
structure RX (w:Q) (L:List UInt8) (u:Q):Prop where
 row:∃C:Array α,u.heap[w.heap.size]? =some (.cells C 5 (C.size,C.size+1))/\∀j (h:j < L.length),C[j]? =some (.int .u8 (L[j].toNat:Nat))
 bel:M w.heap.size w u
theorem RX.cell {w u:Q} {L:List UInt8} (h:RX w L u) {j:Nat} (hj:j < L.length):
  u.cell? ⟨w.heap.size,j,none⟩=some (.int .u8 (L[j].toNat:Nat))/\u.frozen? ⟨w.heap.size,j,none⟩=Z:=by
 obtain⟨C,h1,h2⟩:=h.row;have hc:j < C.size:=(Array.getElem?_eq_some_iff.1 (h2 j hj)).1;constructor
 ·rw [Θ u _ _ C 5 _ h1];exact h2 j hj
 ·simp [Γ,h1];omega
theorem RX.store {w u:Q} {L:List UInt8} (h:RX w L u) {j:Nat} (hj:j < L.length) (x:UInt8):
  RX w (L.set j x) (u.setCell ⟨w.heap.size,j,none⟩ (.int .u8 (x.toNat:Nat))):=by
 obtain⟨C,h1,h2⟩:=h.row;have hc:j < C.size:=(Array.getElem?_eq_some_iff.1 (h2 j hj)).1;refine ⟨⟨C.setIfInBounds j (.int .u8 (x.toNat:Nat)), ?_,fun i hi=> ?_⟩,h.bel.setCell (O _) _⟩
 ·simp [κ,γ,h1]
 ·rw [List.length_set] at hi;rw [Array.getElem?_setIfInBounds,List.getElem_set];by_cases e:j=i
  ·subst e;simp [hc]
  ·simp [e,h2 i hi]
theorem RX.begin {w:Q} {s:ByteArray} {cap:Nat}:RX w s.data.toList (w.drew.alloc (.cells (bytesRow s cap) 5 ((bytesRow s cap).size,(bytesRow s cap).size+1))):=by refine ⟨⟨bytesRow s cap,ν w.drew _,fun j hj=> ?_⟩,((E _ _).drew).alloc (O _) _⟩;have:=bytesRow_at s cap j (by simpa using hj);rw [this];simp
theorem RX.conv {w u:Q} {L:List UInt8} {cap:Nat} (h:RX w L u):
  (convert 96 9 (.slice (some ⟨w.heap.size,0,none⟩) L.length cap)).run H u=.ok (.string ⟨L.toArray⟩) u:=
 run_convert_bytes_back u 96 9 5 _ cap L μ ο ξ fun j hj=>by
  have hp:(⟨w.heap.size,0,none⟩:Addr).add j=⟨w.heap.size,j,none⟩:=by unfold Addr.add;split <;> simp_all
  rw [hp];exact(h.cell hj).1
theorem aAZ (s:ByteArray) (hs:s.size<=9223372036854775807) (w:Q):Calls H 142 #[.string s] w fun e w'=>e=.returned (.string ⟨(szF 97 65 s.data.toList).toArray⟩)/\M w.heap.size w w':=by
 have hlen:s.data.toList.length=s.size:=by simp
 have HL:I (∀p,(szP 97 65 s.data.toList p).length=s.size):=fun p=>by rw [aAY,hlen]
 have CV:∀W:Q,(convert 9 96 (.string s)).run H W=_:=fun W=>run_bytes_of_string W 9 96 5 s ξ μ ο;go_enter Tryz.func142,Tryz.ntmps142;go_wp2;generalize hcap:grownCap w s.size 0 5=cap;go_loopw [10] (fun i w'=>∃(p:Nat),p<=s.size/\i=.int .i64 p/\RX w (szP 97 65 s.data.toList p) w') (fun i _=>s.size - (intOf i).toNat)
 case atStart=>exact⟨0,ψ _,rfl,by rw [aCg];exact RX.begin⟩
 case round=>
  clear CV;obtain⟨p,hp,rfl,hR⟩:=hrel;by_cases hlt:p < s.size
  ·have hpl:p < s.data.toList.length:=by rw [hlen];exact hlt
   have hj:p < (szP 97 65 s.data.toList p).length:=by rw [HL.out];exact hlt
   obtain⟨k1,k2⟩:=hR.cell hj;have zM:=aCh 97 65 s.data.toList p hpl;have hat:(szP 97 65 s.data.toList p)[p]=s.data.toList[p]:=Option.some.inj ((β hj).symm.trans (aDQ 97 65 s.data.toList p hpl));rw [hat] at k1;generalize hcc:s.data.toList[p]=c at *;by_cases hin:97<=c.toNat/\c.toNat<=97+25
   ·have hi1:97<=(c.toNat:Int):=by omega
    have hi2:(c.toNat:Int)<=97+25:=by omega
    have HR2:I (RX w ((szP 97 65 s.data.toList p).set p (szB 97 65 c)) (wr.setCell ⟨w.heap.size,p,none⟩ (.int .u8 ((c.toNat:Int) - 32)))):=by have:=hR.store hj (szB 97 65 c);rw [aIp 97 65 c hin (by decide),show (c.toNat:Int) - (97:Nat)+(65:Nat)=(c.toNat:Int) - 32 by omega] at this;exact this
    have HS:I _:=zM;clear zM hR hat;go_wp2;go_roundw
    case rel=>exact⟨p+1,by omega,by go_num,by rw [HS.out];exact HR2.out⟩
    case measure=>simp [intOf];omega
   ·have HR2:I (RX w (szP 97 65 s.data.toList (p+1)) wr):=by
     show RX _ _ _;rw [zM,aFd _ _ _ hin];have e:(szP 97 65 s.data.toList p).set p c=szP 97 65 s.data.toList p:=by
      apply τ
      intro i;rw [List.getElem?_set];split
      ·rename_i e;subst e;rw [aDQ _ _ _ _ hpl,hcc];try rw [if_pos (by rw [HL.out];exact hlt)]
      ·rfl
     rw [e];exact hR
    clear zM hR hat;have hi:¬97<=(c.toNat:Int)\/(97<=(c.toNat:Int)/\¬(c.toNat:Int)<=97+25):=by omega
    rcases hi with hi | ⟨hi1,hi2⟩;all_goals
     go_wp2;go_roundw
     case rel=>exact⟨p+1,by omega,by go_num,HR2.out⟩
     case measure=>simp [intOf];omega
  ·have CB:=hR.conv (cap:=cap)
   rw [HL.out,aFc _ _ _ _ (by rw [hlen];omega)] at CB;have HB:I _:=hR.bel;clear hR;go_wp2;go_ret;exact⟨rfl,HB.out⟩
def aGh (X:List UInt8):Bool × Bool:=if X=[84,82,85,69] then (J,J) else if X=[70,65,76,83,69] then (Z,J) else (Z,Z)
def qJ (X:List UInt8):Int:=if X=[84,82,85,69] then 1 else if X=[70,65,76,83,69] then 0 else -1
def jQ (s:ByteArray):Bool × Bool:=aGh (szF 97 65 s.data.toList)
theorem mE (X:List UInt8):(X=[84,82,85,69]/\aGh X=(J,J)/\qJ X=1)\/(X=[70,65,76,83,69]/\aGh X=(Z,J)/\qJ X=0)\/((X==[84,82,85,69])=Z/\(X==[70,65,76,83,69])=Z/\aGh X=(Z,Z)/\qJ X= -1):=by
 by_cases h:X=[84,82,85,69]
 ·subst h;left;exact⟨rfl,rfl,rfl⟩
 ·by_cases g:X=[70,65,76,83,69]
  ·subst g;right;left;exact⟨rfl,rfl,rfl⟩
  ·right;right;simp [aGh,qJ,h,g]
theorem aDT (s:ByteArray) (hs:s.size<=9223372036854775807) (w:Q):CR 205 #[.string s] w (.tuple #[.bool (jQ s).1,.bool (jQ s).2]):=by
 have R:=fun u=>aDS s hs u;unfold jQ;generalize szF 97 65 s.data.toList=X at *;rcases mE X with ⟨rfl,h,_⟩ | ⟨rfl,h,_⟩ | ⟨h1,h2,h,_⟩;all_goals
  rw [h];go_enter Tryz.func205,Tryz.ntmps205;go_wp2_with (go_at_call 214;refine (R _).mono ?_;rintro e w1 ⟨rfl,hb⟩;have HB:I _:=hb;clear hb)
  go_ret2;exact⟨rfl,HB.out⟩
theorem qK (s:ByteArray) (hs:s.size<=9223372036854775807) (w:Q):CR 92 #[.string s] w (.int .i64 (qJ (szF 97 65 s.data.toList))):=by
 have R:=fun u=>aAZ s hs u;generalize szF 97 65 s.data.toList=X at *;rcases mE X with ⟨rfl,_,h⟩ | ⟨rfl,_,h⟩ | ⟨h1,h2,_,h⟩;all_goals
  rw [h];go_enter Tryz.func92,Tryz.ntmps92;go_wp2_with (go_at_call 142;refine (R _).mono ?_;rintro e w1 ⟨rfl,hb⟩;have HB:I _:=hb;clear hb)
  go_ret;exact⟨rfl,HB.out⟩
theorem uJ (s:ByteArray) (w:Q):CR 202 #[.string s] w (.agg #[.int .i64 2,.int .i64 0,.string s]):=by go_enter Tryz.func202,Tryz.ntmps202;go_wp2;exact S (v:=.agg #[.int .i64 2,.int .i64 0,.string s]) (by simp [results,Tryz.results202,go_sem]) rfl ⟨rfl,(E _ _).alloc (O _) _⟩
theorem aDU (b:Bool) (w:Q):CR 206 #[.bool b] w (.agg #[.int .i64 3,.int .i64 (if b=J then 1 else 0),.string ⟨#[]⟩]):=by
 cases b
 all_goals
  go_enter Tryz.func206,Tryz.ntmps206;go_wp2_with (go_at_call 253;refine mw (aDN _ _) ?_)
 ·exact S (v:=.agg #[.int .i64 3,.int .i64 0,.string ⟨#[]⟩]) (by simp [results,Tryz.results206,go_sem]) rfl ⟨rfl,(E _ _).alloc (O _) _⟩
 ·exact S (v:=.agg #[.int .i64 3,.int .i64 1,.string ⟨#[]⟩]) (by simp [results,Tryz.results206,go_sem]) rfl ⟨rfl,(E _ _).alloc (O _) _⟩
def xA (n:Int):Int:=if knB n=J then n else 2
theorem rZ (n:Int) (w:Q):CR 208 #[.int .i64 n] w (.agg #[.int .i64 4,.int .i64 (xA n),.string ⟨#[]⟩]):=by
 have K:=fun u=>kN n u;cases hk:knB n
 all_goals
  rw [hk] at K
 ·have e:xA n=2:=by simp [xA,hk]
  rw [e];go_enter Tryz.func208,Tryz.ntmps208;go_wp2_with (go_at_call 254;refine mw (K _) ?_)
  exact S (v:=.agg #[.int .i64 4,.int .i64 2,.string ⟨#[]⟩]) (by simp [results,Tryz.results208,go_sem]) rfl ⟨rfl,(E _ _).alloc (O _) _⟩
 ·have e:xA n=n:=by simp [xA,hk]
  rw [e];go_enter Tryz.func208,Tryz.ntmps208;go_wp2_with (go_at_call 254;refine mw (K _) ?_)
  exact S (v:=.agg #[.int .i64 4,.int .i64 n,.string ⟨#[]⟩]) (by simp [results,Tryz.results208,go_sem]) rfl ⟨rfl,(E _ _).alloc (O _) _⟩
theorem fG {w w1:Q} {a b c:α} (hb:M (w.alloc (.cells #[a,b,c] 62)).heap.size (w.alloc (.cells #[a,b,c] 62)) w1):
  (w1.cell? ⟨w.heap.size,0,none⟩=some a/\w1.cell? ⟨w.heap.size,1,none⟩=some b/\w1.cell? ⟨w.heap.size,2,none⟩=some c)/\
  (w1.frozen? ⟨w.heap.size,0,none⟩=Z/\w1.frozen? ⟨w.heap.size,1,none⟩=Z/\w1.frozen? ⟨w.heap.size,2,none⟩=Z):=by
 have h0:w1.heap[w.heap.size]? =some (.cells #[a,b,c] 62 (0,0)):=by rw [hb.block _ (by simp)];exact ν w _
 exact⟨(aKV hb).2,by simp [Γ,h0]⟩
theorem aCj {w w1:Q} {a b c:α} (h:M w.heap.size w w1):M w.heap.size w (((w1.setCell ⟨w.heap.size,0,none⟩ a).setCell ⟨w.heap.size,1,none⟩ b).setCell ⟨w.heap.size,2,none⟩ c):=
 ((h.setCell (O _) _).setCell (O _) _).setCell (O _) _
def ofV (n:Int) (ok:Bool):α:=if (ok && gd n)=J then .agg #[.int .i64 1,.int .i64 n,.string ⟨#[]⟩] else .agg #[.int .i64 4,.int .i64 5,.string ⟨#[]⟩]
theorem aIq (n:Int) (ok:Bool) (w:Q):CR 204 #[.int .i64 n,.bool ok] w (ofV n ok):=by
 have G:=fun u=>aB5 n u;unfold ofV;cases ok <;> cases hg:gd n
 all_goals
  rw [hg] at G;simp only [Bool.and_true,Bool.and_false,Bool.false_eq_true,if_true,if_false];go_enter Tryz.func204,Tryz.ntmps204;go_wp2_with (first|(go_at_call 252;refine mw (G _) ?_) | (go_at_call 208;refine (rZ _ _).mono ?_;rintro e w1 ⟨rfl,hb⟩;have HB:I (M w.heap.size w w1):=iC hb;obtain⟨⟨c0,c1,c2⟩,f0,f1,f2⟩:=fG hb;clear hb))
  first
  | exact S (v:=.agg #[.int .i64 4,.int .i64 5,.string ⟨#[]⟩]) (by simp [results,Tryz.results204,go_sem,c0,c1,c2];rfl) rfl ⟨rfl,aCj HB.out⟩
  | exact S (v:=.agg #[.int .i64 1,.int .i64 n,.string ⟨#[]⟩]) (by simp [results,Tryz.results204,go_sem]) rfl ⟨rfl,(E _ _).alloc (O _) _⟩
def pU (s:ByteArray):Nat:=if s=fnm 1 then 1 else if s=fnm 2 then 2 else if s=fnm 3 then 3 else if s=fnm 4 then 4 else if s=fnm 5 then 5 else if s=fnm 6 then 6 else if s=fnm 7 then 7 else if s=fnm 8 then 8 else 0
theorem aDV (s:ByteArray):pU s<=8:=by
 unfold pU;repeat' split
 all_goals omega
theorem aIr (s:ByteArray) (h:pU s ≠ 0):s=fnm (pU s):=by
 unfold pU at h ⊢;repeat' split
 all_goals first | assumption | (exfalso;simp_all)
theorem aMZ:∀i,i < 9->∀j,j < 9->i ≠ j->fnm i ≠ fnm j:=by decide
theorem aKW (s:ByteArray) (j:Nat) (h1:1<=j) (h8:j<=8) (h:pU s ≠ j):fnm j ≠ s:=by
 rintro rfl;by_cases h0:pU (fnm j)=0
 ·have hj:j=1\/j=2\/j=3\/j=4\/j=5\/j=6\/j=7\/j=8:=by omega
  rcases hj with rfl | rfl | rfl | rfl | rfl | rfl | rfl | rfl <;> revert h0 <;> decide
 ·exact aMZ j (by omega) _ (by have:=aDV (fnm j);omega) (Ne.symm h) (aIr _ h0)
theorem aIs {a b:ByteArray} (h:a ≠ b):(a.toList==b.toList)=Z:=by rw [beq_eq_false_iff_ne];intro e;rw [ε,ε] at e;exact h (Go.WideShapes.bytes_inj e)
theorem aFe (j:Nat) (h1:1<=j) (h8:j<=8):fnB (j:Int)=fnm j:=by
 have:knB (j:Int)=J:=by simp [knB];omega
 simp [fnB,this]
theorem aA0 (j:Nat) (h1:1<=j) (h8:j<=8):knB (j:Int)=J:=by simp [knB];omega
theorem aDW (s:ByteArray) (w:Q) (T:wZ w):CW 207 #[.string s] w (.tuple #[.int .i64 (pU s:Nat),.bool (decide (pU s ≠ 0))]):=by
 have hle:=aDV s;have HI:I (pU s ≠ 0->s=fnm (pU s)):=aIr s;have HN:I (∀j:Nat,1<=j->j<=8->pU s ≠ j->fnm j ≠ s):=fun j=>aKW s j;generalize pU s=m at *;have KN:=fun (j:Nat) (h1:1<=j) (h8:j<=8) (u:Q)=>(kN (j:Int) u)
 have FN:=fun (j:Nat) (u:Q) (hu:wZ u)=>uI (j:Int) u hu;go_enter Tryz.func207,Tryz.ntmps207;go_wp2;go_loop [4] (fun f=>∃j:Nat,1<=j/\j<=9/\f=.int .i64 j/\(m=0\/j<=m)) (fun f=>9 - (intOf f).toNat)
 case atStart=>exact⟨1,by omega,by omega,rfl,by omega⟩
 case round=>
  obtain⟨j,h1,h9,rfl,hm⟩:=hrel;by_cases h8:j<=8
  ·have K:=fun u=>kN (j:Int) u;have F:=uI (j:Int) w T;rw [aA0 j h1 h8] at K;rw [aFe j h1 h8] at F;by_cases hj:m=j
   ·subst hj;have hs:=HI.out (by omega);have HD:I (decide (m ≠ 0)=J):=by show _=_;simp;omega
    subst hs;clear hm;go_wp2_with (first|(go_at_call 254;refine mw (K _) ?_) | (go_at_call 218;refine mw F ?_))
    go_ret2;exact⟨by rw [HD.out];rfl,rfl⟩
   ·have hne:=aIs (HN.out j h1 h8 hj);go_wp2_with (first|(go_at_call 254;refine mw (K _) ?_) | (go_at_call 218;refine mw F ?_))
    go_round
    case rel=>exact⟨j+1,by omega,by omega,by go_num,by omega⟩
    case measure=>simp [intOf];omega
  ·have K:=fun u=>kN (j:Int) u;have hk:knB (j:Int)=Z:=by simp [knB];omega
   rw [hk] at K;have h0:m=0:=by omega
   subst h0;go_wp2_with (first|(go_at_call 254;refine mw (K _) ?_))
   go_ret2;exact⟨rfl,rfl⟩
theorem aCk (s:ByteArray) (w:Q) (h:s.toList=[]):CR 160 #[.string s] w (.agg #[.int .i64 0,.int .i64 0,.string ⟨#[]⟩]):=by go_enter Tryz.func160,Tryz.ntmps160;go_wp2;exact S (v:=.agg #[.int .i64 0,.int .i64 0,.string ⟨#[]⟩]) (by simp [results,Tryz.results160,go_sem]) rfl ⟨rfl,(E _ _).alloc (O _) _⟩
theorem aCl (s:ByteArray) (w:Q) (hne:¬s.toList=[]) (R:ByteArray) (PF:∀u:Q,CW 73 #[.string s,.string ⟨#[39]⟩] u (.tuple #[.string R,.bool J])):CR 160 #[.string s] w (.agg #[.int .i64 2,.int .i64 0,.string R]):=by
 have hne2:(s.toList==[])=Z:=by simpa using hne
 have HB0:I (M (w.alloc (.cells #[.int .i64 0,.int .i64 0,.string ⟨#[]⟩] 62)).heap.size (w.alloc (.cells #[.int .i64 0,.int .i64 0,.string ⟨#[]⟩] 62)) (w.alloc (.cells #[.int .i64 0,.int .i64 0,.string ⟨#[]⟩] 62))):=E _ _;go_enter Tryz.func160,Tryz.ntmps160;go_wp2_with (first|(go_at_call 73;refine mw (PF _) ?_) | (go_at_call 202;refine (uJ _ _).mono ?_;rintro e w1 ⟨rfl,hb⟩;have HB1:I (M (w.alloc (.cells #[.int .i64 0,.int .i64 0,.string ⟨#[]⟩] 62)).heap.size (w.alloc (.cells #[.int .i64 0,.int .i64 0,.string ⟨#[]⟩] 62)) w1):=aD HB0.out hb;obtain⟨⟨c0,c1,c2⟩,f0,f1,f2⟩:=fG HB1.out;clear hb))
 exact S (v:=.agg #[.int .i64 2,.int .i64 0,.string R]) (by simp [results,Tryz.results160,go_sem,c0,c1,c2]) rfl ⟨rfl,aCj (iC HB1.out)⟩
theorem aGi (s:ByteArray) (w:Q) (hne:¬s.toList=[]) (R:ByteArray) (PF:∀u:Q,CW 73 #[.string s,.string ⟨#[39]⟩] u (.tuple #[.string R,.bool Z])) (v:Int) (PP:∀u:Q,CR 203 #[.string s] u (.tuple #[.int .i64 v,.bool J])) (hg:gd v=J):CR 160 #[.string s] w (.agg #[.int .i64 1,.int .i64 v,.string ⟨#[]⟩]):=by
 have hne2:(s.toList==[])=Z:=by simpa using hne
 have HB0:I (M (w.alloc (.cells #[.int .i64 0,.int .i64 0,.string ⟨#[]⟩] 62)).heap.size (w.alloc (.cells #[.int .i64 0,.int .i64 0,.string ⟨#[]⟩] 62)) (w.alloc (.cells #[.int .i64 0,.int .i64 0,.string ⟨#[]⟩] 62))):=E _ _;have OF:=fun u=>aIq v J u;rw [show ofV v J=.agg #[.int .i64 1,.int .i64 v,.string ⟨#[]⟩] by simp [ofV,hg]] at OF;go_enter Tryz.func160,Tryz.ntmps160;go_wp2_with (first|(go_at_call 73;refine mw (PF _) ?_) | (go_at_call 203;refine (PP _).mono ?_;rintro e w1 ⟨rfl,hb⟩;have HB1:I (M (w.alloc (.cells #[.int .i64 0,.int .i64 0,.string ⟨#[]⟩] 62)).heap.size (w.alloc (.cells #[.int .i64 0,.int .i64 0,.string ⟨#[]⟩] 62)) w1):=aD HB0.out hb;obtain⟨⟨c0,c1,c2⟩,f0,f1,f2⟩:=fG HB1.out;clear hb) | (go_at_call 204;refine (OF _).mono ?_;rintro e w2 ⟨rfl,hb⟩;have HB2:I (M (w.alloc (.cells #[.int .i64 0,.int .i64 0,.string ⟨#[]⟩] 62)).heap.size (w.alloc (.cells #[.int .i64 0,.int .i64 0,.string ⟨#[]⟩] 62)) w2):=aD HB1.out hb;obtain⟨⟨c0,c1,c2⟩,f0,f1,f2⟩:=fG HB2.out;clear hb))
 exact S (v:=.agg #[.int .i64 1,.int .i64 v,.string ⟨#[]⟩]) (by simp [results,Tryz.results160,go_sem,c0,c1,c2]) rfl ⟨rfl,aCj (iC HB2.out)⟩
theorem aCm (s:ByteArray) (w:Q) (hne:¬s.toList=[]) (R:ByteArray) (PF:∀u:Q,CW 73 #[.string s,.string ⟨#[39]⟩] u (.tuple #[.string R,.bool Z])) (v:Int) (PP:∀u:Q,CR 203 #[.string s] u (.tuple #[.int .i64 v,.bool Z])) (b:Bool) (PT:∀u:Q,CR 205 #[.string s] u (.tuple #[.bool b,.bool J])):CR 160 #[.string s] w (.agg #[.int .i64 3,.int .i64 (if b=J then 1 else 0),.string ⟨#[]⟩]):=by
 have hne2:(s.toList==[])=Z:=by simpa using hne
 have HB0:I (M (w.alloc (.cells #[.int .i64 0,.int .i64 0,.string ⟨#[]⟩] 62)).heap.size (w.alloc (.cells #[.int .i64 0,.int .i64 0,.string ⟨#[]⟩] 62)) (w.alloc (.cells #[.int .i64 0,.int .i64 0,.string ⟨#[]⟩] 62))):=E _ _;have TV:=fun u=>aDU b u;generalize (if b=J then (1:Int) else 0)=z at *;go_enter Tryz.func160,Tryz.ntmps160;go_wp2_with (first|(go_at_call 73;refine mw (PF _) ?_) | (go_at_call 203;refine (PP _).mono ?_;rintro e w1 ⟨rfl,hb⟩;have HB1:I (M (w.alloc (.cells #[.int .i64 0,.int .i64 0,.string ⟨#[]⟩] 62)).heap.size (w.alloc (.cells #[.int .i64 0,.int .i64 0,.string ⟨#[]⟩] 62)) w1):=aD HB0.out hb;obtain⟨⟨c0,c1,c2⟩,f0,f1,f2⟩:=fG HB1.out;clear hb) | (go_at_call 205;refine (PT _).mono ?_;rintro e w2 ⟨rfl,hb⟩;have HB2:I (M (w.alloc (.cells #[.int .i64 0,.int .i64 0,.string ⟨#[]⟩] 62)).heap.size (w.alloc (.cells #[.int .i64 0,.int .i64 0,.string ⟨#[]⟩] 62)) w2):=aD HB1.out hb;obtain⟨⟨c0,c1,c2⟩,f0,f1,f2⟩:=fG HB2.out;clear hb) | (go_at_call 206;refine (TV _).mono ?_;rintro e w3 ⟨rfl,hb⟩;have HB3:I (M (w.alloc (.cells #[.int .i64 0,.int .i64 0,.string ⟨#[]⟩] 62)).heap.size (w.alloc (.cells #[.int .i64 0,.int .i64 0,.string ⟨#[]⟩] 62)) w3):=aD HB2.out hb;obtain⟨⟨c0,c1,c2⟩,f0,f1,f2⟩:=fG HB3.out;clear hb))
 exact S (v:=.agg #[.int .i64 3,.int .i64 z,.string ⟨#[]⟩]) (by simp [results,Tryz.results160,go_sem,c0,c1,c2]) rfl ⟨rfl,aCj (iC HB3.out)⟩
theorem aCn (s:ByteArray) (w:Q) (hne:¬s.toList=[]) (R:ByteArray) (PF:∀u:Q,CW 73 #[.string s,.string ⟨#[39]⟩] u (.tuple #[.string R,.bool Z])) (v:Int) (PP:∀u:Q,CR 203 #[.string s] u (.tuple #[.int .i64 v,.bool Z])) (b:Bool) (PT:∀u:Q,CR 205 #[.string s] u (.tuple #[.bool b,.bool Z])) (f:Int) (PL:∀u:Q,M (w.alloc (.cells #[.int .i64 0,.int .i64 0,.string ⟨#[]⟩] 62)).heap.size (w.alloc (.cells #[.int .i64 0,.int .i64 0,.string ⟨#[]⟩] 62)) u->CW 207 #[.string s] u (.tuple #[.int .i64 f,.bool J])) (hk:knB f=J):CR 160 #[.string s] w (.agg #[.int .i64 4,.int .i64 f,.string ⟨#[]⟩]):=by
 have hne2:(s.toList==[])=Z:=by simpa using hne
 have HB0:I (M (w.alloc (.cells #[.int .i64 0,.int .i64 0,.string ⟨#[]⟩] 62)).heap.size (w.alloc (.cells #[.int .i64 0,.int .i64 0,.string ⟨#[]⟩] 62)) (w.alloc (.cells #[.int .i64 0,.int .i64 0,.string ⟨#[]⟩] 62))):=E _ _;have BD:=fun u=>rZ f u;rw [show xA f=f by simp [xA,hk]] at BD;go_enter Tryz.func160,Tryz.ntmps160;go_wp2_with (first|(go_at_call 73;refine mw (PF _) ?_) | (go_at_call 203;refine (PP _).mono ?_;rintro e w1 ⟨rfl,hb⟩;have HB1:I (M (w.alloc (.cells #[.int .i64 0,.int .i64 0,.string ⟨#[]⟩] 62)).heap.size (w.alloc (.cells #[.int .i64 0,.int .i64 0,.string ⟨#[]⟩] 62)) w1):=aD HB0.out hb;obtain⟨⟨c0,c1,c2⟩,f0,f1,f2⟩:=fG HB1.out;clear hb) | (go_at_call 205;refine (PT _).mono ?_;rintro e w2 ⟨rfl,hb⟩;have HB2:I (M (w.alloc (.cells #[.int .i64 0,.int .i64 0,.string ⟨#[]⟩] 62)).heap.size (w.alloc (.cells #[.int .i64 0,.int .i64 0,.string ⟨#[]⟩] 62)) w2):=aD HB1.out hb;obtain⟨⟨c0,c1,c2⟩,f0,f1,f2⟩:=fG HB2.out;clear hb) | (go_at_call 207;refine mw (PL _ HB2.out) ?_) | (go_at_call 208;refine (BD _).mono ?_;rintro e w3 ⟨rfl,hb⟩;have HB3:I (M (w.alloc (.cells #[.int .i64 0,.int .i64 0,.string ⟨#[]⟩] 62)).heap.size (w.alloc (.cells #[.int .i64 0,.int .i64 0,.string ⟨#[]⟩] 62)) w3):=aD HB2.out hb;obtain⟨⟨c0,c1,c2⟩,f0,f1,f2⟩:=fG HB3.out;clear hb))
 exact S (v:=.agg #[.int .i64 4,.int .i64 f,.string ⟨#[]⟩]) (by simp [results,Tryz.results160,go_sem,c0,c1,c2]) rfl ⟨rfl,aCj (iC HB3.out)⟩
theorem aDX (s:ByteArray) (w:Q) (hne:¬s.toList=[]) (R:ByteArray) (PF:∀u:Q,CW 73 #[.string s,.string ⟨#[39]⟩] u (.tuple #[.string R,.bool Z])) (v:Int) (PP:∀u:Q,CR 203 #[.string s] u (.tuple #[.int .i64 v,.bool Z])) (b:Bool) (PT:∀u:Q,CR 205 #[.string s] u (.tuple #[.bool b,.bool Z])) (f:Int) (PL:∀u:Q,M (w.alloc (.cells #[.int .i64 0,.int .i64 0,.string ⟨#[]⟩] 62)).heap.size (w.alloc (.cells #[.int .i64 0,.int .i64 0,.string ⟨#[]⟩] 62)) u->CW 207 #[.string s] u (.tuple #[.int .i64 f,.bool Z])):CR 160 #[.string s] w (.agg #[.int .i64 2,.int .i64 0,.string s]):=by
 have hne2:(s.toList==[])=Z:=by simpa using hne
 have HB0:I (M (w.alloc (.cells #[.int .i64 0,.int .i64 0,.string ⟨#[]⟩] 62)).heap.size (w.alloc (.cells #[.int .i64 0,.int .i64 0,.string ⟨#[]⟩] 62)) (w.alloc (.cells #[.int .i64 0,.int .i64 0,.string ⟨#[]⟩] 62))):=E _ _;go_enter Tryz.func160,Tryz.ntmps160;go_wp2_with (first|(go_at_call 73;refine mw (PF _) ?_) | (go_at_call 203;refine (PP _).mono ?_;rintro e w1 ⟨rfl,hb⟩;have HB1:I (M (w.alloc (.cells #[.int .i64 0,.int .i64 0,.string ⟨#[]⟩] 62)).heap.size (w.alloc (.cells #[.int .i64 0,.int .i64 0,.string ⟨#[]⟩] 62)) w1):=aD HB0.out hb;obtain⟨⟨c0,c1,c2⟩,f0,f1,f2⟩:=fG HB1.out;clear hb) | (go_at_call 205;refine (PT _).mono ?_;rintro e w2 ⟨rfl,hb⟩;have HB2:I (M (w.alloc (.cells #[.int .i64 0,.int .i64 0,.string ⟨#[]⟩] 62)).heap.size (w.alloc (.cells #[.int .i64 0,.int .i64 0,.string ⟨#[]⟩] 62)) w2):=aD HB1.out hb;obtain⟨⟨c0,c1,c2⟩,f0,f1,f2⟩:=fG HB2.out;clear hb) | (go_at_call 207;refine mw (PL _ HB2.out) ?_) | (go_at_call 202;refine (uJ _ _).mono ?_;rintro e w3 ⟨rfl,hb⟩;have HB3:I (M (w.alloc (.cells #[.int .i64 0,.int .i64 0,.string ⟨#[]⟩] 62)).heap.size (w.alloc (.cells #[.int .i64 0,.int .i64 0,.string ⟨#[]⟩] 62)) w3):=aD HB2.out hb;obtain⟨⟨c0,c1,c2⟩,f0,f1,f2⟩:=fG HB3.out;clear hb))
 exact S (v:=.agg #[.int .i64 2,.int .i64 0,.string s]) (by simp [results,Tryz.results160,go_sem,c0,c1,c2]) rfl ⟨rfl,aCj (iC HB3.out)⟩
structure xB (w:Q):Prop where
 p:pR w
 f:wZ w
theorem xB.below {w w':Q} (h:xB w) (hb:M w.heap.size w w'):xB w':=⟨h.p.below hb,h.f.below hb⟩
abbrev val (k n:Int) (s:ByteArray):α:=.agg #[.int .i64 k,.int .i64 n,.string s]
theorem aKX (k:Int):k=0\/k=1\/k=2\/k=3\/k=4\/(¬k=0/\¬k=1/\¬k=2/\¬k=3/\¬k=4):=by omega
theorem xC {k c:Int} (h:¬k=c):(k==c)=Z:=by simpa using h
theorem aFf (s:ByteArray) (hs:s.size<=9223372036854775807) (u:Q):CR 203 #[.string s] u (.tuple #[.int .i64 (cK s.data.toList).1,.bool (cK s.data.toList).2]):=by have:=aF5 s.data.toList u (by rw [aX];exact hs);rw [lC] at this;exact this
theorem aIt (s:ByteArray) (hs:s.size<=9223372036854775807) (u:Q):CR 198 #[.string s] u (.tuple #[.int .i64 (cK s.data.toList).1,.bool (cK s.data.toList).2]):=by have:=aDL s.data.toList u (by rw [aX];exact hs);rw [lC] at this;exact this
theorem aCo (l:List UInt8):gd (cK l).1=J:=by unfold cK;split <;> first | exact aMV _ | rfl
def aFg (k n:Int) (s:ByteArray):ByteArray:=
 if k=1 then ⟨(aAW n).toArray⟩ else if k=2 then s else if k=3 then (if (n !=0)=J then ⟨#[84,82,85,69]⟩ else ⟨#[70,65,76,83,69]⟩) else if k=4 then fnB n else ⟨#[]⟩
def dZ (s:ByteArray):Int × Int × ByteArray:=
 if s.toList=[] then (0,0,⟨#[]⟩) else if s.data.toList.head? =some 39 then (2,0,⟨(s.data.toList.drop 1).toArray⟩)
 else if (cK s.data.toList).2=J then (1,(cK s.data.toList).1,⟨#[]⟩)
 else if (jQ s).2=J then (3,if (jQ s).1=J then 1 else 0,⟨#[]⟩)
 else if pU s=0 then (2,0,s) else (4,(pU s:Nat),⟨#[]⟩)
theorem aDY (s:ByteArray):((jQ s).2=J/\(jQ s).1=J/\qJ (szF 97 65 s.data.toList)=1)\/((jQ s).2=J/\(jQ s).1=Z/\qJ (szF 97 65 s.data.toList)=0)\/((jQ s).2=Z/\qJ (szF 97 65 s.data.toList)= -1):=by unfold jQ;rcases mE (szF 97 65 s.data.toList) with ⟨_,h,g⟩ | ⟨_,h,g⟩ | ⟨_,_,h,g⟩ <;> simp [h,g]
theorem aGj (k n:Int) (s:ByteArray) (hn:In64 n) (w:Q) (T:xB w):
  CR 174 #[val k n s] w (.string (aFg k n s)):=by
 rcases aKX k with rfl | rfl | rfl | rfl | rfl | ⟨h0,h1,h2,h3,h4⟩
 ·exact aCe n s w
 ·exact aGb n s w _ (fun u hu=>aF7 n hn u (T.below hu).p)
 ·exact aGc n s w
 ·exact aDO n s w _ (fun u=>aF9 n s u)
 ·exact aGe n s w _ (fun u hu=>uI n u (T.below hu).f)
 ·have e:aFg k n s=⟨#[]⟩:=by simp [aFg,h1,h2,h3,h4]
  rw [e];exact aDP k n s w (xC h0) (xC h1) (xC h2) (xC h3) (xC h4)
theorem aME (l:List UInt8):Lib.hasPrefix l [39]=decide (l.head? =some 39)/\Lib.trimPrefix l [39]=if l.head? =some 39 then l.drop 1 else l:=by
 cases l with
 | nil=>exact⟨rfl,rfl⟩
 | cons b l=>
  have h:Lib.hasPrefix (b:: l) [39]=decide ((b:: l).head? =some 39):=by unfold Lib.hasPrefix;simp [List.isPrefixOf];exact BEq.comm
  refine ⟨h, ?_⟩;unfold Lib.trimPrefix;rw [h];by_cases e:(b:: l).head? =some 39
  ·rw [if_pos e,if_pos (by simpa using e)];rfl
  ·rw [if_neg e,if_neg (by simpa using e)]
theorem aM0 (s:ByteArray) (u:Q):CW 73 #[.string s,.string ⟨#[39]⟩] u (.tuple #[.string ⟨(if s.data.toList.head? =some 39 then s.data.toList.drop 1 else s.data.toList).toArray⟩,.bool (decide (s.data.toList.head? =some 39))]):=by have h:=Tryz.strings_CutPrefix s ⟨#[39]⟩ u;rw [show (⟨#[39]⟩:ByteArray).data.toList=[39] from rfl,(aME _).1,(aME _).2] at h;exact h
theorem uK (s:ByteArray) (hs:s.size<=9223372036854775807) (w:Q) (T:xB w):
  CR 160 #[.string s] w (val (dZ s).1 (dZ s).2.1 (dZ s).2.2):=by
 have PF:=fun u=>aM0 s u;have PP:=fun u=>aFf s hs u;have PT:=fun u=>aDT s hs u;have PL:∀u:Q,M (w.alloc (.cells #[.int .i64 0,.int .i64 0,.string ⟨#[]⟩] 62)).heap.size (w.alloc (.cells #[.int .i64 0,.int .i64 0,.string ⟨#[]⟩] 62)) u->_:=fun u hu=>aDW s u (T.below (iC hu)).f;unfold dZ;by_cases h0:s.toList=[]
 ·rw [if_pos h0];exact aCk s w h0
 ·rw [if_neg h0];by_cases h1:s.data.toList.head? =some 39
  ·rw [if_pos h1];simp only [h1,if_true,decide_true] at PF;exact aCl s w h0 _ PF
  ·rw [if_neg h1];simp only [h1,if_false,decide_false] at PF;by_cases h2:(cK s.data.toList).2=J
   ·rw [if_pos h2];rw [h2] at PP;exact aGi s w h0 _ PF _ PP (aCo _)
   ·rw [if_neg h2];rw [Bool.not_eq_true] at h2;rw [h2] at PP;by_cases h3:(jQ s).2=J
    ·rw [if_pos h3];rw [h3] at PT;exact aCm s w h0 _ PF _ PP _ PT
    ·rw [if_neg h3];rw [Bool.not_eq_true] at h3;rw [h3] at PT;by_cases h4:pU s=0
     ·rw [if_pos h4];simp only [h4,ne_eq,not_true_eq_false,decide_false] at PL;exact aDX s w h0 _ PF _ PP _ PT _ PL
     ·rw [if_neg h4];simp only [h4,ne_eq,not_false_eq_true,decide_true] at PL;have:=aDV s;exact aCn s w h0 _ PF _ PP _ PT _ PL (aA0 _ (by omega) (by omega))
def okC (c:UInt8):Bool:=Ad.isL c || Ad.isD c || (c==95)
def nK (l:List UInt8):Bool:=match l with
 | []=>Z
 | c:: _=>Ad.isL c
def spF (l:List UInt8):Bool:=decide (l.length<=16) && nK l && l.all okC
def lcF (l:List UInt8):Bool:=(l.drop 1).all Ad.isD && decide (1 < l.length)
def gnF (l:List UInt8):Bool:=spF l && !lcF l && !(jQ ⟨l.toArray⟩).2
theorem aA1 (p:UInt8->Bool) (s:ByteArray) (k:Nat) (h:k < s.size) (hall:s.data.toList.all p=J):p s[k]=J:=by rw [byte_at s k h (by rw [aX];exact h)];exact List.all_eq_true.1 hall _ (Ξ _)
theorem oP (p:UInt8->Bool) (s:ByteArray) (k:Nat) (h:k < s.size) (ha:(s.data.toList.take k).all p=J) (hb:p s[k]=J):(s.data.toList.take (k+1)).all p=J:=by rw [jF _ _ (by rw [aX];exact h),List.all_append,ha,<-byte_at s k h (by rw [aX];exact h)];simp [hb]
theorem aGk:∀(l:List UInt8) (h:0 < l.length),nK l=Ad.isL l[0]
 | [],h=>by simp at h
 | a:: r,h=>rfl
theorem aFh (s:ByteArray) (h:0 < s.size):nK s.data.toList=Ad.isL s[0]:=by rw [byte_at s 0 h (by rw [aX];exact h)];exact aGk _ _
theorem eY (c d:UInt8):(c=d/\((c.toNat:Int)==(d.toNat:Int))=J)\/(c ≠ d/\((c.toNat:Int)==(d.toNat:Int))=Z):=by
 by_cases h:c=d
 ·subst h;left;exact⟨rfl,by simp⟩
 ·right;refine ⟨h, ?_⟩;rw [beq_eq_false_iff_ne];intro e;exact h (UInt8.toNat_inj.1 (by omega))
theorem aCp (s:ByteArray) (hs:s.size<=9223372036854775807) (w:Q):
  CR 110 #[.string s] w (.bool (spF s.data.toList)):=by
 have hl:=aX s;generalize hr:spF s.data.toList=r;have HR:I (spF s.data.toList=r):=hr;clear hr;by_cases h0:s.size=0
 ·have h1:(s.size:Int) < 1:=by omega
  have HE:I (r=Z):=by show _=_;have:s.data.toList=[]:=χ (by omega);rw [<-HR.out,this];rfl
  go_enter Tryz.func110,Tryz.ntmps110;go_wp2;go_ret;exact⟨by rw [HE.out];rfl,E _ _⟩
 have h1:¬(s.size:Int) < 1:=by omega
 by_cases h16:16 < s.size
 ·have h2:(16:Int) < s.size:=by omega
  have HE:I (r=Z):=by show _=_;rw [<-HR.out];unfold spF;rw [decide_eq_false (show ¬s.data.toList.length<=16 by omega)];rfl
  go_enter Tryz.func110,Tryz.ntmps110;go_wp2;go_ret;exact⟨by rw [HE.out];rfl,E _ _⟩
 have h2:¬(16:Int) < s.size:=by omega
 have hz:0 < s.size:=by omega
 have L0:=fun u=>mQ s[0] u;have hh:=aFh s hz;cases hL:Ad.isL s[0]
 ·rw [hL] at L0 hh;have HE:I (r=Z):=by show _=_;rw [<-HR.out];unfold spF;rw [hh];simp
  go_enter Tryz.func110,Tryz.ntmps110;go_wp2_with (go_at_call 158;refine mw (L0 _) ?_)
  go_ret;exact⟨by rw [HE.out];rfl,E _ _⟩
 rw [hL] at L0 hh;have HE:I (r=s.data.toList.all okC):=by show _=_;rw [<-HR.out];unfold spF;rw [hh,decide_eq_true (show s.data.toList.length<=16 by omega)];rfl
 clear hh HR;obtain⟨c,wb,hrun,hcell,hbel⟩:=pW w s;have HB:I (M w.heap.size w wb):=hbel;have HC:I (∀(k:Nat) (h:k < s.size),wb.cell? ⟨w.heap.size,k,none⟩=some (.int .u8 (s[k].toNat:Int))):=hcell;clear hbel hcell;go_enter Tryz.func110,Tryz.ntmps110;go_wp2_with (go_at_call 158;refine mw (L0 _) ?_)
 go_loop [4,22] (fun _ i=>∃k:Nat,k<=s.size/\i=.int .i64 k/\I ((s.data.toList.take k).all okC=J)) (fun _ i=>s.size - (intOf i).toNat)
 case atStart=>exact⟨0,ψ _,rfl,by simp [I]⟩
 case round=>
  obtain⟨k,hk,rfl,ha⟩:=hrel;clear L0;by_cases hlt:k < s.size
  ·have hck:=HC.out k hlt;have Lk:=fun u=>mQ s[k] u;have Dk:=fun u=>aAm s[k] u;have HS:I (okC s[k]=J->(s.data.toList.take (k+1)).all okC=J):=fun h=>oP okC s k hlt ha.out h;have HN:I (okC s[k]=Z->r=Z):=fun h=>by
    rw [HE.out];cases hh:s.data.toList.all okC
    ·rfl
    ·rw [aA1 okC s k hlt hh] at h;cases h
   have HO:I (okC s[k]=(Ad.isL s[k] || Ad.isD s[k] || (s[k]==95))):=rfl;cases h1:Ad.isL s[k]
   ·rw [h1] at Lk HO;cases h2:Ad.isD s[k]
    ·rw [h2] at Dk HO;rcases eY s[k] 95 with ⟨h3,h4⟩ | ⟨h3,h4⟩
     ·have HA:I ((s.data.toList.take (k+1)).all okC=J):=HS.out (by rw [HO.out,h3];rfl);have h5:((s[k].toNat:Int) !=95)=Z:=by rw [h3];rfl
      clear h1 h2 h3 h4 HN HS;go_wp2_with (first|(go_at_call 158;refine mw (Lk _) ?_) | (go_at_call 159;refine mw (Dk _) ?_))
      go_round
      case rel=>exact⟨k+1,by omega,by go_num,HA.out⟩
      case measure=>simp [intOf];omega
     ·have HF:I (r=Z):=HN.out (by rw [HO.out];simpa using h3);have h5:((s[k].toNat:Int) !=95)=J:=by rw [bne,show ((s[k].toNat:Int)==95)=Z from h4];rfl
      clear h1 h2 h3 h4 HN HS;go_wp2_with (first|(go_at_call 158;refine mw (Lk _) ?_) | (go_at_call 159;refine mw (Dk _) ?_))
      go_ret;exact⟨by rw [HF.out];rfl,HB.out⟩
    ·rw [h2] at Dk HO;have HA:I ((s.data.toList.take (k+1)).all okC=J):=HS.out (by rw [HO.out];rfl);clear h1 h2 HN HS;go_wp2_with (first|(go_at_call 158;refine mw (Lk _) ?_) | (go_at_call 159;refine mw (Dk _) ?_))
     go_round
     case rel=>exact⟨k+1,by omega,by go_num,HA.out⟩
     case measure=>simp [intOf];omega
   ·rw [h1] at Lk HO;have HA:I ((s.data.toList.take (k+1)).all okC=J):=HS.out (by rw [HO.out];rfl);clear h1 HN HS;go_wp2_with (first|(go_at_call 158;refine mw (Lk _) ?_))
    go_round
    case rel=>exact⟨k+1,by omega,by go_num,HA.out⟩
    case measure=>simp [intOf];omega
  ·have HT:I (r=J):=by show _=_;have hh:=ha.out;rw [ζ (by omega)] at hh;rw [HE.out,hh]
   go_wp2;go_ret;exact⟨by rw [HT.out];rfl,HB.out⟩
theorem aDZ (s:ByteArray):(s.extract 1 s.size).data.toList=s.data.toList.drop 1:=by have:=drop_mk s.data.toList;rw [lC] at this;rw [this]
theorem sD (s:ByteArray) (hz:0 < s.size) (hs:s.size<=9223372036854775807) (w:Q):
  CR 111 #[.string s] w (.bool (lcF s.data.toList)):=by
 have hl:=aX s;generalize hr:lcF s.data.toList=r;have HR:I (lcF s.data.toList=r):=hr;clear hr;have hx:=aDZ s;have hxs:(s.extract 1 s.size).size=s.size - 1:=by simp
 have HE:I (r=((s.extract 1 s.size).data.toList.all Ad.isD && decide (1 < s.size))):=by show _=_;rw [<-HR.out];unfold lcF;rw [hx,hl]
 obtain⟨t,ht⟩:∃t,s.extract 1 s.size=t:=⟨_,rfl⟩
 rw [ht] at hx hxs HE;have hlt:=aX t;clear HR hx;obtain⟨c,wb,hrun,hcell,hbel⟩:=pW w t;have HB:I (M w.heap.size w wb):=hbel;have HC:I (∀(k:Nat) (h:k < t.size),wb.cell? ⟨w.heap.size,k,none⟩=some (.int .u8 (t[k].toNat:Int))):=hcell;clear hbel hcell;rw [<-ht] at hrun;clear ht;have c1:(1:Int)<=s.size:=by omega
 go_enter Tryz.func111,Tryz.ntmps111;go_wp2;go_loop [4,9] (fun _ i=>∃k:Nat,k<=t.size/\i=.int .i64 k/\I ((t.data.toList.take k).all Ad.isD=J)) (fun _ i=>t.size - (intOf i).toNat)
 case atStart=>exact⟨0,ψ _,rfl,by simp [I]⟩
 case round=>
  obtain⟨k,hk,rfl,ha⟩:=hrel;by_cases hlt2:k < t.size
  ·have hck:=HC.out k hlt2;have Dk:=fun u=>aAm t[k] u;cases h2:Ad.isD t[k]
   ·rw [h2] at Dk;have HF:I (r=Z):=by
     show _=_;rw [HE.out];cases hh:t.data.toList.all Ad.isD
     ·rfl
     ·rw [aA1 Ad.isD t k hlt2 hh] at h2;cases h2
    clear h2;go_wp2_with (go_at_call 159;refine mw (Dk _) ?_)
    go_ret;exact⟨by rw [HF.out];rfl,HB.out⟩
   ·rw [h2] at Dk;have HA:I ((t.data.toList.take (k+1)).all Ad.isD=J):=oP Ad.isD t k hlt2 ha.out h2;clear h2;go_wp2_with (go_at_call 159;refine mw (Dk _) ?_)
    go_round
    case rel=>exact⟨k+1,by omega,by go_num,HA.out⟩
    case measure=>simp [intOf];omega
  ·have HT:I (r=decide ((1:Int) < s.size)):=by show _=_;have hh:=ha.out;rw [ζ (by omega)] at hh;rw [HE.out,hh,Bool.true_and,decide_eq_decide];omega
   go_wp2;go_ret;exact⟨by rw [HT.out];rfl,HB.out⟩
theorem xD {l:List UInt8} (h:spF l=J):l.length<=16/\nK l=J/\l.all okC=J:=by unfold spF at h;simp only [δ,decide_eq_true_eq] at h;exact⟨h.1.1,h.1.2,h.2⟩
theorem uL {c:UInt8} (h:Ad.isL c=J):c ≠ 39/\c ≠ 45/\c ≠ 46/\isD c=Z:=by
 unfold Ad.isL at h;simp only [Bool.or_eq_true,δ,decide_eq_true_eq] at h;refine ⟨?_, ?_, ?_, ?_⟩
 ·rintro rfl;revert h;decide
 ·rintro rfl;revert h;decide
 ·rintro rfl;revert h;decide
 ·unfold isD;rw [Bool.and_eq_false_iff,decide_eq_false_iff_not,decide_eq_false_iff_not];omega
theorem sF {l:List UInt8} (h:nK l=J):(cK l).2=Z:=by
 cases l with
 | nil=>cases h
 | cons c r=>
  obtain⟨_,h2,h3,h4⟩:=uL h;have e1:dash (c:: r)=Z:=by unfold dash;simpa using h2
  have e2:body (c:: r)=c:: r:=by unfold body;rw [e1];rfl
  have e3:kH (c:: r)=c:: kH r:=by unfold kH;rw [List.takeWhile_cons,if_pos (by simpa using h3)]
  unfold cK;rw [e2,e3];have e4:jP (c:: kH r) 1 12=Z:=by unfold jP;rw [List.all_cons,h4];rfl
  rw [if_neg (by rw [e4];simp)]
theorem xE {s:ByteArray} (h:nK s.data.toList=J):((dZ s).1==3)=(jQ s).2:=by
 have hp:=sF h;have h0:¬s.toList=[]:=by rw [ε];intro e;rw [e] at h;cases h
 have h1:¬s.data.toList.head? =some 39:=by
  intro e;cases hl:s.data.toList with
  | nil=>rw [hl] at h;cases h
  | cons c r=>
   rw [hl] at h e;simp only [List.head?_cons,Option.some.injEq] at e;exact(uL h).1 e
 unfold dZ;rw [if_neg h0,if_neg h1,if_neg (by rw [hp];decide)];cases ht:(jQ s).2
 ·rw [if_neg (by decide)];split <;> rfl
 ·rw [if_pos rfl];rfl
theorem aFi (W:Q) (k n:Int) (x:ByteArray):(Instr.field 62 (.agg #[.int .i64 k,.int .i64 n,.string x]) 0).run H W=.ok (.int .i64 k) W:=by kernel_rfl
theorem zN (s:ByteArray) (hs:s.size<=9223372036854775807) (w:Q) (T:xB w):
  CR 112 #[.string s] w (.bool ((dZ s).1==3)):=by
 have Y:=uK s hs w T;generalize (dZ s).1=k at *;generalize (dZ s).2.1=n at *;generalize (dZ s).2.2=x at *;have FL:=fun W=>aFi W k n x;go_enter Tryz.func112,Tryz.ntmps112;go_wp2_with (go_at_call 160;refine Y.mono ?_;rintro e w1 ⟨rfl,hb⟩;have HB:I (M w.heap.size w w1):=hb;clear hb)
 go_ret;exact⟨rfl,HB.out⟩
theorem aIu (s:ByteArray):(spF s.data.toList=Z/\gnF s.data.toList=Z)\/(spF s.data.toList=J/\0 < s.size/\((lcF s.data.toList=J/\gnF s.data.toList=Z)\/(lcF s.data.toList=Z/\gnF s.data.toList= !((dZ s).1==3)))):=by
 unfold gnF;rw [lC];cases h:spF s.data.toList
 ·left;exact⟨rfl,rfl⟩
 ·right;obtain⟨h1,h2,h3⟩:=xD h;refine ⟨rfl, ?_, ?_⟩
  ·rw [<-aX];cases hl:s.data.toList with
   | nil=>rw [hl] at h2;cases h2
   | cons a r=>simp
  ·cases hc:lcF s.data.toList
   ·right;rw [xE h2];exact⟨rfl,rfl⟩
   ·left;exact⟨rfl,rfl⟩
theorem kI (s:ByteArray) (hs:s.size<=9223372036854775807) (w:Q) (T:xB w):
  CR 76 #[.string s] w (.bool (gnF s.data.toList)):=by
 have SP:=aCp s hs w;rcases aIu s with ⟨h1,h2⟩ | ⟨h1,hz,⟨h3,h2⟩ | ⟨h3,h2⟩⟩
 ·rw [h1] at SP;rw [h2];go_enter Tryz.func76,Tryz.ntmps76;go_wp2_with (go_at_call 110;refine SP.mono ?_;rintro e w1 ⟨rfl,hb⟩;have HB:I (M w.heap.size w w1):=hb;clear hb)
  go_ret;exact⟨rfl,HB.out⟩
 ·rw [h1] at SP;rw [h2];have LC:=fun u=>sD s hz hs u;rw [h3] at LC;go_enter Tryz.func76,Tryz.ntmps76;go_wp2_with (first|(go_at_call 110;refine SP.mono ?_;rintro e w1 ⟨rfl,hb⟩;have HB:I (M w.heap.size w w1):=hb;clear hb) | (go_at_call 111;refine (LC _).mono ?_;rintro e w2 ⟨rfl,hb⟩;have HB2:I (M w.heap.size w w2):=aD HB.out hb;clear hb))
  go_ret;exact⟨rfl,HB2.out⟩
 ·rw [h1] at SP;rw [h2];have LC:=fun u=>sD s hz hs u;have LT:=fun u hu=>zN s hs u hu;rw [h3] at LC;generalize ((dZ s).1==3)=k at *;go_enter Tryz.func76,Tryz.ntmps76;go_wp2_with (first|(go_at_call 110;refine SP.mono ?_;rintro e w1 ⟨rfl,hb⟩;have HB:I (M w.heap.size w w1):=hb;clear hb) | (go_at_call 111;refine (LC _).mono ?_;rintro e w2 ⟨rfl,hb⟩;have HB2:I (M w.heap.size w w2):=aD HB.out hb;clear hb) | (go_at_call 112;refine (LT _ (T.below HB2.out)).mono ?_;rintro e w3 ⟨rfl,hb⟩;have HB3:I (M w.heap.size w w3):=aD HB2.out hb;clear hb))
  go_ret;exact⟨rfl,HB3.out⟩
theorem aCq:Ad.Names gnF:=fun l h=>by
 unfold gnF at h;simp only [δ] at h;obtain⟨_,h2,h3⟩:=xD h.1.1;refine ⟨fun e=> ?_,fun x hx=> ?_⟩
 ·rw [e] at h2;cases h2
 ·have hk:=List.all_eq_true.1 h3 x hx;refine ⟨?_, ?_, ?_⟩ <;> (rintro rfl;revert hk;decide)
theorem aCr (s:ByteArray):((jQ s).2=J/\0<=qJ (szF 97 65 s.data.toList))\/((jQ s).2=Z/\qJ (szF 97 65 s.data.toList) < 0):=by
 rcases aDY s with ⟨a,_,c⟩ | ⟨a,_,c⟩ | ⟨a,c⟩
 ·left;rw [c];exact⟨a,by decide⟩
 ·left;rw [c];exact⟨a,by decide⟩
 ·right;rw [c];exact⟨a,by decide⟩
def oth (s:ByteArray) (k:Nat):Bool:=decide (s.size=1) || !((s.data.toList.take k).drop 1).all Ad.isD
theorem aKY (s:ByteArray):oth s 1=decide (s.size=1):=by
 unfold oth;have:(s.data.toList.take 1).drop 1=[]:=by cases s.data.toList <;> simp
 rw [this];simp
theorem aIv (s:ByteArray) (k:Nat) (h1:1<=k) (h:k < s.size):oth s (k+1)=(oth s k || !Ad.isD s[k]):=by unfold oth;have hl:=aX s;rw [jF _ _ (by omega),List.drop_append_of_le_length (by simp;omega),List.all_append,<-byte_at s k h (by omega)];simp only [List.all_cons,List.all_nil,Bool.and_true,Bool.not_and,Bool.or_assoc]
theorem aKZ (s:ByteArray) (h:0 < s.size):oth s s.size= !lcF s.data.toList:=by
 unfold oth lcF;have hl:=aX s;rw [ζ (by omega),hl];by_cases e:s.size=1
 ·simp [e]
 ·have:1 < s.size:=by omega
  simp [e,this]
theorem iD (s:ByteArray) (hs:s.size<=9223372036854775807) (w:Q):
  CR 48 #[.string s] w (.bool (gnF s.data.toList)):=by
 have hl:=aX s;generalize hr:gnF s.data.toList=r;have HR:I (gnF s.data.toList=r):=hr;clear hr;have HN:I (spF s.data.toList=Z->r=Z):=fun h=>by rw [<-HR.out];unfold gnF;rw [h];rfl
 by_cases h0:s.size=0
 ·have h1:(s.size:Int) < 1:=by omega
  have HE:I (r=Z):=by apply HN.out;have:s.data.toList=[]:=χ (by omega);rw [this];rfl
  go_enter Tryz.func48,Tryz.ntmps48;go_wp2;go_ret;exact⟨by rw [HE.out];rfl,E _ _⟩
 have h1:¬(s.size:Int) < 1:=by omega
 by_cases h16:16 < s.size
 ·have h2:(16:Int) < s.size:=by omega
  have HE:I (r=Z):=by apply HN.out;unfold spF;rw [decide_eq_false (show ¬s.data.toList.length<=16 by omega)];rfl
  go_enter Tryz.func48,Tryz.ntmps48;go_wp2;go_ret;exact⟨by rw [HE.out];rfl,E _ _⟩
 have h2:¬(16:Int) < s.size:=by omega
 have hz:0 < s.size:=by omega
 have L0:=fun u=>jO s[0] u;have hh:=aFh s hz;cases hL:Ad.isL s[0]
 ·rw [hL] at L0 hh;have HE:I (r=Z):=by apply HN.out;unfold spF;rw [hh];simp
  go_enter Tryz.func48,Tryz.ntmps48;go_wp2_with (go_at_call 91;refine mw (L0 _) ?_)
  go_ret;exact⟨by rw [HE.out];rfl,E _ _⟩
 rw [hL] at L0 hh;have RT:=fun u=>qK s hs u;have HT:=aCr s;generalize qJ (szF 97 65 s.data.toList)=tn at *;rcases HT with ⟨t1,t2⟩ | ⟨t1,t2⟩
 ·have HE:I (r=Z):=by show _=_;rw [<-HR.out];unfold gnF;rw [lC,t1];simp
  go_enter Tryz.func48,Tryz.ntmps48;go_wp2_with (first|(go_at_call 91;refine mw (L0 _) ?_) | (go_at_call 92;refine (RT _).mono ?_;rintro e w1 ⟨rfl,hb⟩;have HB:I (M w.heap.size w w1):=hb;clear hb))
  go_ret;exact⟨by rw [HE.out];rfl,HB.out⟩
 have HE:I (r=(s.data.toList.all okC && !lcF s.data.toList)):=by show _=_;rw [<-HR.out];unfold gnF spF;rw [lC,t1,hh,decide_eq_true (show s.data.toList.length<=16 by omega)];simp
 have HK0:I ((s.data.toList.take 1).all okC=J):=by have e:=oP okC s 0 hz (by simp) (by unfold okC;rw [hL];rfl);exact e
 clear hh HR HN t1 hL;go_enter Tryz.func48,Tryz.ntmps48;go_wp2_with (first|(go_at_call 91;refine mw (L0 _) ?_) | (go_at_call 92;refine (RT _).mono ?_;rintro e w1 ⟨rfl,hb⟩;have HB:I (M w.heap.size w w1):=hb;clear hb))
 clear L0 RT;go_loop [3,4] (fun v i=>∃(k:Nat) (o:Bool),1<=k/\k<=s.size/\i=.int .i64 k/\v=.bool o/\I ((s.data.toList.take k).all okC=J/\o=oth s k)) (fun _ i=>s.size - (intOf i).toNat)
 case atStart=>exact⟨1,_,O _,by omega,rfl,rfl,HK0.out,by rw [aKY,Ψ];simp;omega⟩
 case round=>
  obtain⟨k,o,hk1,hk,rfl,rfl,ha⟩:=hrel;by_cases hlt:k < s.size
  ·have Lk:=fun u=>jO s[k] u;have Dk:=fun u=>iH s[k] u;have HS:I (okC s[k]=J->(s.data.toList.take (k+1)).all okC=J):=fun h=>oP okC s k hlt ha.out.1 h;have HN:I (okC s[k]=Z->r=Z):=fun h=>by
    rw [HE.out];cases hh:s.data.toList.all okC
    ·rfl
    ·rw [aA1 okC s k hlt hh] at h;cases h
   have HO:I (okC s[k]=(Ad.isL s[k] || Ad.isD s[k] || (s[k]==95))):=rfl;have HP:I (oth s (k+1)=(o || !Ad.isD s[k])):=by show _=_;rw [aIv s k hk1 hlt,<-ha.out.2]
   cases h1:Ad.isL s[k]
   ·rw [h1] at Lk HO;cases h2:Ad.isD s[k]
    ·rw [h2] at Dk HO HP;rcases eY s[k] 95 with ⟨h3,h4⟩ | ⟨h3,h4⟩
     ·have HA:I ((s.data.toList.take (k+1)).all okC=J):=HS.out (by rw [HO.out,h3];rfl);have h5:((s[k].toNat:Int) !=95)=Z:=by rw [h3];rfl
      clear h1 h2 h3 h4 HN HS;cases o
      all_goals
       go_wp2_with (first|(go_at_call 91;refine mw (Lk _) ?_) | (go_at_call 93;refine mw (Dk _) ?_))
       go_round
       case rel=>exact⟨k+1,_,by omega,by omega,by go_num,rfl,HA.out,HP.out.symm⟩
       case measure=>simp [intOf];omega
     ·have HF:I (r=Z):=HN.out (by rw [HO.out];simpa using h3);have h5:((s[k].toNat:Int) !=95)=J:=by rw [bne,show ((s[k].toNat:Int)==95)=Z from h4];rfl
      clear h1 h2 h3 h4 HN HS;go_wp2_with (first|(go_at_call 91;refine mw (Lk _) ?_) | (go_at_call 93;refine mw (Dk _) ?_))
      go_ret;exact⟨by rw [HF.out];rfl,HB.out⟩
    ·rw [h2] at Dk HO HP;have HA:I ((s.data.toList.take (k+1)).all okC=J):=HS.out (by rw [HO.out];rfl);clear h1 h2 HN HS;cases o
     all_goals
      go_wp2_with (first|(go_at_call 91;refine mw (Lk _) ?_) | (go_at_call 93;refine mw (Dk _) ?_))
      go_round
      case rel=>exact⟨k+1,_,by omega,by omega,by go_num,rfl,HA.out,HP.out.symm⟩
      case measure=>simp [intOf];omega
   ·rw [h1] at Lk HO;have HA:I ((s.data.toList.take (k+1)).all okC=J):=HS.out (by rw [HO.out];rfl);clear HN HS;generalize Ad.isD s[k]=dk at *;clear h1;cases o <;> cases dk
    all_goals
     go_wp2_with (first|(go_at_call 91;refine mw (Lk _) ?_) | (go_at_call 93;refine mw (Dk _) ?_))
     go_round
     case rel=>exact⟨k+1,_,by omega,by omega,by go_num,rfl,HA.out,HP.out.symm⟩
     case measure=>simp [intOf];omega
  ·have HT:I (r=o):=by
    show _=_;have hh:=ha.out;obtain rfl:k=s.size:=by omega
    rw [ζ (by omega)] at hh;rw [HE.out,hh.1,hh.2,aKZ s hz];rfl
   go_wp2;go_ret;exact⟨by rw [HT.out];rfl,HB.out⟩
theorem wrap_i64 {n:Int} (h1: -9223372036854775808<=n) (h2:n<=9223372036854775807):IntKind.i64.wrap n=n:=by rw [IntKind.wrap_i64];omega
theorem aGl (n:Nat) (h:n<=64):(⟨(y n).toArray⟩:ByteArray).size<=2:=by
 rw [size_mk];by_cases e:n < 10
 ·rw [Lib.decDigits_one e];simp
 ·rw [y,dif_neg e,Lib.decDigits_one (by omega)];simp
def bV (R C:Nat) (fr fc:Bool):ByteArray:=⟨(Ad.cellW ⟨R,C,fr,fc⟩).toArray⟩
end Go.Proofs.YtfedoljlipfhdaaGreatDoor
namespace Go.Proofs.YtfedoljlipfhdaaGreatDoor.Dg
open Go.RowKit
theorem aDJ (w:Q) (z:Int):(convert 96 9 (.slice (some ⟨w.heap.size,0,none⟩) 1 1)).run H (w.alloc (.cells #[.int .u8 z] 5))=.ok (.string ⟨#[θ z.toNat]⟩) (w.alloc (.cells #[.int .u8 z] 5)):=by
 have hl:(loadCells ⟨w.heap.size,0,none⟩ 1).run H (w.alloc (.cells #[.int .u8 z] 5))=.ok (([z]:List Int).map (Value.int .u8)).toArray (w.alloc (.cells #[.int .u8 z] 5)):=by
  refine run_loadCells_list (P:=H) _ ⟨w.heap.size,0,none⟩ [.int .u8 z] fun j u hj=> ?_
  match j,hj with
  | 0,hj=>
   cases hj
   simp only [World.cell?];rw [show ((⟨w.heap.size,0,none⟩:Addr).add 0)=⟨w.heap.size,0,none⟩ from rfl,ν];rfl
 rw [run_convert_bytes_string _ 96 9 5 _ 1 1 μ ο ξ,run_bytesToString _ _ 1 1 _ hl,foldl_push_bytes];rfl
theorem aAX (m:Nat) (h:¬m / 10=0):y m=y (m / 10)++ [θ (48+m % 10)]:=by rw [y,dif_neg (by omega)]
theorem vN (n:Nat) (hn:n < 18446744073459551616) (w:Q):
  CR 186 #[.int .u64 n] w (.string ⟨(y n).toArray⟩):=by
 have hlen:=(rR 20 n (by decide) (by omega)).2;generalize hr:(⟨(y n).toArray⟩:ByteArray)=r;have HR:I ((⟨(y n).toArray⟩:ByteArray)=r):=hr;clear hr;go_enter Tryz.func186,Tryz.ntmps186;go_wp2;go_loopw [0,3] (fun u0 u3 wr=>∃(m:Nat) (t:ByteArray),u0=.int .u64 m/\u3=.string t/\m < 18446744073459551616/\t.size<=20/\I (M w.heap.size w wr/\∃L:List UInt8,t=⟨L.toArray⟩/\y n=y m++L)) (fun u0 _ _=>(intOf u0).toNat)
 case atStart=>exact⟨n,⟨#[]⟩,rfl,rfl,hn,by decide,E _ _,[],rfl,by simp⟩
 case round=>
  obtain⟨m,t,rfl,rfl,hm,ht,hH⟩:=hrel;have hcv:=aDJ wr (48+(m:Int) % 10);have hne:I ((⟨#[θ (48+(m:Int) % 10).toNat]⟩:ByteArray)++t=⟨([θ (48+m % 10)]++(t.data.toList)).toArray⟩):=by show _=_;rw [show (48+(m:Int) % 10).toNat=48+m % 10 by omega];exact nO [θ (48+m % 10)] t.data.toList
  generalize hX:(⟨#[θ (48+(m:Int) % 10).toNat]⟩:ByteArray)=X at *;have hXs:X.size=1:=by rw [<-hX];rfl
  clear hX;have hsz:(X++t).size<=21:=by rw [ByteArray.size_append];omega
  by_cases hz:m / 10=0
  ·have hz':(m:Int) / 10=0:=by omega
   have HE:I (r=X++t):=by obtain⟨_,L,rfl,e⟩:=hH.out;show _=_;rw [<-HR.out,hne.out,e,Lib.decDigits_one (by omega)];rw [show m % 10=m by omega]
   go_wp2;go_ret;exact⟨by rw [HE.out];rfl,hH.out.1.alloc (hH.out.1.size) _⟩
  ·have hz':((m:Int) / 10==0)=Z:=by simp;omega
   have HL:I (∃L:List UInt8,X++t=⟨L.toArray⟩/\y n=y (m / 10)++L):=by obtain⟨_,L,rfl,e⟩:=hH.out;refine ⟨_,hne.out, ?_⟩;rw [e,aAX m hz];simp
   have hs2:(X++t).size<=20:=by obtain⟨L,e1,e2⟩:=HL.out;rw [e1,size_mk];have:=congrArg List.length e2;simp at this;have:=(rR 20 (m / 10) (by decide) (by omega)).1;omega
   go_wp2;go_roundw
   case rel=>exact⟨m / 10,X++t,by go_num,rfl,by omega,hs2,hH.out.1.alloc (hH.out.1.size) _,HL.out⟩
   case measure=>simp [intOf];omega
theorem aGm (n:Nat) (hn:n<=100000) (w:Q):CR 146 #[.int .i64 n] w (.string ⟨(y n).toArray⟩):=by
 have D:=fun u=>vN n (by omega) u;generalize (⟨(y n).toArray⟩:ByteArray)=A at *;go_enter Tryz.func146,Tryz.ntmps146;go_wp2_with (go_at_call 186;refine (D _).mono ?_;rintro e w1 ⟨rfl,hb1⟩;have HB1:I _:=hb1;clear hb1)
 go_ret;exact⟨rfl,HB1.out⟩
theorem uH (s:ByteArray) (k:Nat) (h:k < s.size) (hall:s.data.toList.all isD=J):isD s[k]=J:=by rw [byte_at s k h (by rw [aX];exact h)];exact List.all_eq_true.1 hall _ (Ξ _)
theorem aCc (s:ByteArray) (k:Nat) (h:k < s.size) (ha:(s.data.toList.take k).all isD=J) (hb:isD s[k]=J):(s.data.toList.take (k+1)).all isD=J:=by rw [jF _ _ (by rw [aX];exact h),List.all_append,ha,<-byte_at s k h (by rw [aX];exact h)];simp [hb]
theorem lC (t:ByteArray):(⟨t.data.toList.toArray⟩:ByteArray)=t:=by
 cases t
 simp
end Go.Proofs.YtfedoljlipfhdaaGreatDoor.Dg
namespace Go.Proofs.YtfedoljlipfhdaaGreatDoor
open Go.RowKit
theorem aIw {u:Q} {g:Nat} {z:Int} {m:Nat × Nat} (h:u.heap[g]? =some (.cells #[.int .u8 z] 5 m)):(convert 96 9 (.slice (some ⟨g,0,none⟩) 1 1)).run H u=.ok (.string ⟨#[θ z.toNat]⟩) u:=by
 have hl:(loadCells ⟨g,0,none⟩ 1).run H u=.ok (([z]:List Int).map (Value.int .u8)).toArray u:=by
  refine run_loadCells_list (P:=H) _ ⟨g,0,none⟩ [.int .u8 z] fun j v hj=> ?_
  match j,hj with
  | 0,hj=>
   cases hj
   rw [show ((⟨g,0,none⟩:Addr).add 0)=⟨g,0,none⟩ from rfl,Θ u _ _ _ 5 _ h];rfl
 rw [run_convert_bytes_string _ 96 9 5 _ 1 1 μ ο ξ,run_bytesToString _ _ 1 1 _ hl,foldl_push_bytes];rfl
theorem aM1 {w x:Q} (hb:M w.drew.heap.size w.drew x):M w.heap.size w x:=⟨hb.os,hb.tape,hb.output,hb.size,hb.block⟩
theorem aAs {w w7:Q} {o:Obj} (hb:M (w.alloc o).drew.heap.size (w.alloc o).drew w7):M w.heap.size w w7/\w7.heap[w.heap.size]? =some o:=by
 have h:M (w.alloc o).heap.size (w.alloc o) w7:=⟨hb.os,hb.tape,hb.output,hb.size,hb.block⟩
 exact⟨iC h,new1 h⟩
def ctB (r c:Int):ByteArray:=if inB r c=J then bV r.toNat c.toNat Z Z else ⟨#[]⟩
theorem aM2 {r c:Int} (h:inB r c=J):∃R C:Nat,r=R/\c=C/\1<=R/\R<=64/\1<=C/\C<=26:=by unfold inB at h;simp only [δ,decide_eq_true_eq] at h;exact⟨r.toNat,c.toNat,by omega,by omega,by omega,by omega,by omega,by omega⟩
theorem aM3 (R C:Nat):(⟨#[Ad.aDE C]⟩:ByteArray)++⟨(y R).toArray⟩=bV R C Z Z:=by unfold bV Ad.cellW;apply Δ;simp
theorem wrap_u8 {n:Int} (h1:0<=n) (h2:n<=255):IntKind.u8.wrap n=n:=by simp [IntKind.wrap,IntKind.bits,IntKind.signed];omega
theorem aK0 (R C:Nat) (hi:inB R C=J) (hR1:1<=R) (hR2:R<=64) (hC1:1<=C) (hC2:C<=26) (w:Q):
  CR 97 #[.int .i64 R,.int .i64 C] w (.string (bV R C Z Z)):=by
 have IN:=fun u=>rO R C u;rw [hi] at IN;clear hi;have IT:=fun u=>Dg.aGm R (by omega) u;have z3:=aGl R hR2;rw [<-aM3];generalize (⟨(y R).toArray⟩:ByteArray)=X3 at *;obtain⟨m1,e1⟩:∃m1:Int,65+(C:Int)=m1:=⟨_,rfl⟩
 obtain⟨m2,e2⟩:∃m2:Int,m1 - 1=m2:=⟨_,rfl⟩
 have k1:IntKind.i64.wrap m1=m1:=wrap_i64 (by omega) (by omega);have k2:IntKind.i64.wrap m2=m2:=wrap_i64 (by omega) (by omega);have k3:IntKind.u8.wrap m2=m2:=wrap_u8 (by omega) (by omega);have e4:(⟨#[θ m2.toNat]⟩:ByteArray)=⟨#[Ad.aDE C]⟩:=by unfold Ad.aDE;rw [show m2.toNat=64+C by omega]
 have z4:(⟨#[Ad.aDE C]⟩:ByteArray).size<=1:=O 1;have CV:I (∀(u:Q) (g:Nat) (m:Nat × Nat),u.heap[g]? =some (.cells #[.int .u8 m2] 5 m)->(convert 96 9 (.slice (some ⟨g,0,none⟩) 1 1)).run H u=.ok (.string ⟨#[Ad.aDE C]⟩) u):=fun u g m h=>by rw [aIw h,e4]
 clear e4;generalize (⟨#[Ad.aDE C]⟩:ByteArray)=X4 at *;have z5:¬9223372036854775807 < X4.size+X3.size:=by omega
 have c1:(convert 96 9 (.slice (some ⟨w.heap.size,0,none⟩) 1 1)).run H (w.alloc (.cells #[.int .u8 m2] 5)).drew=.ok (.string X4) (w.alloc (.cells #[.int .u8 m2] 5)).drew:=CV.out _ _ _ (ν w _);have ITa:=IT (w.alloc (.cells #[.int .u8 m2] 5)).drew;have ITb:=IT w.drew;go_enter Tryz.func97,Tryz.ntmps97;go_wp2_with (go_at_call 145;refine mw (IN _) ?_)
 go_region_held_law (fun _=>True) (trivial) (first|(go_at_call 146;refine ITa.mono ?_;rintro e w7 ⟨rfl,hb⟩;have HB:I (M w.heap.size w w7):=(aAs hb).1;have c2:=CV.out w7 w.heap.size (0,0) (aAs hb).2;clear hb)|(go_at_call 146;refine ITb.mono ?_;rintro e w7 ⟨rfl,hb⟩;have HB:I (M w.heap.size w w7):=aM1 hb;have c2:=CV.out (w7.alloc (.cells #[.int .u8 m2] 5)) w7.heap.size (0,0) (ν w7 _);clear hb))
 ·go_wp2;go_ret;exact⟨rfl,HB.out⟩
 ·go_wp2;go_ret;exact⟨rfl,HB.out⟩
 ·go_wp2;go_ret;exact⟨rfl,aC HB.out _⟩
def aIx (w:Q):Prop:=∃t1 p1 t2 p2,w.cell? ⟨6,0,none⟩=some (.iface t1 p1)/\w.cell? ⟨7,0,none⟩=some (.iface t2 p2)
theorem aIx.below {w w':Q} (h:aIx w) (hb:M w.heap.size w w'):aIx w':=by obtain⟨t1,p1,t2,p2,h1,h2⟩:=h;exact⟨t1,p1,t2,p2,(hb.cell (σ w _ h1)).trans h1,(hb.cell (σ w _ h2)).trans h2⟩
structure zO (w:Q):Prop where
 t:xB w
 e:aIx w
theorem zO.below {w w':Q} (h:zO w) (hb:M w.heap.size w w'):zO w':=⟨h.t.below hb,h.e.below hb⟩
theorem aGn (n:Int) (hn:In64 n) (w:Q) (T:pR w):
  CR 221 #[.int .i64 n] w (.string ⟨(Lib.itoa n).toArray⟩):=by
 refine (Tryz.strconv_Itoa n hn.1 hn.2 w T).mono ?_;rintro e w' ⟨rfl,k,os,rfl⟩;exact⟨rfl,wU w k os⟩
theorem aK1 {s X:ByteArray} {v:Int} {w:Q} (AT:CR 281 #[.string s] w (.tuple #[.int .i64 v,.nilIface]))
  (IT:RC w 221 #[.int .i64 v] (.string X)) {b:Bool} (hx:(X.toList==s.toList)=b):
  CR 267 #[.string s] w (.int .i64 (if b=J then v else 0)):=by
 cases b
 all_goals
  go_enter Tryz.func267,Tryz.ntmps267;go_wp2_with (first|(go_at_call 281;refine AT.mono ?_;rintro e w1 ⟨rfl,hb⟩;have HB:I (M w.heap.size w w1):=hb;clear hb) | (go_at_call 221;refine (IT _ HB.out).mono ?_;rintro e w2 ⟨rfl,hb⟩;have HB2:I (M w.heap.size w w2):=hb;clear hb))
  go_ret;exact⟨rfl,HB2.out⟩
theorem aFj {s:ByteArray} {v:Int} {w:Q} (AT:Calls H 281 #[.string s] w fun e w'=>∃N,e=.returned (.tuple #[.int .i64 v,.iface 290 (pt N)])/\M w.heap.size w w'):
  CR 267 #[.string s] w (.int .i64 0):=by
 go_enter Tryz.func267,Tryz.ntmps267;go_wp2_with (go_at_call 281;refine AT.mono ?_;rintro e w1 ⟨N,rfl,hb⟩;have HB:I (M w.heap.size w w1):=hb;clear hb)
 go_ret;exact⟨rfl,HB.out⟩
theorem aM4 (a b:ByteArray):(a.toList==b.toList)=decide (a.data.toList=b.data.toList):=by rw [ε,ε,Ψ];simp
theorem aA2 (l:List UInt8) (hl:l.length<=140737488355328) (w:Q) (T:zO w):
  CR 267 #[.string ⟨l.toArray⟩] w (.int .i64 (Ad.wP l)):=by
 obtain⟨t1,p1,t2,p2,h1,h2⟩:=T.e;have hz:(⟨l.toArray⟩:ByteArray).size<=140737488355328:=by rw [size_mk];exact hl
 unfold Ad.wP;cases ha:Lib.atoiAll l with
 | ok v=>
  have AT:=Tryz.strconv_Atoi_ok ⟨l.toArray⟩ (by omega) v ha w;have hv:=Lib.atoiAll_bounds ha;have:=aK1 (s:=⟨l.toArray⟩) (v:=v) (w:=w) (AT.mono fun e w' ⟨q1,q2⟩=>⟨q1,by
   rcases q2 with rfl | ⟨t,rfl⟩
   ·exact E _ _
   ·exact Lib.bytesWorld_below _ _ _⟩) (RC.of fun u hu=>aGn v hv u (T.t.p.below hu)) (aM4 _ _)
  simp only [List.toList_toArray,decide_eq_true_eq] at this;exact this
 | «syntax» =>
  exact aFj ((Tryz.strconv_Atoi_syntax ⟨l.toArray⟩ (by omega) ha _ w h1 (.inr ⟨_,_,rfl⟩)).mono fun e w' ⟨N,q1,_,_,q2⟩=>⟨N,q1,q2⟩)
 | range=>
  exact aFj ((Tryz.strconv_Atoi_range ⟨l.toArray⟩ (by omega) ha _ w h2 (.inr ⟨_,_,rfl⟩)).mono fun e w' ⟨N,q1,_,_,q2⟩=>⟨N,q1,q2⟩)
abbrev aS:Obj:=dV ⟨#[]⟩ ⟨#[]⟩ 0 0 Z Z
def nQ (o:Option Ad.Cell):α:=match o with
 | none=>gH
 | some c=>dL ⟨#[]⟩ ⟨#[]⟩ c.row c.col c.fr c.fc
section
variable {u:Q} {g:Nat} {a b c d e f v:α} {t:Ω}
theorem sG (h:u.heap[g]? =some (.cells #[a,b,c,d,e,f] t (0,0))):(u.setCell ⟨g,2,none⟩ v).heap[g]? =some (.cells #[a,b,v,d,e,f] t (0,0)):=by simp [κ,γ,h]
theorem nL (h:u.heap[g]? =some (.cells #[a,b,c,d,e,f] t (0,0))):(u.setCell ⟨g,3,none⟩ v).heap[g]? =some (.cells #[a,b,c,v,e,f] t (0,0)):=by simp [κ,γ,h]
theorem xG (h:u.heap[g]? =some (.cells #[a,b,c,d,e,f] t (0,0))):(u.setCell ⟨g,4,none⟩ v).heap[g]? =some (.cells #[a,b,c,d,v,f] t (0,0)):=by simp [κ,γ,h]
theorem eZ {j k:Nat} (hj:g ≠ j):(u.setCell ⟨g,k,none⟩ v).heap[j]? =u.heap[j]? :=by simp [κ,γ,hj]
end
section
variable {u:Q} {g:Nat} {a b c d e f a' b' c' d' e' f':α} {t:Ω}
theorem iA (h:u.heap[g]? =some (.cells #[a,b,c,d,e,f] t (0,0))):((((((u.setCell ⟨g,0,none⟩ a').setCell ⟨g,1,none⟩ b').setCell ⟨g,2,none⟩ c').setCell ⟨g,3,none⟩ d').setCell ⟨g,4,none⟩ e').setCell ⟨g,5,none⟩ f').heap[g]? =some (.cells #[a',b',c',d',e',f'] t (0,0)):=by simp [κ,γ,h]
theorem bF {w:Q} (h:M w.heap.size w u) (hg:w.heap.size<=g):M w.heap.size w ((((((u.setCell ⟨g,0,none⟩ a').setCell ⟨g,1,none⟩ b').setCell ⟨g,2,none⟩ c').setCell ⟨g,3,none⟩ d').setCell ⟨g,4,none⟩ e').setCell ⟨g,5,none⟩ f'):=
 (((((h.setCell hg _).setCell hg _).setCell hg _).setCell hg _).setCell hg _).setCell hg _
end
theorem bM {fn:Func} {i j:Tmp} (hr:fn.results=#[.cell i 64,.tmp j]) {tmps:Array α} {g:Nat} {wf:Q} (hp:tmps.getD i undef=pt g) {b s:ByteArray} {r c:Int} {fr fc ok:Bool}
  (h:wf.heap[g]? =some (dV b s r c fr fc)) (hj:tmps.getD j undef=.bool ok):(results fn tmps).run H wf=.ok (.tuple #[dL b s r c fr fc,.bool ok]) wf:=by
 obtain⟨c0,c1,c2,c3,c4,c5⟩:=aR h;simp only [Array.getD_eq_getD_getElem?] at hp hj;simp [results,hr,hp,hj,go_sem,c0,c1,c2,c3,c4,c5]
theorem aIy {A A1:ByteArray} {fc:Bool} {w:Q} (CP:∀u,CW 73 #[.string A,.string ⟨#[36]⟩] u (.tuple #[.string A1,.bool fc])) (h0:A1.toList=[]):
  CR 233 #[.string A] w (.tuple #[gH,.bool Z]):=by
 go_enter Tryz.func233,Tryz.ntmps233;go_wp2_with (go_at_call 73;refine mw (CP _) ?_)
 refine S (v:=.tuple #[gH,.bool Z]) (by simp [results,Tryz.results233,go_sem]) rfl ?_;refine ⟨rfl, ?_⟩;repeat (first | exact E _ _ | refine Below.drew ?_ | refine aC ?_ _ | refine Below.setCell ?_ (by simp) _)
theorem aIz {A A1:ByteArray} {fc:Bool} {w:Q} (CP:∀u,CW 73 #[.string A,.string ⟨#[36]⟩] u (.tuple #[.string A1,.bool fc])) (h0:(A1.toList==[])=Z) (hz:0 < A1.size)
  (LT:∀u,CW 158 #[.int .u8 (A1[0].toNat:Nat)] u (.bool Z)):
  CR 233 #[.string A] w (.tuple #[gH,.bool Z]):=by
 go_enter Tryz.func233,Tryz.ntmps233;go_wp2_with (first|(go_at_call 73;refine mw (CP _) ?_) | (go_at_call 158;refine mw (LT _) ?_))
 refine S (v:=.tuple #[gH,.bool Z]) (by simp [results,Tryz.results233,go_sem]) rfl ?_;refine ⟨rfl, ?_⟩;repeat (first | exact E _ _ | refine Below.drew ?_ | refine aC ?_ _ | refine Below.setCell ?_ (by simp) _)
theorem aGo {A A1 U V Y A2:ByteArray} {fc fr ok:Bool} {n C:Int} {w:Q} (CP:∀u,CW 73 #[.string A,.string ⟨#[36]⟩] u (.tuple #[.string A1,.bool fc])) (h0:(A1.toList==[])=Z) (hz:0 < A1.size)
  (LT:∀u,CW 158 #[.int .u8 (A1[0].toNat:Nat)] u (.bool J)) (hU:A1.extract 0 1=U) (hV:A1.extract 1 A1.size=V)
  (UP:∀u,CR 214 #[.string U] u (.string Y)) (hY:0 < Y.size) (hy1:65<=(Y[0].toNat:Int)) (hy2:(Y[0].toNat:Int)<=90) (hC:(Y[0].toNat:Int) - 65+1=C)
  (CQ:∀u,CW 73 #[.string V,.string ⟨#[36]⟩] u (.tuple #[.string A2,.bool fr]))
  (PR:∀u,M w.heap.size w u->CR 267 #[.string A2] u (.int .i64 n)) (IN:∀u,CW 212 #[.int .i64 n,.int .i64 C] u (.bool ok)):
  CR 233 #[.string A] w (.tuple #[if ok=J then dL ⟨#[]⟩ ⟨#[]⟩ n C fr fc else gH,.bool ok]):=by
 have c1:(1:Int)<=A1.size:=by omega
 go_enter Tryz.func233,Tryz.ntmps233;go_wp2_with (go_at_call 73;refine mw (CP _) ?_)
 refine (LT _).mono ?_;rintro e w' ⟨rfl,hw⟩;obtain rfl:=hw.symm;clear hw;go_wp2_with fail
 refine (UP _).mono ?_;rintro e w1 ⟨rfl,hb⟩;obtain⟨z1,z2⟩:=new2 hb;have HB1:I (M w.heap.size w w1):=rP hb;have Z1:I (w1.heap[w.heap.size]? =some aS/\w1.heap[w.heap.size+1]? =some (dV ⟨#[]⟩ ⟨#[]⟩ 0 0 Z fc)):=⟨z1,z2⟩
 obtain⟨c0,c1,c2,c3,c4,c5⟩:=aR z2;obtain⟨f0,f1,f2,f3,f4,f5⟩:=aV z2;clear hb z1 z2 UP LT CP;go_wp2_with fail
 refine (CQ _).mono ?_;rintro e w' ⟨rfl,hw⟩;obtain rfl:=hw.symm;clear hw;go_wp2_with fail
 clear c0 c1 c2 c3 c4 c5 f0 f1 f2 f3 f4 f5;refine (PR _ ?hh).mono ?_
 case hh=>exact(HB1.out.setCell (by simp) _).setCell (by simp) _
 rintro e w2 ⟨rfl,hb⟩;have HB2:I (M w.heap.size w w2):=aD ((HB1.out.setCell (by simp) _).setCell (by simp) _) hb;have y2:=(hb.block _ (bA (xG (nL Z1.out.2)))).trans (xG (nL Z1.out.2));have y1:=(hb.block w.heap.size (bA ((eZ (by omega)).trans ((eZ (by omega)).trans Z1.out.1)))).trans ((eZ (by omega)).trans ((eZ (by omega)).trans Z1.out.1));have YY:I (w2.heap[w.heap.size]? =some aS/\w2.heap[w.heap.size+1]? =some (dV ⟨#[]⟩ ⟨#[]⟩ 0 C fr fc)):=⟨y1,y2⟩
 obtain⟨c0,c1,c2,c3,c4,c5⟩:=aR y2;obtain⟨f0,f1,f2,f3,f4,f5⟩:=aV y2;obtain⟨d0,d1,d2,d3,d4,d5⟩:=aR y1;obtain⟨e0,e1,e2,e3,e4,e5⟩:=aV y1;clear hb y1 y2 Z1;go_wp2_with fail
 refine (IN _).mono ?_;rintro e w' ⟨rfl,hw⟩;obtain rfl:=hw.symm;have x2:=sG (v:=.int .i64 n) YY.out.2;have x1:=(eZ (u:=w2) (k:=2) (v:=.int .i64 n) (g:=w.heap.size+1) (j:=w.heap.size) (by omega)).trans YY.out.1;have HB3:I (M w.heap.size w (w2.setCell ⟨w.heap.size+1,2,none⟩ (.int .i64 n))):=HB2.out.setCell (by simp) _;clear hw c0 c1 c2 c3 c4 c5 f0 f1 f2 f3 f4 f5 d0 d1 d2 d3 d4 d5 e0 e1 e2 e3 e4 e5 YY HB2 HB1 IN PR CQ;generalize w2.setCell ⟨w.heap.size+1,2,none⟩ (.int .i64 n)=w3 at *;have XX:I (w3.heap[w.heap.size]? =some aS):=x1;obtain⟨c0,c1,c2,c3,c4,c5⟩:=aR x2;obtain⟨d0,d1,d2,d3,d4,d5⟩:=aR x1;obtain⟨e0,e1,e2,e3,e4,e5⟩:=aV x1;clear x1 x2;cases ok
 ·go_wp2;exact S (bM rfl rfl (iA XX.out) rfl) rfl ⟨rfl,bF HB3.out (O _)⟩
 ·go_wp2;exact S (bM rfl rfl (iA XX.out) rfl) rfl ⟨rfl,bF HB3.out (O _)⟩
theorem aIA (c:UInt8) (h:Ad.isL c=J):65<=((szB 97 65 c).toNat:Int)/\((szB 97 65 c).toNat:Int)<=90/\((szB 97 65 c).toNat:Int) - 65+1=(Ad.kQ c:Nat):=by
 unfold Ad.isL at h;simp only [Bool.or_eq_true,δ,decide_eq_true_eq] at h;unfold szB Ad.kQ;rcases h with h | h
 ·rw [if_pos (by omega),if_pos (by omega),Ad.toNat_ofNat (by omega)];omega
 ·rw [if_neg (by omega),if_neg (by omega)];omega
theorem aM5 (c:UInt8) (u:Q):CR 214 #[.string ⟨#[c]⟩] u (.string ⟨#[szB 97 65 c]⟩):=aDS ⟨#[c]⟩ (by show 1<=_;decide) u
theorem aK2 (c:UInt8) (u:Q):CR 142 #[.string ⟨#[c]⟩] u (.string ⟨#[szB 97 65 c]⟩):=aAZ ⟨#[c]⟩ (by show 1<=_;decide) u
theorem qL (c:UInt8) (r:List UInt8):(⟨(c:: r).toArray⟩:ByteArray).extract 0 1=⟨#[c]⟩/\(⟨(c:: r).toArray⟩:ByteArray).extract 1 (⟨(c:: r).toArray⟩:ByteArray).size=⟨r.toArray⟩/\((⟨(c:: r).toArray⟩:ByteArray).toList==[])=Z/\0 < (⟨(c:: r).toArray⟩:ByteArray).size:=by
 refine ⟨?_, ?_, ?_, ?_⟩
 ·apply Δ;simp
 ·exact drop_mk (c:: r)
 ·rw [ε];rfl
 ·rw [size_mk];simp
theorem aA3 (n:Int) (c:Nat) (h1:1<=c) (h2:c<=26):inB n c=J↔Ad.rM n:=by unfold inB Ad.rM;simp only [δ,decide_eq_true_eq];omega
theorem lQ (l:List UInt8) (hl:l.length<=140737488355328) (w:Q) (T:zO w):
  CR 233 #[.string ⟨l.toArray⟩] w (.tuple #[nQ (Ad.cellP l),.bool (Ad.cellP l).isSome]):=by
 have CP:=fun u=>mD 36 l u;have hlen:=Ad.lX 36 l;unfold Ad.cellP;cases hs:(Ad.strip 36 l).2 with
 | nil=>
  rw [hs] at CP;exact aIy CP (by rw [ε])
 | cons c r=>
  rw [hs] at CP hlen;obtain⟨k1,k2,k3,k4⟩:=qL c r;simp only;unfold Ad.aAl;cases hL:Ad.isL c
  ·have LT:=fun u=>mQ c u;rw [hL] at LT;rw [if_neg (by simp)];exact aIz CP k3 k4 LT
  ·have LT:=fun u=>mQ c u;rw [hL] at LT;obtain⟨b1,b2,_⟩:=Ad.aAT hL;obtain⟨y1,y2,y3⟩:=aIA c hL;have hlr:=Ad.lX 36 r;have W:∀ok,inB (Ad.wP (Ad.strip 36 r).2) (Ad.kQ c:Nat)=ok->_:=fun ok hok=>aGo (w:=w) (ok:=ok) CP k3 k4 LT k1 k2 (fun u=>aM5 c u) (show 0 < 1 by decide) y1 y2 y3 (fun u=>mD 36 r u) (fun u hu=>aA2 (Ad.strip 36 r).2 (by simp only [List.length_cons] at hlen;omega) u (T.below hu)) (fun u=>by have:=aMU (Ad.wP (Ad.strip 36 r).2) (Ad.kQ c:Nat) u;rw [hok] at this;exact this);rcases Ad.aHy (Ad.strip 36 r).2 with ⟨h1,h2⟩ | ⟨h1,h2⟩
   ·have hx:=W J ((aA3 _ _ b1 b2).2 h1);rw [h2] at hx h1;unfold Ad.rM at h1;rw [if_pos ⟨rfl,by omega,by omega⟩];exact hx
   ·have hx:=W Z (by
     cases hb:inB (Ad.wP (Ad.strip 36 r).2) (Ad.kQ c:Nat)
     ·rfl
     ·exact absurd ((aA3 _ _ b1 b2).1 hb) h1)
    rw [if_neg (fun q=>h2 q.2)];exact hx
def jZ (f:Bool) (A A1:ByteArray) (h:0 < A.size):Prop:=(f=J/\((A[0].toNat:Int)==36)=J/\A.extract 1 A.size=A1)\/(f=Z/\((A[0].toNat:Int)==36)=Z/\A=A1)
theorem aM6 {A:ByteArray} {w:Q} (h0:A.size=0):
  CR 242 #[.string A] w (.tuple #[gH,.bool Z]):=by
 have c1:¬(0:Int) < A.size:=by omega
 have c2:(A.size:Int) < 2:=by omega
 go_enter Tryz.func242,Tryz.ntmps242;go_wp2;refine S (v:=.tuple #[gH,.bool Z]) (by simp [results,Tryz.results242,go_sem]) rfl ?_;refine ⟨rfl, ?_⟩;repeat (first | exact E _ _ | refine Below.drew ?_ | refine aC ?_ _ | refine Below.setCell ?_ (by simp) _)
theorem aCs {A A1:ByteArray} {fc:Bool} {w:Q} (hz:0 < A.size) (hA:jZ fc A A1 hz) (h2:A1.size < 2):
  CR 242 #[.string A] w (.tuple #[gH,.bool Z]):=by
 have c1:(0:Int) < A.size:=by omega
 have c3:(1:Int)<=A.size:=by omega
 have c2:(A1.size:Int) < 2:=by omega
 rcases hA with ⟨rfl,h3,h4⟩ | ⟨rfl,h3,rfl⟩;all_goals
  go_enter Tryz.func242,Tryz.ntmps242;go_wp2;refine S (v:=.tuple #[gH,.bool Z]) (by simp [results,Tryz.results242,go_sem]) rfl ?_;refine ⟨rfl, ?_⟩;repeat (first | exact E _ _ | refine Below.drew ?_ | refine aC ?_ _ | refine Below.setCell ?_ (by simp) _)
theorem aIB {A A1:ByteArray} {fc:Bool} {w:Q} (hz:0 < A.size) (hA:jZ fc A A1 hz) (h2:2<=A1.size) (h0:0 < A1.size)
  (LT:∀u,CW 91 #[.int .u8 (A1[0].toNat:Nat)] u (.bool Z)):
  CR 242 #[.string A] w (.tuple #[gH,.bool Z]):=by
 have c1:(0:Int) < A.size:=by omega
 have c3:(1:Int)<=A.size:=by omega
 have c2:¬(A1.size:Int) < 2:=by omega
 rcases hA with ⟨rfl,h3,h4⟩ | ⟨rfl,h3,rfl⟩;all_goals
  go_enter Tryz.func242,Tryz.ntmps242;go_wp2_with (go_at_call 91;refine mw (LT _) ?_)
  refine S (v:=.tuple #[gH,.bool Z]) (by simp [results,Tryz.results242,go_sem]) rfl ?_;refine ⟨rfl, ?_⟩;repeat (first | exact E _ _ | refine Below.drew ?_ | refine aC ?_ _ | refine Below.setCell ?_ (by simp) _)
theorem aA4 {A A1 U V Y A2:ByteArray} {fc fr:Bool} {C:Int} {w:Q} (hz:0 < A.size) (hA:jZ fc A A1 hz) (h2:2<=A1.size) (h0:0 < A1.size)
    (LT:∀u,CW 91 #[.int .u8 (A1[0].toNat:Nat)] u (.bool J)) (hU:A1.extract 0 1=U) (hV:A1.extract 1 A1.size=V)
    (UP:∀u,CR 142 #[.string U] u (.string Y)) (hY:0 < Y.size) (hy1:65<=(Y[0].toNat:Int)) (hy2:(Y[0].toNat:Int)<=90) (hC:(Y[0].toNat:Int) - 65+1=C)
    (hVz:0 < V.size) (hW:jZ fr V A2 hVz) (hB:A2.size=0\/2 < A2.size\/∃h:0 < A2.size,A2.size<=2/\((A2[0].toNat:Int)==48)=J):
    CR 242 #[.string A] w (.tuple #[gH,.bool Z]):=by
  have c1:(0:Int) < A.size:=by omega
  have c3:(1:Int)<=A.size:=by omega
  have c2:¬(A1.size:Int) < 2:=by omega
  have c4:(1:Int)<=A1.size:=by omega
  have c5:(1:Int)<=V.size:=by omega
  have hB':((A2.size:Int) < 1)\/(¬(A2.size:Int) < 1/\(2:Int) < A2.size)\/∃h:0 < A2.size,¬(A2.size:Int) < 1/\¬(2:Int) < A2.size/\((A2[0].toNat:Int)==48)=J:=by
    rcases hB with h | h | ⟨h,g,k⟩
    · exact .inl (by omega)
    · exact .inr (.inl ⟨by omega,by omega⟩)
    · exact .inr (.inr ⟨h,by omega,by omega,k⟩)
  clear hB;rcases hA with ⟨rfl,h3,h4⟩ | ⟨rfl,h3,rfl⟩ <;> rcases hW with ⟨rfl,h5,h6⟩ | ⟨rfl,h5,rfl⟩;all_goals
    go_enter Tryz.func242,Tryz.ntmps242;go_wp2_with (go_at_call 91;refine mw (LT _) ?_)
    refine (UP _).mono ?_;rintro e w1 ⟨rfl,hb⟩;obtain⟨z1,z2⟩:=new2 hb;have HB1:I (M w.heap.size w w1):=rP hb;have Z1:I (w1.heap[w.heap.size]? =some aS):=z1;have Z2:I _:=z2;obtain⟨k0,k1,k2,k3,k4,k5⟩:=aR z2;obtain⟨f0,f1,f2,f3,f4,f5⟩:=aV z2;obtain⟨d0,d1,d2,d3,d4,d5⟩:=aR z1;obtain⟨e0,e1,e2,e3,e4,e5⟩:=aV z1;clear hb z1 z2 UP LT;rcases hB' with q1 | ⟨q1,q2⟩ | ⟨q0,q1,q2,q3⟩;all_goals first
      | (exfalso;omega)
      | (go_wp2
         refine S (bM rfl rfl (iA (?hz:_=some aS)) rfl) rfl ⟨rfl,bF ?hb (O _)⟩
         case hz=>repeat (first | exact Z1.out | refine (eZ (by omega)).trans ?_)
         case hb=>repeat (first | exact HB1.out | refine Below.setCell ?_ (by simp) _))
end Go.Proofs.YtfedoljlipfhdaaGreatDoor
