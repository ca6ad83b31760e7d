/- SLv, SSmall, SSt, SOpen, SCm, SR9, SR11, SR12, RPar1, RPar2. -/
import Derived.ChangeSame
import Derived.Laws.OwnMore
import Derived.Lib.AppendZeros
import Derived.Lib.BufferWrite
import Derived.SizedLaws
import Derived.Test.YtlhoklhjbpkgpaaGreatDoorSPutBPu
set_option linter.unusedVariables false
set_option linter.unusedSimpArgs false
set_option maxHeartbeats 16000000
set_option maxRecDepth 100000
namespace Go.Proofs.YtlhoklhjbpkgpaaGreatDoor.Sh
open Go.RowKit Go.Fm
theorem aBB {w u v:World} {e:Ending} {err:Int} {y:aU} (h:oK u err y e v) (hne:err ≠ 0):e=.returned (.tuple #[aEl,.int .i64 err])/\Below u.heap.size u v:=by unfold oK at h;rw [if_neg hne] at h;exact h
theorem vG (w:World) (T:dD w):CR 9 #[] w (.bool true):=by
 obtain⟨W,hW⟩:∃W,W=(w.alloc (.cells #[.string sS,.slice none 0 0] 78)).alloc (.cells #[newS w.heap.size 1,.slice none 0 0,.slice none 0 0] 26):=⟨_,rfl⟩
 have HB0:Below w.heap.size w W:=by rw [hW];exact Sh.aD (Sh.aD (Below.refl _ _) (Nat.le_refl _) _) (Nat.le_refl _) _
 have hX0:W.heap[w.heap.size]? =some (.cells #[.string sS,.slice none 0 0] 78):=by rw [hW,Below.heap_alloc _ _ _ (by simp)];exact heap_alloc_new w _
 have hX1:W.heap[w.heap.size+1]? =some (.cells #[newS w.heap.size 1,.slice none 0 0,.slice none 0 0] 26):=by rw [hW];simpa using heap_alloc_new (w.alloc (.cells #[.string sS,.slice none 0 0] 78)) (.cells #[newS w.heap.size 1,.slice none 0 0,.slice none 0 0] 26)
 have hsz:W.heap.size=w.heap.size+2:=by rw [hW];simp
 have KX:∀u,Below W.heap.size W u->(u.cell? ⟨w.heap.size+1,0,none⟩=some (newS w.heap.size 1)/\u.cell? ⟨w.heap.size+1,1,none⟩=some (.slice none 0 0)/\u.cell? ⟨w.heap.size+1,2,none⟩=some (.slice none 0 0))/\BkM w.heap.size (w.heap.size+1) u (newS w.heap.size 1) (.slice none 0 0) (.slice none 0 0) bk0/\w.heap.size+1<=u.heap.size/\dD u/\Below w.heap.size w u:=fun u hu=>by have hu2:=hu.size;have hw:=Sh.aF HB0 HB0.size hu;exact⟨bU ((hu.block _ (aN hX1)).trans hX1),aLI ((hu.block _ (aN hX0)).trans hX0),by omega,T.below hw,hw⟩
 have KA:∀u o,Below W.heap.size W u->Below W.heap.size W (u.alloc o):=fun u o hu=>Sh.aD hu (Nat.le_refl _) o;obtain⟨d0,d1,d2⟩:=bU hX1;have C1:Calls Tryz.prog 13 #[.agg #[newS w.heap.size 1,.slice none 0 0,.slice none 0 0],.string sS,.int .i64 1,.int .i64 1,.string tA] W fun e v=>∃a1 c1 n1 a2 c2 n2 a3 c3 n3,e=.returned (.tuple #[.agg #[.slice a1 n1 c1,.slice a2 n2 c2,.slice a3 n3 c3],.int .i64 0])/\
   ((v.alloc (.cells #[.slice a1 n1 c1,.slice a2 n2 c2,.slice a3 n3 c3] 26)).cell? ⟨w.heap.size+1,0,none⟩=some (newS w.heap.size 1)/\(v.alloc (.cells #[.slice a1 n1 c1,.slice a2 n2 c2,.slice a3 n3 c3] 26)).cell? ⟨w.heap.size+1,1,none⟩=some (.slice none 0 0)/\(v.alloc (.cells #[.slice a1 n1 c1,.slice a2 n2 c2,.slice a3 n3 c3] 26)).cell? ⟨w.heap.size+1,2,none⟩=some (.slice none 0 0))/\
   Hid (Below W.heap.size W (v.alloc (.cells #[.slice a1 n1 c1,.slice a2 n2 c2,.slice a3 n3 c3] 26)))/\
   Hid (∀u,Below (v.alloc (.cells #[.slice a1 n1 c1,.slice a2 n2 c2,.slice a3 n3 c3] 26)).heap.size (v.alloc (.cells #[.slice a1 n1 c1,.slice a2 n2 c2,.slice a3 n3 c3] 26)) u->(u.cell? ⟨v.heap.size,0,none⟩=some (.slice a1 n1 c1)/\u.cell? ⟨v.heap.size,1,none⟩=some (.slice a2 n2 c2)/\u.cell? ⟨v.heap.size,2,none⟩=some (.slice a3 n3 c3))/\BkM W.heap.size v.heap.size u (.slice a1 n1 c1) (.slice a2 n2 c2) (.slice a3 n3 c3) (putAt bk0 0 ⟨1,1,tA⟩)/\v.heap.size<=u.heap.size):=by
  obtain⟨_,kb,ks,kt,_⟩:=KX W (Below.refl _ _);have h:=wX kb (by omega) aBA aEp kt sS 1 1 tA;rw [ex1,aPq] at h;refine h.mono ?_;rintro e v ⟨hp,hv⟩;rw [if_pos rfl] at hp;obtain⟨sv,nv,lv,rfl,ho⟩:=hp;have hbk:=ho.bkm;obtain⟨a1,c1,rfl,_,_⟩:=hbk.sh.slice;obtain⟨a2,c2,rfl,_,_⟩:=hbk.nm.slice;obtain⟨a3,c3,rfl,_,_⟩:=hbk.lk.slice;refine ⟨a1,c1,_,a2,c2,_,a3,c3,_,rfl,(KX _ (KA v _ hv)).1,KA v _ hv,fun u hu=> ?_⟩;refine ⟨bU ((hu.block _ (by simp)).trans (heap_alloc_new v _)),hbk.below (Nat.le_refl _) ((Sh.aD (Below.refl _ _) (Nat.le_refl _) _).trans (hu.mono (by simp))), ?_⟩;have:=hu.size;simp at this;omega
 have E2:Hid (∀u,Below W.heap.size W u->Calls Tryz.prog 13 #[.agg #[newS w.heap.size 1,.slice none 0 0,.slice none 0 0],.string sS,.int .i64 1,.int .i64 1,.string tB] u fun e v=>e=.returned (.tuple #[aEl,.int .i64 10])/\((v.alloc (.cells #[.slice none 0 0,.slice none 0 0,.slice none 0 0] 26)).cell? ⟨w.heap.size+1,0,none⟩=some (newS w.heap.size 1)/\(v.alloc (.cells #[.slice none 0 0,.slice none 0 0,.slice none 0 0] 26)).cell? ⟨w.heap.size+1,1,none⟩=some (.slice none 0 0)/\(v.alloc (.cells #[.slice none 0 0,.slice none 0 0,.slice none 0 0] 26)).cell? ⟨w.heap.size+1,2,none⟩=some (.slice none 0 0))/\Hid (Below W.heap.size W (v.alloc (.cells #[.slice none 0 0,.slice none 0 0,.slice none 0 0] 26)))/\Hid (Below u.heap.size u (v.alloc (.cells #[.slice none 0 0,.slice none 0 0,.slice none 0 0] 26)))):=fun u hu=>by obtain⟨_,kb,ks,kt,_⟩:=KX u hu;have h:=wX kb ks aBA aEp kt sS 1 1 tB;rw [ex2] at h;refine h.mono ?_;rintro e v hp;obtain⟨rfl,hv⟩:=aBB (w:=w) hp (by decide);have hv2:=KA v (.cells #[.slice none 0 0,.slice none 0 0,.slice none 0 0] 26) (Sh.aF hu hu.size hv);exact⟨rfl,(KX _ hv2).1,hv2,Sh.aD hv (Nat.le_refl _) _⟩
 have E3:Hid (∀u,Below W.heap.size W u->Calls Tryz.prog 30 #[.agg #[newS w.heap.size 1,.slice none 0 0,.slice none 0 0],.string sS] u fun e v=>e=.returned (.tuple #[aEl,.int .i64 15])/\((v.alloc (.cells #[.slice none 0 0,.slice none 0 0,.slice none 0 0] 26)).cell? ⟨w.heap.size+1,0,none⟩=some (newS w.heap.size 1)/\(v.alloc (.cells #[.slice none 0 0,.slice none 0 0,.slice none 0 0] 26)).cell? ⟨w.heap.size+1,1,none⟩=some (.slice none 0 0)/\(v.alloc (.cells #[.slice none 0 0,.slice none 0 0,.slice none 0 0] 26)).cell? ⟨w.heap.size+1,2,none⟩=some (.slice none 0 0))/\Hid (Below W.heap.size W (v.alloc (.cells #[.slice none 0 0,.slice none 0 0,.slice none 0 0] 26)))/\Hid (Below u.heap.size u (v.alloc (.cells #[.slice none 0 0,.slice none 0 0,.slice none 0 0] 26)))):=fun u hu=>by obtain⟨_,kb,ks,kt,_⟩:=KX u hu;have h:=aJp kb ks aBA sS;rw [ex3] at h;refine h.mono ?_;rintro e v hp;obtain⟨rfl,hv⟩:=aBB (w:=w) hp (by decide);have hv2:=KA v (.cells #[.slice none 0 0,.slice none 0 0,.slice none 0 0] 26) (Sh.aF hu hu.size hv);exact⟨rfl,(KX _ hv2).1,hv2,Sh.aD hv (Nat.le_refl _) _⟩
 have E4:Hid (∀u,Below W.heap.size W u->Calls Tryz.prog 13 #[.agg #[newS w.heap.size 1,.slice none 0 0,.slice none 0 0],.string sS,.int .i64 65,.int .i64 1,.string tC] u fun e v=>e=.returned (.tuple #[aEl,.int .i64 9])/\Hid (Below W.heap.size W (v.alloc (.cells #[.slice none 0 0,.slice none 0 0,.slice none 0 0] 26)))/\Hid (Below u.heap.size u (v.alloc (.cells #[.slice none 0 0,.slice none 0 0,.slice none 0 0] 26)))):=fun u hu=>by obtain⟨_,kb,ks,kt,_⟩:=KX u hu;have h:=wX kb ks aBA aEp kt sS 65 1 tC;rw [ex4] at h;refine h.mono ?_;rintro e v hp;obtain⟨rfl,hv⟩:=aBB (w:=w) hp (by decide);exact⟨rfl,KA v (.cells #[.slice none 0 0,.slice none 0 0,.slice none 0 0] 26) (Sh.aF hu hu.size hv),Sh.aD hv (Nat.le_refl _) _⟩
 have HKW:Hid (∀u,Below W.heap.size W u->Below w.heap.size w u):=fun u hu=>(KX u hu).2.2.2.2;rw [hW] at d0 d1 d2;have HW:Hid ((w.alloc (.cells #[.string sS,.slice none 0 0] 78)).alloc (.cells #[newS w.heap.size 1,.slice none 0 0,.slice none 0 0] 26)=W):=hW.symm;clear hW HB0 hX0 hX1 KX KA hsz T;go_enter Tryz.func9,Tryz.ntmps9;go_wp2_with (first|(go_at_call 13;rw [HW.out];refine C1.mono ?_;clear C1;rintro e v ⟨a1,c1,n1,a2,c2,n2,a3,c3,n3,rfl,⟨f0,f1,f2⟩,HV,HK⟩)|(go_at_call 13;refine (E2.out _ HV.out).mono ?_;clear E2;rintro e v2 ⟨rfl,⟨g0,g1,g2⟩,HV2,HU2⟩)|(go_at_call 30;refine (E3.out _ HV2.out).mono ?_;clear E3;rintro e v3 ⟨rfl,⟨h0,h1,h2⟩,HV3,HU3⟩)|(go_at_call 13;refine (E4.out _ HV3.out).mono ?_;clear E4;rintro e v4 ⟨rfl,HV4,HU4⟩;have HBB:=Sh.aF (Sh.aF HU2.out HU2.out.size HU3.out) (Nat.le_trans HU2.out.size HU3.out.size) HU4.out;obtain⟨⟨i0,i1,i2⟩,kb,ks⟩:=HK.out _ HBB;have HKB:Hid _:=kb;have HKS:Hid _:=ks;have CG:=aFb HKB.out HKS.out sS 1 1;rw [ex5] at CG;have aOi:Hid _:=HBB;clear kb ks HBB)|(go_at_call 22;refine CG.mono ?_;clear CG;rintro e v5 ⟨rfl,hb5⟩;obtain⟨⟨j0,j1,j2⟩,kb,ks⟩:=HK.out _ (Sh.aF aOi.out aOi.out.size hb5);have CS:=zI kb ks kb ks;rw [ex6] at CS;have HB5:Hid _:=Sh.aF HV4.out HV4.out.size hb5;clear kb ks hb5)|(go_at_call 19;refine CS.mono ?_;clear CS;rintro e v6 ⟨rfl,hb6⟩;have HB6:Hid _:=Sh.aF HB5.out HB5.out.size hb6;clear hb6))
 go_ret;exact⟨rfl,HKW.out _ HB6.out⟩
def aNo (w:World) (x:aU) (e:Ending) (w':World):Prop:=(∃b:Bool,e=.returned (.bool b)/\(b=true->x.names.length+x.links.length < 300)/\(x.aA.length+bK x.aA<=1125899906842624->(b=true↔x.aA.length+bK x.aA < 1000/\x.names.length+x.links.length < 300)))/\Below w.heap.size w w'
theorem aFv {z:Int} (h1: -9223372036854775808<=z) (h2:z<=9223372036854775807):IntKind.i64.wrap z=z:=by rw [IntKind.wrap_i64];omega
theorem aGJ {lo hi:Nat} {w:World} {sv nv lv:Value} {x:aU} (h:BkM lo hi w sv nv lv x) (hhi:hi<=w.heap.size) (hn:x.names.length<=1125899906842624) (hk:x.links.length<=1125899906842624):
  Calls Tryz.prog 8 #[.agg #[sv,nv,lv]] w (aNo w x):=by
 obtain⟨sa,sc,rfl,hs1,hs2⟩:=h.sh.slice;obtain⟨na,nc,rfl,_,_⟩:=h.nm.slice;obtain⟨la,lc,rfl,_,_⟩:=h.lk.slice;have HB:Hid (Below w.heap.size w (w.alloc (bkO (.slice sa x.aA.length sc) (.slice na x.names.length nc) (.slice la x.links.length lc)))):=Sh.aD (Below.refl _ _) (Nat.le_refl _) _;have HX:Hid ((w.alloc (bkO (.slice sa x.aA.length sc) (.slice na x.names.length nc) (.slice la x.links.length lc))).heap[w.heap.size]? =some (bkO (.slice sa x.aA.length sc) (.slice na x.names.length nc) (.slice la x.links.length lc))):=heap_alloc_new w _;have c0:=(bU HX.out).1;have HS:Hid (Shs lo hi w (.slice sa x.aA.length sc) x.aA):=h.sh;have hlen:x.aA.length<=9223372036854775807:=by unfold maxLen at hs2;omega
 clear h hs1 hs2;go_enter Tryz.func8,Tryz.ntmps8;go_wp2;go_loopw [3,9] (fun m i wr=>∃(k:Nat) (z:Int),k<=x.aA.length/\i=.int .i64 (k:Nat)/\m=.int .i64 z/\Hid (x.aA.length+bK x.aA<=1125899906842624->z=((k+bK (x.aA.take k):Nat):Int))/\Hid (Below w.heap.size w wr)/\Hid (wr.heap[w.heap.size]? =some (bkO (.slice sa x.aA.length sc) (.slice na x.names.length nc) (.slice la x.links.length lc)))) (fun _ i _=>x.aA.length - (intOf i).toNat)
 case atStart=>exact⟨0,0,Nat.zero_le _,rfl,rfl,fun _=>by simp [bK],HB,HX⟩
 case round=>
  obtain⟨k,z,hkl,rfl,rfl,HZ,HD,HX⟩:=hrel;clear HB;by_cases hkL:k < x.aA.length
  ·have hki:(k:Int) < x.aA.length:=by omega
   obtain⟨a',cv,ov,W,rfl,rfl,hcl,hW,R1,R2, -⟩:=(HS.out.below hhi HD.out).runs hkL;obtain⟨ca,cc,rfl,hl1,hl2⟩:=hcl.slice;have c1:=aH (show W.heap[wr.heap.size]? =some (.cells #[.string x.aA[k].name,.slice ca x.aA[k].cells.length cc] 78) by rw [hW];exact heap_alloc_new wr _) (j:=1) rfl;have HD2:Hid (Below w.heap.size w W):=by rw [hW];exact Sh.aD HD.out (Nat.le_refl _) _
   have HX2:Hid (W.heap[w.heap.size]? =some (bkO (.slice (some a') x.aA.length sc) (.slice na x.names.length nc) (.slice la x.links.length lc))):=by rw [hW];exact(Below.heap_alloc wr _ _ (aN HX.out)).trans HX.out
   have iJ:k < 9223372036854775807:=by omega
   have hs:=yI hkL;have hle:=aD2 (L:=x.aA) (k+1);clear hcl hW HX;have HQ:Hid (x.aA.length+bK x.aA<=1125899906842624->IntKind.i64.wrap (z+IntKind.i64.wrap (1+(x.aA[k].cells.length:Int)))=((k+1+bK (x.aA.take (k+1)):Nat):Int)):=fun hb=>by have h1:IntKind.i64.wrap (1+(x.aA[k].cells.length:Int))=1+(x.aA[k].cells.length:Int):=aFv (by omega) (by omega);rw [h1,HZ.out hb];rw [show ((k+bK (x.aA.take k):Nat):Int)+(1+(x.aA[k].cells.length:Int))=((k+1+bK (x.aA.take (k+1)):Nat):Int) by omega];exact aFv (by omega) (by omega)
   clear hs hle HZ;generalize x.aA[k]=y at *;obtain⟨yn,yc⟩:=y;dsimp only at *;generalize hq:IntKind.i64.wrap (1+(yc.length:Int))=q1 at *;generalize hq2:IntKind.i64.wrap (z+q1)=q2 at *;go_wp2_with (first|((with_reducible show wL (Op.load 78 _));refine aC rfl 78 _ rfl _ _ rfl R1.out ?_;clear R1)|((with_reducible show wL (Op.store 78 _ _));refine aB rfl 78 _ _ rfl _ _ _ rfl rfl R2.out ?_;clear R2))
   go_roundw
   case rel=>exact⟨k+1,q2,by omega,by go_num,by go_num,HQ,HD2,HX2⟩
   case measure=>simp [intOf];omega
  ·have hki:¬(k:Int) < x.aA.length:=by omega
   obtain⟨_,c3,c4⟩:=bU HX.out;have HZ2:Hid (x.aA.length+bK x.aA<=1125899906842624->z=((x.aA.length+bK x.aA:Nat):Int)):=fun hb=>by rw [HZ.out hb,List.take_of_length_le (by omega)];omega
   obtain⟨q,hq⟩:∃q,q=x.names.length+x.links.length:=⟨_,rfl⟩
   have e1:(x.names.length:Int)+(x.links.length:Int)=(q:Int):=by omega
   have e2:IntKind.i64.wrap (q:Int)=(q:Int):=by rw [IntKind.wrap_i64];omega
   have HQ:Hid (q=x.names.length+x.links.length):=hq;clear hq HZ hkl hkL hn hk;by_cases hz:z < 1000
   ·by_cases h3:q < 300
    ·have h3i:(q:Int) < 300:=by omega
     go_wp2;go_ret;exact⟨⟨true,rfl,fun _=>by rw [<-HQ.out];exact h3,fun hb=>⟨fun _=>by have:=HZ2.out hb;have:=HQ.out;omega,fun _=>rfl⟩⟩,HD.out⟩
    ·have h3i:¬(q:Int) < 300:=by omega
     go_wp2;go_ret;exact⟨⟨false,rfl,fun e=>(by cases e),fun hb=>⟨fun e=>(by cases e),fun e=>by have:=HQ.out;omega⟩⟩,HD.out⟩
   ·go_wp2;go_ret;exact⟨⟨false,rfl,fun e=>(by cases e),fun hb=>⟨fun e=>(by cases e),fun e=>by have:=HZ2.out hb;omega⟩⟩,HD.out⟩
structure rD where
 sh:ByteArray
 r:Int
 c:Int
 t:ByteArray
 at1:Int
 a:Option Addr
 n:Nat
 m:Nat
def zJ (p:rD):List Value:=[.string p.sh,.int .i64 p.r,.int .i64 p.c,.string p.t,.int .i64 p.at1,.slice p.a p.n p.m]
abbrev aGK (p:rD):Value:=.agg #[.string p.sh,.int .i64 p.r,.int .i64 p.c,.string p.t,.int .i64 p.at1,.slice p.a p.n p.m]
def aPs (g:Nat) (w:World) (sv nv lv:Value) (x:aU):Prop:=∃lo hi,BkM lo hi w sv nv lv x/\hi<=w.heap.size/\(hi<=g\/g < lo)
theorem BkM.kept {lo hi:Nat} {w w':World} {sv nv lv:Value} {x:aU} (h:BkM lo hi w sv nv lv x) (hk:∀i,lo<=i->i < hi->w'.heap[i]? =w.heap[i]?):BkM lo hi w' sv nv lv x:=⟨h.sh.kept hk,h.nm.kept hk,h.lk.kept hk⟩
structure tQ (x:aU):Prop where
 rt:Right x.aA
 nm:x.names.length<=1000
 lk:x.links.length<=1000
 ok:pQ x.aA
theorem zK {L:List aO} {s:aO} (hs:s ∈ L):s.cells.length<=bK L:=by
 induction L with
 | nil=>cases hs
 | cons a r ih=>
  rw [tO];rcases List.mem_cons.1 hs with rfl | hs
  ·omega
  ·have:=ih hs;omega
theorem tQ.small {x:aU} (h:tQ x):Small x:=by have a:=h.rt.hi;have c:=h.rt.ct;exact⟨by omega,fun s hs=>by have:=zK hs;omega,h.nm,h.lk⟩
theorem tQ.cells {x:aU} (h:tQ x):nM x.aA:=fun s hs=>by have:=zK hs;have c:=h.rt.ct;omega
theorem tQ.rises {x:aU} (h:tQ x):vZ x:=wF h.rt
theorem tQ.check {x:aU} (h:tQ x):fO x.aA=0:=wD.2 h.rt
theorem aLJ {x:aU} {i:Nat} (hi:i < x.aA.length) {r c:Int} {t:ByteArray} (h:full x i r c t=false):t.toList ≠ []->200<=bK x.aA->x.aA[i].cells.any (atB r c)=true:=by
 intro h1 h2;unfold full at h;have hb:(t.toList==[])=false:=by simpa using h1
 rw [hb,List.getElem?_eq_getElem hi] at h;simpa [h2] using h
theorem tQ.put {x:aU} (h:tQ x) {s:ByteArray} {r c:Int} {t:ByteArray} (he:nU x s r c t=0):∃i,eZ x.aA s=some i/\tQ (putAt x i ⟨r,c,t⟩):=by
 unfold nU at he;by_cases h3:dI t=3
 ·rw [if_pos h3] at he;simp at he
 rw [if_neg h3] at he;cases hx:eZ x.aA s with
 | none=>rw [hx] at he;simp at he
 | some i=>
  rw [hx] at he;dsimp only at he;have hi:=oF hx;by_cases h9:iZ r c=false
  ·rw [if_pos h9] at he;simp at he
  rw [if_neg h9] at he;by_cases h10:dI t ≠ 0
  ·rw [if_pos h10] at he;exact absurd he h10
  rw [if_neg h10] at he;by_cases h5:full x i r c t=true
  ·rw [if_pos h5] at he;simp at he
  refine ⟨i,rfl,aGG (t:=⟨r,c,t⟩) h.rt hi (by simpa using h9) (Classical.byContradiction h10) (aLJ hi (by simpa using h5)),h.nm,h.lk,fun u hu=> ?_⟩;rcases mQ hi hu with hu | rfl
  ·exact h.ok u hu
  ·exact h.ok x.aA[i] (List.getElem_mem hi)
end Go.Proofs.YtlhoklhjbpkgpaaGreatDoor.Sh
namespace Go.Proofs.YtlhoklhjbpkgpaaGreatDoor.Sh
open Go.ChangeShapes Go.WideShapes Go.ChangeAt Go.WideElems Go.RowKit Go.Deep
theorem aBC {α:Type} {P:Nat->α->Prop}:∀(n:Nat),(∀i,i < n->∃c,P i c)->∃L:List α,L.length=n/\∀i c,L[i]? =some c->P i c
 | 0,_=>⟨[],rfl,fun i c h=>by simp at h⟩
 | n+1,h=>by
  obtain⟨L,h1,h2⟩:=aBC n fun i hi=>h i (by omega);obtain⟨c,hc⟩:=h n (by omega);refine ⟨L++ [c],by simp [h1],fun i x hi=> ?_⟩;by_cases hlt:i < L.length
  ·rw [List.getElem?_append_left hlt] at hi;exact h2 i x hi
  ·rw [List.getElem?_append_right (by omega)] at hi;have hi0:i=n:=by
    rcases Nat.lt_or_ge (i - L.length) 1 with h | h
    ·omega
    ·rw [List.getElem?_eq_none (by simpa using h)] at hi;cases hi
   subst hi0;rw [h1] at hi;simp at hi;subst hi;exact hc
theorem aFw {H:Type} {e:TypeId} {d:DataW H} {n:Nat} (hn:n ∈ d.weights Tryz.prog e):∀{l:List (DataW H)},d ∈ l->n ∈ DataW.weightsAll Tryz.prog e l
 | [],h=>by cases h
 | a:: r,h=>by
  simp only [DataW.weightsAll,List.mem_append];rcases List.mem_cons.1 h with rfl | h
  ·exact .inl hn
  ·exact .inr (aFw hn h)
abbrev Lgt {H:Type} (t:TypeId) (d:DataW H):Prop:=∀n ∈ d.weights Tryz.prog t,n<=reachBytes
section
variable {H:Type} {enc:TypeId × Value->H} {W:World} {sp:Nat->Bool} {held:Bool}
theorem gY {t e:TypeId} {sz:Nat} {α:Type} {C:α->List Value} {Q:α->Prop} {fuel:Nat} {v:Value} {x:DataW H × List MemPlace} (ht:Tryz.prog.underlying t=some (.slice e)) (hce:Tryz.prog.cellsOf e=sz) (hsz:0 < sz) (hby:1<=Tryz.prog.bytesOf e) (hw:Lgt t x.1)
  (hC:∀{fuel:Nat} {cs:List Value} {y:DataW H × List MemPlace},Lgt e y.1->DataW.trod enc Tryz.prog W 0 sp held fuel e cs=some y->∃c:α,cs=C c/\Q c)
  (h:DataW.trod enc Tryz.prog W 0 sp held fuel t [v]=some x):
  ∃L:List α,Rws 0 W.heap.size sz W v L.length (fun j=>(L[j]?.map C).getD [])/\(∀(j:Nat) (c:α),L[j]? =some c->Q c)/\L.length<=reachBytes:=by
 rcases open_slice ht h with ⟨hcs,hx⟩ | ⟨a,len,cap,m,n,D,Pl,hcs,hb,hl,hm,hmm,hx,hel⟩
 ·simp at hcs;subst hcs hx;exact⟨[],.inl ⟨rfl,rfl⟩,fun j c hj=>by simp at hj,Nat.zero_le _⟩
 ·simp at hcs;subst hcs hx;have hwt:∀n ∈ ((((List.range len).map D).length+((List.range (m - len)).map fun j=>D (len+j)).length) * Tryz.prog.bytesOf e:: (DataW.weightsAll Tryz.prog e ((List.range len).map D)++DataW.weightsAll Tryz.prog e ((List.range (m - len)).map fun j=>D (len+j)))),n<=reachBytes:=fun n hn=>hw n (by simp only [DataW.weights,ht];exact hn);have hlr:len<=reachBytes:=by have h1:=hwt _ List.mem_cons_self;simp only [List.length_map,List.length_range] at h1;have h2:=Nat.le_mul_of_pos_right (len+(m - len)) hby;omega
  have hwe:∀i,i < len->Lgt e (D i):=fun i hi n hn=>hwt n (List.mem_cons_of_mem _ (List.mem_append_left _ (aFw hn (List.mem_map.2 ⟨i,List.mem_range.2 hi,rfl⟩))));have hlm:len<=m:=by rw [hmm];split <;> omega
  obtain⟨L,hL,hP⟩:=aBC (α:=α) (P:=fun i c=>W.cells? 0 (a.add (i * sz)) sz=some (C c)/\Q c) len fun i hi=>by obtain⟨cs',k1,k2⟩:=hel i (by omega);rw [hce] at k1;obtain⟨c,rfl,q1⟩:=hC (hwe i hi) k2;exact⟨c,k1,q1⟩
  have hlen:∀(j:Nat) (c:α),L[j]? =some c->(C c).length=sz:=fun j c hj=>(World.cells?_some (hP j c hj).1).2.1;have hcell:∀(j:Nat) (c:α) (i:Nat) (u:Value),L[j]? =some c->(C c)[i]? =some u->W.cell? (a.add (j * sz+i))=some u:=fun j c i u hj hu=>by
   have h1:=World.cells?_some (hP j c hj).1;have hi:i < sz:=by
    rcases Nat.lt_or_ge i sz with h | h
    ·exact h
    ·rw [List.getElem?_eq_none (by rw [hlen j c hj];exact h)] at hu;cases hu
   have:=h1.2.2 i hi;rw [Go.Deep.add_add] at this;rw [this,hu]
  refine ⟨L,.inr ⟨a,cap,by rw [hL],by omega,hm,fun h0=> ?_,fun j i u hj hu=> ?_⟩,fun j c hj=>(hP j c hj).2,by rw [hL];omega⟩
  ·obtain ⟨c,hc⟩:∃c,L[0]? =some c:=⟨L[0],List.getElem?_eq_getElem h0⟩
   have hl0:=hlen 0 c hc;obtain⟨y,r,e⟩:=List.exists_cons_of_ne_nil (l:=C c) (by intro e;rw [e] at hl0;simp at hl0;omega);have:=World.block_lt_of_cell? W _ (hcell 0 c 0 y hc (by rw [e];rfl));rw [jF] at this;exact⟨Nat.zero_le _,this⟩
  ·have hj':L[j]? =some L[j]:=List.getElem?_eq_getElem hj;dsimp only at hu;rw [hj'] at hu;exact hcell j _ i u hj' (by simpa using hu)
theorem pU {fuel:Nat} {cs:List Value} {y:DataW H × List MemPlace} (hw:Lgt 57 y.1) (h:DataW.trod enc Tryz.prog W 0 sp held fuel 57 cs=some y):∃c:aK,cs=cellC c/\True:=by
 obtain⟨xs,n,_,rfl,hl,hxl,hf⟩:=DataW.trod_struct Tryz.underlying57 h;have hl3:cs.length=3:=hl.trans (by kernel_rfl)
 match xs,hxl,cs,hl3 with
 | [y0,y1,y2],_,[v0,v1,v2],_=>
  obtain⟨n0,e0,q0,w0⟩:=DataW.trod_int Tryz.underlying3 (hf 0 _ rfl);obtain⟨n1,e1,q1,w1⟩:=DataW.trod_int Tryz.underlying3 (hf 1 _ rfl);obtain⟨s2,e2,q2,w2⟩:=DataW.trod_string Tryz.underlying9 (hf 2 _ rfl);cases e0;cases e1;cases e2
  exact⟨⟨n0,n1,s2⟩,rfl,trivial⟩
theorem vH {fuel:Nat} {cs:List Value} {y:DataW H × List MemPlace} (hw:Lgt 89 y.1) (h:DataW.trod enc Tryz.prog W 0 sp held fuel 89 cs=some y):∃c:eY,cs=kQ c/\True:=by
 obtain⟨xs,n,_,rfl,hl,hxl,hf⟩:=DataW.trod_struct Tryz.underlying89 h;have hl3:cs.length=3:=hl.trans (by kernel_rfl)
 match xs,hxl,cs,hl3 with
 | [y0,y1,y2],_,[v0,v1,v2],_=>
  obtain⟨n0,e0,q0,w0⟩:=DataW.trod_string Tryz.underlying9 (hf 0 _ rfl);obtain⟨n1,e1,q1,w1⟩:=DataW.trod_string Tryz.underlying9 (hf 1 _ rfl);obtain⟨s2,e2,q2,w2⟩:=DataW.trod_string Tryz.underlying9 (hf 2 _ rfl);cases e0;cases e1;cases e2
  exact⟨⟨n0,n1,s2⟩,rfl,trivial⟩
theorem zL {fuel:Nat} {cs:List Value} {y:DataW H × List MemPlace} (h:DataW.trod enc Tryz.prog W 0 sp held fuel 62 cs=some y):∃c:sP,cs=[.int .i64 c.kind,.int .i64 c.n,.string c.s]:=by
 obtain⟨xs,n,_,rfl,hl,hxl,hf⟩:=DataW.trod_struct Tryz.underlying62 h;have hl3:cs.length=3:=hl.trans (by kernel_rfl)
 match xs,hxl,cs,hl3 with
 | [y0,y1,y2],_,[v0,v1,v2],_=>
  obtain⟨n0,e0,q0,w0⟩:=DataW.trod_int Tryz.underlying3 (hf 0 _ rfl);obtain⟨n1,e1,q1,w1⟩:=DataW.trod_int Tryz.underlying3 (hf 1 _ rfl);obtain⟨s2,e2,q2,w2⟩:=DataW.trod_string Tryz.underlying9 (hf 2 _ rfl);cases e0;cases e1;cases e2
  exact⟨⟨n0,n1,s2⟩,rfl⟩
theorem vI {fuel:Nat} {cs:List Value} {y:DataW H × List MemPlace} (hw:Lgt 91 y.1) (h:DataW.trod enc Tryz.prog W 0 sp held fuel 91 cs=some y):∃c:dW,cs=kR c/\True:=by
 obtain⟨xs,n,_,rfl,hl,hxl,hf⟩:=DataW.trod_struct Tryz.underlying91 h;have hl3:cs.length=7:=hl.trans (by kernel_rfl)
 match xs,hxl,cs,hl3 with
 | [y0,y1,y2,y3,y4],_,[v0,v1,v2,v3,v4,v5,v6],_=>
  obtain⟨s0,e0,q0,w0⟩:=DataW.trod_string Tryz.underlying9 (hf 0 _ rfl);obtain⟨s1,e1,q1,w1⟩:=DataW.trod_string Tryz.underlying9 (hf 1 _ rfl);obtain⟨n2,e2,q2,w2⟩:=DataW.trod_int Tryz.underlying3 (hf 2 _ rfl);obtain⟨n3,e3,q3,w3⟩:=DataW.trod_int Tryz.underlying3 (hf 3 _ rfl);obtain⟨c4,e4⟩:=zL (hf 4 _ rfl);cases e0;cases e1;cases e2;cases e3
  obtain⟨rfl,rfl,rfl⟩:v4=.int .i64 c4.kind/\v5=.int .i64 c4.n/\v6=.string c4.s:=by have e4': [v4,v5,v6]=[.int .i64 c4.kind,.int .i64 c4.n,.string c4.s]:=e4;simpa using e4'
  exact⟨⟨s0,s1,n2,n3,c4⟩,rfl,trivial⟩
theorem oL {fuel:Nat} {v:Value} {x:DataW H × List MemPlace} (hw:Lgt 27 x.1) (h:DataW.trod enc Tryz.prog W 0 sp held fuel 27 [v]=some x):∃L,Cls 0 W.heap.size W v L/\L.length<=reachBytes:=by obtain⟨L,h1,_,h3⟩:=gY (C:=cellC) (Q:=fun _=>True) Tryz.underlying27 (sz:=3) (by kernel_rfl) (by decide) (of_decide_eq_true (by kernel_rfl)) hw pU h;exact⟨L,h1,h3⟩
theorem zM {fuel:Nat} {v:Value} {x:DataW H × List MemPlace} (hw:Lgt 23 x.1) (h:DataW.trod enc Tryz.prog W 0 sp held fuel 23 [v]=some x):∃L,Nms 0 W.heap.size W v L/\L.length<=reachBytes:=by obtain⟨L,h1,_,h3⟩:=gY (C:=kQ) (Q:=fun _=>True) Tryz.underlying23 (sz:=3) (by kernel_rfl) (by decide) (of_decide_eq_true (by kernel_rfl)) hw vH h;exact⟨L,h1,h3⟩
theorem zN {fuel:Nat} {v:Value} {x:DataW H × List MemPlace} (hw:Lgt 24 x.1) (h:DataW.trod enc Tryz.prog W 0 sp held fuel 24 [v]=some x):∃L,Lks 0 W.heap.size W v L/\L.length<=reachBytes:=by obtain⟨L,h1,_,h3⟩:=gY (C:=kR) (Q:=fun _=>True) Tryz.underlying24 (sz:=7) (by kernel_rfl) (by decide) (of_decide_eq_true (by kernel_rfl)) hw vI h;exact⟨L,h1,h3⟩
theorem rE {fuel:Nat} {cs:List Value} {y:DataW H × List MemPlace} (hw:Lgt 78 y.1) (h:DataW.trod enc Tryz.prog W 0 sp held fuel 78 cs=some y):∃c:aO × Value,cs=bN c.1 c.2/\Cls 0 W.heap.size W c.2 c.1.cells/\c.1.name.size<=maxLen/\c.1.cells.length<=reachBytes:=by
 obtain⟨xs,n,_,rfl,hl,hxl,hf⟩:=DataW.trod_struct Tryz.underlying78 h;have hw2:=hw;simp only [DataW.weights,Tryz.underlying78] at hw2;have hl3:cs.length=2:=hl.trans (by kernel_rfl)
 match xs,hxl,cs,hl3 with
 | [y0,y1],_,[v0,v1],_=>
  obtain⟨s0,e0,q0,w0⟩:=DataW.trod_string Tryz.underlying9 (hf 0 _ rfl);obtain⟨L,hc,k1⟩:=oL (v:=v1) (x:=y1) (fun n hn=>hw2 n (DataW.weights_mem_each (j:=1) rfl rfl n hn)) (hf 1 _ rfl);cases e0
  exact⟨(⟨s0,L⟩,v1),rfl,hc,w0,k1⟩
theorem zO {fuel:Nat} {v:Value} {x:DataW H × List MemPlace} (hw:Lgt 22 x.1) (h:DataW.trod enc Tryz.prog W 0 sp held fuel 22 [v]=some x):∃L,Shs 0 W.heap.size W v L/\(∀c ∈ L,c.name.size<=maxLen/\c.cells.length<=reachBytes)/\L.length<=reachBytes:=by
 obtain⟨L,h1,h2,h3⟩:=gY (C:=fun c:aO × Value=>bN c.1 c.2) (Q:=fun c=>Cls 0 W.heap.size W c.2 c.1.cells/\c.1.name.size<=maxLen/\c.1.cells.length<=reachBytes) Tryz.underlying22 (sz:=2) (by kernel_rfl) (by decide) (of_decide_eq_true (by kernel_rfl)) hw rE h;refine ⟨L.map (·.1),⟨fun j=>((L[j]?).map (·.2)).getD (.slice none 0 0), ?_,fun j o hj=> ?_⟩,fun c hc=> ?_,by simpa using h3⟩
 ·rw [List.length_map];refine Rws.congr h1 fun j hj=> ?_;simp [iP,List.getElem?_eq_getElem hj]
 ·rw [List.getElem?_map] at hj;rcases hq:L[j]? with _ | c
  ·rw [hq] at hj;cases hj
  ·rw [hq] at hj;cases hj
   dsimp only;rw [hq];exact(h2 j c hq).1
 ·obtain ⟨y,hy,rfl⟩:=List.mem_map.1 hc;obtain⟨j,hj⟩:=List.getElem?_of_mem hy;exact(h2 j y hj).2
theorem aAM {fuel:Nat} {cs:List Value} {y:DataW H × List MemPlace} (hw:Lgt 26 y.1) (h:DataW.trod enc Tryz.prog W 0 sp held fuel 26 cs=some y):∃sv nv lv x,cs=[sv,nv,lv]/\BkM 0 W.heap.size W sv nv lv x/\(∀c ∈ x.aA,c.name.size<=maxLen/\c.cells.length<=reachBytes)/\x.aA.length<=reachBytes/\x.names.length<=reachBytes/\x.links.length<=reachBytes:=by
 obtain⟨xs,n,_,rfl,hl,hxl,hf⟩:=DataW.trod_struct Tryz.underlying26 h;have hw2:=hw;simp only [DataW.weights,Tryz.underlying26] at hw2;have hl3:cs.length=3:=hl.trans (by kernel_rfl)
 match xs,hxl,cs,hl3 with
 | [y0,y1,y2],_,[v0,v1,v2],_=>
  obtain⟨L0,h0,k0,b0⟩:=zO (v:=v0) (x:=y0) (fun n hn=>hw2 n (DataW.weights_mem_each (j:=0) rfl rfl n hn)) (hf 0 _ rfl);obtain⟨L1,h1,b1⟩:=zM (v:=v1) (x:=y1) (fun n hn=>hw2 n (DataW.weights_mem_each (j:=1) rfl rfl n hn)) (hf 1 _ rfl);obtain⟨L2,h2,b2⟩:=zN (v:=v2) (x:=y2) (fun n hn=>hw2 n (DataW.weights_mem_each (j:=2) rfl rfl n hn)) (hf 2 _ rfl);exact⟨v0,v1,v2,⟨L0,L1,L2⟩,rfl,⟨h0,h1,h2⟩,k0,b0,b1,b2⟩
theorem aC5 {fuel:Nat} {cs:List Value} {y:DataW H × List MemPlace} (hw:Lgt 29 y.1) (h:DataW.trod enc Tryz.prog W 0 sp held fuel 29 cs=some y):∃p:rD,cs=zJ p/\p.sh.size<=maxLen:=by
 obtain⟨xs,n,_,rfl,hl,hxl,hf⟩:=DataW.trod_struct Tryz.underlying29 h;have hw2:=hw;simp only [DataW.weights,Tryz.underlying29] at hw2;have hl3:cs.length=6:=hl.trans (by kernel_rfl)
 match xs,hxl,cs,hl3 with
 | [y0,y1,y2,y3,y4,y5],_,[v0,v1,v2,v3,v4,v5],_=>
  obtain⟨s0,e0,q0,w0⟩:=DataW.trod_string Tryz.underlying9 (hf 0 _ rfl);obtain⟨n1,e1,q1,w1⟩:=DataW.trod_int Tryz.underlying3 (hf 1 _ rfl);obtain⟨n2,e2,q2,w2⟩:=DataW.trod_int Tryz.underlying3 (hf 2 _ rfl);obtain⟨s3,e3,q3,w3⟩:=DataW.trod_string Tryz.underlying9 (hf 3 _ rfl);obtain⟨n4,e4,q4,w4⟩:=DataW.trod_int Tryz.underlying3 (hf 4 _ rfl);obtain⟨L,hc,k1⟩:=oL (v:=v5) (x:=y5) (fun n hn=>hw2 n (DataW.weights_mem_each (j:=5) rfl rfl n hn)) (hf 5 _ rfl);cases e0;cases e1;cases e2;cases e3;cases e4
  obtain⟨a,c,rfl,_,_⟩:=hc.slice;exact⟨⟨s0,n1,n2,s3,n4,a,L.length,c⟩,rfl,w0⟩
end
end Go.Proofs.YtlhoklhjbpkgpaaGreatDoor.Sh
namespace Go.Proofs.YtlhoklhjbpkgpaaGreatDoor.Sh.Cm
open Go.RowKit
abbrev ncs (x:aK):Array Value:=#[.int .i64 x.row,.int .i64 x.col,.string x.text]
abbrev ncl (x:aK):List Value:=[.int .i64 x.row,.int .i64 x.col,.string x.text]
abbrev nmV (x:aK):Value:=.agg (ncs x)
abbrev nmO (x:aK):Obj:=.cells (ncs x) 57
abbrev nm0:aK:=⟨0,0,⟨#[]⟩⟩
theorem aMy:(Tryz.prog.info? 57).map (fun i=>(i.zero,i.size,i.bytes))=some (some (nmV nm0),3,32):=by kernel_rfl
theorem tT {u:World} {g:Nat} {t:TypeId} {a b c:Value} {z:Nat × Nat} (h:u.heap[g]? =some (.cells #[a,b,c] t z)):u.cell? ⟨g,0,none⟩=some a/\u.cell? ⟨g,1,none⟩=some b/\u.cell? ⟨g,2,none⟩=some c:=by simp [World.cell?,h]
theorem aOG (L:List aK):∀u ∈ L.flatMap ncl,u.oneCell'=true:=by intro u hu;obtain⟨x,_,hx⟩:=List.mem_flatMap.1 hu;simp only [ncl,List.mem_cons,List.not_mem_nil,or_false] at hx;rcases hx with rfl | rfl | rfl <;> rfl
theorem aBD {w w':World} {row:Option Nat} (h:Below w.heap.size w w'):w.grownBy w' row:=⟨h.os,h.tape,h.output,h.size,fun i hi _=>h.block i hi⟩
def Rds (w:World) (p:Option Addr) (n:Nat) (L:List aK):Prop:=
 n=L.length/\(L=[]\/∃a,p=some a/\∀j u,(L.flatMap ncl)[j]? =some u->w.cell? (a.add j)=some u)
def dZ (base:Nat) (w:World) (v:Value) (L:List aK):Prop:=w.ownsRow base 57 3 v L.length (L.flatMap ncl)
theorem dZ.nil (base:Nat) (w:World):dZ base w (.slice none 0 0) []:=World.ownsRow_nil w base 57 3
theorem dZ.slice {base:Nat} {w:World} {v:Value} {L:List aK} (h:dZ base w v L):∃p c,v=.slice p L.length c/\Rds w p L.length L:=by
 have hc:=fun g (hg:v.ownBlock=some g)=>World.ownsRow.cells h hg;rcases h.2 with ⟨rfl,h0⟩ | ⟨g,cap,cur,rfl,_⟩
 ·exact ⟨none,0,by rw [h0],rfl,.inl (List.eq_nil_of_length_eq_zero h0)⟩
 ·exact ⟨_,_,rfl,rfl,.inr ⟨_,rfl,fun j u hj=>hc g rfl j u hj⟩⟩
theorem dZ.kept {base:Nat} {w w':World} {v:Value} {L:List aK} {row:Option Nat} (h:dZ base w v L) (hg:w.grownBy w' row) (hne:v.ownBlock=none\/v.ownBlock ≠ row):dZ base w' v L:=World.ownsRow.kept h hg hne
theorem dZ.below {base:Nat} {w w':World} {v:Value} {L:List aK} (h:dZ base w v L) (hb:Below w.heap.size w w'):dZ base w' v L:=
 h.kept (aBD (row:=none) hb) (by cases v.ownBlock <;> simp)
theorem dZ.base {base base':Nat} {w:World} {v:Value} {L:List aK} (h:dZ base w v L) (hb:base'<=base):dZ base' w v L:=by obtain⟨h1,h2⟩:=h;refine ⟨h1,h2.imp id ?_⟩;rintro ⟨g,cap,cur,e1,e2,r⟩;exact⟨g,cap,cur,e1,by omega,r⟩
theorem aOj:∃i z,Tryz.prog.info? 57=some i/\i.zero=some z/\i.size=3/\i.bytes=32/\z.cells.size=3/\z=nmV nm0:=by
 cases h:Tryz.prog.info? 57 with
 | none=>have:=aMy;rw [h] at this;cases this
 | some i=>
  have:=aMy;rw [h] at this;simp only [Option.map_some,Option.some.injEq,Prod.mk.injEq] at this;exact⟨i,_,rfl,this.1,this.2.1,this.2.2,rfl,rfl⟩
theorem rF (w:World) (x:aK):(Instr.buildSlice 27 1 #[(0,nmV x)]).run Tryz.prog w=.ok (.slice (some ⟨w.heap.size,0,none⟩) 1 1) (w.alloc (nmO x)):=by kernel_rfl
theorem vJ {base:Nat} {w:World} {v:Value} {L:List aK} {y:aK} {b:Nat} (h:dZ base w v L) (hg:w.heap[b]? =some (nmO y)) (hn:L.length+1<=4398046511104) (hbase:base<=w.heap.size):
  ∃v' w',Hid ((Builtin.append_ #[27,27] 27 #[v,.slice (some ⟨b,0,none⟩) 1 1]).run Tryz.prog w=.ok v' w')/\dZ base w' v' (L++ [y])/\w.grownBy w' v.ownBlock/\Below base w w'/\(v'.ownBlock=v.ownBlock\/v'.ownBlock=some w.heap.size):=by
 obtain⟨i,z,hi,hz,hz1,hz2,hz3,_⟩:=aOj;have hrow:=fun k hk=>(World.ownsRow.lt h k hk).1;obtain⟨v',w',r1,o1,g1,_,l1⟩:=run_append_own_at w base 27 27 57 i z 3 32 Tryz.underlying27 hi hz hz1 hz2 hz3 (by decide) v _ _ h ⟨b,0,none⟩ 1 1 (ncl y) rfl (fun j u hj=>by
  rw [Addr.add_mid,cell_of_row w b (0+j) _ _ _ hg,Nat.zero_add,<-hj];simp) (fun u hu=>by
  simp only [ncl,List.mem_cons,List.not_mem_nil,or_false] at hu;rcases hu with rfl | rfl | rfl <;> rfl) (by simp only [maxLen];omega) (by omega) hbase
 refine ⟨v',w',r1, ?_,g1,(Below.refl base w).grown g1 hbase hrow,l1⟩;unfold dZ;rw [List.length_append,List.flatMap_append];simpa using o1
end Go.Proofs.YtlhoklhjbpkgpaaGreatDoor.Sh.Cm
namespace Go.Proofs.YtlhoklhjbpkgpaaGreatDoor.Sh
open Go.RowKit
theorem RT.cat {S t:TypeId} {sz bytes:Nat} {zv:Value} (R:RT S t sz bytes zv) {base n:Nat} {w:World} {v:Value} {xs:List Value} (h:w.ownsRow base t sz v n xs) {p:Option Addr} {m c:Nat} {news:List Value} (hp:p=none->m=0/\c=0) (hl:news.length=m * sz) (hc:∀a,p=some a->∀j u,news[j]? =some u->w.cell? (a.add j)=some u) (h1:∀u ∈ news,u.oneCell'=true) (hn:n+m<=1000000) (hy:bytes<=80) (hbase:base<=w.heap.size):
  ∃v' w',Hid ((Builtin.append_ #[S,S] S #[v,.slice p m c]).run Tryz.prog w=.ok v' w')/\w'.ownsRow base t sz v' (n+m) (xs++news)/\w.grownBy w' v.ownBlock/\Below base w w'/\(v'.ownBlock=v.ownBlock\/v'.ownBlock=some w.heap.size):=by
 obtain⟨i,hi,hz,hs,hb⟩:=R.size;have hrow:=fun k hk=>(World.ownsRow.lt h k hk).1;cases p with
 | none=>
  obtain⟨rfl,rfl⟩:=hp rfl;obtain rfl:news=[]:=List.eq_nil_of_length_eq_zero (by rw [hl,Nat.zero_mul]);exact⟨v,w,run_append_owned_none w base S S t i sz R.st hi v _ _ h,by rw [List.append_nil];exact h,World.grownBy.refl _ _,Below.refl _ _,.inl rfl⟩
 | some a=>
  have hk:(n+m) * bytes<=140737488355328:=Nat.le_trans (Nat.mul_le_mul hn hy) (by decide);obtain⟨v',w',r1,o1,g1,_,l1⟩:=run_append_own_at w base S S t i zv sz bytes R.st hi hz hs hb R.zs R.pos v _ _ h a m c news hl (hc a rfl) h1 (by simp only [maxLen];omega) hk hbase;exact⟨v',w',r1,o1,g1,(Below.refl base w).grown g1 hbase hrow,l1⟩
abbrev bR:Value:=.slice none 0 0
theorem aC6 {w:World} {g o:Nat} {t ty:TypeId} {cur:Array Value} {v:Value} {vs:List Value} (hg:w.heap[g]? =some (.cells cur t (0,0))) (hc:v.cells=vs.toArray) (hfit:o+vs.length<=cur.size) (h1:∀u ∈ vs,u.oneCell'=true) (hz:(sizeOf ty).run Tryz.prog w=.ok vs.length w):
  (Instr.storeAt ty (.pointer (some ⟨g,o,none⟩)) v).run Tryz.prog w=.ok () (w.setRow g (cur.toList.take o++vs++cur.toList.drop (o+vs.length)).toArray):=by
 have hst:=run_storeCells_at Tryz.prog g o t vs 0 cur w hg (by simpa using hfit) h1;simp only [Instr.storeAt,Instr.sureAddr,storeVar,Sem.run_bind,Sem.run_pure,Result.andThen_ok,hz,hc];simpa using hst
theorem aOk {w:World} {g:Nat} {a b c:Value} {p:Option Addr} {n m:Nat} (hg:w.heap[g]? =some (bkO a b c)):(Instr.storeAt 22 (pt g) (.slice p n m)).run Tryz.prog w=.ok () (w.setRow g #[.slice p n m,b,c]):=by have:=aC6 (o:=0) (ty:=22) (v:=.slice p n m) (vs:=[.slice p n m]) hg rfl (by simp) (by simp [Value.oneCell']) (Tryz.sizeOf22 w);simpa using this
theorem aOl {w:World} {g:Nat} {a b c:Value} {p:Option Addr} {n m:Nat} (hg:w.heap[g]? =some (bkO a b c)):(Instr.storeAt 23 (.pointer (some ⟨g,1,none⟩)) (.slice p n m)).run Tryz.prog w=.ok () (w.setRow g #[a,.slice p n m,c]):=by have:=aC6 (o:=1) (ty:=23) (v:=.slice p n m) (vs:=[.slice p n m]) hg rfl (by simp) (by simp [Value.oneCell']) (Tryz.sizeOf23 w);simpa using this
theorem aOm {w:World} {g:Nat} {a b c:Value} {p:Option Addr} {n m:Nat} (hg:w.heap[g]? =some (bkO a b c)):(Instr.storeAt 24 (.pointer (some ⟨g,2,none⟩)) (.slice p n m)).run Tryz.prog w=.ok () (w.setRow g #[a,b,.slice p n m]):=by have:=aC6 (o:=2) (ty:=24) (v:=.slice p n m) (vs:=[.slice p n m]) hg rfl (by simp) (by simp [Value.oneCell']) (Tryz.sizeOf24 w);simpa using this
theorem aAN {w:World} {base n sz:Nat} {t:TypeId} {v:Value} {xs:List Value} (h:w.ownsRow base t sz v n xs) {g:Nat} (hg:v.ownBlock=some g):∃cur,w.heap[g]? =some (.cells cur t (0,0)):=by
 rcases h.2 with ⟨rfl,_⟩ | ⟨g',cap,cur,rfl,_,hgg,_⟩
 ·cases hg
 ·cases hg;exact⟨_,hgg⟩
theorem kH {w:World} {base base' n sz:Nat} {t:TypeId} {v:Value} {xs:List Value} (h:w.ownsRow base t sz v n xs) (hb:base'<=base):w.ownsRow base' t sz v n xs:=by
 refine ⟨h.1, ?_⟩;rcases h.2 with e | ⟨g,cap,cur,e,h1,h2⟩
 ·exact .inl e
 ·exact .inr ⟨g,cap,cur,e,Nat.le_trans hb h1,h2⟩
theorem aLK {w:World} {base base' n n' sz sz':Nat} {t t':TypeId} {v v':Value} {xs xs':List Value} (h:w.ownsRow base t sz v n xs) (h':w.ownsRow base' t' sz' v' n' xs') (ht:t ≠ t') {g:Nat} (hg:v.ownBlock=some g):v'.ownBlock ≠ some g:=by
 intro e;obtain⟨c1,e1⟩:=aAN h hg;obtain⟨c2,e2⟩:=aAN h' e;rw [e1] at e2;cases e2
 exact ht rfl
theorem oM {w w':World} {base n sz:Nat} {t:TypeId} {v:Value} {xs:List Value} (h:w.ownsRow base t sz v n xs) (hb:∀g,g < w.heap.size->w'.heap[g]? =w.heap[g]?):w'.ownsRow base t sz v n xs:=
 bO h fun g hg=>hb g (World.ownsRow.lt h g hg).2
structure RcI (base:Nat) (w:World) (b:Nat) (sv:Value) (k:Nat) (L:List aO):Prop where
 box:w.heap[b]? =some (bkO sv bR bR)
 sh:∃cv,w.ownsRow base 78 2 sv k ((pairs (L.take k) cv).flatMap iV)/\∀j o,(L.take k)[j]? =some o->w.ownsRow base 57 3 (cv j) o.cells.length (o.cells.flatMap cellC)
theorem RcI.bel {base b k:Nat} {w w':World} {sv:Value} {L:List aO} (h:RcI base w b sv k L) (hb:∀g,g < w.heap.size->w'.heap[g]? =w.heap[g]?):RcI base w' b sv k L:=by obtain⟨cv,h1,h2⟩:=h.sh;exact⟨(hb _ (aN h.box)).trans h.box,cv,oM h1 hb,fun j o hj=>oM (h2 j o hj) hb⟩
theorem aEq {L:List aO} {cv:Nat->Value} {k:Nat} (hk:k < L.length) (v:Value):pairs (L.take (k+1)) (fun j=>if j=k then v else cv j)=pairs (L.take k) cv++ [(L[k],v)]:=by
 apply List.ext_getElem?
 intro j;simp only [pairs,List.getElem?_mapIdx,List.getElem?_take,List.getElem?_append,List.length_mapIdx,List.length_take];rcases Nat.lt_trichotomy j k with h | h | h
 ·have h1:j < k+1:=by omega
  have h2:j < min k L.length:=by omega
  have h3:¬j=k:=by omega
  simp only [if_pos h1,if_pos h2,if_neg h3,if_pos h]
 ·subst h;have h1:j < j+1:=by omega
  have h2:¬j < min j L.length:=by omega
  have h3:j - min j L.length=0:=by omega
  simp only [if_pos h1,if_neg h2,h3,List.getElem?_eq_getElem hk];simp
 ·have h1:¬j < k+1:=by omega
  have h2:¬j < min k L.length:=by omega
  simp only [if_neg h1,if_neg h2];rw [List.getElem?_eq_none (by simp;omega)];rfl
theorem aLL {lo hi:Nat} {w:World} {a:Option Addr} {n c:Nat} {L:List aK} (h:Cls lo hi w (.slice a n c) L):a=none->n=0/\c=0:=by
 intro e;rcases h with ⟨e1,_⟩ | ⟨a',cap,e1,_⟩
 ·cases e1;exact⟨rfl,rfl⟩
 ·rw [e] at e1;cases e1
theorem aLM {base:Nat} {w:World} {b:Nat} {sv:Value} {k:Nat} {L:List aO} (h:RcI base w b sv k L) (hb:b < base) (hbs:base<=w.heap.size) (hk:k < L.length) (hL:L.length<=1000) (hn:L[k].cells.length<=1000) {lo hi:Nat} {a:Option Addr} {c:Nat} (hc:Cls lo hi w (.slice a L[k].cells.length c) L[k].cells) (hhi:hi<=w.heap.size):
  ∃(qa:Option Addr) (qc:Nat) (pa:Option Addr) (pc:Nat) (w2 w4 w5:World),
   Hid ((Builtin.append_ #[27,27] 27 #[.slice (some ⟨w.heap.size,0,none⟩) 0 0,.slice a L[k].cells.length c]).run Tryz.prog (w.alloc (.cells #[] 57))=.ok (.slice qa L[k].cells.length qc) w2)/\
   Hid ((Builtin.append_ #[22,22] 22 #[sv,.slice (some ⟨w2.heap.size,0,none⟩) 1 1]).run Tryz.prog (w2.alloc (.cells #[.string L[k].name,.slice qa L[k].cells.length qc] 78))=.ok (.slice pa (k+1) pc) w4)/\
   Hid ((Instr.storeAt 22 (pt b) (.slice pa (k+1) pc)).run Tryz.prog w4=.ok () w5)/\
   Hid (∀g,g < w.heap.size->w2.heap[g]? =w.heap[g]?)/\Hid (∀g,g < w.heap.size->sv.ownBlock ≠ some g->w4.heap[g]? =w.heap[g]?)/\
   Hid (RcI base w5 b (.slice pa (k+1) pc) (k+1) L)/\Hid (Below b w w5):=by
 obtain⟨cv,h1,h2⟩:=h.sh;have hb1:Below w.heap.size w (w.alloc (.cells #[] 57)):=Sh.aD (Below.refl _ _) (Nat.le_refl _) _;have o1:(w.alloc (.cells #[] 57)).ownsRow base 57 3 (.slice (some ⟨w.heap.size,0,none⟩) 0 0) 0 []:=eO (heap_alloc_new w _) rfl hbs (by decide);have hsrc:=(hc.below hhi hb1).src;have hs1:(w.alloc (.cells #[] 57)).heap.size=w.heap.size+1:=by simp
 obtain⟨v2,w2,RA,o2,g2,b2,_⟩:=rtC.cat o1 (p:=a) (m:=L[k].cells.length) (c:=c) (news:=L[k].cells.flatMap cellC) (aLL hc) (by rw [cK bP]) (fun ad e j u hj=>by
  rcases hsrc with ⟨e1,_⟩ | ⟨ad',e1,h⟩
  ·rw [e] at e1;cases e1
  ·rw [e] at e1;cases e1;exact h j u hj) (oG kL _) (by omega) (by decide) (by omega)
 rw [Nat.zero_add,List.nil_append] at o2;obtain⟨qa,qc,rfl⟩:=bL o2;have k2:∀g,g < w.heap.size->w2.heap[g]? =w.heap[g]? :=fun g hg=>(g2.block g (by omega) (by simp [Value.ownBlock];omega)).trans (hb1.block g hg);have hs2:=g2.size;obtain⟨W3,hW3⟩:∃W3,W3=w2.alloc (.cells #[.string L[k].name,.slice qa L[k].cells.length qc] 78):=⟨_,rfl⟩
 have hb3:Below w2.heap.size w2 W3:=by rw [hW3];exact Sh.aD (Below.refl _ _) (Nat.le_refl _) _
 have hs3:=hb3.size;have hnew:W3.heap[w2.heap.size]? =some (.cells #[.string L[k].name,.slice qa L[k].cells.length qc] 78):=by rw [hW3];exact heap_alloc_new w2 _
 have k3:∀g,g < w.heap.size->W3.heap[g]? =w.heap[g]? :=fun g hg=>(hb3.block g (by omega)).trans (k2 g hg);have o3:W3.ownsRow base 78 2 sv k ((pairs (L.take k) cv).flatMap iV):=oM h1 k3;have o2':W3.ownsRow base 57 3 (.slice qa L[k].cells.length qc) L[k].cells.length (L[k].cells.flatMap cellC):=oM o2 fun g hg=>hb3.block g hg;obtain⟨v4,w4,RB,o4,g4,b4,_⟩:=rtS.cat o3 (p:=some ⟨w2.heap.size,0,none⟩) (m:=1) (c:=1) (news:=[.string L[k].name,.slice qa L[k].cells.length qc]) (fun e=>by cases e) rfl (fun ad e j u hj=>by
  cases e
  rw [Addr.add_mid,Nat.zero_add];exact aH hnew (by simpa using hj)) (by simp [Value.oneCell']) (by omega) (by decide) (by omega)
 obtain⟨pa,pc,rfl⟩:=bL o4;have k4:∀g,g < w.heap.size->sv.ownBlock ≠ some g->w4.heap[g]? =w.heap[g]? :=fun g hg hne=>(g4.block g (by omega) (fun e=>hne e.symm)).trans (k3 g hg);have hbl:=aN h.box;have aPt:sv.ownBlock ≠ some b:=fun e=>by have:=(World.ownsRow.lt h1 _ e).1;omega
 have hX:w4.heap[b]? =some (bkO sv bR bR):=(k4 b hbl aPt).trans h.box;refine ⟨qa,qc,pa,pc,w2,w4,w4.setRow b #[.slice pa (k+1) pc,bR,bR],RA, ?_,aOk hX,k2,k4,⟨setRow_heap _ _ _ _ _ _ hX,fun j=>if j=k then .slice qa L[k].cells.length qc else cv j, ?_,fun j o hj=> ?_⟩, ?_⟩
 ·rw [<-hW3];exact RB
 ·have e0: [Value.string L[k].name,.slice qa L[k].cells.length qc]=[(L[k],Value.slice qa L[k].cells.length qc)].flatMap iV:=rfl;rw [e0,<-List.flatMap_append,<-aEq hk] at o4;exact bO o4 fun g hg=>setRow_other _ _ _ _ (by have:=(World.ownsRow.lt o4 _ hg).1;omega)
 ·have hfin:∀{v:Value} {n:Nat} {xs:List Value},W3.ownsRow base 57 3 v n xs->(w4.setRow b #[.slice pa (k+1) pc,bR,bR]).ownsRow base 57 3 v n xs:=fun {v n xs} ho=>bO ho fun g hg=>by have hl:=World.ownsRow.lt ho _ hg;rw [setRow_other _ _ _ _ (by omega)];exact g4.block g hl.2 (fun e=>aLK ho o3 (by decide) hg e.symm)
  dsimp only;rw [List.getElem?_take] at hj;by_cases hjk:j=k
  ·subst hjk;rw [if_pos (by omega),List.getElem?_eq_getElem hk] at hj;cases hj
   rw [if_pos rfl];exact hfin o2'
  ·by_cases hlt:j < k
   ·rw [if_pos (by omega)] at hj;rw [if_neg hjk];exact hfin (oM (h2 j o (by rw [List.getElem?_take,if_pos hlt];exact hj)) k3)
   ·rw [if_neg (by omega)] at hj;cases hj
 ·have hB:Below base w w4:=((hb1.mono hbs).trans b2).trans ((hb3.mono (by omega)).trans b4);exact below_setRow (hB.mono (by omega)) (Nat.le_refl _) _
theorem aNp {base lo hi:Nat} {w w0:World} {b r:Nat} {sv:Value} {x:aU} (h:RcI base w b sv x.aA.length x.aA) (hb:b < base) (hbs:base<=w.heap.size) (hz:Small x) {na la:Option Addr} {nc lc:Nat} (hn:Nms lo hi w (.slice na x.names.length nc) x.names) (hl:Lks lo hi w (.slice la x.links.length lc) x.links) (hhi:hi<=b) {r0:Nat} (hr0:r0 < b) {a1 a2 a3:Value} (hR0:w.heap[r0]? =some (bkO a1 a2 a3)) (hr:r < b) (hR:w.heap[r]? =some (bkO bR bR bR)) (hrb:w0.heap.size<=r) (hB:Below w0.heap.size w0 w):
  ∃(pa:Option Addr) (pc:Nat) (qa:Option Addr) (qc:Nat) (w1 w2 w3 w4 w5:World),
   Hid ((Builtin.append_ #[23,23] 23 #[bR,.slice na x.names.length nc]).run Tryz.prog w=.ok (.slice pa x.names.length pc) w1)/\
   Hid ((Instr.storeAt 23 (.pointer (some ⟨b,1,none⟩)) (.slice pa x.names.length pc)).run Tryz.prog w1=.ok () w2)/\
   (w2.cell? ⟨b,2,none⟩=some bR/\w2.cell? ⟨r0,2,none⟩=some a3)/\
   Hid ((Builtin.append_ #[24,24] 24 #[bR,.slice la x.links.length lc]).run Tryz.prog w2=.ok (.slice qa x.links.length qc) w3)/\
   Hid ((Instr.storeAt 24 (.pointer (some ⟨b,2,none⟩)) (.slice qa x.links.length qc)).run Tryz.prog w3=.ok () w4)/\
   Hid ((Instr.loadAt 26 (pt b)).run Tryz.prog w4=.ok (.agg #[sv,.slice pa x.names.length pc,.slice qa x.links.length qc]) w4)/\
   Hid ((Instr.storeAt 26 (pt r) (.agg #[sv,.slice pa x.names.length pc,.slice qa x.links.length qc])).run Tryz.prog w4=.ok () w5)/\
   Hid (w5.heap[r]? =some (bkO sv (.slice pa x.names.length pc) (.slice qa x.links.length qc)))/\
   Hid (gQ w0.heap.size w5 sv (.slice pa x.names.length pc) (.slice qa x.links.length qc) x)/\Hid (Below w0.heap.size w0 w5):=by
 obtain⟨cv,h1,h2⟩:=h.sh;rw [List.take_length] at h1 h2;obtain⟨sa,sc,rfl⟩:=bL h1;have hbl:=aN h.box;have hsn:w.ownsRow base 89 3 bR 0 []:=World.ownsRow_nil w base 89 3;have hnn:na=none->x.names.length=0/\nc=0:=by
  intro e;rcases hn with ⟨e1,e2⟩ | ⟨a',cap,e1,_⟩
  ·simp only [Value.slice.injEq] at e1;exact⟨e2,e1.2.2⟩
  ·simp only [Value.slice.injEq] at e1;rw [e] at e1;exact absurd e1.1 (by simp)
 have aOn:=hn.src;obtain⟨v1,w1,RA,o1,g1,b1,_⟩:=rtN.cat hsn (p:=na) (m:=x.names.length) (c:=nc) (news:=x.names.flatMap kQ) hnn (by rw [cK jH]) (fun ad e j u hj=>by
  rcases aOn with ⟨e1,_⟩ | ⟨ad',e1,h⟩
  ·rw [e] at e1;cases e1
  ·rw [e] at e1;cases e1;exact h j u hj) (oG aAx _) (by have:=hz.nm;omega) (by decide) hbs
 rw [Nat.zero_add,List.nil_append] at o1;obtain⟨pa,pc,rfl⟩:=bL o1;have k1:∀g,g < w.heap.size->w1.heap[g]? =w.heap[g]? :=fun g hg=>g1.block g hg (by simp [Value.ownBlock]);have hX1:=(k1 b hbl).trans h.box;obtain⟨W2,hW2⟩:∃W2,W2=w1.setRow b #[.slice sa x.aA.length sc,.slice pa x.names.length pc,bR]:=⟨_,rfl⟩
 have hX2:W2.heap[b]? =some (bkO (.slice sa x.aA.length sc) (.slice pa x.names.length pc) bR):=by rw [hW2];exact setRow_heap _ _ _ _ _ _ hX1
 have k2:∀g,g ≠ b->W2.heap[g]? =w1.heap[g]? :=fun g hg=>by rw [hW2];exact setRow_other _ _ _ _ hg
 have hs2:W2.heap.size=w1.heap.size:=by rw [hW2,setRow_size]
 have hs1:=g1.size;have hl2:Lks lo hi W2 (.slice la x.links.length lc) x.links:=hl.kept fun i _ hi'=>(k2 i (by omega)).trans (k1 i (by omega));have hll:la=none->x.links.length=0/\lc=0:=by
  intro e;rcases hl with ⟨e1,e2⟩ | ⟨a',cap,e1,_⟩
  ·simp only [Value.slice.injEq] at e1;exact⟨e2,e1.2.2⟩
  ·simp only [Value.slice.injEq] at e1;rw [e] at e1;exact absurd e1.1 (by simp)
 have aOo:=hl2.src;have hsl:W2.ownsRow base 91 7 bR 0 []:=World.ownsRow_nil W2 base 91 7;obtain⟨v3,w3,RB,o3,g3,b3,_⟩:=rtL.cat hsl (p:=la) (m:=x.links.length) (c:=lc) (news:=x.links.flatMap kR) hll (by rw [cK jI]) (fun ad e j u hj=>by
  rcases aOo with ⟨e1,_⟩ | ⟨ad',e1,h⟩
  ·rw [e] at e1;cases e1
  ·rw [e] at e1;cases e1;exact h j u hj) (oG aAy _) (by have:=hz.lk;omega) (by decide) (by omega)
 rw [Nat.zero_add,List.nil_append] at o3;obtain⟨qa,qc,rfl⟩:=bL o3;have k3:∀g,g < W2.heap.size->w3.heap[g]? =W2.heap[g]? :=fun g hg=>g3.block g hg (by simp [Value.ownBlock]);have hs3:=g3.size;have hX3:=(k3 b (by omega)).trans hX2;obtain⟨W4,hW4⟩:∃W4,W4=w3.setRow b #[.slice sa x.aA.length sc,.slice pa x.names.length pc,.slice qa x.links.length qc]:=⟨_,rfl⟩
 have hX4:W4.heap[b]? =some (bkO (.slice sa x.aA.length sc) (.slice pa x.names.length pc) (.slice qa x.links.length qc)):=by rw [hW4];exact setRow_heap _ _ _ _ _ _ hX3
 have k4:∀g,g ≠ b->W4.heap[g]? =w3.heap[g]? :=fun g hg=>by rw [hW4];exact setRow_other _ _ _ _ hg
 have hR4:W4.heap[r]? =some (bkO bR bR bR):=by rw [k4 r (by omega),k3 r (by omega),k2 r (by omega),k1 r (by omega)];exact hR
 have hall:∀g,g < w.heap.size->g ≠ b->g ≠ r->(W4.setRow r #[.slice sa x.aA.length sc,.slice pa x.names.length pc,.slice qa x.links.length qc]).heap[g]? =w.heap[g]? :=fun g hg hgb hgr=>by rw [setRow_other _ _ _ _ hgr,k4 g hgb,k3 g (by omega),k2 g hgb,k1 g hg]
 have hrow:∀{t:TypeId} {sz n:Nat} {v:Value} {xs:List Value},w.ownsRow base t sz v n xs->(W4.setRow r #[.slice sa x.aA.length sc,.slice pa x.names.length pc,.slice qa x.links.length qc]).ownsRow base t sz v n xs:=fun {t sz n v xs} ho=>bO ho fun g hg=>by have hl:=World.ownsRow.lt ho _ hg;exact hall g hl.2 (by omega) (by omega)
 have aPu:W2.heap[r0]? =some (bkO a1 a2 a3):=by rw [k2 r0 (by omega),k1 r0 (by omega)];exact hR0
 refine ⟨pa,pc,qa,qc,w1,W2,w3,W4,_,RA,by rw [hW2];exact aOl hX1,⟨(bU hX2).2.2,(bU aPu).2.2⟩,RB,by rw [hW4];exact aOm hX3,ldB hX4,aGm hR4 rfl rfl (by simp [Value.oneCell']),setRow_heap _ _ _ _ _ _ hR4,⟨⟨cv,kH (hrow h1) (by have:=hB.size;omega),fun j o hj=>kH (hrow (h2 j o hj)) (by have:=hB.size;omega)⟩, ?_, ?_⟩, ?_⟩
 ·refine kH (base:=base) (bO o1 fun g hg=> ?_) (by omega);have hl:=World.ownsRow.lt o1 _ hg;rw [setRow_other _ _ _ _ (by omega),k4 g (by omega),k3 g (by omega),k2 g (by omega)]
 ·refine kH (base:=base) (bO o3 fun g hg=> ?_) (by omega);have hl:=World.ownsRow.lt o3 _ hg;rw [setRow_other _ _ _ _ (by omega),k4 g (by omega)]
 ·have hb2:Below w0.heap.size w0 W2:=by rw [hW2];exact below_setRow (hB.trans ((b1.mono (by omega)))) (by omega) _
  have hb4:Below w0.heap.size w0 W4:=by rw [hW4];exact below_setRow (hb2.trans (b3.mono (by omega))) (by omega) _
  exact below_setRow hb4 hrb _
theorem aLN (u:World):(Instr.buildSlice 27 0 #[]).run Tryz.prog u=.ok (.slice (some ⟨u.heap.size,0,none⟩) 0 0) (u.alloc (.cells #[] 57)):=by kernel_rfl
theorem aAO {lo hi:Nat} {w:World} {sv nv lv:Value} {x:aU} (h:BkM lo hi w sv nv lv x) (hhi:hi<=w.heap.size) (hz:Small x):
  Calls Tryz.prog 12 #[.agg #[sv,nv,lv]] w fun e w'=>∃s1 n1 l1,e=.returned (.agg #[s1,n1,l1])/\gQ w.heap.size w' s1 n1 l1 x/\Below w.heap.size w w':=by
 obtain⟨sa,sc,rfl,hs1,hs2⟩:=h.sh.slice;obtain⟨na,nc,rfl,_,_⟩:=h.nm.slice;obtain⟨la,lc,rfl,_,_⟩:=h.lk.slice;have HZ:Hid (Small x):=hz;have HH:Hid (BkM lo hi w (.slice sa x.aA.length sc) (.slice na x.names.length nc) (.slice la x.links.length lc) x):=h;obtain⟨W0,hW0⟩:∃W0,W0=w.alloc (bkO (.slice sa x.aA.length sc) (.slice na x.names.length nc) (.slice la x.links.length lc)):=⟨_,rfl⟩
 have hs0:W0.heap.size=w.heap.size+1:=by rw [hW0];simp
 obtain⟨W1,hW1⟩:∃W1,W1=W0.alloc (bkO bR bR bR):=⟨_,rfl⟩
 have aNq:W1.heap.size=w.heap.size+2:=by rw [hW1];simp [hs0]
 obtain⟨W,hW⟩:∃W,W=W1.alloc (bkO bR bR bR):=⟨_,rfl⟩
 have hWs:W.heap.size=w.heap.size+3:=by rw [hW];simp [aNq]
 have b0:Below w.heap.size w W0:=by rw [hW0];exact Sh.aD (Below.refl _ _) (Nat.le_refl _) _
 have b1:Below W0.heap.size W0 W1:=by rw [hW1];exact Sh.aD (Below.refl _ _) (Nat.le_refl _) _
 have b2:Below W1.heap.size W1 W:=by rw [hW];exact Sh.aD (Below.refl _ _) (Nat.le_refl _) _
 have HBW:Hid (Below w.heap.size w W):=Sh.aF (Sh.aF b0 b0.size b1) (by omega) b2;have G0':W0.heap[w.heap.size]? =some (bkO (.slice sa x.aA.length sc) (.slice na x.names.length nc) (.slice la x.links.length lc)):=by rw [hW0];exact heap_alloc_new w _
 have G1':W1.heap[w.heap.size+1]? =some (bkO bR bR bR):=by rw [hW1,<-hs0];exact heap_alloc_new W0 _
 have hG0:Hid (W.heap[w.heap.size]? =some (bkO (.slice sa x.aA.length sc) (.slice na x.names.length nc) (.slice la x.links.length lc))):=(b2.block _ (by omega)).trans ((b1.block _ (by omega)).trans G0');have hG1:Hid (W.heap[w.heap.size+1]? =some (bkO bR bR bR)):=(b2.block _ (by omega)).trans G1';have hG2:Hid (W.heap[w.heap.size+2]? =some (bkO bR bR bR)):=by show _=_;rw [hW,<-aNq];exact heap_alloc_new W1 _
 have hWW:W=((w.alloc (bkO (.slice sa x.aA.length sc) (.slice na x.names.length nc) (.slice la x.links.length lc))).alloc (bkO bR bR bR)).alloc (bkO bR bR bR):=by rw [hW,hW1,hW0]
 have HWs:Hid (W.heap.size=w.heap.size+3):=hWs;have hc0:=aH hG0.out (j:=0) rfl;rw [hWW] at hc0;have HWW:Hid (((w.alloc (bkO (.slice sa x.aA.length sc) (.slice na x.names.length nc) (.slice la x.links.length lc))).alloc (bkO bR bR bR)).alloc (bkO bR bR bR)=W):=hWW.symm;have hlen:x.aA.length<=1000:=hz.sh;clear h hz hs1 hs2 b0 b1 b2 G0' G1' hWs hs0 aNq hW hW1 hW0 hWW;go_enter Tryz.func12,Tryz.ntmps12;go_wp2;go_loopw [9] (fun i wr=>∃(k:Nat) (sk:Value),k<=x.aA.length/\i=.int .i64 (k:Nat)/\Hid (RcI (w.heap.size+3) wr (w.heap.size+2) sk k x.aA)/\Hid (Below (w.heap.size+2) W wr)) (fun i _=>x.aA.length - (intOf i).toNat)
 case atStart=> rw [HWW.out];exact⟨0,bR,Nat.zero_le _,rfl,⟨hG2.out,fun _=>bR,World.ownsRow_nil _ _ _ _,fun j o hj=>by simp at hj⟩,Below.refl _ _⟩
 case round=>
  obtain⟨k,sk,hk,rfl,HI,HB⟩:=hrel;clear hc0;have HBw:Hid (Below w.heap.size w wr):=HBW.out.trans (HB.out.mono (by omega));have hwr:w.heap.size+3<=wr.heap.size:=by have:=HB.out.size;have:=HWs.out;omega
  have HG0:Hid (wr.heap[w.heap.size]? =some (bkO (.slice sa x.aA.length sc) (.slice na x.names.length nc) (.slice la x.links.length lc))):=(HB.out.block _ (by omega)).trans hG0.out;by_cases hkL:k < x.aA.length
  ·have hki:(k:Int) < x.aA.length:=by omega
   have iJ:k < 9223372036854775807:=by omega
   obtain⟨a',cv,ov,W',rfl,rfl,hcl,hW',R2,R3,R4⟩:=(HH.out.sh.below hhi HBw.out).runs hkL;obtain⟨ca,cc,rfl,_,_⟩:=hcl.slice;have hb1:Below wr.heap.size wr W':=by rw [hW'];exact Sh.aD (Below.refl _ _) (Nat.le_refl _) _
   have hs1:W'.heap.size=wr.heap.size+1:=by rw [hW'];simp
   have hG5:W'.heap[wr.heap.size]? =some (.cells #[.string x.aA[k].name,.slice ca x.aA[k].cells.length cc] 78):=by rw [hW'];exact heap_alloc_new wr _
   have hI':RcI (w.heap.size+3) W'.drew (w.heap.size+2) sk k x.aA:=HI.out.bel fun g hg=>hb1.block g hg;have hsk:sk.ownBlock ≠ some wr.heap.size:=fun e=>by obtain⟨cv',q1,_⟩:=HI.out.sh;have:=(World.ownsRow.lt q1 _ e).2;omega
   have aOp:sk.ownBlock ≠ some (w.heap.size+2):=fun e=>by obtain⟨cv',q1,_⟩:=HI.out.sh;have:=(World.ownsRow.lt q1 _ e).1;omega
   have hcl':Cls lo hi W'.drew (.slice ca x.aA[k].cells.length cc) x.aA[k].cells:=hcl.kept fun i _ hi'=>hb1.block i (by omega);obtain⟨qa,qc,pa,pc,w2,w4,w5,RA,RB,RS,K2,K4,HI5,HB5⟩:=aLM hI' (by omega) (by show _<=W'.heap.size;omega) hkL hlen (HZ.out.cl _ (List.getElem_mem hkL)) hcl' (by show _<=W'.heap.size;omega);have S0:W'.drew.heap[w.heap.size+2]? =some (bkO sk bR bR)/\W'.drew.heap[wr.heap.size]? =some (.cells #[.string x.aA[k].name,.slice ca x.aA[k].cells.length cc] 78):=⟨hI'.box,hG5⟩
   have HS:Hid (W'.drew.heap[w.heap.size+2]? =some (bkO sk bR bR)/\W'.drew.heap[wr.heap.size]? =some (.cells #[.string x.aA[k].name,.slice ca x.aA[k].cells.length cc] 78)):=S0;have hd:W'.drew.heap.size=wr.heap.size+1:=hs1;have HS1:Hid ((W'.drew.alloc (.cells #[] 57)).heap[w.heap.size+2]? =some (bkO sk bR bR)/\(W'.drew.alloc (.cells #[] 57)).heap[wr.heap.size]? =some (.cells #[.string x.aA[k].name,.slice ca x.aA[k].cells.length cc] 78)):=⟨(Below.heap_alloc _ _ _ (by omega)).trans S0.1,(Below.heap_alloc _ _ _ (by omega)).trans S0.2⟩
   have S2:=And.intro ((K2.out _ (by omega)).trans S0.1) ((K2.out _ (by omega)).trans S0.2);have HS2:Hid (w2.heap[w.heap.size+2]? =some (bkO sk bR bR)/\w2.heap[wr.heap.size]? =some (.cells #[.string x.aA[k].name,.slice ca x.aA[k].cells.length cc] 78)):=S2;have HS3:Hid ((w2.alloc (.cells #[.string x.aA[k].name,.slice qa x.aA[k].cells.length qc] 78)).heap[w.heap.size+2]? =some (bkO sk bR bR)/\(w2.alloc (.cells #[.string x.aA[k].name,.slice qa x.aA[k].cells.length qc] 78)).heap[wr.heap.size]? =some (.cells #[.string x.aA[k].name,.slice ca x.aA[k].cells.length cc] 78)):=⟨(Below.heap_alloc _ _ _ (aN S2.1)).trans S2.1,(Below.heap_alloc _ _ _ (aN S2.2)).trans S2.2⟩
   have HS4:Hid (w4.heap[w.heap.size+2]? =some (bkO sk bR bR)/\w4.heap[wr.heap.size]? =some (.cells #[.string x.aA[k].name,.slice ca x.aA[k].cells.length cc] 78)):=⟨(K4.out _ (by omega) aOp).trans S0.1,(K4.out _ (by omega) hsk).trans S0.2⟩
   have HBF:Hid (Below (w.heap.size+2) W w5):=HB.out.trans ((hb1.mono (by omega)).drew.trans HB5.out);clear hI' hcl hcl' hb1 hG5 S0 S2 K2 K4 HB5 hW' R4 HI HB hsk aOp hs1 hd;generalize x.aA[k].name=yn at *;generalize x.aA[k].cells.length=yl at *;have hc0:=aH HG0.out (j:=0) rfl;go_wp2_with (first|((with_reducible show wL (Op.load 78 _));refine aC rfl 78 _ rfl _ _ rfl R2.out ?_;clear R2)|((with_reducible show wL (Op.store 78 _ _));refine aB rfl 78 _ _ rfl _ _ _ rfl rfl R3.out ?_;clear R3))
   refine aP (fun u=>u.heap[w.heap.size+2]? =some (bkO sk bR bR)/\u.heap[wr.heap.size]? =some (.cells #[.string yn,.slice ca yl cc] 78)) (fun j=>j==12) (by kernel_rfl) ?_;refine dwp 0 ((.pointer (some ⟨w.heap.size+2,0,none⟩))) ?_;refine dwl 1 (sk) ?_ (hS:=HS.out) (hy:=(fun u hSu=>aG rfl rfl (aEn (bU hSu.1).1)));refine dwp 2 ((pt wr.heap.size)) ?_;refine dwl 3 ((.string yn)) ?_ (hS:=HS.out) (hy:=(fun u hSu=>aG rfl rfl (ld1 (aH hSu.2 rfl) (Tryz.isAgg9 _))));refine dwp 5 ((.pointer (some ⟨wr.heap.size,1,none⟩))) ?_;refine dwl 6 ((.slice ca yl cc)) ?_ (hS:=HS.out) (hy:=(fun u hSu=>aG rfl rfl (ld1 (aH hSu.2 rfl) (Tryz.isAgg27 _))));refine aJ (i:=4) (by kernel_rfl) rfl ?_;intro K' hK';rw [if_pos (by rfl)];refine aAL rfl (by go_simp) (aLN _) ?_;refine hK' _ _ (.inr fun _=>HS1.out) ?_;clear hK';try simp only [Act.put,List.setIfInBounds_toArray,List.set_cons_zero,List.set_cons_succ]
   refine aJ (i:=7) (by kernel_rfl) rfl ?_;intro K' hK';rw [if_pos (by rfl)];refine pF rfl rfl rfl RA.out ?_;refine hK' _ _ (.inr fun _=>HS2.out) ?_;clear hK';try simp only [Act.put,List.setIfInBounds_toArray,List.set_cons_zero,List.set_cons_succ]
   refine dwp 8 ((.agg #[.string yn,.slice qa yl qc])) ?_ (hy:=(fun u=>kS rfl (by go_simp) (aNm u _ _ _ _)));refine aJ (i:=9) (by kernel_rfl) rfl ?_;intro K' hK';rw [if_pos (by rfl)];refine aAL rfl (by go_simp) (aEm w2 yn qa yl qc) ?_;refine hK' _ _ (.inr fun _=>HS3.out) ?_;clear hK';try simp only [Act.put,List.setIfInBounds_toArray,List.set_cons_zero,List.set_cons_succ]
   refine aJ (i:=10) (by kernel_rfl) rfl ?_;intro K' hK';rw [if_pos (by rfl)];refine pF rfl rfl rfl RB.out ?_;refine hK' _ _ (.inr fun _=>HS4.out) ?_;clear hK';try simp only [Act.put,List.setIfInBounds_toArray,List.set_cons_zero,List.set_cons_succ]
   refine dwp 11 ((.pointer (some ⟨w.heap.size+2,0,none⟩))) ?_;refine aJ (i:=12) (by kernel_rfl) rfl ?_;intro K' hK';rw [if_pos (by rfl)];refine oH rfl rfl rfl RS.out ?_;refine hK' _ _ (.inl rfl) ?_;clear hK';try simp only [Act.put,List.setIfInBounds_toArray,List.set_cons_zero,List.set_cons_succ]
   refine aR (by kernel_rfl) ?_ _;go_wp2;go_roundw
   case rel=>exact⟨k+1,_,by omega,by go_num,HI5,HBF⟩
   case measure=>simp [intOf];omega
  ·have hki:¬(k:Int) < x.aA.length:=by omega
   obtain rfl:k=x.aA.length:=by omega
   have HG1:wr.heap[w.heap.size+1]? =some (bkO bR bR bR):=(HB.out.block _ (by omega)).trans hG1.out;obtain⟨pa,pc,qa,qc,w1,w2,w3,w4,w5,RA,RS1,⟨d2,e2⟩,RB,RS2,RL,RS,HG,HO,HBF⟩:=aNp (w0:=w) HI.out (by omega) hwr HZ.out (HH.out.nm.below hhi HBw.out) (HH.out.lk.below hhi HBw.out) (by omega) (by omega) HG0.out (by omega) HG1 (by omega) HBw.out;obtain⟨_,d1,_⟩:=bU HI.out.box;obtain⟨_,e1,_⟩:=bU HG0.out;clear HI HB HG0 HG1;go_wp2_with (first|(at_builtin;refine bV rfl _ _ 23 23 rfl _ _ _ _ rfl rfl RA.out ?_;clear RA)|((with_reducible show wL (Op.store 23 _ _));refine aB rfl 23 _ _ rfl _ _ _ rfl rfl RS1.out ?_;clear RS1)|(at_builtin;refine bV rfl _ _ 24 24 rfl _ _ _ _ rfl rfl RB.out ?_;clear RB)|((with_reducible show wL (Op.store 24 _ _));refine aB rfl 24 _ _ rfl _ _ _ rfl rfl RS2.out ?_;clear RS2)|((with_reducible show wL (Op.load 26 _));refine aC rfl 26 _ rfl _ _ rfl RL.out ?_;clear RL)|((with_reducible show wL (Op.store 26 _ _));refine aB rfl 26 _ _ rfl _ _ _ rfl rfl RS.out ?_;clear RS))
   refine bodyPost_ret (aMu rfl rfl HG.out) rfl ?_;exact⟨_,_,_,rfl,HO.out,HBF.out⟩
end Go.Proofs.YtlhoklhjbpkgpaaGreatDoor.Sh
namespace Go.Proofs.YtlhoklhjbpkgpaaGreatDoor
open Go.RowKit Go.Fm
abbrev rpO (v:Value) (x:Bool):Obj:=.cells #[v,.bool x] 145
structure QR (W:World) (b:Nat) (L:List Tk.Tok) (w:World):Prop where
 tab:dD W
 bel:Below W.heap.size W w
 lo:W.heap.size<=b
 ok:OkL L
 blk:∃v,w.heap[b]? =some (rpO v false)/\TS W v (L.map tk)
structure QW (W:World) (b:Nat) (w:World):Prop where
 tab:dD W
 bel:Below W.heap.size W w
 lo:W.heap.size<=b
 blk:w.heap[b]? =some (rpO (.slice none 0 0) true)
structure QB (W:World) (b:Nat) (w:World):Prop where
 tab:dD W
 bel:Below W.heap.size W w
 lo:W.heap.size<=b
 blk:∃v x,w.heap[b]? =some (rpO v x)
theorem QR.b {W w:World} {b:Nat} {L:List Tk.Tok} (h:QR W b L w):QB W b w:=by obtain⟨v,h1,_⟩:=h.blk;exact⟨h.tab,h.bel,h.lo,_,_,h1⟩
theorem QW.b {W w:World} {b:Nat} (h:QW W b w):QB W b w:=⟨h.tab,h.bel,h.lo,_,_,h.blk⟩
theorem QB.lt {W w:World} {b:Nat} (h:QB W b w):b < w.heap.size:=by obtain⟨v,x,h1⟩:=h.blk;exact aZ h1
theorem QR.lt {W w:World} {b:Nat} {L:List Tk.Tok} (h:QR W b L w):b < w.heap.size:=h.b.lt
theorem QW.lt {W w:World} {b:Nat} (h:QW W b w):b < w.heap.size:=h.b.lt
theorem QR.grown {W w w':World} {b:Nat} {L:List Tk.Tok} (h:QR W b L w) {row:Option Nat} (hg:w.grownBy w' row) (hr:∀k,row=some k->W.heap.size<=k/\k ≠ b):QR W b L w':=by obtain⟨v,h1,h2⟩:=h.blk;exact⟨h.tab,h.bel.grown hg h.bel.size (fun k hk=>(hr k hk).1),h.lo,h.ok,v,(hg.block b h.lt (fun e=>(hr b e.symm).2 rfl)).trans h1,h2⟩
theorem QW.grown {W w w':World} {b:Nat} (h:QW W b w) {row:Option Nat} (hg:w.grownBy w' row) (hr:∀k,row=some k->W.heap.size<=k/\k ≠ b):QW W b w':=
 ⟨h.tab,h.bel.grown hg h.bel.size (fun k hk=>(hr k hk).1),h.lo,(hg.block b h.lt (fun e=>(hr b e.symm).2 rfl)).trans h.blk⟩
theorem QR.below {W w w':World} {b:Nat} {L:List Tk.Tok} (h:QR W b L w) (hb:Below w.heap.size w w'):QR W b L w':=h.grown (bD (row:=none) hb) (fun k e=>by cases e)
theorem QW.below {W w w':World} {b:Nat} (h:QW W b w) (hb:Below w.heap.size w w'):QW W b w':=h.grown (bD (row:=none) hb) (fun k e=>by cases e)
theorem QR.alloc {W w:World} {b:Nat} {L:List Tk.Tok} (h:QR W b L w) (o:Obj):QR W b L (w.alloc o):=h.below (aD (Below.refl _ _) o)
theorem QR.drew {W w:World} {b:Nat} {L:List Tk.Tok} (h:QR W b L w):QR W b L w.drew:=h.below (Below.refl _ _).drew
def Sq (W:World) (b:Nat) (L:List Tk.Tok) (w w':World):Prop:=QR W b L w'/\w.grownBy w' (some b)
def Sw (W:World) (b:Nat) (w w':World):Prop:=QW W b w'/\w.grownBy w' (some b)
theorem Sq.step {W w w1 w2:World} {b:Nat} {L M:List Tk.Tok} (h:Sq W b L w w1) (k:Sq W b M w1 w2):Sq W b M w w2:=⟨k.1,aI h.2 k.2⟩
theorem Sq.bad {W w w1 w2:World} {b:Nat} {L:List Tk.Tok} (h:Sq W b L w w1) (k:Sw W b w1 w2):Sw W b w w2:=⟨k.1,aI h.2 k.2⟩
theorem Sw.step {W w w1 w2:World} {b:Nat} (h:Sw W b w w1) (k:Sw W b w1 w2):Sw W b w w2:=⟨k.1,aI h.2 k.2⟩
theorem Sq.refl {W w:World} {b:Nat} {L:List Tk.Tok} (h:QR W b L w):Sq W b L w w:=⟨h,World.grownBy.refl _ _⟩
theorem Sq.bel {W w w1 w2:World} {b:Nat} {L:List Tk.Tok} (h:Sq W b L w w1) (hb:Below w1.heap.size w1 w2):Sq W b L w w2:=⟨h.1.below hb,aI h.2 (bD hb)⟩
theorem Sw.bel {W w w1 w2:World} {b:Nat} (h:Sw W b w w1) (hb:Below w1.heap.size w1 w2):Sw W b w w2:=⟨h.1.below hb,aI h.2 (bD hb)⟩
theorem Sq.alloc {W w w1:World} {b:Nat} {L:List Tk.Tok} (h:Sq W b L w w1) (o:Obj):Sq W b L w (w1.alloc o):=h.bel (aD (Below.refl _ _) o)
theorem Sw.alloc {W w w1:World} {b:Nat} (h:Sw W b w w1) (o:Obj):Sw W b w (w1.alloc o):=h.bel (aD (Below.refl _ _) o)
theorem Sq.dQ {W w w1:World} {b:Nat} {L:List Tk.Tok} {o:Obj} (h:Sq W b L (w.alloc o) w1):Sq W b L w w1:=⟨h.1,aI (World.grownBy_alloc w o _) h.2⟩
theorem Sw.dQ {W w w1:World} {b:Nat} {o:Obj} (h:Sw W b (w.alloc o) w1):Sw W b w w1:=⟨h.1,aI (World.grownBy_alloc w o _) h.2⟩
theorem Sq.kept {W w w1:World} {b:Nat} {L:List Tk.Tok} (h:Sq W b L w w1) {i:Nat} {o:Obj} (hi:w.heap[i]? =some o) (hb:i ≠ b):w1.heap[i]? =some o:=
 (h.2.block i (aZ hi) (fun e=>hb (Option.some.inj e))).trans hi
theorem Sw.kept {W w w1:World} {b:Nat} (h:Sw W b w w1) {i:Nat} {o:Obj} (hi:w.heap[i]? =some o) (hb:i ≠ b):w1.heap[i]? =some o:=
 (h.2.block i (aZ hi) (fun e=>hb (Option.some.inj e))).trans hi
theorem Sq.grown {W w w1 w2:World} {b g:Nat} {L:List Tk.Tok} (h:Sq W b L w w1) (hg:w1.grownBy w2 (some g)) (h1:w.heap.size<=g) (h2:b < w.heap.size):Sq W b L w w2:=
 ⟨h.1.grown hg (fun k hk=>by cases hk;exact⟨by have:=h.1.lo;omega,by omega⟩),World.grownBy.andThen h.2 hg (fun j hj=>by cases hj;exact .inl h1)⟩
theorem Sw.grown {W w w1 w2:World} {b g:Nat} (h:Sw W b w w1) (hg:w1.grownBy w2 (some g)) (h1:w.heap.size<=g) (h2:b < w.heap.size):Sw W b w w2:=
 ⟨h.1.grown hg (fun k hk=>by cases hk;exact⟨by have:=h.1.lo;omega,by omega⟩),World.grownBy.andThen h.2 hg (fun j hj=>by cases hj;exact .inl h1)⟩
def NA (es:Array Value):Prop:=∃a p n c,es=lcs a (.slice p n c)
theorem NA.size {es:Array Value} (h:NA es):es.size=18:=by obtain⟨a,p,n,c,e⟩:=h;rw [e];rfl
theorem NA.one {es:Array Value} (h:NA es):es.all (·.oneCell')=true:=by obtain⟨a,p,n,c,e⟩:=h;rw [e];exact nI _ _ _ _
theorem NA.sto {u:World} {es:Array Value} (h:NA es) {g:Nat} {zs:Array Value} (hg:u.heap[g]? =some (.cells zs 67)) (hz:zs.size=18):
  Hid ((Instr.storeAt 67 (pt g) (.agg es)).run Tryz.prog u=.ok () (u.setRow g es)):=YtlhoklhjbpkgpaaGreatDoor.sto hg (by rw [h.size];exact iG) (by rw [h.size];exact hz) h.one
theorem NA.lod {u:World} {es:Array Value} (h:NA es) {g:Nat} (hg:u.heap[g]? =some (.cells es 67)):
  Hid ((Instr.loadAt 67 (pt g)).run Tryz.prog u=.ok (.agg es) u):=YtlhoklhjbpkgpaaGreatDoor.lod (z:=(0,0)) hg rfl Tryz.underlying67 (by rw [h.size];exact iG)
theorem NA.zero:NA nd0:=⟨bG 0 nb,none,0,0,rfl⟩
def RA (W:World) (b:Nat) (w:World) (o:Option (T × List Tk.Tok)) (es:Array Value) (w':World):Prop:=
 match o with
 | none=>Sw W b w w'
 | some p=>NK (fun i=>w.heap.size<=i) w' es p.1/\Sq W b p.2 w w'
def RO (W:World) (b:Nat) (w:World) (o:Option (T × List Tk.Tok)) (e:Ending) (w':World):Prop:=∃es,e=.returned (.agg es)/\NA es/\RA W b w o es w'
theorem RA.grow {W w w':World} {b:Nat} {o:Option (T × List Tk.Tok)} {es:Array Value} (h:RA W b w o es w'):w.grownBy w' (some b):=by
 cases o with
 | none=>exact h.2
 | some p=>exact h.2.2
theorem RA.kept {W w w':World} {b:Nat} {o:Option (T × List Tk.Tok)} {es:Array Value} (h:RA W b w o es w') {i:Nat} {x:Obj} (hi:w.heap[i]? =some x) (hb:i ≠ b):w'.heap[i]? =some x:=
 (h.grow.block i (aZ hi) (fun e=>hb (Option.some.inj e))).trans hi
theorem RA.fin {W w w1:World} {b:Nat} {o:Option (T × List Tk.Tok)} {es:Array Value} (hb:b < w.heap.size) (hn:NA es) (h:RA W b (w.alloc (.cells nd0 67)) o es w1):
  Hid ((Instr.storeAt 67 (pt w.heap.size) (.agg es)).run Tryz.prog w1=.ok () (w1.setRow w.heap.size es))/\Hid (w1.heap[w.heap.size]? =some (.cells nd0 67))/\Hid (es.size=18)/\
  Hid (RA W b w o es (w1.setRow w.heap.size es)):=by
 have hg:=h.kept (heap_alloc_new w _) (by omega);refine ⟨hn.sto hg rfl,hg,hn.size, ?_⟩;cases o with
 | none=>
  have h':Sw W b (w.alloc (.cells nd0 67)) w1:=h;show Sw W b w _;exact h'.dQ.grown (aL _ _ _) (Nat.le_refl _) hb
 | some p=>
  obtain⟨h1,h2⟩:=h;show NK _ _ _ _/\Sq _ _ _ _ _;exact⟨((qY h1).grown (aL _ _ _) (fun g e hk=>by cases e;exact Nat.lt_irrefl _ hk)).mono (fun i hi _=>Nat.le_of_lt hi),h2.dQ.grown (aL _ _ _) (Nat.le_refl _) hb⟩
theorem aC7 {w:World} {b:Nat} {a:Option Addr} {c:Nat} {x:Bool} (hv:w.heap[b]? =some (rpO (.slice a 0 c) x)):CW 156 #[pt b] w (.string noB):=by
 have hc:w.cell? ⟨b,0,none⟩=some (.slice a 0 c):=by rw [cell_of_row w b 0 _ 145 (0,0) hv];rfl
 go_enter Tryz.func156,Tryz.ntmps156;go_wp2;go_ret;exact⟨rfl,rfl⟩
theorem aFx {W w:World} {b:Nat} (X:QW W b w):CW 156 #[pt b] w (.string noB):=aC7 X.blk
theorem aLO {W w:World} {b:Nat} (X:QR W b [] w):CW 156 #[pt b] w (.string noB):=by obtain⟨v,hv,hs⟩:=X.blk;obtain⟨a,c,rfl⟩:=hs.slice;exact aC7 hv
theorem aJu {W w:World} {b:Nat} {t:Tk.Tok} {L:List Tk.Tok} (X:QR W b (t:: L) w) (hn:L.length<=255):CW 156 #[pt b] w (.string (if (tk t).k=5 then (tk t).s else noB)):=by
 obtain⟨v,hv,hs⟩:=X.blk;rw [List.map_cons] at hs;obtain⟨g,o,c,rfl,hlc,hcs,_⟩:=hs.cons;rw [List.length_map] at hv hlc;have hc:w.cell? ⟨b,0,none⟩=some (.slice (some ⟨g,o,none⟩) (L.length+1) c):=by rw [cell_of_row w b 0 _ 145 (0,0) hv];rfl
 have h0:w.cell? ⟨g,o,none⟩=some (.int .i64 (tk t).k):=iN X.bel (hcs 0 _ rfl);have h2:w.cell? ⟨g,o+2,none⟩=some (.string (tk t).s):=iN X.bel (hcs 2 _ rfl);have hl:(0:Int) < (L.length:Int)+1:=by omega
 generalize (tk t).k=k at *;generalize (tk t).s=s at *;generalize L.length=n at *;clear hs hcs X hv;by_cases h5:k=5
 ·subst h5;rw [if_pos rfl];go_enter Tryz.func156,Tryz.ntmps156;go_wp2;all_goals (go_ret;exact⟨rfl,rfl⟩)
 ·rw [if_neg h5];have h5b:(k==5)=false:=by simpa using h5
  go_enter Tryz.func156,Tryz.ntmps156;go_wp2;all_goals (go_ret;exact⟨rfl,rfl⟩)
theorem fG {W w:World} {b:Nat} {L:List Tk.Tok} (X:QR W b L w) (hn:L.length<=256):CW 156 #[pt b] w (.string (ba (aV L))):=by
 rw [<-aI3 L];cases L with
 | nil=>exact aLO X
 | cons t L=>exact aJu X (by simpa using hn)
theorem bM {u:World} {b:Nat} {v:Value} {x:Bool} (h:u.heap[b]? =some (rpO v x)):u.cell? ⟨b,0,none⟩=some v/\u.cell? ⟨b,1,none⟩=some (.bool x)/\u.frozen? ⟨b,0,none⟩=false/\u.frozen? ⟨b,1,none⟩=false/\
  (∀y,(u.setCell ⟨b,1,none⟩ (.bool y)).heap[b]? =some (rpO v y))/\∀y,(u.setCell ⟨b,0,none⟩ y).heap[b]? =some (rpO y x):=by
 refine ⟨by rw [cell_of_row u b 0 _ 145 (0,0) h];rfl,by rw [cell_of_row u b 1 _ 145 (0,0) h];rfl,by unfold World.frozen?;rw [h];rfl,by unfold World.frozen?;rw [h];rfl,fun y=> ?_,fun y=> ?_⟩
 ·simp [World.setCell,Array.getElem?_modify,h]
 ·simp [World.setCell,Array.getElem?_modify,h]
abbrev aJv (u:World) (b:Nat):World:=(u.setCell ⟨b,1,none⟩ (.bool true)).setCell ⟨b,0,none⟩ (.slice none 0 0)
theorem aC8 {W w u:World} {b:Nat} (X:QB W b w) (hg:∀row,w.grownBy u row):Sw W b w (aJv u b)/\∃v,(u.setCell ⟨b,1,none⟩ (.bool true)).heap[b]? =some (rpO v true):=by obtain⟨v,x,hv⟩:=X.blk;have hu:u.heap[b]? =some (rpO v x):=((hg none).block b (aZ hv) (by simp)).trans hv;have f1:=(bM hu).2.2.2.2.1 true;have f2:=(bM f1).2.2.2.2.2 (.slice none 0 0);have hB:Below W.heap.size W u:=X.bel.grown (hg none) X.bel.size (fun k hk=>by cases hk);refine ⟨⟨⟨X.tab,(hB.setCell X.lo _).setCell X.lo _,X.lo,f2⟩, ?_⟩,v,f1⟩;exact aI (aI (hg _) (Lib.grownBy_setCell _ _ _ _)) (Lib.grownBy_setCell _ _ _ _)
theorem aOq {W w:World} {b:Nat} (X:QB W b w) {u:World} (hg:∀row,w.grownBy u row):∃v x,u.heap[b]? =some (rpO v x):=by obtain⟨v,x,hv⟩:=X.blk;exact⟨v,x,((hg none).block b (aZ hv) (by simp)).trans hv⟩
theorem zP {W w:World} {b:Nat} {S A:ByteArray} (X:QB W b w) (O:CW 156 #[pt b] w (.string A)) (hne:(A.toList==S.toList)=false):
  Calls Tryz.prog 157 #[pt b,.string S] w fun e w'=>e=.returned (.tuple #[])/\Sw W b w w':=by
 obtain⟨h1,v1,h2⟩:=aC8 (u:=w) X (fun _=>World.grownBy.refl _ _);obtain⟨v,x,h0⟩:=X.blk;obtain⟨c0,c1,f0,f1,_⟩:=bM h0;obtain⟨d0,d1,g0,g1,_⟩:=bM h2;have HF:Hid (Sw W b w (aJv w b)):=h1;clear h1 h2 h0 X;go_enter Tryz.func157,Tryz.ntmps157;go_wp2_with (go_at_call 156;refine mw O ?_)
 exact bodyPost_ret (results_none rfl _ _ _) rfl ⟨rfl,HF.out⟩
theorem aJw {l m:List UInt8} (h:l ≠ m):((ba l).toList==(ba m).toList)=false:=by rw [ByteArray.toList_eq,ByteArray.toList_eq];simpa using h
theorem aNr (l:List UInt8):((ba l).toList==(ba l).toList)=true:=by simp
theorem aC9 {W w:World} {b:Nat} {L:List Tk.Tok} (X:QR W b L w) (hn:L.length<=256) {s:List UInt8} (h:aV L ≠ s):Calls Tryz.prog 157 #[pt b,.string (ba s)] w fun e w'=>e=.returned (.tuple #[])/\Sw W b w w':=
 zP X.b (fG X hn) (aJw h)
theorem aAP {W w:World} {b:Nat} (X:QW W b w) {s:List UInt8} (h:s ≠ []):Calls Tryz.prog 157 #[pt b,.string (ba s)] w fun e w'=>e=.returned (.tuple #[])/\Sw W b w w':=
 zP X.b (aFx X) (aJw (l:=[]) (Ne.symm h))
theorem eD {W w:World} {b:Nat} {L:List Tk.Tok} (X:QR W b L w) (hn:L.length<=256) {s:List UInt8} (hs:s ≠ []) (h:aV L=s):Calls Tryz.prog 157 #[pt b,.string (ba s)] w fun e w'=>e=.returned (.tuple #[])/\Sq W b L.tail w w':=by
 have O:=fG X hn;rw [h] at O;have heq:=aNr s;obtain⟨h1,h2⟩:=bA (ts:=L) h hs;obtain⟨v,hv,ht⟩:=X.blk;rw [h2,List.map_cons] at ht;obtain⟨g,o,c,rfl,hlc,hcs,hts⟩:=ht.cons;rw [List.length_map] at hv hlc hts;obtain⟨c0,c1,f0,f1,_,hset⟩:=bM hv;obtain⟨A,hA⟩:∃A,(if c=1 then some (⟨g,o,none⟩:Addr) else some ⟨g,o+9,none⟩)=A:=⟨_,rfl⟩
 rw [hA] at hts;have HF:Hid (Sq W b L.tail w (w.setCell ⟨b,0,none⟩ (.slice A L.tail.length (c - 1)))):=
  ⟨⟨X.tab,X.bel.setCell X.lo _,X.lo,fun x hx=>X.ok x (List.mem_of_mem_tail hx),_,hset _,hts⟩,Lib.grownBy_setCell _ _ _ _⟩
 generalize L.tail.length=n at *;generalize ba s=S at *;clear hts hv ht hcs X h h1 h2 hset;go_enter Tryz.func157,Tryz.ntmps157;go_wp2_with (go_at_call 156;refine mw O ?_)
 go_end0
 exact⟨rfl,HF.out⟩
theorem rG (u:World):(Instr.build 67 #[]).run Tryz.prog u=.ok (.agg nd0) u:=by kernel_rfl
theorem mR {W w:World} {b:Nat} (X:QB W b w):Calls Tryz.prog 244 #[pt b] w fun e w'=>e=.returned (.agg nd0)/\Sw W b w w':=by
 have hg:∀row,w.grownBy (w.alloc (.cells nd0 67)) row:=fun _=>World.grownBy_alloc _ _ _;have hb:=X.lt;obtain⟨h1,v1,h2⟩:=aC8 (u:=w.alloc (.cells nd0 67)) X hg;obtain⟨v,x,h0⟩:=aOq X hg;obtain⟨c0,c1,f0,f1,_⟩:=bM h0;obtain⟨d0,d1,g0,g1,_⟩:=bM h2;have G1:=Lib.grownBy_setCell (w.alloc (.cells nd0 67)) b 1 (.bool true);have H1:=(G1.block w.heap.size (by simp) (by intro e;have:=Option.some.inj e;omega)).trans (heap_alloc_new w (.cells nd0 67));obtain⟨w2,hw2⟩:∃w2,(w.alloc (.cells nd0 67)).setCell ⟨b,1,none⟩ (.bool true)=w2:=⟨_,rfl⟩
 have h1':Sw W b w (w2.setCell ⟨b,0,none⟩ (.slice none 0 0)):=by rw [<-hw2];exact h1
 rw [hw2] at H1 d0 d1 g0 g1;have G2:=Lib.grownBy_setCell w2 b 0 (.slice none 0 0);have H2:=(G2.block w.heap.size (aZ H1) (by intro e;have:=Option.some.inj e;omega)).trans H1;obtain⟨w3,hw3⟩:∃w3,w2.setCell ⟨b,0,none⟩ (.slice none 0 0)=w3:=⟨_,rfl⟩
 rw [hw3] at H2 h1';have RB:Hid _:=rG w3;have RS:=NA.zero.sto H2 rfl;have HF:Hid (Sw W b w (w3.setRow w.heap.size nd0)):=h1'.grown (aL _ _ _) (Nat.le_refl _) hb;have HR:Hid (w3.heap[w.heap.size]? =some (.cells nd0 67)):=H2;clear H1 H2 h1 h1' h2 h0 X hg G1 G2;go_enter Tryz.func244,Tryz.ntmps244;go_wp2_with (first|(refine aM rfl 67 _ rfl _ _ rfl RB.out ?_)|(refine aB rfl 67 _ _ rfl _ _ _ rfl rfl RS.out ?_))
 exact bodyPost_ret (aY HR.out rfl rfl rfl) rfl ⟨rfl,HF.out⟩
end Go.Proofs.YtlhoklhjbpkgpaaGreatDoor
