/- SIn, SR5, SR4, SRP. -/
import Derived.Deep.DeepCutAuto
import Derived.Test.YtlhoklhjbpkgpaaGreatDoorSR1Pu
set_option linter.unusedVariables false
set_option linter.unusedSimpArgs false
set_option maxHeartbeats 16000000
set_option maxRecDepth 100000
namespace Go.Proofs.YtlhoklhjbpkgpaaGreatDoor.Sh
open Go.RowKit Go.Fm Cm
def mU (r1 c1 r2 c2:Int) (d:aK):Bool:=decide (r1<=d.row) && decide (d.row<=r2) && decide (c1<=d.col) && decide (d.col<=c2)
def kI (c1 r2 c2:Int) (d:aK):Bool:=decide (d.row<=r2) && (decide (c1<=d.col) && decide (d.col<=c2))
def inF (L:List aK) (r1 c1 r2 c2:Int):List aK:=L.filter (mU r1 c1 r2 c2)
theorem aDk {q:aK->Bool} {L:List aK} {k:Nat} (hk:k < L.length):(L.take (k+1)).filter q=(L.take k).filter q++if q L[k]=true then [L[k]] else []:=by rw [List.take_succ_eq_append_getElem hk,List.filter_append];congr 1;by_cases h:q L[k]=true <;> simp [h]
theorem aMa {L:List aK} {r1 c1:Int} {i:Nat} {b:Bool} (hR:iB L) (h:BsR L ⟨r1,c1,⟨#[]⟩⟩ i b) (r2 c2:Int):inF L r1 c1 r2 c2=(L.drop i).filter (kI c1 r2 c2):=by
 obtain⟨h0,h1,h2,_⟩:=h;unfold inF
 conv=>lhs;rw [<-List.take_append_drop i L]
 rw [List.filter_append];have hR2:=hR;unfold iB at hR2;rw [List.pairwise_iff_getElem] at hR2;have e1:(L.take i).filter (mU r1 c1 r2 c2)=[]:=by
  refine jG fun d hd=> ?_;obtain⟨j,hj,rfl⟩:=List.mem_iff_getElem.1 hd;rw [List.length_take] at hj;rw [List.getElem_take];have hlt:Lt L[j] ⟨r1,c1,⟨#[]⟩⟩:=by
   have h3:=pE.1 (h1 (by omega) (by omega));by_cases e:j=i - 1
   ·subst e;exact h3
   ·exact (hR2 j (i - 1) (by omega) (by omega) (by omega)).trans h3
  have hlt2:L[j].row < r1\/L[j].row=r1/\L[j].col < c1:=hlt;unfold mU;generalize L[j]=d at hlt2;simp only [Bool.and_eq_false_iff,decide_eq_false_iff_not];omega
 rw [e1,List.nil_append];refine List.filter_congr fun d hd=> ?_;obtain⟨j,hj,rfl⟩:=List.mem_iff_getElem.1 hd;rw [List.length_drop] at hj;rw [List.getElem_drop];have hge:¬Lt L[i+j] ⟨r1,c1,⟨#[]⟩⟩:=by
  have h3:¬Lt (L[i]'(by omega)) ⟨r1,c1,⟨#[]⟩⟩:=fun e=>by have:=pE.2 e;have:=h2 (by omega);omega
  by_cases e:j=0
  ·subst e;exact h3
  ·exact fun e2=>h3 ((hR2 i (i+j) (by omega) (by omega) (by omega)).trans e2)
 have aPB:¬(L[i+j].row < r1\/L[i+j].row=r1/\L[i+j].col < c1):=hge;unfold mU kI;generalize L[i+j]=d at aPB;rw [Bool.eq_iff_iff];simp only [Bool.and_eq_true,decide_eq_true_eq];omega
theorem aJ8 {T:List aK} {c1 r2 c2:Int} (hR:iB T) {k:Nat} (hk:k < T.length) (h:r2 < T[k].row):T.filter (kI c1 r2 c2)=(T.take k).filter (kI c1 r2 c2):=by
 conv=>lhs;rw [<-List.take_append_drop k T]
 rw [List.filter_append];have e:(T.drop k).filter (kI c1 r2 c2)=[]:=by
  refine jG fun d hd=> ?_;obtain⟨j,hj,rfl⟩:=List.mem_iff_getElem.1 hd;rw [List.length_drop] at hj;rw [List.getElem_drop];have hle:r2 < T[k+j].row:=by
   by_cases e:j=0
   ·subst e;exact h
   ·unfold iB at hR;rw [List.pairwise_iff_getElem] at hR;have:=hR k (k+j) hk (by omega) (by omega);have q:T[k].row < T[k+j].row\/T[k].row=T[k+j].row/\T[k].col < T[k+j].col:=this;omega
  unfold kI;generalize T[k+j]=d at hle;simp only [Bool.and_eq_false_iff,decide_eq_false_iff_not];omega
 rw [e,List.append_nil]
theorem aMb {lo hi:Nat} {w:World} {p:Option Addr} {c k:Nat} {L:List aK} (h:Cls lo hi w (.slice p L.length c) L) (hk:k<=L.length):
  ∃p2 c2,Hid (∀u,(Instr.sliceAt 27 (.slice p L.length c) (some (.int .i64 (k:Nat))) none none).run Tryz.prog u=.ok (.slice p2 (L.drop k).length c2) u)/\Cls lo hi w (.slice p2 (L.drop k).length c2) (L.drop k):=by
 have h2:Tryz.prog.underlying 27=some (.slice (Tryz.prog.elem 27)):=by rw [rtC.elem];exact rtC.st
 have run:∀u,(Instr.sliceAt 27 (.slice p L.length c) (some (.int .i64 (k:Nat))) none none).run Tryz.prog u=.ok (sliced p k L.length c 3) u:=fun u=>by rw [run_sliceAt_slice u 27 _ _ _ _ h2,run_slice_l u 27 _ L.length c h2 .i64 (k:Nat) (by omega) (by omega),rtC.elem,rtC.so u];rfl
 rcases h with ⟨e1,e2⟩ | ⟨a,cap,e1,g2,g3,g4,g5⟩
 ·have:L=[]:=List.eq_nil_of_length_eq_zero e2;subst this;cases e1
  have hk0:k=0:=by simpa using hk
  subst hk0;exact⟨none,0,fun u=>by rw [run u];simp [sliced],.inl ⟨rfl,rfl⟩⟩
 ·cases e1
  by_cases hc:c=k
  ·have hL:L.length=k:=by omega
   refine ⟨some a,c - k,fun u=> ?_,.inr ⟨a,c - k,rfl,by simp;omega,by omega,fun h0=>by simp at h0;omega,fun j i u hj=>by simp at hj;omega⟩⟩;rw [run u];simp [sliced,hc]
  ·refine ⟨some (a.add (k * 3)),c - k,fun u=> ?_,.inr ⟨a.add (k * 3),c - k,rfl,by simp;omega,by omega,fun h0=> ?_,fun j i u hj hu=> ?_⟩⟩
   ·rw [run u];simp [sliced,hc]
   ·rw [jF];exact g4 (by simp at h0;omega)
   ·rw [Go.Deep.add_add,show k * 3+(j * 3+i)=(k+j) * 3+i by omega];refine g5 (k+j) i u (by simp at hj;omega) ?_;dsimp only at hu ⊢;rw [List.getElem?_drop] at hu;exact hu
theorem aJ9 (L:List aK) (k:Nat) (hR:iB L):iB (L.drop k):=List.Pairwise.sublist (List.drop_sublist k L) hR
theorem aHc {lo hi:Nat} {w:World} {sv nv lv:Value} {x:aU} (h:BkM lo hi w sv nv lv x) (hhi:hi<=w.heap.size) (s:ByteArray) (r1 c1 r2 c2:Int) (hR:iB (fA x.aA s)) (hn:(fA x.aA s).length<=1000):
  Calls Tryz.prog 34 #[.agg #[sv,nv,lv],.string s,.int .i64 r1,.int .i64 c1,.int .i64 r2,.int .i64 c2] w fun e w'=>∃v,e=.returned v/\dZ w.heap.size w' v (inF (fA x.aA s) r1 c1 r2 c2)/\Below w.heap.size w w':=by
 obtain⟨sa,sc,rfl,hs1,hs2⟩:=h.sh.slice;obtain⟨na,nc,rfl,_,_⟩:=h.nm.slice;obtain⟨la,lc,rfl,_,_⟩:=h.lk.slice;obtain⟨W,hW⟩:∃W,W=w.alloc (bkO (.slice sa x.aA.length sc) (.slice na x.names.length nc) (.slice la x.links.length lc)):=⟨_,rfl⟩
 have HB:Below w.heap.size w W:=by rw [hW];exact Sh.aD (Below.refl _ _) (Nat.le_refl _) _
 have R1:Hid _:=ldB (show W.heap[w.heap.size]? =some (bkO (.slice sa x.aA.length sc) (.slice na x.names.length nc) (.slice la x.links.length lc)) by rw [hW];exact heap_alloc_new w _);generalize hL:fA x.aA s=L at *;have C:Calls Tryz.prog 72 _ _ fun e w'=>∃q d,e=.returned (.slice q L.length d)/\Hid (Cls lo hi w' (.slice q L.length d) L)/\Hid (Below w.heap.size w w'):=
  (vU (h.below hhi HB) (Nat.le_trans hhi HB.size) s).mono (by
   rintro e w' ⟨⟨v,rfl,hc⟩,hb⟩;rw [hL] at hc;obtain⟨q,d,rfl,h1,h2⟩:=hc.slice;exact⟨q,d,rfl,hc,Sh.aF HB HB.size hb⟩)
 rw [hW] at C R1;have HRi:Hid (iB L):=hR;generalize hG:inF L r1 c1 r2 c2=gt;have HO:Hid (inF L r1 c1 r2 c2=gt):=hG;clear h HB hW hs1 hs2 hL hG hR;go_enter Tryz.func34,Tryz.ntmps34;go_wp2_with (refine aC rfl 26 _ rfl _ _ rfl R1.out ?_;clear R1)
 refine C.mono ?_;clear C;rintro e w1 ⟨q,d,rfl,HC,HB⟩;have C1:=qU _ q L.length d rfl w1;have HB2:Below w1.heap.size w1 (w1.alloc (.cells #[.slice q L.length d] 27)):=Sh.aD (Below.refl _ _) (Nat.le_refl _) _;have hhi1:hi<=w1.heap.size:=Nat.le_trans hhi HB.out.size;have C2:Calls Tryz.prog 116 #[.int .i64 r1,.int .i64 c1,pt w1.heap.size] (w1.alloc (.cells #[.slice q L.length d] 27)) fun e w'=>(∃(i:Nat) (b:Bool),e=.returned (.tuple #[.int .i64 (i:Nat),.bool b])/\Hid (BsR L ⟨r1,c1,⟨#[]⟩⟩ i b))/\Hid (Below w1.heap.size w1 w'):=(uS (HC.out.below hhi1 HB2) (Nat.le_trans hhi1 HB2.size) hn (heap_alloc_new w1 _) r1 c1).mono (by
  rintro e w' ⟨⟨i,b,rfl,hb⟩,hbl⟩;exact⟨⟨i,b,rfl,hb⟩,Sh.aF HB2 HB2.size hbl⟩)
 clear HB2;go_wp2_with (go_at_call 81;refine C1.mono ?_;clear C1;rintro e w2 ⟨rfl,rfl⟩)
 refine C2.mono ?_;clear C2;rintro e w2 ⟨⟨i,b,rfl,Hb⟩,HB2⟩;have HC2:Cls lo hi w2 (.slice q L.length d) L:=HC.out.below hhi1 HB2.out;obtain⟨p2,c2',RS,HT0⟩:=aMb HC2 Hb.out.1;have HT:Hid (Cls lo hi w2 (.slice p2 (L.drop i).length c2') (L.drop i)):=HT0;have HO2:Hid ((L.drop i).filter (kI c1 r2 c2)=gt):=by show _=_;rw [<-HO.out,aMa HRi.out Hb.out]
 have HRT:Hid (iB (L.drop i)):=aJ9 L i HRi.out;have hTn:(L.drop i).length<=1000:=by simp;omega
 have hhi2:hi<=w2.heap.size:=Nat.le_trans hhi1 HB2.out.size;have HBw:Hid (Below w.heap.size w w2):=Sh.aF HB.out HB.out.size HB2.out;clear HC HC2 HO Hb HT0 HB2 HB HRi;generalize L.drop i=T at *;go_wp2_with (refine gL rfl 27 _ _ _ _ rfl _ _ _ _ _ rfl rfl rfl rfl (RS.out _) ?_;clear RS)
 go_loopw [16,34] (fun v i wr=>∃(k:Nat),k<=T.length/\i=.int .i64 (k:Nat)/\Hid (dZ w2.heap.size wr v ((T.take k).filter (kI c1 r2 c2)))/\Hid (Below w2.heap.size w2 wr)) (fun _ i _=>T.length - (intOf i).toNat)
 case atStart=>exact⟨0,Nat.zero_le _,rfl,dZ.nil _ _,Below.refl _ _⟩
 case round=>
  obtain⟨k,hk,rfl,HW,HD⟩:=hrel;by_cases hkT:k < T.length
  ·have hki:(k:Int) < T.length:=by omega
   obtain⟨a',ov,W',rfl,rfl,hW',R2,R3,R4⟩:=(HT.out.below hhi2 HD.out).runs hkT;have hbx:W'.heap[wr.heap.size]? =some (.cells (cellC T[k]).toArray 57):=by rw [hW'];exact heap_alloc_new wr _
   obtain⟨y0,y1,y2⟩:=bZ hbx;have HD2:Hid (Below wr.heap.size wr W'):=by rw [hW'];exact Sh.aD (Below.refl _ _) (Nat.le_refl _) _
   have hlen:((T.take k).filter (kI c1 r2 c2)).length<=1000:=by have:=List.length_filter_le (kI c1 r2 c2) (T.take k);rw [List.length_take] at this;omega
   obtain⟨va,vc,rfl,_⟩:=HW.out.slice;have HTk:Hid _:=aDk (q:=kI c1 r2 c2) hkT;have aNE:Hid (r2 < T[k].row->(T.take k).filter (kI c1 r2 c2)=gt):=fun e=>by rw [<-HO2.out];exact(aJ8 HRT.out hkT e).symm
   clear hW' hbx;generalize hy:T[k]=y at *;clear hy;obtain⟨yr,yc,yt⟩:=y;dsimp only at *;by_cases e1:r2 < yr
   ·have aKa:Hid (dZ w.heap.size W' (.slice va ((T.take k).filter (kI c1 r2 c2)).length vc) gt):=by show dZ _ _ _ _;rw [<-aNE.out e1];exact(HW.out.below HD2.out).base HBw.out.size
    have HFB:Hid (Below w.heap.size w W'):=Sh.aF (Sh.aF HBw.out HBw.out.size HD.out) (Nat.le_trans HBw.out.size HD.out.size) HD2.out;clear HW HTk aNE R4;go_wp2_with (first|(refine aC rfl 57 _ rfl _ _ rfl R2.out ?_;clear R2)|(refine aB rfl 57 _ _ rfl _ _ _ rfl rfl R3.out ?_;clear R3))
    go_ret;exact⟨_,rfl,aKa.out,HFB.out⟩
   ·have hq:kI c1 r2 c2 ⟨yr,yc,yt⟩=(decide (c1<=yc) && decide (yc<=c2)):=by unfold kI;rw [decide_eq_true (by omega:yr<=r2)];rfl
    rw [hq] at HTk;clear aNE hq;by_cases e2:c1<=yc/\yc<=c2
    ·have hd1:c1<=yc:=e2.1;have hd2:yc<=c2:=e2.2;have HT2:Hid ((T.take (k+1)).filter (kI c1 r2 c2)=(T.take k).filter (kI c1 r2 c2)++ [⟨yr,yc,yt⟩]):=by show _=_;rw [HTk.out];simp [hd1,hd2]
     obtain⟨v',w',RA,o1,_,b1,_⟩:=vJ (L:=(T.take k).filter (kI c1 r2 c2)) (y:=⟨yr,yc,yt⟩) (b:=W'.heap.size) (w:=W'.alloc (nmO ⟨yr,yc,yt⟩)) (HW.out.below (Sh.aF HD2.out HD2.out.size (Sh.aD (Below.refl _ _) (Nat.le_refl _) _))) (heap_alloc_new W' _) (by omega) (by have:=HD.out.size;have:=HD2.out.size;simp;omega);have RB:Hid _:=rF W' ⟨yr,yc,yt⟩;have HB2:Hid (Below w2.heap.size w2 w'):=(Sh.aF (Sh.aF HD.out HD.out.size HD2.out) (Nat.le_trans HD.out.size HD2.out.size) (Sh.aD (Below.refl _ _) (Nat.le_refl _) _)).trans b1;have HW2:Hid (dZ w2.heap.size w' v' ((T.take (k+1)).filter (kI c1 r2 c2))):=by show dZ _ _ _ _;rw [HT2.out];exact o1
     clear HW HTk HT2 o1 b1 e2;generalize ((T.take k).filter (kI c1 r2 c2)).length=fl at *;go_wp2_with (first|(refine aC rfl 57 _ rfl _ _ rfl R2.out ?_;clear R2)|(refine aB rfl 57 _ _ rfl _ _ _ rfl rfl R3.out ?_;clear R3)|(refine aC rfl 57 _ rfl _ _ rfl R4.out ?_;clear R4)|(refine dN rfl 27 1 _ rfl _ _ _ (by go_simp) RB.out ?_;clear RB)|(at_builtin;refine bV rfl _ _ 27 27 rfl _ _ _ _ rfl rfl RA.out ?_;clear RA))
     go_roundw
     case rel=>exact⟨k+1,by omega,by go_num,HW2,HB2⟩
     case measure=>simp [intOf];omega
    ·have HT2:Hid ((T.take (k+1)).filter (kI c1 r2 c2)=(T.take k).filter (kI c1 r2 c2)):=by show _=_;rw [HTk.out,if_neg (by simpa using e2),List.append_nil]
     have HW2:Hid (dZ w2.heap.size W' (.slice va ((T.take k).filter (kI c1 r2 c2)).length vc) ((T.take (k+1)).filter (kI c1 r2 c2))):=by show dZ _ _ _ _;rw [HT2.out];exact HW.out.below HD2.out
     have HB2:Hid (Below w2.heap.size w2 W'):=Sh.aF HD.out HD.out.size HD2.out;clear HW HTk HT2 R4;by_cases e3:c1<=yc
     ·have e4:¬yc<=c2:=fun e=>e2 ⟨e3,e⟩;clear e2;go_wp2_with (first|(refine aC rfl 57 _ rfl _ _ rfl R2.out ?_;clear R2)|(refine aB rfl 57 _ _ rfl _ _ _ rfl rfl R3.out ?_;clear R3))
      go_roundw
      case rel=>exact⟨k+1,by omega,by go_num,HW2,HB2⟩
      case measure=>simp [intOf];omega
     ·clear e2;go_wp2_with (first|(refine aC rfl 57 _ rfl _ _ rfl R2.out ?_;clear R2)|(refine aB rfl 57 _ _ rfl _ _ _ rfl rfl R3.out ?_;clear R3))
      go_roundw
      case rel=>exact⟨k+1,by omega,by go_num,HW2,HB2⟩
      case measure=>simp [intOf];omega
  ·have hki:¬(k:Int) < T.length:=by omega
   have h1:=HW.out;rw [List.take_of_length_le (by omega),HO2.out] at h1;have aKa:Hid _:=h1.base HBw.out.size;clear h1;have HFB:Hid (Below w.heap.size w wr):=Sh.aF HBw.out HBw.out.size HD.out;clear HW;go_wp2;go_ret;exact⟨_,rfl,aKa.out,HFB.out⟩
theorem rT {lo hi:Nat} {w:World} {sv nv lv:Value} {x:aU} (h:BkM lo hi w sv nv lv x) (hhi:hi<=w.heap.size) (s:ByteArray) (r1 c1 r2 c2:Int) (hn:(fA x.aA s).length<=1000):
  Calls Tryz.prog 35 #[.agg #[sv,nv,lv],.string s,.int .i64 r1,.int .i64 c1,.int .i64 r2,.int .i64 c2] w fun e w'=>∃v,e=.returned v/\dZ w.heap.size w' v (inF (fA x.aA s) r1 c1 r2 c2)/\Below w.heap.size w w':=by
 obtain⟨sa,sc,rfl,hs1,hs2⟩:=h.sh.slice;obtain⟨na,nc,rfl,_,_⟩:=h.nm.slice;obtain⟨la,lc,rfl,_,_⟩:=h.lk.slice;obtain⟨W,hW⟩:∃W,W=w.alloc (bkO (.slice sa x.aA.length sc) (.slice na x.names.length nc) (.slice la x.links.length lc)):=⟨_,rfl⟩
 have HB:Below w.heap.size w W:=by rw [hW];exact Sh.aD (Below.refl _ _) (Nat.le_refl _) _
 have HG:W.heap[w.heap.size]? =some (bkO (.slice sa x.aA.length sc) (.slice na x.names.length nc) (.slice la x.links.length lc)):=by rw [hW];exact heap_alloc_new w _
 have R1:Hid _:=ldB HG;have C0:=kY (h.below hhi HB) (Nat.le_trans hhi HB.size) s;have hlen:x.aA.length<=9223372036854775807:=by unfold maxLen at hs2;omega
 unfold fA at *;cases hO:eZ x.aA s with
 | none=>
  rw [hO] at C0;have C:Calls Tryz.prog 21 _ _ fun e w'=>e=.returned (.int .i64 (-1))/\Hid (Below w.heap.size w w'):=
   C0.mono (by
    rintro e w' ⟨rfl,hb⟩;exact⟨rfl,Sh.aF HB HB.size hb⟩)
  rw [hW] at C R1;clear h HB HG hW hs1 hs2 C0;dsimp only;go_enter Tryz.func35,Tryz.ntmps35;go_wp2_with (first|(refine aC rfl 26 _ rfl _ _ rfl R1.out ?_;clear R1)|(go_at_call 21;refine C.mono ?_;clear C;rintro e w1 ⟨rfl,HB⟩))
  go_ret;exact⟨_,rfl,dZ.nil _ _,HB.out⟩
 | some i=>
  rw [hO] at C0;have hil:=oF hO;have C:Calls Tryz.prog 21 _ _ fun e w'=>e=.returned (.int .i64 (i:Nat))/\∃a' q d,sa=some a'/\w'.cell? ⟨w.heap.size,0,none⟩=some (.slice sa x.aA.length sc)/\w'.cell? ⟨(a'.add (i * 2)).block,(a'.add (i * 2)).off+1,none⟩=some (.slice q x.aA[i].cells.length d)/\Hid (Cls lo hi w' (.slice q x.aA[i].cells.length d) x.aA[i].cells)/\Hid (Below w.heap.size w w'):=
   C0.mono (by
    rintro e w' ⟨rfl,hb⟩;have hb2:=Sh.aF HB HB.size hb;obtain⟨cv,hr,hc⟩:=h.sh.below hhi hb2;have hcs:=hc i _ (List.getElem?_eq_getElem hil);obtain⟨a',rfl,h1,h2⟩:=Rws.at hr hil;obtain⟨q,d,hcv,_,_⟩:=hcs.slice;exact⟨rfl,a',q,d,rfl,aH ((hb.block _ (aN HG)).trans HG) rfl,h2 1 _ (by omega) (by simp [iP,List.getElem?_eq_getElem hil,bN,hcv]),by rw [<-hcv];exact hcs,hb2⟩)
  rw [hW] at C R1;have hni:¬(i:Int) < 0:=by omega
  have hii:(i:Int) < x.aA.length:=by omega
  have HE:(x.aA[i]?.map (·.cells)).getD []=x.aA[i].cells:=by simp [List.getElem?_eq_getElem hil]
  rw [hO] at hn;dsimp only at *;rw [HE] at hn ⊢;clear h HB HG hW hs1 hs2 C0 HE;generalize x.aA[i].cells=T at *;generalize hG:inF T r1 c1 r2 c2=gt;have HO2:Hid (T.filter (mU r1 c1 r2 c2)=gt):=hG;clear hG;go_enter Tryz.func35,Tryz.ntmps35;go_wp2_with (first|(refine aC rfl 26 _ rfl _ _ rfl R1.out ?_;clear R1)|(go_at_call 21;refine C.mono ?_;clear C;rintro e w2 ⟨rfl,a2,q,d,rfl,d0,d1,HT,HBw⟩))
  have hhi2:hi<=w2.heap.size:=Nat.le_trans hhi HBw.out.size;go_loopw [14,29] (fun v i wr=>∃(k:Nat),k<=T.length/\i=.int .i64 (k:Nat)/\Hid (dZ w2.heap.size wr v ((T.take k).filter (mU r1 c1 r2 c2)))/\Hid (Below w2.heap.size w2 wr)) (fun _ i _=>T.length - (intOf i).toNat)
  case atStart=>exact⟨0,Nat.zero_le _,rfl,dZ.nil _ _,Below.refl _ _⟩
  case round=>
   obtain⟨k,hk,rfl,HW,HD⟩:=hrel;by_cases hkT:k < T.length
   ·have hki:(k:Int) < T.length:=by omega
    obtain⟨a',ov,W',rfl,rfl,hW',R2,R3,R4⟩:=(HT.out.below hhi2 HD.out).runs hkT;have hbx:W'.heap[wr.heap.size]? =some (.cells (cellC T[k]).toArray 57):=by rw [hW'];exact heap_alloc_new wr _
    obtain⟨y0,y1,y2⟩:=bZ hbx;have HD2:Hid (Below wr.heap.size wr W'):=by rw [hW'];exact Sh.aD (Below.refl _ _) (Nat.le_refl _) _
    have hlen:((T.take k).filter (mU r1 c1 r2 c2)).length<=1000:=by have:=List.length_filter_le (mU r1 c1 r2 c2) (T.take k);rw [List.length_take] at this;omega
    obtain⟨va,vc,rfl,_⟩:=HW.out.slice;have HTk:Hid _:=aDk (q:=mU r1 c1 r2 c2) hkT;clear hW' hbx;generalize hy:T[k]=y at *;clear hy;obtain⟨yr,yc,yt⟩:=y;dsimp only at *;by_cases e2:r1<=yr/\yr<=r2/\c1<=yc/\yc<=c2
    ·obtain ⟨hd1,hd2,hd3,hd4⟩:=e2;have HT2:Hid ((T.take (k+1)).filter (mU r1 c1 r2 c2)=(T.take k).filter (mU r1 c1 r2 c2)++ [⟨yr,yc,yt⟩]):=by show _=_;rw [HTk.out];simp [mU,hd1,hd2,hd3,hd4]
     obtain⟨v',w',RA,o1,_,b1,_⟩:=vJ (L:=(T.take k).filter (mU r1 c1 r2 c2)) (y:=⟨yr,yc,yt⟩) (b:=W'.heap.size) (w:=W'.alloc (nmO ⟨yr,yc,yt⟩)) (HW.out.below (Sh.aF HD2.out HD2.out.size (Sh.aD (Below.refl _ _) (Nat.le_refl _) _))) (heap_alloc_new W' _) (by omega) (by have:=HD.out.size;have:=HD2.out.size;simp;omega);have RB:Hid _:=rF W' ⟨yr,yc,yt⟩;have HB2:Hid (Below w2.heap.size w2 w'):=(Sh.aF (Sh.aF HD.out HD.out.size HD2.out) (Nat.le_trans HD.out.size HD2.out.size) (Sh.aD (Below.refl _ _) (Nat.le_refl _) _)).trans b1;have HW2:Hid (dZ w2.heap.size w' v' ((T.take (k+1)).filter (mU r1 c1 r2 c2))):=by show dZ _ _ _ _;rw [HT2.out];exact o1
     clear HW HTk HT2 o1 b1;generalize ((T.take k).filter (mU r1 c1 r2 c2)).length=fl at *;go_wp2_with (first|(refine aC rfl 57 _ rfl _ _ rfl R2.out ?_;clear R2)|(refine aB rfl 57 _ _ rfl _ _ _ rfl rfl R3.out ?_;clear R3)|(refine aC rfl 57 _ rfl _ _ rfl R4.out ?_;clear R4)|(refine dN rfl 27 1 _ rfl _ _ _ (by go_simp) RB.out ?_;clear RB)|(at_builtin;refine bV rfl _ _ 27 27 rfl _ _ _ _ rfl rfl RA.out ?_;clear RA))
     go_roundw
     case rel=>exact⟨k+1,by omega,by go_num,HW2,HB2⟩
     case measure=>simp [intOf];omega
    ·have HT2:Hid ((T.take (k+1)).filter (mU r1 c1 r2 c2)=(T.take k).filter (mU r1 c1 r2 c2)):=by show _=_;rw [HTk.out,if_neg (by simp only [mU,Bool.and_eq_true,decide_eq_true_eq];omega),List.append_nil]
     have HW2:Hid (dZ w2.heap.size W' (.slice va ((T.take k).filter (mU r1 c1 r2 c2)).length vc) ((T.take (k+1)).filter (mU r1 c1 r2 c2))):=by show dZ _ _ _ _;rw [HT2.out];exact HW.out.below HD2.out
     have HB2:Hid (Below w2.heap.size w2 W'):=Sh.aF HD.out HD.out.size HD2.out;have he:(¬r1<=yr)\/(r1<=yr/\¬yr<=r2)\/(r1<=yr/\yr<=r2/\¬c1<=yc)\/(r1<=yr/\yr<=r2/\c1<=yc/\¬yc<=c2):=by omega
     clear HW HTk HT2 R4 e2;rcases he with f1 | ⟨f1,f2⟩ | ⟨f1,f2,f3⟩ | ⟨f1,f2,f3,f4⟩;all_goals
      go_wp2_with (first|(refine aC rfl 57 _ rfl _ _ rfl R2.out ?_;clear R2)|(refine aB rfl 57 _ _ rfl _ _ _ rfl rfl R3.out ?_;clear R3))
      go_roundw
      case rel=>exact⟨k+1,by omega,by go_num,HW2,HB2⟩
      case measure=>simp [intOf];omega
   ·have hki:¬(k:Int) < T.length:=by omega
    have h1:=HW.out;rw [List.take_of_length_le (by omega),HO2.out] at h1;have aKa:Hid _:=h1.base HBw.out.size;clear h1;have HFB:Hid (Below w.heap.size w wr):=Sh.aF HBw.out HBw.out.size HD.out;clear HW;go_wp2;go_ret;exact⟨_,rfl,aKa.out,HFB.out⟩
def rpL (t:aK):Bool->List aK->List aK
 | b,[]=>if b=true then [] else [t]
 | b,e:: L=>(if b=false/\ltB t e=true then [t] else [])++((if e.row=t.row/\e.col=t.col then [] else [e])++rpL t (b || ltB t e) L)
theorem aBK {t:aK}:∀{L:List aK} (b:Bool),iB L->rpL t b L=L.filter (fun d=>ltB d t)++((if b=true then [] else [t])++L.filter (fun d=>ltB t d))
 | [],b,_=>by simp [rpL]
 | e:: L,b,hr=>by
  unfold iB at hr;rw [List.pairwise_cons] at hr;obtain⟨h1,h2⟩:=hr;unfold rpL;have tri:Lt e t\/(e.row=t.row/\e.col=t.col)\/Lt t e:=by unfold Lt;omega
  rcases tri with hl | hs | hg
  ·have n1:ltB t e=false:=iT hl.ne;have n2:¬(e.row=t.row/\e.col=t.col):=by unfold Lt at hl;omega
   rw [if_neg (by simp [n1]),if_neg n2,n1,Bool.or_false,aBK b h2,List.filter_cons_of_pos (by exact gK.2 hl),List.filter_cons_of_neg (by simp [n1])];rfl
  ·have n1:ltB t e=false:=iT (by unfold Lt;omega);have n2:ltB e t=false:=iT (by unfold Lt;omega);rw [if_neg (by simp [n1]),if_pos hs,n1,Bool.or_false,aBK b h2,List.filter_cons_of_neg (by simp [n2]),List.filter_cons_of_neg (by simp [n1])];rfl
  ·have n1:ltB t e=true:=gK.2 hg;have n2:ltB e t=false:=iT hg.ne;have n3:¬(e.row=t.row/\e.col=t.col):=by unfold Lt at hg;omega
   have n4:L.filter (fun d=>ltB d t)=[]:=jG fun d hd=>iT (by have:=h1 d hd;unfold Lt at *;omega);rw [if_neg n3,n1,Bool.or_true,aBK true h2,List.filter_cons_of_neg (by simp [n2]),List.filter_cons_of_pos (by exact n1),n4];cases b <;> simp
theorem aMc {t:aK} {L:List aK} (h:iB L):rpL t (t.text.toList==[]) L=dU L t:=aBK _ h
theorem aKb {base:Nat} {U:World} {v:Value} {o:List aK} (h:dZ base U v o) (y:aK) (hn:o.length+1<=4398046511104) (hb:base<=U.heap.size):
  ∃v' w',Hid ((Instr.buildSlice 27 1 #[(0,nmV y)]).run Tryz.prog U=.ok (.slice (some ⟨U.heap.size,0,none⟩) 1 1) (U.alloc (nmO y)))/\Hid ((Builtin.append_ #[27,27] 27 #[v,.slice (some ⟨U.heap.size,0,none⟩) 1 1]).run Tryz.prog (U.alloc (nmO y))=.ok v' w')/\dZ base w' v' (o++ [y])/\Below base U w'/\∀g,g < U.heap.size->some g ≠ v.ownBlock->w'.heap[g]? =U.heap[g]? :=by
 have hB:Below U.heap.size U (U.alloc (nmO y)):=Sh.aD (Below.refl _ _) (Nat.le_refl _) _;obtain⟨v',w',RA,o1,g1,b1,_⟩:=vJ (h.below hB) (heap_alloc_new U _) hn (Nat.le_trans hb hB.size);exact⟨v',w',rF U y,RA,o1,(hB.mono hb).trans b1,fun g hg hne=>(g1.block g (Nat.lt_of_lt_of_le hg hB.size) hne).trans (hB.block g hg)⟩
def RpU (base:Nat) (W0 U:World) (v:Value) (o:List aK) (b3 b8:Nat) (t e:aK):Prop:=
 (U.cell? ⟨b3,0,none⟩=some (.int .i64 t.row)/\U.cell? ⟨b3,1,none⟩=some (.int .i64 t.col)/\U.cell? ⟨b3,2,none⟩=some (.string t.text))/\
 (U.cell? ⟨b8,0,none⟩=some (.int .i64 e.row)/\U.cell? ⟨b8,1,none⟩=some (.int .i64 e.col)/\U.cell? ⟨b8,2,none⟩=some (.string e.text))/\
 Hid (dZ base U v o)/\Hid (Below base W0 U)/\∃v3 w3,Hid ((Instr.buildSlice 27 1 #[(0,nmV e)]).run Tryz.prog U=.ok (.slice (some ⟨U.heap.size,0,none⟩) 1 1) (U.alloc (nmO e)))/\Hid ((Builtin.append_ #[27,27] 27 #[v,.slice (some ⟨U.heap.size,0,none⟩) 1 1]).run Tryz.prog (U.alloc (nmO e))=.ok v3 w3)/\Hid (dZ base w3 v3 (o++ [e]))/\Hid (Below base W0 w3)
theorem RpU.of {base:Nat} {W0 U:World} {v:Value} {o:List aK} {b3 b8:Nat} {t e:aK} (h:dZ base U v o) (hB:Below base W0 U) (hb:base<=W0.heap.size) (h3:U.heap[b3]? =some (ceO t)) (h8:U.heap[b8]? =some (ceO e)) (hn:o.length+1<=4398046511104):RpU base W0 U v o b3 b8 t e:=by obtain⟨v',w',RB,RA,o1,b1,_⟩:=aKb h e hn (Nat.le_trans hb hB.size);exact⟨bZ h3,bZ h8,h,hB,v',w',RB,RA,o1,hB.trans b1⟩
theorem lM (t e:aK) (b:Bool) (o L:List aK):o++rpL t b (e:: L)=(o++(if b=false/\ltB t e=true then [t] else [])++(if e.row=t.row/\e.col=t.col then [] else [e]))++rpL t (b || ltB t e) L:=by simp [rpL]
theorem aKc {lo hi:Nat} {w:World} {a:Option Addr} {c:Nat} {L:List aK} (h:Cls lo hi w (.slice a L.length c) L) (hhi:hi<=w.heap.size) (t:aK) (hn:L.length<=1000):
  Calls Tryz.prog 60 #[.slice a L.length c,cellV t] w fun e w'=>∃v,e=.returned v/\dZ w.heap.size w' v (rpL t (t.text.toList==[]) L)/\Below w.heap.size w w':=by
 obtain⟨tr,tc,tt⟩:=t;obtain⟨W0,hW0⟩:∃W0,W0=w.alloc (ceO ⟨tr,tc,tt⟩):=⟨_,rfl⟩
 have hs0:W0.heap.size=w.heap.size+1:=by rw [hW0];simp
 have HB:Hid (Below w.heap.size w W0):=by rw [hW0];exact Sh.aD (Below.refl _ _) (Nat.le_refl _) _
 have HG:Hid (W0.heap[w.heap.size]? =some (ceO ⟨tr,tc,tt⟩)):=by rw [hW0];exact heap_alloc_new w _
 have HS0:Hid (Cls lo hi W0 (.slice a L.length c) L):=h.below hhi HB.out;obtain⟨g0,g1,g2⟩:=bZ HG.out;generalize hT:rpL ⟨tr,tc,tt⟩ (tt.toList==[]) L=tot;have HT:Hid (rpL ⟨tr,tc,tt⟩ (tt.toList==[]) L=tot):=hT;obtain⟨bb,hbb⟩:∃bb,bb=(tt.toList==[]):=⟨_,rfl⟩
 have hbe:(tt.toList==([]:List UInt8))=bb:=hbb.symm;rw [<-hbb] at HT;rw [hW0] at g0 g1 g2;clear h hT hbb;go_enter Tryz.func60,Tryz.ntmps60;go_wp2;try rw [hbe]
 go_loopw [5,6,14] (fun v d i wr=>∃(k:Nat) (b:Bool) (o:List aK),k<=L.length/\i=.int .i64 (k:Nat)/\d=.bool b/\Hid (dZ (w.heap.size+1) wr v o)/\Hid (Below (w.heap.size+1) W0 wr)/\Hid (o++rpL ⟨tr,tc,tt⟩ b (L.drop k)=tot)/\o.length<=2 * k) (fun _ _ i _=>L.length - (intOf i).toNat)
 case atStart=>exact⟨0,bb,[],Nat.zero_le _,rfl,rfl,dZ.nil _ _,by rw [hW0];exact Below.refl _ _,HT,by simp⟩
 case round=>
  clear g0 g1 g2;obtain⟨k,b,o,hk,rfl,rfl,HW,HD,HP,hol⟩:=hrel;obtain⟨va,vc,rfl,_⟩:=HW.out.slice;generalize hv:Value.slice va o.length vc=v at *;clear hv;have hB1:w.heap.size+1<=W0.heap.size:=by omega
  have G3:wr.heap[w.heap.size]? =some (ceO ⟨tr,tc,tt⟩):=(HD.out.block _ (by omega)).trans HG.out;by_cases hkL:k < L.length
  ·have hki:(k:Int) < L.length:=by omega
   have hSr:Hid (hi<=W0.heap.size):=by show _<=_;omega
   obtain⟨a',ov,W',rfl,rfl,hW',R2,R3,R4⟩:=(HS0.out.below hSr.out (hs0 ▸ HD.out)).runs hkL;have G8:W'.heap[wr.heap.size]? =some (ceO L[k]):=by rw [hW'];exact heap_alloc_new wr _
   have HD2:Below wr.heap.size wr W':=by rw [hW'];exact Sh.aD (Below.refl _ _) (Nat.le_refl _) _
   have hlt:w.heap.size < wr.heap.size:=by have:=HD.out.size;omega
   have G3':W'.heap[w.heap.size]? =some (ceO ⟨tr,tc,tt⟩):=(HD2.block _ hlt).trans G3;have HD3:Below (w.heap.size+1) W0 W':=HD.out.trans (HD2.mono (by omega));have U1:RpU (w.heap.size+1) W0 W' v o w.heap.size wr.heap.size ⟨tr,tc,tt⟩ L[k]:=.of (HW.out.below HD2) HD3 hB1 G3' G8 (by omega);have hdrop:L.drop k=L[k]:: L.drop (k+1):=List.drop_eq_getElem_cons hkL;rw [hdrop] at HP;clear hdrop;have CB:ltB ⟨tr,tc,tt⟩ L[k]=false->Calls Tryz.prog 94 #[cellV L[k],cellV ⟨tr,tc,tt⟩] W' fun e w1=>e=.returned (.bool false)/\RpU (w.heap.size+1) W0 w1 v o w.heap.size wr.heap.size ⟨tr,tc,tt⟩ L[k]:=fun hl=>(rH L[k] ⟨tr,tc,tt⟩ W').mono (by
    rintro e w1 ⟨rfl,hb⟩;have hsz:=HD2.size;have aNF:wr.heap.size < W'.heap.size:=aN G8;exact⟨by rw [hl],.of ((HW.out.below HD2).below hb) (HD3.trans (hb.mono (by omega))) hB1 ((hb.block _ (by omega)).trans G3') ((hb.block _ aNF).trans G8) (by omega)⟩)
   have CC:ltB ⟨tr,tc,tt⟩ L[k]=true->Calls Tryz.prog 94 #[cellV L[k],cellV ⟨tr,tc,tt⟩] W' fun e w1=>e=.returned (.bool true)/\(w1.cell? ⟨w.heap.size,0,none⟩=some (.int .i64 tr)/\w1.cell? ⟨w.heap.size,1,none⟩=some (.int .i64 tc)/\w1.cell? ⟨w.heap.size,2,none⟩=some (.string tt))/\∃v2 w2,Hid ((Instr.buildSlice 27 1 #[(0,nmV ⟨tr,tc,tt⟩)]).run Tryz.prog w1=.ok (.slice (some ⟨w1.heap.size,0,none⟩) 1 1) (w1.alloc (nmO ⟨tr,tc,tt⟩)))/\Hid ((Builtin.append_ #[27,27] 27 #[v,.slice (some ⟨w1.heap.size,0,none⟩) 1 1]).run Tryz.prog (w1.alloc (nmO ⟨tr,tc,tt⟩))=.ok v2 w2)/\RpU (w.heap.size+1) W0 w2 v2 (o++ [⟨tr,tc,tt⟩]) w.heap.size wr.heap.size ⟨tr,tc,tt⟩ L[k]:=fun hl=>(rH L[k] ⟨tr,tc,tt⟩ W').mono (by
    rintro e w1 ⟨rfl,hb⟩;have hsz:=HD2.size;have aNF:wr.heap.size < W'.heap.size:=aN G8;have hsz1:=hb.size;have G3w:=(hb.block _ (by omega)).trans G3';have G8w:=(hb.block _ aNF).trans G8;obtain⟨v2,w2,RB,RA,o2,b2,k2⟩:=aKb ((HW.out.below HD2).below hb) ⟨tr,tc,tt⟩ (by omega) (by omega);have aPC:some wr.heap.size ≠ v.ownBlock:=fun e=>by have:=(World.ownsRow.lt HW.out _ e.symm).2;omega
    have aPD:some w.heap.size ≠ v.ownBlock:=fun e=>by have:=(World.ownsRow.lt HW.out _ e.symm).1;omega
    exact⟨by rw [hl],bZ G3w,v2,w2,RB,RA,.of o2 (HD3.trans ((hb.mono (by omega)).trans b2)) hB1 ((k2 _ (by omega) aPD).trans G3w) ((k2 _ (by omega) aPC).trans G8w) (by simp;omega)⟩)
   obtain⟨z0,z1,z2⟩:=bZ G3';obtain⟨x0,x1,x2⟩:=bZ G8;clear G3 G3' G8 hW' HD2 HD3 R4 HW HD;generalize L[k]=y at *;obtain⟨yr,yc,yt⟩:=y;dsimp only at *;have iJ:k < 9223372036854775807:=by omega
   cases b with
   | true=>
    clear CB CC;obtain⟨⟨t0,t1,t2⟩,⟨y0,y1,y2⟩,HO,HBB,v3,w3,RB,RA,HO3,HB3⟩:=U1;dsimp only at *;by_cases er:yr=tr
    ·subst er;by_cases ec:yc=tc
     ·subst ec;have HQ:Hid (o++rpL ⟨yr,yc,tt⟩ true (L.drop (k+1))=tot):=by show _=_;rw [<-HP.out,lM];simp
      clear HP;go_wp2_with (first|(refine aC rfl 57 _ rfl _ _ rfl R2.out ?_;clear R2)|(refine aB rfl 57 _ _ rfl _ _ _ rfl rfl R3.out ?_;clear R3))
      go_roundw
      case rel=>exact⟨k+1,true,_,by omega,by go_num,rfl,HO,HBB,HQ,by (try simp);omega⟩
      case measure=>simp [intOf];omega
     ·have HQ:Hid ((o++ [⟨yr,yc,yt⟩])++rpL ⟨yr,tc,tt⟩ true (L.drop (k+1))=tot):=by show _=_;rw [<-HP.out,lM];simp [ec]
      clear HP;go_wp2_with (first|(refine aC rfl 57 _ rfl _ _ rfl R2.out ?_;clear R2)|(refine aB rfl 57 _ _ rfl _ _ _ rfl rfl R3.out ?_;clear R3)|(refine dN rfl 27 1 _ rfl _ _ _ (by go_simp) RB.out ?_;clear RB)|(at_builtin;refine bV rfl _ _ 27 27 rfl _ _ _ _ rfl rfl RA.out ?_;clear RA))
      go_roundw
      case rel=>exact⟨k+1,true,_,by omega,by go_num,rfl,HO3,HB3,HQ,by (try simp);omega⟩
      case measure=>simp [intOf];omega
    ·have HQ:Hid ((o++ [⟨yr,yc,yt⟩])++rpL ⟨tr,tc,tt⟩ true (L.drop (k+1))=tot):=by show _=_;rw [<-HP.out,lM];simp [er]
     clear HP;go_wp2_with (first|(refine aC rfl 57 _ rfl _ _ rfl R2.out ?_;clear R2)|(refine aB rfl 57 _ _ rfl _ _ _ rfl rfl R3.out ?_;clear R3)|(refine dN rfl 27 1 _ rfl _ _ _ (by go_simp) RB.out ?_;clear RB)|(at_builtin;refine bV rfl _ _ 27 27 rfl _ _ _ _ rfl rfl RA.out ?_;clear RA))
     go_roundw
     case rel=>exact⟨k+1,true,_,by omega,by go_num,rfl,HO3,HB3,HQ,by (try simp);omega⟩
     case measure=>simp [intOf];omega
   | false=>
    clear U1;cases hl:ltB ⟨tr,tc,tt⟩ ⟨yr,yc,yt⟩ with
    | false=>
     have C:=CB hl;clear CB CC;by_cases er:yr=tr
     ·subst er;by_cases ec:yc=tc
      ·subst ec;have HQ:Hid (o++rpL ⟨yr,yc,tt⟩ false (L.drop (k+1))=tot):=by show _=_;rw [<-HP.out,lM];simp [hl]
       clear HP;go_wp2_with (first|(refine aC rfl 57 _ rfl _ _ rfl R2.out ?_;clear R2)|(refine aB rfl 57 _ _ rfl _ _ _ rfl rfl R3.out ?_;clear R3)|(go_at_call 94;refine C.mono ?_;clear C;rintro e w1 ⟨rfl,⟨t0,t1,t2⟩,⟨y0,y1,y2⟩,HO,HBB,v3,w3,RB,RA,HO3,HB3⟩;dsimp only at *))
       go_roundw
       case rel=>exact⟨k+1,false,_,by omega,by go_num,rfl,HO,HBB,HQ,by (try simp);omega⟩
       case measure=>simp [intOf];omega
      ·have HQ:Hid ((o++ [⟨yr,yc,yt⟩])++rpL ⟨yr,tc,tt⟩ false (L.drop (k+1))=tot):=by show _=_;rw [<-HP.out,lM];simp [hl,ec]
       clear HP;go_wp2_with (first|(refine aC rfl 57 _ rfl _ _ rfl R2.out ?_;clear R2)|(refine aB rfl 57 _ _ rfl _ _ _ rfl rfl R3.out ?_;clear R3)|(go_at_call 94;refine C.mono ?_;clear C;rintro e w1 ⟨rfl,⟨t0,t1,t2⟩,⟨y0,y1,y2⟩,HO,HBB,v3,w3,RB,RA,HO3,HB3⟩;dsimp only at *)|(refine dN rfl 27 1 _ rfl _ _ _ (by go_simp) RB.out ?_;clear RB)|(at_builtin;refine bV rfl _ _ 27 27 rfl _ _ _ _ rfl rfl RA.out ?_;clear RA))
       go_roundw
       case rel=>exact⟨k+1,false,_,by omega,by go_num,rfl,HO3,HB3,HQ,by (try simp);omega⟩
       case measure=>simp [intOf];omega
     ·have HQ:Hid ((o++ [⟨yr,yc,yt⟩])++rpL ⟨tr,tc,tt⟩ false (L.drop (k+1))=tot):=by show _=_;rw [<-HP.out,lM];simp [hl,er]
      clear HP;go_wp2_with (first|(refine aC rfl 57 _ rfl _ _ rfl R2.out ?_;clear R2)|(refine aB rfl 57 _ _ rfl _ _ _ rfl rfl R3.out ?_;clear R3)|(go_at_call 94;refine C.mono ?_;clear C;rintro e w1 ⟨rfl,⟨t0,t1,t2⟩,⟨y0,y1,y2⟩,HO,HBB,v3,w3,RB,RA,HO3,HB3⟩;dsimp only at *)|(refine dN rfl 27 1 _ rfl _ _ _ (by go_simp) RB.out ?_;clear RB)|(at_builtin;refine bV rfl _ _ 27 27 rfl _ _ _ _ rfl rfl RA.out ?_;clear RA))
      go_roundw
      case rel=>exact⟨k+1,false,_,by omega,by go_num,rfl,HO3,HB3,HQ,by (try simp);omega⟩
      case measure=>simp [intOf];omega
    | true=>
     have C:=CC hl;clear CB CC;by_cases er:yr=tr
     ·subst er;by_cases ec:yc=tc
      ·subst ec;exact absurd hl (by simp [ltB])
      ·have HQ:Hid (((o++ [⟨yr,tc,tt⟩])++ [⟨yr,yc,yt⟩])++rpL ⟨yr,tc,tt⟩ true (L.drop (k+1))=tot):=by show _=_;rw [<-HP.out,lM];simp [hl,ec]
       clear HP;go_wp2_with (first|(refine aC rfl 57 _ rfl _ _ rfl R2.out ?_;clear R2)|(refine aB rfl 57 _ _ rfl _ _ _ rfl rfl R3.out ?_;clear R3)|(go_at_call 94;refine C.mono ?_;clear C;rintro e w1 ⟨rfl,⟨q0,q1,q2⟩,v2,w2,RB2,RA2,⟨t0,t1,t2⟩,⟨y0,y1,y2⟩,HO,HBB,v3,w3,RB,RA,HO3,HB3⟩;dsimp only at *)|(refine dN rfl 27 1 _ rfl _ _ _ (by go_simp) RB2.out ?_;clear RB2)|(at_builtin;refine bV rfl _ _ 27 27 rfl _ _ _ _ rfl rfl RA2.out ?_;clear RA2)|(refine dN rfl 27 1 _ rfl _ _ _ (by go_simp) RB.out ?_;clear RB)|(at_builtin;refine bV rfl _ _ 27 27 rfl _ _ _ _ rfl rfl RA.out ?_;clear RA))
       go_roundw
       case rel=>exact⟨k+1,true,_,by omega,by go_num,rfl,HO3,HB3,HQ,by (try simp);omega⟩
       case measure=>simp [intOf];omega
     ·have HQ:Hid (((o++ [⟨tr,tc,tt⟩])++ [⟨yr,yc,yt⟩])++rpL ⟨tr,tc,tt⟩ true (L.drop (k+1))=tot):=by show _=_;rw [<-HP.out,lM];simp [hl,er]
      clear HP;go_wp2_with (first|(refine aC rfl 57 _ rfl _ _ rfl R2.out ?_;clear R2)|(refine aB rfl 57 _ _ rfl _ _ _ rfl rfl R3.out ?_;clear R3)|(go_at_call 94;refine C.mono ?_;clear C;rintro e w1 ⟨rfl,⟨q0,q1,q2⟩,v2,w2,RB2,RA2,⟨t0,t1,t2⟩,⟨y0,y1,y2⟩,HO,HBB,v3,w3,RB,RA,HO3,HB3⟩;dsimp only at *)|(refine dN rfl 27 1 _ rfl _ _ _ (by go_simp) RB2.out ?_;clear RB2)|(at_builtin;refine bV rfl _ _ 27 27 rfl _ _ _ _ rfl rfl RA2.out ?_;clear RA2)|(refine dN rfl 27 1 _ rfl _ _ _ (by go_simp) RB.out ?_;clear RB)|(at_builtin;refine bV rfl _ _ 27 27 rfl _ _ _ _ rfl rfl RA.out ?_;clear RA))
      go_roundw
      case rel=>exact⟨k+1,true,_,by omega,by go_num,rfl,HO3,HB3,HQ,by (try simp);omega⟩
      case measure=>simp [intOf];omega
  ·have hki:¬(k:Int) < L.length:=by omega
   rw [List.drop_eq_nil_of_le (by omega)] at HP;cases b with
   | true=>
    have HF:Hid (dZ w.heap.size wr v tot):=by show dZ _ _ _ _;rw [<-HP.out];simp only [rpL,if_true,List.append_nil];exact HW.out.base (by omega)
    have HFB:Hid (Below w.heap.size w wr):=HB.out.trans (HD.out.mono (by omega));clear HW HD HP;go_wp2;go_ret;exact⟨_,rfl,HF.out,HFB.out⟩
   | false=>
    obtain⟨v3,w3,RB,RA,o3,b3,_⟩:=aKb HW.out ⟨tr,tc,tt⟩ (by omega) (Nat.le_trans hB1 HD.out.size);obtain⟨g0,g1,g2⟩:=bZ G3;have HF:Hid (dZ w.heap.size w3 v3 tot):=by show dZ _ _ _ _;rw [<-HP.out];exact o3.base (by omega)
    have HFB:Hid (Below w.heap.size w w3):=HB.out.trans ((HD.out.trans b3).mono (by omega));clear HW HD HP o3 b3;go_wp2_with (first|(refine dN rfl 27 1 _ rfl _ _ _ (by go_simp) RB.out ?_;clear RB)|(at_builtin;refine bV rfl _ _ 27 27 rfl _ _ _ _ rfl rfl RA.out ?_;clear RA))
    go_ret;exact⟨_,rfl,HF.out,HFB.out⟩
end Go.Proofs.YtlhoklhjbpkgpaaGreatDoor.Sh
namespace Go.Proofs.YtlhoklhjbpkgpaaGreatDoor.Sh
open Go.RowKit
theorem aDl {lo hi:Nat} {w:World} {sv nv lv:Value} {x:aU} (h:BkM lo hi w sv nv lv x) (hhi:hi<=w.heap.size) (s:ByteArray) (r c:Int):
  CR 23 #[.agg #[sv,nv,lv],.string s,.int .i64 r,.int .i64 c] w (.string (mG (fA x.aA s) r c)):=by
 have h0:=h;obtain⟨sa,sc,rfl,hs1,hs2⟩:=h.sh.slice;obtain⟨na,nc,rfl,_,_⟩:=h.nm.slice;obtain⟨la,lc,rfl,_,_⟩:=h.lk.slice;obtain⟨W,hW⟩:∃W,W=w.alloc (bkO (.slice sa x.aA.length sc) (.slice na x.names.length nc) (.slice la x.links.length lc)):=⟨_,rfl⟩
 have HB:Below w.heap.size w W:=by rw [hW];exact aD (Below.refl _ _) (Nat.le_refl _) _
 have HG:W.heap[w.heap.size]? =some (bkO (.slice sa x.aA.length sc) (.slice na x.names.length nc) (.slice la x.links.length lc)):=by rw [hW];exact heap_alloc_new w _
 have R1:Hid _:=ldB HG;have C0:=kY (h.below hhi HB) (Nat.le_trans hhi HB.size) s;have hlen:x.aA.length<=9223372036854775807:=by unfold maxLen at hs2;omega
 unfold fA;cases hO:eZ x.aA s with
 | none=>
  rw [hO] at C0;have C:Calls Tryz.prog 21 _ _ fun e w'=>e=.returned (.int .i64 (-1))/\Hid (Below w.heap.size w w'):=
   C0.mono (by
    rintro e w' ⟨rfl,hb⟩;exact⟨rfl,aF HB HB.size hb⟩)
  rw [hW] at C R1;clear h h0 HB HG hW hs1 hs2 C0;have hg:mG [] r c=⟨#[]⟩:=rfl;dsimp only;rw [hg];go_enter Tryz.func23,Tryz.ntmps23;go_wp2_with (first|(refine aC rfl 26 _ rfl _ _ rfl R1.out ?_;clear R1)|(go_at_call 21;refine C.mono ?_;clear C;rintro e w1 ⟨rfl,HB⟩))
  go_ret;exact⟨rfl,HB.out⟩
 | some i=>
  rw [hO] at C0;have hil:=oF hO;have C:Calls Tryz.prog 21 _ _ fun e w'=>e=.returned (.int .i64 (i:Nat))/\∃a' q d,sa=some a'/\w'.cell? ⟨w.heap.size,0,none⟩=some (.slice sa x.aA.length sc)/\w'.cell? ⟨(a'.add (i * 2)).block,(a'.add (i * 2)).off+1,none⟩=some (.slice q x.aA[i].cells.length d)/\Hid (Cls lo hi w' (.slice q x.aA[i].cells.length d) x.aA[i].cells)/\Hid (Below w.heap.size w w')/\x.aA[i].cells.length<=9223372036854775807:=
   C0.mono (by
    rintro e w' ⟨rfl,hb⟩;have hb2:=aF HB HB.size hb;obtain⟨cv,hr,hc⟩:=h.sh.below hhi hb2;have hcs:=hc i _ (List.getElem?_eq_getElem hil);obtain⟨a',rfl,h1,h2⟩:=Rws.at hr hil;obtain⟨q,d,hcv,_,hm⟩:=hcs.slice;exact⟨rfl,a',q,d,rfl,aH ((hb.block _ (aN HG)).trans HG) rfl,h2 1 _ (by omega) (by simp [iP,List.getElem?_eq_getElem hil,bN,hcv]),by rw [<-hcv];exact hcs,hb2,by unfold maxLen at hm;omega⟩)
  rw [hW] at C R1;have hni:¬(i:Int) < 0:=by omega
  have hii:(i:Int) < x.aA.length:=by omega
  have HE:(x.aA[i]?.map (·.cells)).getD []=x.aA[i].cells:=by simp [List.getElem?_eq_getElem hil]
  dsimp only;rw [HE];clear HE;generalize x.aA[i].cells=L at *;generalize hG:mG L r c=gt;have HO:Hid (mG L r c=gt):=hG;clear h h0 HB HG hW hs1 hs2 C0 hO hG;go_enter Tryz.func23,Tryz.ntmps23;go_wp2_with (first|(refine aC rfl 26 _ rfl _ _ rfl R1.out ?_;clear R1)|(go_at_call 21;refine C.mono ?_;clear C;rintro e w1 ⟨rfl,a',q,d,rfl,k1,k2,HC,HB,hlL⟩))
  go_loopw [24] (fun i wr=>∃(k:Nat),k<=L.length/\i=.int .i64 (k:Nat)/\Hid (∀j (hj:j < L.length),j < k->atB r c L[j]=false)/\Hid (Below w1.heap.size w1 wr)) (fun i _=>L.length - (intOf i).toNat)
  case atStart=>exact⟨0,Nat.zero_le _,rfl,fun j _ hj=>by omega,Below.refl _ _⟩
  case round=>
   obtain⟨k,hk,rfl,HA,HD⟩:=hrel;have hhi1:hi<=w1.heap.size:=Nat.le_trans hhi HB.out.size;by_cases hkL:k < L.length
   ·have hki:(k:Int) < L.length:=by omega
    obtain⟨a',ov,W',rfl,rfl,hW',R2,R3, -⟩:=(HC.out.below hhi1 HD.out).runs hkL;obtain⟨c0,c1,c2⟩:=bZ (show W'.heap[wr.heap.size]? =some (.cells (cellC L[k]).toArray 57) by rw [hW'];exact heap_alloc_new wr _);have HD2:Hid (Below w1.heap.size w1 W'):=by rw [hW'];exact aD HD.out (Nat.le_refl _) _
    have iJ:k < 9223372036854775807:=by omega
    have HX:Hid (atB r c L[k]=true->gt=L[k].text):=fun e=>by rw [<-HO.out];unfold mG;rw [aAw hkL (fun j hj=>HA.out j (by omega) hj) e]
    have HY:Hid (atB r c L[k]=false->∀j (hj:j < L.length),j < k+1->atB r c L[j]=false):=fun e j hj hlt=>by
     by_cases hjk:j=k
     ·subst hjk;exact e
     ·exact HA.out j hj (by omega)
    clear hW';have hat:atB r c L[k]=(L[k].row==r && L[k].col==c):=rfl;generalize L[k]=y at *;obtain⟨yr,yc,yt⟩:=y;dsimp only at *;by_cases e1:yr=r
    ·by_cases e2:yc=c
     ·obtain rfl:=HX.out (by rw [hat];simp [e1,e2]);subst e1 e2;clear HX HY hat HO;go_wp2_with (first|(refine aC rfl 57 _ rfl _ _ rfl R2.out ?_;clear R2)|(refine aB rfl 57 _ _ rfl _ _ _ rfl rfl R3.out ?_;clear R3))
      go_ret;exact⟨rfl,HB.out.trans (HD2.out.mono HB.out.size)⟩
     ·have HY2:Hid _:=HY.out (by rw [hat];simp [e2]);subst e1;clear HX HY hat HO;go_wp2_with (first|(refine aC rfl 57 _ rfl _ _ rfl R2.out ?_;clear R2)|(refine aB rfl 57 _ _ rfl _ _ _ rfl rfl R3.out ?_;clear R3))
      go_roundw
      case rel=>exact⟨k+1,by omega,by go_num,HY2,HD2⟩
      case measure=>simp [intOf];omega
    ·have HY2:Hid _:=HY.out (by rw [hat];simp [e1]);clear HX HY hat HO;go_wp2_with (first|(refine aC rfl 57 _ rfl _ _ rfl R2.out ?_;clear R2)|(refine aB rfl 57 _ _ rfl _ _ _ rfl rfl R3.out ?_;clear R3))
     go_roundw
     case rel=>exact⟨k+1,by omega,by go_num,HY2,HD2⟩
     case measure=>simp [intOf];omega
   ·have hki:¬(k:Int) < L.length:=by omega
    obtain rfl:gt=⟨#[]⟩:=by rw [<-HO.out];unfold mG;rw [aAv fun j hj=>HA.out j hj (by omega)]
    go_wp2;go_ret;exact⟨rfl,HB.out.trans (HD.out.mono HB.out.size)⟩
end Go.Proofs.YtlhoklhjbpkgpaaGreatDoor.Sh
namespace Go.Proofs.YtlhoklhjbpkgpaaGreatDoor.Sh
open Go.RowKit Go.Fm
theorem aPE {u:World} {g o:Nat} {a:Option Addr} {n c:Nat} {old:Value} (hc:u.cell? ⟨g,o,none⟩=some old) (hf:u.frozen? ⟨g,o,none⟩=false):(Instr.storeAt 27 (.pointer (some ⟨g,o,none⟩)) (.slice a n c)).run Tryz.prog u=.ok () (u.setCell ⟨g,o,none⟩ (.slice a n c)):=by have h1:=Tryz.underlying27;have h2:=Tryz.isAgg27;have h3:=Tryz.sizeOf27;go_simp
theorem gQ.aPF {base:Nat} {w:World} {sv nv lv:Value} {x:aU} {i:Nat} {t:aK} (h:gQ base w sv nv lv x) (hi:i < x.aA.length) (hz:Small x):
  ∃(g cap:Nat) (old:Value),sv=.slice (some ⟨g,0,none⟩) x.aA.length cap/\base<=g/\g < w.heap.size/\(∀u,Below w.heap.size w u->u.cell? ⟨g,i * 2+1,none⟩=some old/\u.frozen? ⟨g,i * 2+1,none⟩=false)/\(∃lo hi,hi<=w.heap.size/\∀u,Below w.heap.size w u->Cls lo hi u old x.aA[i].cells)/\
   ∀(w':World) (v:Value),Below w.heap.size w w'->w'.ownsRow base 57 3 v (dU x.aA[i].cells t).length ((dU x.aA[i].cells t).flatMap cellC)->gQ base (w'.setCell ⟨g,i * 2+1,none⟩ v) sv nv lv (putAt x i t)/\∀j,j ≠ g->(w'.setCell ⟨g,i * 2+1,none⟩ v).heap[j]? =w'.heap[j]? :=by
 obtain⟨cv,h1,h2⟩:=h.sh;rcases h1.2 with ⟨_,e0⟩ | ⟨g,cap,cur,e,hbg,hg,hn,hm,hs,hx⟩
 ·omega
 have hlt:=aN hg;have hl:(pairs x.aA cv).length=x.aA.length:=by simp
 have hat:∀j (hj:j < x.aA.length),cur[j * 2]? =some (.string x.aA[j].name)/\cur[j * 2+1]? =some (cv j):=fun j hj=>by have f0:=sU (enc:=iV) bY (pairs x.aA cv) j 0 (by omega) (by decide);have f1:=sU (enc:=iV) bY (pairs x.aA cv) j 1 (by omega) (by decide);rw [<-hx,List.getElem?_take_of_lt (by omega),Array.getElem?_toList] at f0 f1;rw [Nat.add_zero] at f0;rw [f0,f1];simp [bN]
 have hci:∀u,Below w.heap.size w u->u.heap[g]? =some (.cells cur 78 (0,0)):=fun u hu=>(hu.block g hlt).trans hg;refine ⟨g,cap,cv i,e,hbg,hlt,fun u hu=>⟨aH (hci u hu) (hat i hi).2,by simp [World.frozen?,hci u hu]⟩,⟨base,w.heap.size,Nat.le_refl _,fun u hu=> ?_⟩,fun w' v hb hv=> ?_⟩
 ·have:=oJ (enc:=cellC) bP (h2 i _ (List.getElem?_eq_getElem hi));exact(show Cls base w.heap.size w (cv i) x.aA[i].cells from this).kept fun k _ hk=>hu.block k hk
 have hg':w'.heap[g]? =some (.cells cur 78 (0,0)):=(hb.block g hlt).trans hg;have hset:=yN (i:=i * 2+1) (v:=v) hg';refine ⟨?_,fun j hj=>by rw [hset];exact setRow_other _ _ _ _ hj⟩;have hxs:(putAt x i t).aA.length=x.aA.length:=vD x i t;have hgx:∀j (hj:j < x.aA.length),(putAt x i t).aA[j]'(by omega)=if i=j then ⟨x.aA[j].name,dU x.aA[j].cells t⟩ else x.aA[j]:=fun j hj=>by simp only [putAt,List.getElem_modify]
 rw [hset];have hnew:=setRow_heap w' g cur (cur.setIfInBounds (i * 2+1) v) 78 (0,0) hg';have keep:∀{t':TypeId} {sz n:Nat} {val:Value} {xs:List Value},t' ≠ 78->w.ownsRow base t' sz val n xs->(w'.setRow g (cur.setIfInBounds (i * 2+1) v)).ownsRow base t' sz val n xs:=fun ht ho=>by
  refine pR ho fun k c hk _=> ?_;have hne:k ≠ g:=fun eq=>by rw [eq,hg] at hk;cases hk;exact ht rfl
  rw [setRow_other _ _ _ _ hne];exact hb.block k (aN hk)
 have keep':∀{t':TypeId} {sz n:Nat} {val:Value} {xs:List Value},t' ≠ 78->w'.ownsRow base t' sz val n xs->(w'.setRow g (cur.setIfInBounds (i * 2+1) v)).ownsRow base t' sz val n xs:=fun ht ho=>by
  refine pR ho fun k c hk _=> ?_;have hne:k ≠ g:=fun eq=>by rw [eq,hg'] at hk;cases hk;exact ht rfl
  exact setRow_other _ _ _ _ hne
 refine ⟨⟨fun j=>if j=i then v else cv j,⟨?_,.inr ⟨g,cap,_,by rw [hxs];exact e,hbg,hnew,by rw [hxs];exact hn,hm,by rw [Array.size_setIfInBounds];exact hs, ?_⟩⟩,fun j o hj=> ?_⟩,keep (by decide) h.nm,keep (by decide) h.lk⟩
 ·rw [cK (enc:=iV) bY];simp
 ·rw [hxs];have hsz:((cur.setIfInBounds (i * 2+1) v).toList.take (x.aA.length * 2)).length=x.aA.length * 2:=by rw [List.length_take,Array.length_toList,Array.size_setIfInBounds];omega
  have:=tN (L:=(putAt x i t).aA) (cv:=fun j=>if j=i then v else cv j) (cur:=((cur.setIfInBounds (i * 2+1) v).toList.take (x.aA.length * 2)).toArray) (by simp only [List.size_toArray];rw [hsz,hxs]) (fun j hj=>by
   rw [hxs] at hj;have hr:=hat j hj;simp only [List.getElem?_toArray];rw [hgx j hj,List.getElem?_take_of_lt (by omega),List.getElem?_take_of_lt (by omega),Array.getElem?_toList,Array.getElem?_toList,Array.getElem?_setIfInBounds_ne (by omega),hr.1];refine ⟨by split <;> rfl, ?_⟩;by_cases ej:j=i
   ·subst ej;rw [Array.getElem?_setIfInBounds_self_of_lt (by omega),if_pos rfl]
   ·rw [Array.getElem?_setIfInBounds_ne (by omega),if_neg ej,hr.2])
  simpa using this
 ·obtain ⟨hjl,ho⟩:=List.getElem?_eq_some_iff.1 hj;rw [hxs] at hjl;rw [hgx j hjl] at ho;by_cases ej:j=i
  ·subst ej;rw [if_pos rfl] at ho;subst ho;dsimp only;rw [if_pos rfl];exact keep' (by decide) hv
  ·rw [if_neg (fun eq=>ej eq.symm)] at ho;subst ho;dsimp only;rw [if_neg ej];exact keep (by decide) (h2 j _ (List.getElem?_eq_getElem hjl))
theorem gQ.le {base base':Nat} {w:World} {sv nv lv:Value} {x:aU} (h:gQ base w sv nv lv x) (hb:base'<=base):gQ base' w sv nv lv x:=by obtain⟨cv,h1,h2⟩:=h.sh;exact⟨⟨cv,kH h1 hb,fun j o hj=>kH (h2 j o hj) hb⟩,kH h.nm hb,kH h.lk hb⟩
theorem aPG (t:ByteArray):dI t=3↔255 < t.size:=by
 unfold dI;split
 ·simp [*]
 ·split
  ·split <;> simp [*]
  ·simp [*]
theorem aKd {L:List aK} (hE:∀d ∈ L,(d.text.toList==[])=false) (r c:Int):((mG L r c).toList==[])= !(L.any (atB r c)):=by
 unfold mG;cases hf:L.find? (atB r c) with
 | none=>
  have:L.any (atB r c)=false:=List.any_eq_false.2 (fun d hd=>by have:=List.find?_eq_none.1 hf d hd;simpa using this);rw [this];show ((⟨#[]⟩:ByteArray).toList==[])=true;rw [ByteArray.toList_eq];rfl
 | some d=>
  have h1:=List.mem_of_find?_eq_some hf;have:L.any (atB r c)=true:=List.any_eq_true.2 ⟨d,h1,List.find?_some hf⟩;rw [this];exact hE d h1
theorem aGW {w u0:World} {i:Nat} {x:aU} {r c:Int} {t:ByteArray} {lo hi:Nat} {sv nv lv:Value} (h:BkM lo hi u0 sv nv lv x) (hhi:hi<=u0.heap.size) (hz:Small x) (hR:vZ x) (hi:i < x.aA.length) (hw:Below w.heap.size w u0) (hX1:u0.heap[w.heap.size+1]? =some (.cells #[.slice none 0 0,.slice none 0 0,.slice none 0 0] 26)):
  Calls Tryz.prog 12 #[.agg #[sv,nv,lv]] u0 fun e v=>∃(A:Addr) (cap:Nat) (b1 b2:Option Addr) (d1 d2:Nat) (q:Option Addr) (d:Nat),e=.returned (.agg #[.slice (some A) x.aA.length cap,.slice b1 x.names.length d1,.slice b2 x.links.length d2])/\
    Hid (∀u,Below (v.heap.size+1) (v.alloc (.cells #[.slice (some A) x.aA.length cap,.slice b1 x.names.length d1,.slice b2 x.links.length d2] 26)) u->u.cell? ⟨v.heap.size,0,none⟩=some (.slice (some A) x.aA.length cap)/\u.cell? ⟨(A.add (i * 2)).block,(A.add (i * 2)).off+1,none⟩=some (.slice q x.aA[i].cells.length d))/\
    Hid (∀u,Below (v.heap.size+1) (v.alloc (.cells #[.slice (some A) x.aA.length cap,.slice b1 x.names.length d1,.slice b2 x.links.length d2] 26)) u->Calls Tryz.prog 60 #[.slice q x.aA[i].cells.length d,cellV ⟨r,c,t⟩] u fun e w4=>∃pa pn pc w5 w6,e=.returned (.slice pa pn pc)/\Hid (Below (v.heap.size+1) (v.alloc (.cells #[.slice (some A) x.aA.length cap,.slice b1 x.names.length d1,.slice b2 x.links.length d2] 26)) w4)/\
     Hid ((Instr.storeAt 27 (.pointer (some ⟨(A.add (i * 2)).block,(A.add (i * 2)).off+1,none⟩)) (.slice pa pn pc)).run Tryz.prog w4=.ok () w5)/\
     Hid ((Instr.loadAt 26 (pt v.heap.size)).run Tryz.prog w5=.ok (.agg #[.slice (some A) x.aA.length cap,.slice b1 x.names.length d1,.slice b2 x.links.length d2]) w5)/\
     Hid ((Instr.storeAt 26 (.pointer (some ⟨w.heap.size+1,0,none⟩)) (.agg #[.slice (some A) x.aA.length cap,.slice b1 x.names.length d1,.slice b2 x.links.length d2])).run Tryz.prog w5=.ok () w6)/\
     Hid (w6.heap[w.heap.size+1]? =some (.cells #[.slice (some A) x.aA.length cap,.slice b1 x.names.length d1,.slice b2 x.links.length d2] 26))/\
     Hid (gQ w.heap.size w6 (.slice (some A) x.aA.length cap) (.slice b1 x.names.length d1) (.slice b2 x.links.length d2) (putAt x i ⟨r,c,t⟩))/\Hid (Below w.heap.size w w6)):=by
 refine (aAO h hhi hz).mono ?_;rintro e v ⟨s1,n1,l1,rfl,hO,hb⟩;have hl1:=aN hX1;have hO:=hO.le hw.size;obtain⟨b1,d1,rfl⟩:=bL hO.nm;obtain⟨b2,d2,rfl⟩:=bL hO.lk;obtain⟨g,cap,old,rfl,hbg,hgv,hc,⟨lo2,hi2,hh2,hcl⟩,hput⟩:=hO.aPF (i:=i) (t:=⟨r,c,t⟩) hi hz;have hcv:=hcl v (Below.refl _ _);obtain⟨q,d,rfl,_,_⟩:=hcv.slice;have hVs:(v.alloc (.cells #[.slice (some ⟨g,0,none⟩) x.aA.length cap,.slice b1 x.names.length d1,.slice b2 x.links.length d2] 26)).heap.size=v.heap.size+1:=by simp
 have hbV:Below v.heap.size v (v.alloc (.cells #[.slice (some ⟨g,0,none⟩) x.aA.length cap,.slice b1 x.names.length d1,.slice b2 x.links.length d2] 26)):=Sh.aD (Below.refl _ _) (Nat.le_refl _) _;have hX:=heap_alloc_new v (.cells #[.slice (some ⟨g,0,none⟩) x.aA.length cap,.slice b1 x.names.length d1,.slice b2 x.links.length d2] 26);have hA:((⟨g,0,none⟩:Addr).add (i * 2))=⟨g,i * 2,none⟩:=by rw [Addr.add_mid,Nat.zero_add]
 have hbu:∀u,Below (v.heap.size+1) (v.alloc (.cells #[.slice (some ⟨g,0,none⟩) x.aA.length cap,.slice b1 x.names.length d1,.slice b2 x.links.length d2] 26)) u->Below v.heap.size v u:=fun u hu=>hbV.trans (hu.mono (by omega));have hwv:Below w.heap.size w v:=Sh.aF hw hw.size hb;refine ⟨⟨g,0,none⟩,cap,b1,b2,d1,d2,q,d,rfl,fun u hu=>⟨aH ((hu.block _ (by simp)).trans hX) rfl,by rw [hA];exact(hc u (hbu u hu)).1⟩,fun u hu=> ?_⟩;have hu2:=hbu u hu;refine (aKc (hcl u hu2) (Nat.le_trans hh2 hu2.size) ⟨r,c,t⟩ (hz.cl _ (List.getElem_mem hi))).mono ?_;rintro e w4 ⟨v2,rfl,hM,hb4⟩;rw [aMc (hR _ (List.getElem_mem hi))] at hM;have hM':w4.ownsRow w.heap.size 57 3 v2 (dU x.aA[i].cells ⟨r,c,t⟩).length ((dU x.aA[i].cells ⟨r,c,t⟩).flatMap cellC):=kH hM (Nat.le_trans hwv.size hu2.size);obtain⟨pa,pc,rfl⟩:=bL hM';have h4:Below v.heap.size v w4:=Sh.aF hu2 hu2.size hb4;obtain⟨hO5,hoth⟩:=hput w4 _ h4 hM';have hX4:w4.heap[v.heap.size]? =some (.cells #[.slice (some ⟨g,0,none⟩) x.aA.length cap,.slice b1 x.names.length d1,.slice b2 x.links.length d2] 26):=by rw [hb4.block _ (by have:=hu.size;omega),hu.block _ (by omega)];exact hX
 have aPH:w4.heap[w.heap.size+1]? =some (.cells #[.slice none 0 0,.slice none 0 0,.slice none 0 0] 26):=by rw [h4.block _ (by have:=hb.size;omega),hb.block _ hl1];exact hX1
 have hne1:w.heap.size+1 ≠ g:=by
  intro eq;have:=hc v (Below.refl _ _);obtain⟨cv,q1,_⟩:=hO.sh;rcases q1.2 with ⟨e,_⟩ | ⟨g',cap',cur',e,_,h3,_⟩
  ·cases e
  ·cases e
   rw [<-eq,hb.block _ hl1,hX1] at h3;cases h3
 have hX5:=(hoth v.heap.size (by omega)).trans hX4;have aNG:=(hoth (w.heap.size+1) hne1).trans aPH;have hbs:Below w.heap.size w (w4.setCell ⟨g,i * 2+1,none⟩ (.slice pa (dU x.aA[i].cells ⟨r,c,t⟩).length pc)):=(hwv.trans (h4.mono hwv.size)).setCell (by exact hbg) _;refine ⟨pa,_,pc,_,_,rfl,Sh.aF hu (by have:=hu.size;simp at this;omega) hb4,by rw [hA];exact aPE (hc w4 h4).1 (hc w4 h4).2,ldB hX5,aGm aNG rfl rfl ?_,setRow_heap _ _ _ _ _ _ aNG, ?_,below_setRow hbs (by omega) _⟩
 ·simp [Value.oneCell']
 ·obtain ⟨cv,q1,q2⟩:=hO5.sh;have keep:∀{t':TypeId} {sz n:Nat} {val:Value} {xs:List Value},t' ≠ 26->(w4.setCell ⟨g,i * 2+1,none⟩ (.slice pa (dU x.aA[i].cells ⟨r,c,t⟩).length pc)).ownsRow w.heap.size t' sz val n xs->((w4.setCell ⟨g,i * 2+1,none⟩ (.slice pa (dU x.aA[i].cells ⟨r,c,t⟩).length pc)).setRow (w.heap.size+1) #[.slice (some ⟨g,0,none⟩) x.aA.length cap,.slice b1 x.names.length d1,.slice b2 x.links.length d2]).ownsRow w.heap.size t' sz val n xs:=fun ht ho=>by
   refine pR ho fun k cu hk _=> ?_;have hne:k ≠ w.heap.size+1:=fun eq=>by rw [eq,aNG] at hk;cases hk;exact ht rfl
   exact setRow_other _ _ _ _ hne
  exact⟨⟨cv,keep (by decide) q1,fun j o hj=>keep (by decide) (q2 j o hj)⟩,keep (by decide) hO5.nm,keep (by decide) hO5.lk⟩
theorem aGX {lo hi:Nat} {w:World} {sv nv lv:Value} {x:aU} (h:BkM lo hi w sv nv lv x) (hhi:hi<=w.heap.size) (hz:Small x) (hR:vZ x) (hE:∀s ∈ x.aA,∀d ∈ s.cells,(d.text.toList==[])=false) (T:dD w) (s:ByteArray) (r c:Int) (t:ByteArray):
  Calls Tryz.prog 14 #[.agg #[sv,nv,lv],.string s,.int .i64 r,.int .i64 c,.string t] w (oK w (nU x s r c t) (putAt x ((eZ x.aA s).getD 0) ⟨r,c,t⟩)):=by
 obtain⟨sa,sc,rfl,hs1,hs2⟩:=h.sh.slice;obtain⟨na,nc,rfl,_,_⟩:=h.nm.slice;obtain⟨la,lc,rfl,_,_⟩:=h.lk.slice;obtain⟨W,hW⟩:∃W,W=(w.alloc (bkO (.slice sa x.aA.length sc) (.slice na x.names.length nc) (.slice la x.links.length lc))).alloc (.cells #[.slice none 0 0,.slice none 0 0,.slice none 0 0] 26):=⟨_,rfl⟩
 have HB0:Below w.heap.size w W:=by rw [hW];exact Sh.aD (Sh.aD (Below.refl _ _) (Nat.le_refl _) _) (Nat.le_refl _) _
 have hX0:W.heap[w.heap.size]? =some (bkO (.slice sa x.aA.length sc) (.slice na x.names.length nc) (.slice la x.links.length lc)):=by rw [hW,Below.heap_alloc _ _ _ (by simp)];exact heap_alloc_new w _
 have hX1:W.heap[w.heap.size+1]? =some (.cells #[.slice none 0 0,.slice none 0 0,.slice none 0 0] 26):=by rw [hW];simpa using heap_alloc_new (w.alloc (bkO (.slice sa x.aA.length sc) (.slice na x.names.length nc) (.slice la x.links.length lc))) (.cells #[.slice none 0 0,.slice none 0 0,.slice none 0 0] 26)
 have KX:∀u,Below W.heap.size W u->u.heap[w.heap.size]? =some (bkO (.slice sa x.aA.length sc) (.slice na x.names.length nc) (.slice la x.links.length lc))/\u.heap[w.heap.size+1]? =some (.cells #[.slice none 0 0,.slice none 0 0,.slice none 0 0] 26)/\Below w.heap.size w u:=fun u hu=>⟨(hu.block _ (aN hX0)).trans hX0,(hu.block _ (aN hX1)).trans hX1,Sh.aF HB0 HB0.size hu⟩
 have C1:Calls Tryz.prog 21 #[.agg #[.slice sa x.aA.length sc,.slice na x.names.length nc,.slice la x.links.length lc],.string s] W fun e u=>e=.returned (.int .i64 (dK (eZ x.aA s)))/\Hid (Below W.heap.size W u):=(kY (h.below hhi HB0) (Nat.le_trans hhi HB0.size) s).mono (by
  rintro e u ⟨rfl,hu⟩;exact⟨rfl,hu⟩)
 have C59:Hid (∀u,Below W.heap.size W u->Calls Tryz.prog 59 #[.int .i64 r,.int .i64 c] u fun e v=>e=.returned (.bool (iZ r c))/\Below W.heap.size W v):=fun u hu=>(wH r c u).mono (by
  rintro e v ⟨rfl,hv⟩;exact⟨rfl,Sh.aF hu hu.size hv⟩)
 have C2:Hid (∀u,Below W.heap.size W u->Calls Tryz.prog 27 #[.string t] u fun e v=>e=.returned (.int .i64 (dI t))/\Below W.heap.size W v):=fun u hu=>(zS t u (T.below (KX u hu).2.2)).mono (by
  rintro e v ⟨rfl,hv⟩;exact⟨rfl,Sh.aF hu hu.size hv⟩)
 have iK:Hid (∀u,Below W.heap.size W u->_):=fun u hu=>wU (KX u hu).2.2 (KX u hu).2.1 (by omega);have R0:Hid _:=ldB hX0;have HKX:Hid _:=KX;have HH:Hid (BkM lo hi w (.slice sa x.aA.length sc) (.slice na x.names.length nc) (.slice la x.links.length lc) x):=h;have HZz:Hid (Small x):=hz;have HRR:Hid (vZ x):=hR;have HEE:Hid (∀s ∈ x.aA,∀d ∈ s.cells,(d.text.toList==[])=false):=hE;have HW:Hid ((w.alloc (bkO (.slice sa x.aA.length sc) (.slice na x.names.length nc) (.slice la x.links.length lc))).alloc (.cells #[.slice none 0 0,.slice none 0 0,.slice none 0 0] 26)=W):=hW.symm;have hm3:=aPG t;clear h HB0 hX0 hX1 hW T hs1 hs2 KX hz hR hE;unfold nU;by_cases h3:255 < t.size
 ·rw [if_pos (hm3.2 h3)];have h3i:(255:Int) < (t.size:Int):=by omega
  generalize dK (eZ x.aA s)=oi at *;clear h3 hm3;go_enter Tryz.func14,Tryz.ntmps14;go_wp2_with (first|(rw [HW.out];refine aC rfl 26 _ rfl _ _ rfl R0.out ?_;clear R0)|(go_at_call 21;refine C1.mono ?_;clear C1;rintro e w1 ⟨rfl,HB⟩)|(go_at_call 59;refine (C59.out _ HB.out).mono ?_;clear C59;rintro e w2 ⟨rfl,hb⟩;have HB:Hid _:=hb;clear hb)|(go_at_call 27;refine (C2.out _ HB.out).mono ?_;clear C2;rintro e w3 ⟨rfl,hb⟩;have HB:Hid _:=hb;have R3:Hid _:=ldB (HKX.out _ HB.out).1;clear hb)|((with_reducible show wG (Op.load 26 _));refine iH 26 _ rfl _ _ rfl R3.out ?hw ?_;(case hw=>(go_simp;done)))|(go_at_call 23;refine (C3.out _ HB.out).mono ?_;clear C3 R3;rintro e w4 ⟨rfl,hb⟩;have HB:Hid _:=hb;have R3:Hid _:=ldB (HKX.out _ HB.out).1;clear hb)|(go_at_call 25;refine (C4.out _ HB.out).mono ?_;clear C4 R3;rintro e w5 ⟨rfl,hb⟩;have HB:Hid _:=hb;have R3:Hid _:=ldB (HKX.out _ HB.out).1;clear hb)|((with_reducible show wL (Op.build 26 _));refine bQ rfl 26 _ rfl _ _ (by go_simp) (fF _) ?_)|((with_reducible show wL (Op.store 26 _ _));obtain⟨RS,HZ,HBz⟩:=iK.out _ HB.out;refine aB rfl 26 _ _ rfl _ _ _ rfl rfl RS.out ?_))
  refine bodyPost_ret (res2 rfl rfl HZ.out rfl rfl) rfl ?_;exact⟨by rw [if_neg (by decide)];rfl,HBz.out⟩
 have h3i:¬(255:Int) < (t.size:Int):=by omega
 rw [if_neg (fun e=>h3 (hm3.1 e))];have h3m:¬dI t=3:=fun e=>h3 (hm3.1 e);clear h3 hm3;cases hO:eZ x.aA s with
 | none=>
  rw [hO] at C1;simp only [dK] at C1;go_enter Tryz.func14,Tryz.ntmps14;go_wp2_with (first|(rw [HW.out];refine aC rfl 26 _ rfl _ _ rfl R0.out ?_;clear R0)|(go_at_call 21;refine C1.mono ?_;clear C1;rintro e w1 ⟨rfl,HB⟩)|(go_at_call 59;refine (C59.out _ HB.out).mono ?_;clear C59;rintro e w2 ⟨rfl,hb⟩;have HB:Hid _:=hb;clear hb)|(go_at_call 27;refine (C2.out _ HB.out).mono ?_;clear C2;rintro e w3 ⟨rfl,hb⟩;have HB:Hid _:=hb;have R3:Hid _:=ldB (HKX.out _ HB.out).1;clear hb)|((with_reducible show wG (Op.load 26 _));refine iH 26 _ rfl _ _ rfl R3.out ?hw ?_;(case hw=>(go_simp;done)))|(go_at_call 23;refine (C3.out _ HB.out).mono ?_;clear C3 R3;rintro e w4 ⟨rfl,hb⟩;have HB:Hid _:=hb;have R3:Hid _:=ldB (HKX.out _ HB.out).1;clear hb)|(go_at_call 25;refine (C4.out _ HB.out).mono ?_;clear C4 R3;rintro e w5 ⟨rfl,hb⟩;have HB:Hid _:=hb;have R3:Hid _:=ldB (HKX.out _ HB.out).1;clear hb)|((with_reducible show wL (Op.build 26 _));refine bQ rfl 26 _ rfl _ _ (by go_simp) (fF _) ?_)|((with_reducible show wL (Op.store 26 _ _));obtain⟨RS,HZ,HBz⟩:=iK.out _ HB.out;refine aB rfl 26 _ _ rfl _ _ _ rfl rfl RS.out ?_))
  refine bodyPost_ret (res2 rfl rfl HZ.out rfl rfl) rfl ?_;exact⟨by rw [if_neg (by decide)];rfl,HBz.out⟩
 | some i=>
  rw [hO] at C1;simp only [dK] at C1;have hil:=oF hO;have hni:¬(i:Int) < 0:=by omega
  have hii:(i:Int) < x.aA.length:=by omega
  have HCO:Hid (fA x.aA s=x.aA[i].cells):=by show _=_;simp [fA,hO,List.getElem?_eq_getElem hil]
  dsimp only [Option.getD];clear hO;by_cases h9:iZ r c=false
  ·rw [if_pos h9];rw [h9] at C59;clear h9;go_enter Tryz.func14,Tryz.ntmps14;go_wp2_with (first|(rw [HW.out];refine aC rfl 26 _ rfl _ _ rfl R0.out ?_;clear R0)|(go_at_call 21;refine C1.mono ?_;clear C1;rintro e w1 ⟨rfl,HB⟩)|(go_at_call 59;refine (C59.out _ HB.out).mono ?_;clear C59;rintro e w2 ⟨rfl,hb⟩;have HB:Hid _:=hb;clear hb)|(go_at_call 27;refine (C2.out _ HB.out).mono ?_;clear C2;rintro e w3 ⟨rfl,hb⟩;have HB:Hid _:=hb;have R3:Hid _:=ldB (HKX.out _ HB.out).1;clear hb)|((with_reducible show wG (Op.load 26 _));refine iH 26 _ rfl _ _ rfl R3.out ?hw ?_;(case hw=>(go_simp;done)))|(go_at_call 23;refine (C3.out _ HB.out).mono ?_;clear C3 R3;rintro e w4 ⟨rfl,hb⟩;have HB:Hid _:=hb;have R3:Hid _:=ldB (HKX.out _ HB.out).1;clear hb)|(go_at_call 25;refine (C4.out _ HB.out).mono ?_;clear C4 R3;rintro e w5 ⟨rfl,hb⟩;have HB:Hid _:=hb;have R3:Hid _:=ldB (HKX.out _ HB.out).1;clear hb)|((with_reducible show wL (Op.build 26 _));refine bQ rfl 26 _ rfl _ _ (by go_simp) (fF _) ?_)|((with_reducible show wL (Op.store 26 _ _));obtain⟨RS,HZ,HBz⟩:=iK.out _ HB.out;refine aB rfl 26 _ _ rfl _ _ _ rfl rfl RS.out ?_))
   refine bodyPost_ret (res2 rfl rfl HZ.out rfl rfl) rfl ?_;exact⟨by rw [if_neg (by decide)];rfl,HBz.out⟩
  rw [if_neg h9];have h9t:iZ r c=true:=by simpa using h9
  rw [h9t] at C59;clear h9 h9t;by_cases h10:dI t ≠ 0
  ·rw [if_pos h10];have aPr:((dI t) !=0)=true:=by simpa using h10
   have HM:Hid (¬dI t=0):=h10;clear h10 h3m;generalize dI t=me at *;go_enter Tryz.func14,Tryz.ntmps14;go_wp2_with (first|(rw [HW.out];refine aC rfl 26 _ rfl _ _ rfl R0.out ?_;clear R0)|(go_at_call 21;refine C1.mono ?_;clear C1;rintro e w1 ⟨rfl,HB⟩)|(go_at_call 59;refine (C59.out _ HB.out).mono ?_;clear C59;rintro e w2 ⟨rfl,hb⟩;have HB:Hid _:=hb;clear hb)|(go_at_call 27;refine (C2.out _ HB.out).mono ?_;clear C2;rintro e w3 ⟨rfl,hb⟩;have HB:Hid _:=hb;have R3:Hid _:=ldB (HKX.out _ HB.out).1;clear hb)|((with_reducible show wG (Op.load 26 _));refine iH 26 _ rfl _ _ rfl R3.out ?hw ?_;(case hw=>(go_simp;done)))|(go_at_call 23;refine (C3.out _ HB.out).mono ?_;clear C3 R3;rintro e w4 ⟨rfl,hb⟩;have HB:Hid _:=hb;have R3:Hid _:=ldB (HKX.out _ HB.out).1;clear hb)|(go_at_call 25;refine (C4.out _ HB.out).mono ?_;clear C4 R3;rintro e w5 ⟨rfl,hb⟩;have HB:Hid _:=hb;have R3:Hid _:=ldB (HKX.out _ HB.out).1;clear hb)|((with_reducible show wL (Op.build 26 _));refine bQ rfl 26 _ rfl _ _ (by go_simp) (fF _) ?_)|((with_reducible show wL (Op.store 26 _ _));obtain⟨RS,HZ,HBz⟩:=iK.out _ HB.out;refine aB rfl 26 _ _ rfl _ _ _ rfl rfl RS.out ?_))
   refine bodyPost_ret (res2 rfl rfl HZ.out rfl rfl) rfl ?_;exact⟨by rw [if_neg (HM.out)];rfl,HBz.out⟩
  rw [if_neg h10];have aJt:dI t=0:=by simpa using h10
  rw [aJt] at C2;clear h10 aJt h3m;have C3:Hid (∀u,Below W.heap.size W u->Calls Tryz.prog 23 #[.agg #[.slice sa x.aA.length sc,.slice na x.names.length nc,.slice la x.links.length lc],.string s,.int .i64 r,.int .i64 c] u fun e v=>e=.returned (.string (mG x.aA[i].cells r c))/\Below W.heap.size W v):=fun u hu=>by have:=aDl (HH.out.below hhi (HKX.out u hu).2.2) (Nat.le_trans hhi (HKX.out u hu).2.2.size) s r c;have e:fA x.aA s=x.aA[i].cells:=HCO.out;rw [e] at this;refine this.mono ?_;rintro e v ⟨rfl,hv⟩;exact⟨rfl,Sh.aF hu hu.size hv⟩
  have C4:Hid (∀u,Below W.heap.size W u->Calls Tryz.prog 25 #[.agg #[.slice sa x.aA.length sc,.slice na x.names.length nc,.slice la x.links.length lc]] u fun e v=>e=.returned (.int .i64 (bK x.aA:Nat))/\Below W.heap.size W v):=fun u hu=>
   (rJ (HH.out.below hhi (HKX.out u hu).2.2) (Nat.le_trans hhi (HKX.out u hu).2.2.size) (by have:=vE HZz.out;omega)).mono (by
    rintro e v ⟨rfl,hv⟩;exact⟨rfl,Sh.aF hu hu.size hv⟩)
  have C5:Hid (∀u,Below W.heap.size W u->Calls Tryz.prog 12 #[.agg #[.slice sa x.aA.length sc,.slice na x.names.length nc,.slice la x.links.length lc]] u fun e v=>∃(A:Addr) (cap:Nat) (b1 b2:Option Addr) (d1 d2:Nat) (q:Option Addr) (d:Nat),e=.returned (.agg #[.slice (some A) x.aA.length cap,.slice b1 x.names.length d1,.slice b2 x.links.length d2])/\
    Hid (∀u,Below (v.heap.size+1) (v.alloc (.cells #[.slice (some A) x.aA.length cap,.slice b1 x.names.length d1,.slice b2 x.links.length d2] 26)) u->u.cell? ⟨v.heap.size,0,none⟩=some (.slice (some A) x.aA.length cap)/\u.cell? ⟨(A.add (i * 2)).block,(A.add (i * 2)).off+1,none⟩=some (.slice q x.aA[i].cells.length d))/\
    Hid (∀u,Below (v.heap.size+1) (v.alloc (.cells #[.slice (some A) x.aA.length cap,.slice b1 x.names.length d1,.slice b2 x.links.length d2] 26)) u->Calls Tryz.prog 60 #[.slice q x.aA[i].cells.length d,cellV ⟨r,c,t⟩] u fun e w4=>∃pa pn pc w5 w6,e=.returned (.slice pa pn pc)/\Hid (Below (v.heap.size+1) (v.alloc (.cells #[.slice (some A) x.aA.length cap,.slice b1 x.names.length d1,.slice b2 x.links.length d2] 26)) w4)/\
     Hid ((Instr.storeAt 27 (.pointer (some ⟨(A.add (i * 2)).block,(A.add (i * 2)).off+1,none⟩)) (.slice pa pn pc)).run Tryz.prog w4=.ok () w5)/\
     Hid ((Instr.loadAt 26 (pt v.heap.size)).run Tryz.prog w5=.ok (.agg #[.slice (some A) x.aA.length cap,.slice b1 x.names.length d1,.slice b2 x.links.length d2]) w5)/\
     Hid ((Instr.storeAt 26 (.pointer (some ⟨w.heap.size+1,0,none⟩)) (.agg #[.slice (some A) x.aA.length cap,.slice b1 x.names.length d1,.slice b2 x.links.length d2])).run Tryz.prog w5=.ok () w6)/\
     Hid (w6.heap[w.heap.size+1]? =some (.cells #[.slice (some A) x.aA.length cap,.slice b1 x.names.length d1,.slice b2 x.links.length d2] 26))/\
     Hid (gQ w.heap.size w6 (.slice (some A) x.aA.length cap) (.slice b1 x.names.length d1) (.slice b2 x.links.length d2) (putAt x i ⟨r,c,t⟩))/\Hid (Below w.heap.size w w6))):=fun u hu=>aGW (HH.out.below hhi (HKX.out u hu).2.2) (Nat.le_trans hhi (HKX.out u hu).2.2.size) HZz.out HRR.out hil (HKX.out u hu).2.2 (HKX.out u hu).2.1
  have HGE:Hid (((mG x.aA[i].cells r c).toList==[])= !(x.aA[i].cells.any (atB r c))):=aKd (HEE.out _ (List.getElem_mem hil)) r c;have HFU:Hid (full x i r c t=(!(t.toList==[]) && (decide (200<=bK x.aA) && !(x.aA[i].cells.any (atB r c))))):=by show _=_;unfold full;simp only [List.getElem?_eq_getElem hil,Option.map_some,Option.getD_some]
  generalize hfu:full x i r c t=fu at *;clear hfu HH HEE;generalize x.aA[i].cells.any (atB r c)=an at *;generalize mG x.aA[i].cells r c=gt at *;generalize x.aA[i].cells.length=ln at *;generalize bK x.aA=ct at *;have hi2:i < 9223372036854775807:=by have:=HZz.out.sh;omega
  have BU:Hid (∀u:World,_):=fun u:World=>sW u r c t;have HOK:Hid (∀sv nv lv w6,gQ w.heap.size w6 sv nv lv (putAt x i ⟨r,c,t⟩)->Below w.heap.size w w6->oK w 0 (putAt x i ⟨r,c,t⟩) (.returned (.tuple #[.agg #[sv,nv,lv],.int .i64 0])) w6):=fun sv nv lv w6 h1 h2=>⟨by rw [if_pos rfl];exact⟨_,_,_,rfl,h1⟩,h2⟩
  have HTT:Hid (∀(tb gb:Bool),(t.toList==[])=tb->(gt.toList==[])=gb->(tb=true\/gb=false\/ct < 200->fu=false)/\(tb=false->gb=true->200<=ct->fu=true)):=fun tb gb e1 e2=>by
   have e3:=HGE.out;rw [e2] at e3;have e4:an= !gb:=by rw [e3];simp
   have e5:=HFU.out;rw [e1,e4] at e5;refine ⟨fun hh=> ?_,fun a1 a2 a3=>by rw [e5,a1,a2];simp [a3]⟩;rw [e5];rcases hh with rfl | rfl | hh
   ·rfl
   ·simp
   ·have:decide (200<=ct)=false:=by simp;omega
    rw [this];simp
  clear HGE HFU HZz HCO hil;cases htb:(t.toList==([]:List UInt8))
  case false=>
   cases hgb:(gt.toList==([]:List UInt8))
   case true=>
    by_cases hct:200<=ct
    ·have aNn:(200:Int)<=ct:=by omega
     obtain rfl:fu=true:=(HTT.out _ _ htb hgb).2 rfl rfl hct;rw [if_pos rfl];clear HTT HOK C5;go_enter Tryz.func14,Tryz.ntmps14;go_wp2_with (first|(rw [HW.out];refine aC rfl 26 _ rfl _ _ rfl R0.out ?_;clear R0)|(go_at_call 21;refine C1.mono ?_;clear C1;rintro e w1 ⟨rfl,HB⟩)|(go_at_call 59;refine (C59.out _ HB.out).mono ?_;clear C59;rintro e w2 ⟨rfl,hb⟩;have HB:Hid _:=hb;clear hb)|(go_at_call 27;refine (C2.out _ HB.out).mono ?_;clear C2;rintro e w3 ⟨rfl,hb⟩;have HB:Hid _:=hb;have R3:Hid _:=ldB (HKX.out _ HB.out).1;clear hb)|((with_reducible show wG (Op.load 26 _));refine iH 26 _ rfl _ _ rfl R3.out ?hw ?_;(case hw=>(go_simp;done)))|(go_at_call 23;refine (C3.out _ HB.out).mono ?_;clear C3 R3;rintro e w4 ⟨rfl,hb⟩;have HB:Hid _:=hb;have R3:Hid _:=ldB (HKX.out _ HB.out).1;clear hb)|(go_at_call 25;refine (C4.out _ HB.out).mono ?_;clear C4 R3;rintro e w5 ⟨rfl,hb⟩;have HB:Hid _:=hb;have R3:Hid _:=ldB (HKX.out _ HB.out).1;clear hb)|((with_reducible show wL (Op.build 26 _));refine bQ rfl 26 _ rfl _ _ (by go_simp) (fF _) ?_)|((with_reducible show wL (Op.store 26 _ _));obtain⟨RS,HZ,HBz⟩:=iK.out _ HB.out;refine aB rfl 26 _ _ rfl _ _ _ rfl rfl RS.out ?_))
     refine bodyPost_ret (res2 rfl rfl HZ.out rfl rfl) rfl ?_;exact⟨by rw [if_neg (by decide)];rfl,HBz.out⟩
    ·have aNn:¬(200:Int)<=ct:=by omega
     obtain rfl:fu=false:=(HTT.out _ _ htb hgb).1 (.inr (.inr (by omega)));rw [if_neg (by decide)];clear HTT iK hct;generalize oK w 0 (putAt x i ⟨r,c,t⟩)=Q0 at *;go_enter Tryz.func14,Tryz.ntmps14;go_upto_region 13 with (first|(rw [HW.out];refine aC rfl 26 _ rfl _ _ rfl R0.out ?_;clear R0)|(go_at_call 21;refine C1.mono ?_;clear C1;rintro e w1 ⟨rfl,HB⟩)|(go_at_call 59;refine (C59.out _ HB.out).mono ?_;clear C59;rintro e w2 ⟨rfl,hb⟩;have HB:Hid _:=hb;clear hb)|(go_at_call 27;refine (C2.out _ HB.out).mono ?_;clear C2;rintro e w3 ⟨rfl,hb⟩;have HB:Hid _:=hb;have R3:Hid _:=ldB (HKX.out _ HB.out).1;clear hb)|((with_reducible show wG (Op.load 26 _));refine iH 26 _ rfl _ _ rfl R3.out ?hw ?_;(case hw=>(go_simp;done)))|(go_at_call 23;refine (C3.out _ HB.out).mono ?_;clear C3 R3;rintro e w4 ⟨rfl,hb⟩;have HB:Hid _:=hb;have R3:Hid _:=ldB (HKX.out _ HB.out).1;clear hb)|(go_at_call 25;refine (C4.out _ HB.out).mono ?_;clear C4 R3;rintro e w5 ⟨rfl,hb⟩;have HB:Hid _:=hb;have R3:Hid _:=ldB (HKX.out _ HB.out).1;clear hb)|((with_reducible show wL (Op.build 26 _));refine bQ rfl 26 _ rfl _ _ (by go_simp) (fF _) ?_)|((with_reducible show wL (Op.store 26 _ _));obtain⟨RS,HZ,HBz⟩:=iK.out _ HB.out;refine aB rfl 26 _ _ rfl _ _ _ rfl rfl RS.out ?_))
     go_upto_region 14 with (first|((with_reducible show wL (Op.load 26 _));refine aC rfl 26 _ rfl _ _ rfl R3.out ?_)|(go_at_call 12;refine (C5.out _ HB.out).mono ?_;clear C5;rintro e v ⟨A,cap,b1,b2,d1,d2,q,d,rfl,HL,HC⟩))
     have HS:Hid (Below (v.heap.size+1) (v.alloc (.cells #[.slice (some A) x.aA.length cap,.slice b1 x.names.length d1,.slice b2 x.links.length d2] 26)) (v.alloc (.cells #[.slice (some A) x.aA.length cap,.slice b1 x.names.length d1,.slice b2 x.links.length d2] 26)).drew):=(Below.refl _ _).drew;refine aP (fun u=>Below (v.heap.size+1) (v.alloc (.cells #[.slice (some A) x.aA.length cap,.slice b1 x.names.length d1,.slice b2 x.links.length d2] 26)) u) (fun j=>j==16) (by kernel_rfl) ?_;refine dwp 0 ((pt v.heap.size)) ?_;refine dwl 1 ((.slice (some A) x.aA.length cap)) ?_ (hS:=HS.out) (hy:=(fun u hSu=>aG rfl rfl (aEn (HL.out u hSu).1)));refine dwp 2 ((.int .i64 i)) ?_;refine dwp 3 ((pt v.heap.size)) ?_;refine dwl 4 ((.slice (some A) x.aA.length cap)) ?_ (hS:=HS.out) (hy:=(fun u hSu=>aG rfl rfl (aEn (HL.out u hSu).1)));refine dwp 5 ((.int .i64 i)) ?_;refine dwp 6 ((.pointer (some (A.add (i * 2))))) ?_;refine dwp 7 ((.pointer (some ⟨(A.add (i * 2)).block,(A.add (i * 2)).off+1,none⟩))) ?_;refine dwl 8 ((.slice q ln d)) ?_ (hS:=HS.out) (hy:=(fun u hSu=>aG rfl rfl (ld1 (HL.out u hSu).2 (Tryz.isAgg27 _))));refine dwp 9 ((.int .i64 r)) ?_;refine dwp 10 ((.int .i64 c)) ?_;refine dwp 11 ((.string t)) ?_;refine dwp 12 ((cellV ⟨r,c,t⟩)) ?_ (hy:=(fun u=>kS rfl (by go_simp) (sW u r c t)));refine aJ (i:=13) (by kernel_rfl) rfl ?_;intro K' hK';go_simp;refine (HC.out _ HS.out).mono ?_;rintro e w4 ⟨pa,pn,pc,w5',w6,rfl,HS4,RS,RL,RT,HG,HO,HBF⟩;refine hK' _ _ (.inr fun _=>HS4.out) ?_;clear hK';try simp only [Act.put,List.setIfInBounds_toArray,List.set_cons_zero,List.set_cons_succ]
     refine dwp 14 ((.pointer (some (A.add (i * 2))))) ?_;refine dwp 15 ((.pointer (some ⟨(A.add (i * 2)).block,(A.add (i * 2)).off+1,none⟩))) ?_;refine aJ (i:=16) (by kernel_rfl) rfl ?_;intro K' hK';rw [if_pos (by rfl)];refine oH rfl rfl rfl RS.out ?_;refine hK' _ _ (.inl rfl) ?_;clear hK';try simp only [Act.put,List.setIfInBounds_toArray,List.set_cons_zero,List.set_cons_succ]
     refine aR (by kernel_rfl) ?_ _;go_wp2_with (first|((with_reducible show wL (Op.load 26 _));refine aC rfl 26 _ rfl _ _ rfl RL.out ?_)|((with_reducible show wL (Op.store 26 _ _));refine aB rfl 26 _ _ rfl _ _ _ rfl rfl RT.out ?_))
     refine bodyPost_ret (res2 rfl rfl HG.out rfl rfl) rfl ?_;exact HOK.out _ _ _ _ HO.out HBF.out
   case false=>
    obtain rfl:fu=false:=(HTT.out _ _ htb hgb).1 (.inr (.inl rfl));rw [if_neg (by decide)];clear HTT iK C4;generalize oK w 0 (putAt x i ⟨r,c,t⟩)=Q0 at *;go_enter Tryz.func14,Tryz.ntmps14;go_upto_region 13 with (first|(rw [HW.out];refine aC rfl 26 _ rfl _ _ rfl R0.out ?_;clear R0)|(go_at_call 21;refine C1.mono ?_;clear C1;rintro e w1 ⟨rfl,HB⟩)|(go_at_call 59;refine (C59.out _ HB.out).mono ?_;clear C59;rintro e w2 ⟨rfl,hb⟩;have HB:Hid _:=hb;clear hb)|(go_at_call 27;refine (C2.out _ HB.out).mono ?_;clear C2;rintro e w3 ⟨rfl,hb⟩;have HB:Hid _:=hb;have R3:Hid _:=ldB (HKX.out _ HB.out).1;clear hb)|((with_reducible show wG (Op.load 26 _));refine iH 26 _ rfl _ _ rfl R3.out ?hw ?_;(case hw=>(go_simp;done)))|(go_at_call 23;refine (C3.out _ HB.out).mono ?_;clear C3 R3;rintro e w4 ⟨rfl,hb⟩;have HB:Hid _:=hb;have R3:Hid _:=ldB (HKX.out _ HB.out).1;clear hb)|(go_at_call 25;refine (C4.out _ HB.out).mono ?_;clear C4 R3;rintro e w5 ⟨rfl,hb⟩;have HB:Hid _:=hb;have R3:Hid _:=ldB (HKX.out _ HB.out).1;clear hb)|((with_reducible show wL (Op.build 26 _));refine bQ rfl 26 _ rfl _ _ (by go_simp) (fF _) ?_)|((with_reducible show wL (Op.store 26 _ _));obtain⟨RS,HZ,HBz⟩:=iK.out _ HB.out;refine aB rfl 26 _ _ rfl _ _ _ rfl rfl RS.out ?_))
    go_upto_region 14 with (first|((with_reducible show wL (Op.load 26 _));refine aC rfl 26 _ rfl _ _ rfl R3.out ?_)|(go_at_call 12;refine (C5.out _ HB.out).mono ?_;clear C5;rintro e v ⟨A,cap,b1,b2,d1,d2,q,d,rfl,HL,HC⟩))
    have HS:Hid (Below (v.heap.size+1) (v.alloc (.cells #[.slice (some A) x.aA.length cap,.slice b1 x.names.length d1,.slice b2 x.links.length d2] 26)) (v.alloc (.cells #[.slice (some A) x.aA.length cap,.slice b1 x.names.length d1,.slice b2 x.links.length d2] 26)).drew):=(Below.refl _ _).drew;refine aP (fun u=>Below (v.heap.size+1) (v.alloc (.cells #[.slice (some A) x.aA.length cap,.slice b1 x.names.length d1,.slice b2 x.links.length d2] 26)) u) (fun j=>j==16) (by kernel_rfl) ?_;refine dwp 0 ((pt v.heap.size)) ?_;refine dwl 1 ((.slice (some A) x.aA.length cap)) ?_ (hS:=HS.out) (hy:=(fun u hSu=>aG rfl rfl (aEn (HL.out u hSu).1)));refine dwp 2 ((.int .i64 i)) ?_;refine dwp 3 ((pt v.heap.size)) ?_;refine dwl 4 ((.slice (some A) x.aA.length cap)) ?_ (hS:=HS.out) (hy:=(fun u hSu=>aG rfl rfl (aEn (HL.out u hSu).1)));refine dwp 5 ((.int .i64 i)) ?_;refine dwp 6 ((.pointer (some (A.add (i * 2))))) ?_;refine dwp 7 ((.pointer (some ⟨(A.add (i * 2)).block,(A.add (i * 2)).off+1,none⟩))) ?_;refine dwl 8 ((.slice q ln d)) ?_ (hS:=HS.out) (hy:=(fun u hSu=>aG rfl rfl (ld1 (HL.out u hSu).2 (Tryz.isAgg27 _))));refine dwp 9 ((.int .i64 r)) ?_;refine dwp 10 ((.int .i64 c)) ?_;refine dwp 11 ((.string t)) ?_;refine dwp 12 ((cellV ⟨r,c,t⟩)) ?_ (hy:=(fun u=>kS rfl (by go_simp) (sW u r c t)));refine aJ (i:=13) (by kernel_rfl) rfl ?_;intro K' hK';go_simp;refine (HC.out _ HS.out).mono ?_;rintro e w4 ⟨pa,pn,pc,w5',w6,rfl,HS4,RS,RL,RT,HG,HO,HBF⟩;refine hK' _ _ (.inr fun _=>HS4.out) ?_;clear hK';try simp only [Act.put,List.setIfInBounds_toArray,List.set_cons_zero,List.set_cons_succ]
    refine dwp 14 ((.pointer (some (A.add (i * 2))))) ?_;refine dwp 15 ((.pointer (some ⟨(A.add (i * 2)).block,(A.add (i * 2)).off+1,none⟩))) ?_;refine aJ (i:=16) (by kernel_rfl) rfl ?_;intro K' hK';rw [if_pos (by rfl)];refine oH rfl rfl rfl RS.out ?_;refine hK' _ _ (.inl rfl) ?_;clear hK';try simp only [Act.put,List.setIfInBounds_toArray,List.set_cons_zero,List.set_cons_succ]
    refine aR (by kernel_rfl) ?_ _;go_wp2_with (first|((with_reducible show wL (Op.load 26 _));refine aC rfl 26 _ rfl _ _ rfl RL.out ?_)|((with_reducible show wL (Op.store 26 _ _));refine aB rfl 26 _ _ rfl _ _ _ rfl rfl RT.out ?_))
    refine bodyPost_ret (res2 rfl rfl HG.out rfl rfl) rfl ?_;exact HOK.out _ _ _ _ HO.out HBF.out
  case true=>
   obtain rfl:fu=false:=(HTT.out _ (gt.toList==[]) htb rfl).1 (.inl rfl);rw [if_neg (by decide)];clear HTT iK C4 C3;generalize oK w 0 (putAt x i ⟨r,c,t⟩)=Q0 at *;go_enter Tryz.func14,Tryz.ntmps14;go_upto_region 13 with (first|(rw [HW.out];refine aC rfl 26 _ rfl _ _ rfl R0.out ?_;clear R0)|(go_at_call 21;refine C1.mono ?_;clear C1;rintro e w1 ⟨rfl,HB⟩)|(go_at_call 59;refine (C59.out _ HB.out).mono ?_;clear C59;rintro e w2 ⟨rfl,hb⟩;have HB:Hid _:=hb;clear hb)|(go_at_call 27;refine (C2.out _ HB.out).mono ?_;clear C2;rintro e w3 ⟨rfl,hb⟩;have HB:Hid _:=hb;have R3:Hid _:=ldB (HKX.out _ HB.out).1;clear hb)|((with_reducible show wG (Op.load 26 _));refine iH 26 _ rfl _ _ rfl R3.out ?hw ?_;(case hw=>(go_simp;done)))|(go_at_call 23;refine (C3.out _ HB.out).mono ?_;clear C3 R3;rintro e w4 ⟨rfl,hb⟩;have HB:Hid _:=hb;have R3:Hid _:=ldB (HKX.out _ HB.out).1;clear hb)|(go_at_call 25;refine (C4.out _ HB.out).mono ?_;clear C4 R3;rintro e w5 ⟨rfl,hb⟩;have HB:Hid _:=hb;have R3:Hid _:=ldB (HKX.out _ HB.out).1;clear hb)|((with_reducible show wL (Op.build 26 _));refine bQ rfl 26 _ rfl _ _ (by go_simp) (fF _) ?_)|((with_reducible show wL (Op.store 26 _ _));obtain⟨RS,HZ,HBz⟩:=iK.out _ HB.out;refine aB rfl 26 _ _ rfl _ _ _ rfl rfl RS.out ?_))
   go_upto_region 14 with (first|((with_reducible show wL (Op.load 26 _));refine aC rfl 26 _ rfl _ _ rfl R3.out ?_)|(go_at_call 12;refine (C5.out _ HB.out).mono ?_;clear C5;rintro e v ⟨A,cap,b1,b2,d1,d2,q,d,rfl,HL,HC⟩))
   have HS:Hid (Below (v.heap.size+1) (v.alloc (.cells #[.slice (some A) x.aA.length cap,.slice b1 x.names.length d1,.slice b2 x.links.length d2] 26)) (v.alloc (.cells #[.slice (some A) x.aA.length cap,.slice b1 x.names.length d1,.slice b2 x.links.length d2] 26)).drew):=(Below.refl _ _).drew;refine aP (fun u=>Below (v.heap.size+1) (v.alloc (.cells #[.slice (some A) x.aA.length cap,.slice b1 x.names.length d1,.slice b2 x.links.length d2] 26)) u) (fun j=>j==16) (by kernel_rfl) ?_;refine dwp 0 ((pt v.heap.size)) ?_;refine dwl 1 ((.slice (some A) x.aA.length cap)) ?_ (hS:=HS.out) (hy:=(fun u hSu=>aG rfl rfl (aEn (HL.out u hSu).1)));refine dwp 2 ((.int .i64 i)) ?_;refine dwp 3 ((pt v.heap.size)) ?_;refine dwl 4 ((.slice (some A) x.aA.length cap)) ?_ (hS:=HS.out) (hy:=(fun u hSu=>aG rfl rfl (aEn (HL.out u hSu).1)));refine dwp 5 ((.int .i64 i)) ?_;refine dwp 6 ((.pointer (some (A.add (i * 2))))) ?_;refine dwp 7 ((.pointer (some ⟨(A.add (i * 2)).block,(A.add (i * 2)).off+1,none⟩))) ?_;refine dwl 8 ((.slice q ln d)) ?_ (hS:=HS.out) (hy:=(fun u hSu=>aG rfl rfl (ld1 (HL.out u hSu).2 (Tryz.isAgg27 _))));refine dwp 9 ((.int .i64 r)) ?_;refine dwp 10 ((.int .i64 c)) ?_;refine dwp 11 ((.string t)) ?_;refine dwp 12 ((cellV ⟨r,c,t⟩)) ?_ (hy:=(fun u=>kS rfl (by go_simp) (sW u r c t)));refine aJ (i:=13) (by kernel_rfl) rfl ?_;intro K' hK';go_simp;refine (HC.out _ HS.out).mono ?_;rintro e w4 ⟨pa,pn,pc,w5',w6,rfl,HS4,RS,RL,RT,HG,HO,HBF⟩;refine hK' _ _ (.inr fun _=>HS4.out) ?_;clear hK';try simp only [Act.put,List.setIfInBounds_toArray,List.set_cons_zero,List.set_cons_succ]
   refine dwp 14 ((.pointer (some (A.add (i * 2))))) ?_;refine dwp 15 ((.pointer (some ⟨(A.add (i * 2)).block,(A.add (i * 2)).off+1,none⟩))) ?_;refine aJ (i:=16) (by kernel_rfl) rfl ?_;intro K' hK';rw [if_pos (by rfl)];refine oH rfl rfl rfl RS.out ?_;refine hK' _ _ (.inl rfl) ?_;clear hK';try simp only [Act.put,List.setIfInBounds_toArray,List.set_cons_zero,List.set_cons_succ]
   refine aR (by kernel_rfl) ?_ _;go_wp2_with (first|((with_reducible show wL (Op.load 26 _));refine aC rfl 26 _ rfl _ _ rfl RL.out ?_)|((with_reducible show wL (Op.store 26 _ _));refine aB rfl 26 _ _ rfl _ _ _ rfl rfl RT.out ?_))
   refine bodyPost_ret (res2 rfl rfl HG.out rfl rfl) rfl ?_;exact HOK.out _ _ _ _ HO.out HBF.out
end Go.Proofs.YtlhoklhjbpkgpaaGreatDoor.Sh
