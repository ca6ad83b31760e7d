/- SDrop, SAdd0, SAdd, SRt, SEq, SEqual, SSm, SLv0, SPutB. -/
import Derived.Test.YtlhoklhjbpkgpaaGreatDoorSPutB0Pu
set_option linter.unusedVariables false
set_option linter.unusedSimpArgs false
set_option maxHeartbeats 16000000
set_option maxRecDepth 100000
namespace Go.Proofs.YtlhoklhjbpkgpaaGreatDoor.Sh
open Go.RowKit Go.Fm
def aJn (x:aU) (s:ByteArray):Int:=match eZ x.aA s with
 | none=>6
 | some _=>if x.aA.length=1 then 15 else 0
def kV (x:aU) (i:Nat):aU:=⟨x.aA.eraseIdx i,x.names,x.links⟩
theorem aC1 {L:List aO} {cv:Nat->Value} {i:Nat}:(pairs L cv).take i++(pairs L cv).drop (i+1)=pairs (L.eraseIdx i) (fun j=>if j < i then cv j else cv (j+1)):=by
 apply List.ext_getElem?
 intro k;rw [List.getElem?_append,List.getElem?_take,List.getElem?_drop,List.length_take];simp only [pairs,List.getElem?_mapIdx,List.getElem?_eraseIdx,List.length_mapIdx];by_cases h1:k < i
 ·by_cases h2:k < min i L.length
  ·rw [if_pos h2,if_pos h1,if_pos h1];cases L[k]? <;> simp [h1]
  ·rw [if_neg h2,if_pos h1];have h3:L.length<=k:=by omega
   have h4:L[k]? =none:=List.getElem?_eq_none h3;rw [List.getElem?_eq_none (by omega)];simp [h1,h4]
 ·rw [if_neg (by omega),if_neg h1];by_cases h3:i<=L.length
  ·rw [show i+1+(k - min i L.length)=k+1 by omega];cases L[k+1]? <;> simp [h1]
  ·have h4:L[k+1]? =none:=List.getElem?_eq_none (by omega);rw [List.getElem?_eq_none (by omega)];simp [h1,h4]
theorem CpB.flat {base gs gn gl:Nat} {w:World} {x:aU} (h:CpB base w gs gn gl x):∃cur,w.heap[gs]? =some (.cells cur 78 (0,0))/\cur.size=x.aA.length * 2/\cur.toList=(pairs x.aA fun j=>newS (gs+1+j) ((x.aA[j]?.map (·.cells.length)).getD 0)).flatMap iV/\∀u ∈ cur.toList,u.oneCell'=true:=by obtain⟨cur,r1,r2,r3⟩:=h.row;have hf:=tN (cv:=fun j=>newS (gs+1+j) ((x.aA[j]?.map (·.cells.length)).getD 0)) r2 (fun j hj=>⟨(r3 j hj).1,by rw [(r3 j hj).2];simp [List.getElem?_eq_getElem hj]⟩);refine ⟨cur,r1,r2,hf, ?_⟩;rw [hf];intro u hu;obtain⟨p,hp,hu⟩:=List.mem_flatMap.1 hu;obtain⟨j,hj,rfl⟩:=List.mem_mapIdx.1 hp;simp only [bN,List.mem_cons,List.not_mem_nil,or_false] at hu;rcases hu with rfl | rfl <;> rfl
theorem aJo {base gs gn gl i:Nat} {w1 w3:World} {x:aU} (h:CpB base w1 gs gn gl x) (hz:Small x) (hi:i < x.aA.length) {cur':Array Value} (h3:w3.heap[gs]? =some (.cells cur' 78 (0,0))) (hs:cur'.size=x.aA.length * 2)
  (hc:cur'.toList.take ((x.aA.length - 1) * 2)=(pairs (kV x i).aA (fun j=>if j < i then newS (gs+1+j) ((x.aA[j]?.map (·.cells.length)).getD 0) else newS (gs+1+(j+1)) ((x.aA[j+1]?.map (·.cells.length)).getD 0))).flatMap iV)
  (hk:∀g cur (t:TypeId),g ≠ gs->t ≠ 26->w1.heap[g]? =some (.cells cur t (0,0))->w3.heap[g]? =w1.heap[g]?):
  gQ base w3 (.slice (some ⟨gs,0,none⟩) (x.aA.length - 1) x.aA.length) (newS gn x.names.length) (newS gl x.links.length) (kV x i):=by
 have b1:=h.b1;have b2:=h.b2;have b3:=h.b3;have k3:∀g cur (t:TypeId),g ≠ gs->t ≠ 26->w1.heap[g]? =some (.cells cur t (0,0))->w3.heap[g]? =some (.cells cur t (0,0)):=fun g cur t hne ht ho=>(hk g cur t hne ht ho).trans ho;have hxl:(kV x i).aA.length=x.aA.length - 1:=by simp [kV,List.length_eraseIdx,hi]
 refine ⟨⟨_,⟨?_,.inr ⟨gs,x.aA.length,cur',by rw [hxl],b1,h3,by omega,bT hz.sh,hs,by rw [hxl];exact hc⟩⟩,fun j o hj=> ?_⟩, ?_, ?_⟩
 ·rw [cK (enc:=iV) bY];simp
 ·have hj2:x.aA[if j < i then j else j+1]? =some o:=by rw [<-hj];simp only [kV,List.getElem?_eraseIdx];by_cases e:j < i <;> simp [e]
  obtain⟨hl,ho⟩:=List.getElem?_eq_some_iff.1 hj2;have hcl:=h.cls _ hl;rw [ho] at hcl;have hc3:=k3 _ _ _ (by omega) (by decide) hcl;have hle:=hz.cl o (by rw [<-ho];exact List.getElem_mem hl);try dsimp only
  by_cases e:j < i
  ·rw [if_pos e] at hj2 hc3 ⊢;rw [hj2];exact eO hc3 (by rw [cK bP];rfl) (by omega) (bT hle)
  ·rw [if_neg e] at hj2 hc3 ⊢;rw [hj2];exact eO hc3 (by rw [cK bP];rfl) (by omega) (bT hle)
 ·exact eO (k3 _ _ _ (by omega) (by decide) h.nms) (by rw [cK jH];rfl) (by omega) (bT hz.nm)
 ·exact eO (k3 _ _ _ (by omega) (by decide) h.lks) (by rw [cK jI];rfl) (by omega) (bT hz.lk)
theorem drop_tail {w v:World} {gs gn gl i:Nat} {x:aU} (h:CpB w.heap.size v gs gn gl x) (hz:Small x) (hi:i < x.aA.length) (hb:Below w.heap.size w v) (hgs:w.heap.size+1 < gs) (hX1:v.heap[w.heap.size+1]? =some (.cells #[.slice none 0 0,.slice none 0 0,.slice none 0 0] 26)):
  ∃V:World,V=v.alloc (.cells #[newS gs x.aA.length,newS gn x.names.length,newS gl x.links.length] 26)/\V.cell? ⟨v.heap.size,0,none⟩=some (newS gs x.aA.length)/\
   Calls Tryz.prog 79 #[newS gs x.aA.length,.int .i64 (i:Nat),.int .i64 ((i+1:Nat):Int)] V fun e w4=>∃w6,e=.returned (.slice (some ⟨gs,0,none⟩) (x.aA.length - 1) x.aA.length)/\w4.cell? ⟨v.heap.size,0,none⟩=some (newS gs x.aA.length)/\w4.frozen? ⟨v.heap.size,0,none⟩=false/\
    Hid ((Instr.loadAt 26 (pt v.heap.size)).run Tryz.prog (w4.setCell ⟨v.heap.size,0,none⟩ (.slice (some ⟨gs,0,none⟩) (x.aA.length - 1) x.aA.length))=.ok (.agg #[.slice (some ⟨gs,0,none⟩) (x.aA.length - 1) x.aA.length,newS gn x.names.length,newS gl x.links.length]) (w4.setCell ⟨v.heap.size,0,none⟩ (.slice (some ⟨gs,0,none⟩) (x.aA.length - 1) x.aA.length)))/\
    Hid ((Instr.storeAt 26 (.pointer (some ⟨w.heap.size+1,0,none⟩)) (.agg #[.slice (some ⟨gs,0,none⟩) (x.aA.length - 1) x.aA.length,newS gn x.names.length,newS gl x.links.length])).run Tryz.prog (w4.setCell ⟨v.heap.size,0,none⟩ (.slice (some ⟨gs,0,none⟩) (x.aA.length - 1) x.aA.length))=.ok () w6)/\
    Hid (w6.heap[w.heap.size+1]? =some (.cells #[.slice (some ⟨gs,0,none⟩) (x.aA.length - 1) x.aA.length,newS gn x.names.length,newS gl x.links.length] 26))/\
    Hid (gQ w.heap.size w6 (.slice (some ⟨gs,0,none⟩) (x.aA.length - 1) x.aA.length) (newS gn x.names.length) (newS gl x.links.length) (kV x i))/\Hid (Below w.heap.size w w6):=by
 have b1:=h.b1;have hbV:Below v.heap.size v (v.alloc (.cells #[newS gs x.aA.length,newS gn x.names.length,newS gl x.links.length] 26)):=Sh.aD (Below.refl _ _) (Nat.le_refl _) _;obtain⟨V,hV⟩:∃V,V=v.alloc (.cells #[newS gs x.aA.length,newS gn x.names.length,newS gl x.links.length] 26):=⟨_,rfl⟩
 rw [<-hV] at hbV;have hX:V.heap[v.heap.size]? =some (.cells #[newS gs x.aA.length,newS gn x.names.length,newS gl x.links.length] 26):=by rw [hV];exact heap_alloc_new v _
 have hC:=h.below hbV;obtain⟨cur,r1,r2,r3,r4⟩:=hC.flat;have hbw:Below w.heap.size w V:=Sh.aF hb hb.size hbV;have aJm:=(hbV.block _ (aN hX1)).trans hX1;have aPX:=aN hX1;refine ⟨V,hV,aH hX rfl, ?_⟩;refine (aGo r1 r2 hi (by have:=hz.sh;omega) r4).mono ?_;rintro e w4 ⟨rfl,⟨cur',q1,q2,q3⟩,q4,hg⟩;have hgx:v.heap.size ≠ gs:=by intro eq;rw [eq,r1] at hX;simp at hX
 have k4:∀g o,V.heap[g]? =some o->g ≠ gs->w4.heap[g]? =some o:=fun g o hgo hne=>(hg.block g (aN hgo) (by simpa using hne)).trans hgo;have s4:=k4 _ _ hX hgx;have hset:=yN (i:=0) (v:=.slice (some ⟨gs,0,none⟩) (x.aA.length - 1) x.aA.length) s4;have aNl:(w4.setCell ⟨v.heap.size,0,none⟩ (.slice (some ⟨gs,0,none⟩) (x.aA.length - 1) x.aA.length)).heap[v.heap.size]? =some (.cells #[.slice (some ⟨gs,0,none⟩) (x.aA.length - 1) x.aA.length,newS gn x.names.length,newS gl x.links.length] 26):=by rw [hset];exact setRow_heap _ _ _ _ _ _ s4
 have hres:(w4.setCell ⟨v.heap.size,0,none⟩ (.slice (some ⟨gs,0,none⟩) (x.aA.length - 1) x.aA.length)).heap[w.heap.size+1]? =some (.cells #[.slice none 0 0,.slice none 0 0,.slice none 0 0] 26):=by rw [hset,setRow_other _ _ _ _ (by omega)];exact k4 _ _ aJm (by omega)
 refine ⟨_,rfl,aH s4 rfl,by simp [World.frozen?,s4],ldB aNl,aGm hres rfl rfl (by simp [Value.oneCell']),setRow_heap _ _ _ _ _ _ hres, ?_, ?_⟩
 ·refine aJo (w1:=V) hC hz hi (cur':=cur') ?_ q2 ?_ (fun g aPQ ty hne hty hgc=> ?_)
  ·rw [setRow_other _ _ _ _ (by omega),hset,setRow_other _ _ _ _ (fun eq=>hgx eq.symm)];exact q1
  ·rw [q3,r3,<-aBj (enc:=iV) bY,<-aBi (enc:=iV) bY,<-List.flatMap_append,aC1];rfl
  ·have hg1:g ≠ w.heap.size+1:=by
    intro eq;rw [eq,aJm] at hgc;cases hgc
    exact hty rfl
   have hg2:g ≠ v.heap.size:=by
    intro eq;rw [eq,hX] at hgc;cases hgc
    exact hty rfl
   rw [setRow_other _ _ _ _ hg1,hset,setRow_other _ _ _ _ hg2];exact(k4 _ _ hgc hne).trans hgc.symm
 ·rw [hset];have hb4:Below w.heap.size w w4:=hbw.grown hg hbw.size (fun k hk=>by cases hk;omega);exact below_setRow (below_setRow hb4 hb.size _) (by omega) _
theorem aJp {lo hi:Nat} {w:World} {sv nv lv:Value} {x:aU} (h:BkM lo hi w sv nv lv x) (hhi:hi<=w.heap.size) (hz:Small x) (s:ByteArray):
  Calls Tryz.prog 30 #[.agg #[sv,nv,lv],.string s] w (oK w (aJn x s) (kV x ((eZ x.aA s).getD 0))):=by
 obtain⟨sa,sc,rfl,hs1,hs2⟩:=h.sh.slice;obtain⟨na,nc,rfl,_,_⟩:=h.nm.slice;obtain⟨la,lc,rfl,_,_⟩:=h.lk.slice;obtain⟨W,hW⟩:∃W,W=(w.alloc (bkO (.slice sa x.aA.length sc) (.slice na x.names.length nc) (.slice la x.links.length lc))).alloc (.cells #[.slice none 0 0,.slice none 0 0,.slice none 0 0] 26):=⟨_,rfl⟩
 have HB0:Below w.heap.size w W:=by rw [hW];exact Sh.aD (Sh.aD (Below.refl _ _) (Nat.le_refl _) _) (Nat.le_refl _) _
 have hX0:W.heap[w.heap.size]? =some (bkO (.slice sa x.aA.length sc) (.slice na x.names.length nc) (.slice la x.links.length lc)):=by rw [hW,Below.heap_alloc _ _ _ (by simp)];exact heap_alloc_new w _
 have hX1:W.heap[w.heap.size+1]? =some (.cells #[.slice none 0 0,.slice none 0 0,.slice none 0 0] 26):=by rw [hW];simpa using heap_alloc_new (w.alloc (bkO (.slice sa x.aA.length sc) (.slice na x.names.length nc) (.slice la x.links.length lc))) (.cells #[.slice none 0 0,.slice none 0 0,.slice none 0 0] 26)
 have hlen:x.aA.length<=1000:=hz.sh;have KX:∀u,Below W.heap.size W u->u.heap[w.heap.size]? =some (bkO (.slice sa x.aA.length sc) (.slice na x.names.length nc) (.slice la x.links.length lc))/\u.heap[w.heap.size+1]? =some (.cells #[.slice none 0 0,.slice none 0 0,.slice none 0 0] 26)/\Below w.heap.size w u:=fun u hu=>⟨(hu.block _ (aN hX0)).trans hX0,(hu.block _ (aN hX1)).trans hX1,Sh.aF HB0 HB0.size hu⟩
 have C1:Calls Tryz.prog 20 #[.agg #[.slice sa x.aA.length sc,.slice na x.names.length nc,.slice la x.links.length lc],.string s] W fun e u=>e=.returned (.int .i64 (dK (eZ x.aA s)))/\u.cell? ⟨w.heap.size,0,none⟩=some (.slice sa x.aA.length sc)/\u.cell? ⟨w.heap.size,1,none⟩=some (.slice na x.names.length nc)/\u.cell? ⟨w.heap.size,2,none⟩=some (.slice la x.links.length lc)/\Hid (Below W.heap.size W u):=(mI (h.below hhi HB0) (Nat.le_trans hhi HB0.size) s).mono (by
  rintro e u ⟨rfl,hu⟩;obtain⟨c0,c1,c2⟩:=bU (KX u hu).1;exact⟨rfl,c0,c1,c2,hu⟩)
 have iK:Hid (∀u,Below W.heap.size W u->_):=fun u hu=>wU (KX u hu).2.2 (KX u hu).2.1 (by omega);obtain⟨d0,d1,d2⟩:=bU hX0;have HKX:Hid _:=KX;have HH:Hid (BkM lo hi w (.slice sa x.aA.length sc) (.slice na x.names.length nc) (.slice la x.links.length lc) x):=h;have HZz:Hid (Small x):=hz;rw [hW] at d0 d1 d2;have HW:Hid ((w.alloc (bkO (.slice sa x.aA.length sc) (.slice na x.names.length nc) (.slice la x.links.length lc))).alloc (.cells #[.slice none 0 0,.slice none 0 0,.slice none 0 0] 26)=W):=hW.symm;clear h HB0 hX0 hX1 hW hs1 hs2 KX hz;unfold aJn;cases hO:eZ x.aA s with
 | none=>
  rw [hO] at C1;simp only [dK] at C1;go_enter Tryz.func30,Tryz.ntmps30;go_wp2_with (first|(go_at_call 20;rw [HW.out];refine C1.mono ?_;clear C1;rintro e w1 ⟨rfl,c0,c1,c2,HB1⟩;obtain⟨RS,HZ,HBz⟩:=iK.out w1 HB1.out;clear iK)|((with_reducible show wL (Op.build 26 _));refine bQ rfl 26 _ rfl _ _ (by go_simp) (fF _) ?_)|((with_reducible show wL (Op.store 26 _ _));refine aB rfl 26 _ _ rfl _ _ _ rfl rfl RS.out ?_))
  refine bodyPost_ret (res2 rfl rfl HZ.out rfl rfl) rfl ?_;exact⟨by rw [if_neg (by decide)];rfl,HBz.out⟩
 | some i=>
  rw [hO] at C1;simp only [dK] at C1;have hil:=oF hO;have hni:decide ((i:Int) < 0)=false:=by simp
  dsimp only [Option.getD];clear hO;by_cases h1:x.aA.length=1
  ·rw [if_pos h1];have h1b:((x.aA.length:Int)==1)=true:=by rw [h1];rfl
   clear hil h1;generalize x.aA.length=n at *;go_enter Tryz.func30,Tryz.ntmps30;go_wp2_with (first|(go_at_call 20;rw [HW.out];refine C1.mono ?_;clear C1;rintro e w1 ⟨rfl,c0,c1,c2,HB1⟩;obtain⟨RS,HZ,HBz⟩:=iK.out w1 HB1.out;clear iK)|((with_reducible show wL (Op.build 26 _));refine bQ rfl 26 _ rfl _ _ (by go_simp) (fF _) ?_)|((with_reducible show wL (Op.store 26 _ _));refine aB rfl 26 _ _ rfl _ _ _ rfl rfl RS.out ?_))
   refine bodyPost_ret (res2 rfl rfl HZ.out rfl rfl) rfl ?_;exact⟨by rw [if_neg (by decide)];rfl,HBz.out⟩
  ·rw [if_neg h1];have h1b:((x.aA.length:Int)==1)=false:=by simp only [beq_eq_false_iff_ne];omega
   have C5:Hid (∀u,Below W.heap.size W u->Calls Tryz.prog 17 #[.agg #[.slice sa x.aA.length sc,.slice na x.names.length nc,.slice la x.links.length lc]] u fun e v=>∃gs gn gl,e=.returned (.agg #[newS gs x.aA.length,newS gn x.names.length,newS gl x.links.length])/\(v.alloc (.cells #[newS gs x.aA.length,newS gn x.names.length,newS gl x.links.length] 26)).cell? ⟨v.heap.size,0,none⟩=some (newS gs x.aA.length)/\
     Hid (Calls Tryz.prog 79 #[newS gs x.aA.length,.int .i64 (i:Nat),.int .i64 ((i+1:Nat):Int)] (v.alloc (.cells #[newS gs x.aA.length,newS gn x.names.length,newS gl x.links.length] 26)) fun e w4=>∃w6,e=.returned (.slice (some ⟨gs,0,none⟩) (x.aA.length - 1) x.aA.length)/\w4.cell? ⟨v.heap.size,0,none⟩=some (newS gs x.aA.length)/\w4.frozen? ⟨v.heap.size,0,none⟩=false/\
    Hid ((Instr.loadAt 26 (pt v.heap.size)).run Tryz.prog (w4.setCell ⟨v.heap.size,0,none⟩ (.slice (some ⟨gs,0,none⟩) (x.aA.length - 1) x.aA.length))=.ok (.agg #[.slice (some ⟨gs,0,none⟩) (x.aA.length - 1) x.aA.length,newS gn x.names.length,newS gl x.links.length]) (w4.setCell ⟨v.heap.size,0,none⟩ (.slice (some ⟨gs,0,none⟩) (x.aA.length - 1) x.aA.length)))/\
    Hid ((Instr.storeAt 26 (.pointer (some ⟨w.heap.size+1,0,none⟩)) (.agg #[.slice (some ⟨gs,0,none⟩) (x.aA.length - 1) x.aA.length,newS gn x.names.length,newS gl x.links.length])).run Tryz.prog (w4.setCell ⟨v.heap.size,0,none⟩ (.slice (some ⟨gs,0,none⟩) (x.aA.length - 1) x.aA.length))=.ok () w6)/\
    Hid (w6.heap[w.heap.size+1]? =some (.cells #[.slice (some ⟨gs,0,none⟩) (x.aA.length - 1) x.aA.length,newS gn x.names.length,newS gl x.links.length] 26))/\
    Hid (gQ w.heap.size w6 (.slice (some ⟨gs,0,none⟩) (x.aA.length - 1) x.aA.length) (newS gn x.names.length) (newS gl x.links.length) (kV x i))/\Hid (Below w.heap.size w w6))):=fun u hu=>
    (yO (HH.out.below hhi (HKX.out u hu).2.2) (Nat.le_trans hhi (HKX.out u hu).2.2.size) HZz.out).mono (by
     rintro e v ⟨⟨gs,gn,gl,rfl,hC⟩,hv⟩;have hub:=(HKX.out u hu).2.2;have hb1:=hC.b1;have hx1:=(HKX.out u hu).2.1;have hl1:=aN hx1;obtain⟨V,hV,c1,CC⟩:=drop_tail (w:=w) (hC.mono hub.size) HZz.out hil (Sh.aF hub hub.size hv) (by omega) ((hv.block _ hl1).trans hx1);rw [hV] at c1 CC;exact⟨gs,gn,gl,rfl,c1,CC⟩)
   have HOK:Hid (∀sv nv lv w6,gQ w.heap.size w6 sv nv lv (kV x i)->Below w.heap.size w w6->oK w 0 (kV x i) (.returned (.tuple #[.agg #[sv,nv,lv],.int .i64 0])) w6):=fun sv nv lv w6 h1 h2=>⟨by rw [if_pos rfl];exact⟨_,_,_,rfl,h1⟩,h2⟩
   generalize oK w 0 (kV x i)=Q0 at *;obtain⟨m,hm⟩:∃m,m=i+1:=⟨_,rfl⟩
   rw [<-hm] at C5;have e5:(i:Int)+1=(m:Int):=by omega
   have e6:IntKind.i64.wrap (m:Int)=(m:Int):=by rw [IntKind.wrap_i64];omega
   obtain⟨n1,hn1⟩:∃n1,n1=x.aA.length - 1:=⟨_,rfl⟩
   rw [<-hn1] at C5;clear hil h1 iK HH HZz hm hn1;go_enter Tryz.func30,Tryz.ntmps30;go_wp2_with (first|(go_at_call 20;rw [HW.out];refine C1.mono ?_;clear C1;rintro e w1 ⟨rfl,c0,c1,c2,HB1⟩)|(go_at_call 17;refine (C5.out _ HB1.out).mono ?_;clear C5;rintro e v ⟨gs,gn,gl,rfl,cV,CW⟩)|(go_at_call 79;refine CW.out.mono ?_;clear CW;rintro e w5 ⟨w6,rfl,c50,f50,RL6,RS6,HG6,HO6,HB6⟩)|((with_reducible show wL (Op.load 26 _));refine aC rfl 26 _ rfl _ _ rfl RL6.out ?_;clear RL6)|((with_reducible show wL (Op.store 26 _ _));refine aB rfl 26 _ _ rfl _ _ _ rfl rfl RS6.out ?_;clear RS6))
   refine bodyPost_ret (res2 rfl rfl HG6.out rfl rfl) rfl ?_;exact HOK.out _ _ _ _ HO6.out HB6.out
theorem aNm (u:World) (s:ByteArray) (a:Option Addr) (n c:Nat):(Instr.build 78 #[(0,.string s),(1,.slice a n c)]).run Tryz.prog u=.ok (.agg #[.string s,.slice a n c]) u:=by kernel_rfl
theorem aEm (u:World) (s:ByteArray) (a:Option Addr) (n c:Nat):(Instr.buildSlice 22 1 #[(0,.agg #[.string s,.slice a n c])]).run Tryz.prog u=.ok (.slice (some ⟨u.heap.size,0,none⟩) 1 1) (u.alloc (.cells #[.string s,.slice a n c] 78)):=by kernel_rfl
theorem aEn {u:World} {p:Addr} {v:Value} (h:u.cell? p=some v):(Instr.loadAt 22 (.pointer (some p))).run Tryz.prog u=.ok v u:=ld1 h (Tryz.isAgg22 u)
theorem aAL {P:Program} {o:Oper} {a:Act} {w w':World} {K:Act->World->Prop} {Q:Exit->Act->World->Prop} {ty:TypeId} {len:Nat} {xs:Array (Nat × Operand)} {ps:Array (Nat × Value)} {v:Value} (ho:o.op=.buildSlice ty len xs) (hx:(xs.map fun (i,x)=>(i,a.eval x))=ps) (hrun:(Instr.buildSlice ty len ps).run P w=.ok v w') (h:K (a.put o.dst v) w'):Oper.wp P o a w K Q:=by unfold Oper.wp execOp;simp only [ho,hx,Sem.run_bind,Sem.run_pure,hrun,Result.andThen_ok];exact h
def Apart (L:List aO):Prop:=L.Pairwise fun a b=>a.name.toList ≠ b.name.toList
structure Right (L:List aO):Prop where
 lo:1<=L.length
 hi:L.length<=4
 gn:∀s ∈ L,gnF s.name.data.toList=true
 ap:Apart L
 ld:∀s ∈ L,laidB s.cells=true
 tx:∀s ∈ L,∀c ∈ s.cells,dI c.text=0
 ct:bK L<=200
theorem aC2 {o:Option Nat}:¬0<=dK o↔o=none:=by
 cases o with
 | none=>simp [dK]
 | some i=>simp [dK]
theorem wB {L:List aK}:bW L=0↔∀c ∈ L,dI c.text=0:=by
 induction L with
 | nil=>simp [bW]
 | cons a r ih=>
  unfold bW;by_cases h:dI a.text=0
  ·simp [h,ih]
  ·simp [h]
theorem wC {L:List aO}:dO L=0↔∀s ∈ L,bW s.cells=0:=by
 induction L with
 | nil=>simp [dO]
 | cons a r ih=>
  unfold dO;by_cases h:bW a.cells=0
  ·simp [h,ih]
  ·simp [h]
theorem aC3 {L:List aO}:twB L=false↔Apart L:=by
 unfold Apart;rw [List.pairwise_iff_getElem];constructor
 ·intro h i j hi hj hij e;have h1:kU L j=false:=by
   cases hc:kU L j with
   | false=>rfl
   | true=>rw [aEk hj hc] at h;cases h
  unfold kU at h1;simp only [List.getElem?_eq_getElem hj,Bool.not_eq_false',beq_iff_eq] at h1;cases hx:eZ L L[j].name with
  | none=>rw [hx] at h1;simp [dK] at h1
  | some k=>
   rw [hx] at h1;simp only [dK] at h1;obtain rfl:k=j:=by omega
   unfold eZ at hx;rw [List.findIdx?_eq_some_iff_getElem] at hx;obtain⟨_,_,h3⟩:=hx;exact h3 i hij (by simpa using e)
 ·intro h;refine aFt fun j hj=> ?_;unfold kU;simp only [List.getElem?_eq_getElem hj];have:eZ L L[j].name=some j:=iR hj (fun i hi=>by
   have:=h i j (by omega) hj hi;simpa using this) (by simp)
  rw [this];simp [dK]
theorem wD {L:List aO}:fO L=0↔Right L:=by
 unfold fO;constructor
 ·intro h;by_cases h1:L.length=0\/4 < L.length
  ·rw [if_pos h1] at h;simp at h
  rw [if_neg h1] at h;by_cases h2:0<=dK (L.findIdx? lC)
  ·rw [if_pos h2] at h;simp at h
  rw [if_neg h2] at h;by_cases h3:twB L=true
  ·rw [if_pos h3] at h;simp at h
  rw [if_neg h3] at h;by_cases h4:0<=dK (L.findIdx? mlB)
  ·rw [if_pos h4] at h;simp at h
  rw [if_neg h4] at h;by_cases h5:dO L ≠ 0
  ·rw [if_pos h5] at h;exact absurd h h5
  rw [if_neg h5] at h;by_cases h6:200 < bK L
  ·rw [if_pos h6] at h;simp at h
  have g2:=aC2.1 h2;have g4:=aC2.1 h4;rw [List.findIdx?_eq_none_iff] at g2 g4;have g5:dO L=0:=Classical.byContradiction h5;refine ⟨by omega,by omega,fun s hs=> ?_,aC3.1 (by simpa using h3),fun s hs=> ?_,fun s hs=>wB.1 (wC.1 g5 s hs),by omega⟩
  ·have:=g2 s hs;simpa [lC] using this
  ·have:=g4 s hs;simpa [mlB] using this
 ·intro h;have a:=h.lo;have b:=h.hi;rw [if_neg (by omega)];have g2:L.findIdx? lC=none:=by rw [List.findIdx?_eq_none_iff];intro s hs;simp [lC,h.gn s hs]
  have g4:L.findIdx? mlB=none:=by rw [List.findIdx?_eq_none_iff];intro s hs;simp [mlB,h.ld s hs]
  have g3:=aC3.2 h.ap;have g5:dO L=0:=wC.2 fun s hs=>wB.2 (h.tx s hs);have c:=h.ct;rw [g2,g4,g3,g5,if_neg (show ¬0<=dK none by decide),if_neg (show ¬false=true by decide),if_neg (show ¬0<=dK none by decide),if_neg (show ¬((0:Int) ≠ 0) by simp),if_neg (show ¬200 < bK L by omega)]
theorem aFu (L M:List aO):bK (L++M)=bK L+bK M:=by unfold bK;simp
theorem tO (s:aO) (L:List aO):bK (s:: L)=s.cells.length+bK L:=by unfold bK;simp
theorem aC4 {L:List aO} {i:Nat} (hi:i < L.length):L=L.take i++L[i]:: L.drop (i+1)/\L.eraseIdx i=L.take i++L.drop (i+1):=by refine ⟨by rw [<-List.drop_eq_getElem_cons hi,List.take_append_drop],List.eraseIdx_eq_take_drop_succ L i⟩
theorem aGF {L:List aK} {t:aK} (hR:iB L):(L.any (atB t.row t.col)=true->(L.filter fun d=>ltB d t).length+(L.filter fun d=>ltB t d).length+1=L.length)/\(L.any (atB t.row t.col)=false->(L.filter fun d=>ltB d t).length+(L.filter fun d=>ltB t d).length=L.length):=by
 induction L with
 | nil=>simp
 | cons a r ih=>
  unfold iB at hR;rw [List.pairwise_cons] at hR;obtain⟨i1,i2⟩:=ih hR.2;rcases mH a t with ⟨_,e⟩ | ⟨_,e1,e2⟩ | ⟨_,e⟩
  ·have f1:ltB a t=true:=gK.2 e;have f2:ltB t a=false:=iT e.ne;have f3:atB t.row t.col a=false:=by unfold Lt at e;simp [atB];omega
   rw [List.any_cons,f3,Bool.false_or,List.filter_cons,if_pos f1,List.filter_cons,if_neg (by simp [f2]),List.length_cons,List.length_cons];exact⟨fun h=>by have:=i1 h;omega,fun h=>by have:=i2 h;omega⟩
  ·have f1:ltB a t=false:=iT (by unfold Lt;omega);have f2:ltB t a=false:=iT (by unfold Lt;omega);have f3:atB t.row t.col a=true:=by simp [atB,e1,e2]
   have f4:r.any (atB t.row t.col)=false:=by rw [List.any_eq_false];intro d hd;have:=hR.1 d hd;unfold Lt at this;simp [atB];omega
   rw [List.any_cons,f3,Bool.true_or,List.filter_cons,if_neg (by simp [f1]),List.filter_cons,if_neg (by simp [f2]),List.length_cons];exact⟨fun _=>by have:=i2 f4;omega,fun h=>by cases h⟩
  ·have f1:ltB a t=false:=iT e.ne;have f2:ltB t a=true:=gK.2 e;have f3:atB t.row t.col a=false:=by unfold Lt at e;simp [atB];omega
   rw [List.any_cons,f3,Bool.false_or,List.filter_cons,if_neg (by simp [f1]),List.filter_cons,if_pos f2,List.length_cons,List.length_cons];exact⟨fun h=>by have:=i1 h;omega,fun h=>by have:=i2 h;omega⟩
theorem aLE {L:List aK} {t:aK} (hR:iB L):((dU L t).length:Int)=L.length+(if t.text.toList==[] then 0 else 1) - (if L.any (atB t.row t.col) then 1 else 0):=by
 obtain⟨h1,h2⟩:=aGF (t:=t) hR;unfold dU;rw [List.length_append,List.length_append];cases ha:L.any (atB t.row t.col) with
 | true=>
  have:=h1 ha;cases ht:t.text.toList==[] <;> simp <;> omega
 | false=>
  have:=h2 ha;cases ht:t.text.toList==[] <;> simp <;> omega
theorem put_mem {L:List aK} {t d:aK} (h:d ∈ dU L t):d ∈ L\/(d=t/\t.text.toList ≠ []):=by
 unfold dU at h;rw [List.mem_append,List.mem_append] at h;rcases h with h | h | h
 ·exact .inl (List.mem_filter.1 h).1
 ·split at h
  ·cases h
  ·rename_i hne
   exact .inr ⟨List.mem_singleton.1 h,by simpa using hne⟩
 ·exact .inl (List.mem_filter.1 h).1
abbrev aBy (L:List aO) (i:Nat) (t:aK):List aO:=L.modify i fun s=>⟨s.name,dU s.cells t⟩
theorem zG {L:List aO} {i:Nat} (hi:i < L.length) (t:aK):aBy L i t=L.take i++⟨L[i].name,dU L[i].cells t⟩:: L.drop (i+1):=by rw [aBy,List.modify_eq_take_cons_drop hi]
theorem mQ {L:List aO} {i:Nat} (hi:i < L.length) {t:aK} {s:aO} (h:s ∈ aBy L i t):s ∈ L\/s=⟨L[i].name,dU L[i].cells t⟩:=by
 rw [zG hi,List.mem_append,List.mem_cons] at h;rcases h with h | h | h
 ·exact .inl (List.mem_of_mem_take h)
 ·exact .inr h
 ·exact .inl (List.mem_of_mem_drop h)
theorem aEo (L:List aO) (i:Nat) (t:aK):(aBy L i t).map (·.name)=L.map (·.name):=by
 apply List.ext_getElem?
 intro k;simp only [List.getElem?_map,aBy,List.getElem?_modify];cases L[k]? with
 | none=>rfl
 | some s=>by_cases e:i=k <;> simp [e]
theorem aJq {L:List aO} {i:Nat} (hi:i < L.length) (t:aK):bK (aBy L i t)+L[i].cells.length=bK L+(dU L[i].cells t).length:=by
 obtain⟨e1,_⟩:=aC4 hi;have hc:bK L=bK (L.take i)+(L[i].cells.length+bK (L.drop (i+1))):=by
  conv=>lhs;rw [e1]
  rw [aFu,tO]
 rw [zG hi,aFu,tO];dsimp only;omega
theorem wE {L:List aO}:Apart L↔(L.map fun s=>s.name).Pairwise fun a b=>a.toList ≠ b.toList:=by unfold Apart;rw [List.pairwise_map]
theorem wF {L:List aO} (h:Right L):∀s ∈ L,iB s.cells:=fun s hs=>(sQ.1 (h.ld s hs)).2
theorem aGG {L:List aO} {i:Nat} (h:Right L) (hi:i < L.length) {t:aK} (hin:iZ t.row t.col=true) (hm:dI t.text=0) (hf:t.text.toList ≠ []->200<=bK L->L[i].cells.any (atB t.row t.col)=true):Right (aBy L i t):=by
 have hl:(aBy L i t).length=L.length:=by simp [aBy]
 have a:=h.lo;have b:=h.hi;have hR:=wF h _ (List.getElem_mem hi);have hld:=sQ.1 (h.ld _ (List.getElem_mem hi));refine ⟨by omega,by omega,fun s hs=> ?_, ?_,fun s hs=> ?_,fun s hs c hc=> ?_, ?_⟩
 ·rcases mQ hi hs with hs | rfl
  ·exact h.gn s hs
  ·exact h.gn L[i] (List.getElem_mem hi)
 ·rw [wE,aEo];exact wE.1 h.ap
 ·rcases mQ hi hs with hs | rfl
  ·exact h.ld s hs
  ·refine sQ.2 ⟨fun c hc=> ?_,aIB hR⟩;rcases put_mem hc with hc | ⟨rfl,hne⟩
   ·exact hld.1 c hc
   ·exact ⟨hin,hne⟩
 ·rcases mQ hi hs with hs | rfl
  ·exact h.tx s hs c hc
  ·rcases put_mem hc with hc | ⟨rfl,_⟩
   ·exact h.tx _ (List.getElem_mem hi) c hc
   ·exact hm
 ·have c:=h.ct;have e:=aJq hi t;have p:=aLE (t:=t) hR;cases ht:t.text.toList==[] with
  | true=>
   rw [ht] at p;simp only [if_true] at p;split at p <;> omega
  | false=>
   have htn:t.text.toList ≠ []:=by simpa using ht
   rw [ht] at p;by_cases hc:200<=bK L
   ·rw [hf htn hc] at p;simp at p;omega
   ·simp at p;split at p <;> omega
end Go.Proofs.YtlhoklhjbpkgpaaGreatDoor.Sh
namespace Go.Proofs.YtlhoklhjbpkgpaaGreatDoor.Sh
open Go.RowKit
theorem aPi:Tryz.prog.underlying 57=some (.struct (Tryz.prog.fieldsOf 57)):=by kernel_rfl
theorem aOe:Tryz.prog.stoodInHeld 57=false:=by kernel_rfl
theorem aLF:(Tryz.prog.fieldsOf 57).toList=[{ name:= "Row",type:=3,offset:=0,embedded:=false,tag:= "",pkgPath:= "",byteOffset:=0 },{ name:= "Col",type:=3,offset:=1,embedded:=false,tag:= "",pkgPath:= "",byteOffset:=8 },{ name:= "Text",type:=9,offset:=2,embedded:=false,tag:= "",pkgPath:= "",byteOffset:=16 }]:=by kernel_rfl
theorem aPj:Tryz.prog.underlying 89=some (.struct (Tryz.prog.fieldsOf 89)):=by kernel_rfl
theorem aOf:Tryz.prog.stoodInHeld 89=false:=by kernel_rfl
theorem nfields:(Tryz.prog.fieldsOf 89).toList=[{ name:= "Scope",type:=9,offset:=0,embedded:=false,tag:= "",pkgPath:= "",byteOffset:=0 },{ name:= "Name",type:=9,offset:=1,embedded:=false,tag:= "",pkgPath:= "",byteOffset:=16 },{ name:= "Text",type:=9,offset:=2,embedded:=false,tag:= "",pkgPath:= "",byteOffset:=32 }]:=by kernel_rfl
theorem aPk:Tryz.prog.underlying 62=some (.struct (Tryz.prog.fieldsOf 62)):=by kernel_rfl
theorem aOg:Tryz.prog.stoodInHeld 62=false:=by kernel_rfl
theorem aLG:(Tryz.prog.fieldsOf 62).toList=[{ name:= "Kind",type:=3,offset:=0,embedded:=false,tag:= "",pkgPath:= "",byteOffset:=0 },{ name:= "N",type:=3,offset:=1,embedded:=false,tag:= "",pkgPath:= "",byteOffset:=8 },{ name:= "S",type:=9,offset:=2,embedded:=false,tag:= "",pkgPath:= "",byteOffset:=16 }]:=by kernel_rfl
theorem aPl:Tryz.prog.underlying 91=some (.struct (Tryz.prog.fieldsOf 91)):=by kernel_rfl
theorem aOh:Tryz.prog.stoodInHeld 91=false:=by kernel_rfl
theorem aLH:(Tryz.prog.fieldsOf 91).toList=[{ name:= "Book",type:=9,offset:=0,embedded:=false,tag:= "",pkgPath:= "",byteOffset:=0 },{ name:= "Sheet",type:=9,offset:=1,embedded:=false,tag:= "",pkgPath:= "",byteOffset:=16 },{ name:= "Row",type:=3,offset:=2,embedded:=false,tag:= "",pkgPath:= "",byteOffset:=32 },{ name:= "Col",type:=3,offset:=3,embedded:=false,tag:= "",pkgPath:= "",byteOffset:=40 },{ name:= "Value",type:=62,offset:=4,embedded:=false,tag:= "",pkgPath:= "",byteOffset:=48 }]:=by kernel_rfl
def fP (a b:aK):Bool:=a.row==b.row && (a.col==b.col && a.text.toList==b.text.toList)
def fQ (a b:eY):Bool:=a.scope.toList==b.scope.toList && (a.name.toList==b.name.toList && a.text.toList==b.text.toList)
def zH (a b:sP):Bool:=a.kind==b.kind && (a.n==b.n && a.s.toList==b.s.toList)
def fT (a b:dW):Bool:=a.book.toList==b.book.toList && (a.eP.toList==b.eP.toList && (a.row==b.row && (a.col==b.col && zH a.value b.value)))
theorem aPm (a b:aK) (W:World):(Op.equalIn 10000 57 (cellV a) (cellV b)).run Tryz.prog W=.ok (fP a b) W:=by
 rw [run_equalIn_struct W 9999 57 _ _ aPi aOe,aLF];have h9:=Tryz.underlying9;have a9:=Tryz.isAgg9;have z9:=Tryz.sizeOf9;have h3:=Tryz.underlying3;have a3:=Tryz.isAgg3;have z3:=Tryz.sizeOf3;obtain⟨r1,c1,t1⟩:=a;obtain⟨r2,c2,t2⟩:=b;unfold fP;simp only [Op.eqFields];cases e1:r1==r2
 ·go_simp
 ·cases e2:c1==c2
  ·go_simp
  ·cases e3:t1.toList==t2.toList
   ·go_simp
   ·go_simp
theorem cne (a b:aK) (W:World):(binOp .neq 57 (cellV a) (cellV b)).run Tryz.prog W=.ok (.bool (!fP a b)) W:=by rw [run_neq_struct,aPm];rfl
theorem aPn (a b:eY) (W:World):(Op.equalIn 10000 89 (jZ a) (jZ b)).run Tryz.prog W=.ok (fQ a b) W:=by
 rw [run_equalIn_struct W 9999 89 _ _ aPj aOf,nfields];have h9:=Tryz.underlying9;have a9:=Tryz.isAgg9;have z9:=Tryz.sizeOf9;obtain⟨r1,c1,t1⟩:=a;obtain⟨r2,c2,t2⟩:=b;unfold fQ;simp only [Op.eqFields];cases e1:r1.toList==r2.toList
 ·go_simp
 ·cases e2:c1.toList==c2.toList
  ·go_simp
  ·cases e3:t1.toList==t2.toList
   ·go_simp
   ·go_simp
theorem nne (a b:eY) (W:World):(binOp .neq 89 (jZ a) (jZ b)).run Tryz.prog W=.ok (.bool (!fQ a b)) W:=by rw [run_neq_struct,aPn];rfl
theorem aPo (k:Nat) (a b:sP) (W:World):(Op.equalIn (k+1+1) 62 (aKW a) (aKW b)).run Tryz.prog W=.ok (zH a b) W:=by
 rw [run_equalIn_struct W (k+1) 62 _ _ aPk aOg,aLG];have h9:=Tryz.underlying9;have a9:=Tryz.isAgg9;have z9:=Tryz.sizeOf9;have h3:=Tryz.underlying3;have a3:=Tryz.isAgg3;have z3:=Tryz.sizeOf3;obtain⟨r1,c1,t1⟩:=a;obtain⟨r2,c2,t2⟩:=b;unfold zH;simp only [Op.eqFields];cases e1:r1==r2
 ·go_simp
 ·cases e2:c1==c2
  ·go_simp
  ·cases e3:t1.toList==t2.toList
   ·go_simp
   ·go_simp
theorem aPp (a b:dW) (W:World):(Op.equalIn 10000 91 (kC a) (kC b)).run Tryz.prog W=.ok (fT a b) W:=by
 rw [run_equalIn_struct W 9999 91 _ _ aPl aOh,aLH];have h9:=Tryz.underlying9;have a9:=Tryz.isAgg9;have z9:=Tryz.sizeOf9;have h3:=Tryz.underlying3;have a3:=Tryz.isAgg3;have z3:=Tryz.sizeOf3;have a62:=Tryz.isAgg62;have z62:=Tryz.sizeOf62;obtain⟨b1,s1,r1,c1,v1⟩:=a;obtain⟨b2,s2,r2,c2,v2⟩:=b;have hv:∀W,(Op.equalIn 9999 62 (.agg #[.int .i64 v1.kind,.int .i64 v1.n,.string v1.s]) (.agg #[.int .i64 v2.kind,.int .i64 v2.n,.string v2.s])).run Tryz.prog W=.ok (zH v1 v2) W:=fun W=>aPo 9997 v1 v2 W;unfold fT;simp only [Op.eqFields];cases e1:b1.toList==b2.toList
 ·go_simp
 ·cases e2:s1.toList==s2.toList
  ·go_simp
  ·cases e3:r1==r2
   ·go_simp
   ·cases e4:c1==c2
    ·go_simp
    ·generalize zH v1 v2=ve at *;cases ve <;> go_simp
theorem lne (a b:dW) (W:World):(binOp .neq 91 (kC a) (kC b)).run Tryz.prog W=.ok (.bool (!fT a b)) W:=by rw [run_neq_struct,aPp];rfl
def lU {α:Type} (eq:α->α->Bool) (L M:List α) (i:Nat):Bool:=match L[i]?,M[i]? with
 | some x,some y=>eq x y
 | _,_=>true
def eqL {α:Type} (eq:α->α->Bool) (L M:List α):Bool:=decide (L.length=M.length) && (List.range L.length).all (lU eq L M)
theorem wV {α:Type} {eq:α->α->Bool} {L M:List α} (h:L.length ≠ M.length):eqL eq L M=false:=by unfold eqL;simp [h]
theorem wW {α:Type} {eq:α->α->Bool} {L M:List α} (h:L.length=M.length) (k:∀i,i < L.length->lU eq L M i=true):eqL eq L M=true:=by unfold eqL;simp only [h,decide_true,Bool.true_and];rw [List.all_eq_true];intro i hi;exact k i (by rw [h];exact List.mem_range.1 hi)
theorem aBz {α:Type} {eq:α->α->Bool} {L M:List α} {i:Nat} (hi:i < L.length) (k:lU eq L M i=false):eqL eq L M=false:=by unfold eqL;rw [Bool.and_eq_false_iff];right;rw [List.all_eq_false];exact⟨i,List.mem_range.2 hi,by simp [k]⟩
theorem aGH {lo hi lo2 hi2:Nat} {w:World} {a b:Option Addr} {c d:Nat} {L M:List aK} (h:Cls lo hi w (.slice a L.length c) L) (hhi:hi<=w.heap.size) (h2:Cls lo2 hi2 w (.slice b M.length d) M) (hhi2:hi2<=w.heap.size):
  CR 103 #[.slice a L.length c,.slice b M.length d] w (.bool (eqL fP L M)):=by
 obtain⟨_,_,he,hz1,hz2⟩:=h.slice;cases he
 have hlen:L.length<=9223372036854775807:=by unfold maxLen at hz2;omega
 have H1:Hid (Cls lo hi w (.slice a L.length c) L):=h;have H2:Hid (Cls lo2 hi2 w (.slice b M.length d) M):=h2;have HEA:Hid (∀k (hk:k < L.length) (hm:k < M.length),lU fP L M k=fP L[k] M[k]):=fun k hk hm=>by unfold lU;simp only [List.getElem?_eq_getElem hk,List.getElem?_eq_getElem hm]
 generalize hO:eqL fP L M=eb;have HO:Hid (eqL fP L M=eb):=hO;have hgd:Tryz.prog.eqGuardType Tryz.prog.depth 57=false:=by kernel_rfl
 clear h h2 hz1 hz2 hO;by_cases hlm:L.length=M.length
 ·have hne:((L.length:Int) !=(M.length:Int))=false:=by simp [hlm]
  have HLM:Hid (L.length=M.length):=hlm;clear hlm;go_enter Tryz.func103,Tryz.ntmps103;go_wp2;go_loopw [13] (fun i wr=>∃(k:Nat),k<=L.length/\i=.int .i64 (k:Nat)/\Hid (∀j,j < k->lU fP L M j=true)/\Hid (Below w.heap.size w wr)) (fun i _=>L.length - (intOf i).toNat)
  case atStart=>exact⟨0,Nat.zero_le _,rfl,fun j hj=>by omega,Below.refl _ _⟩
  case round=>
   obtain⟨k,hk,rfl,HA,HD⟩:=hrel;by_cases hkL:k < L.length
   ·have hki:(k:Int) < L.length:=by omega
    have hkM:k < M.length:=by rw [<-HLM.out];exact hkL
    have hkm:(k:Int) < M.length:=by omega
    have iJ:k < 9223372036854775807:=by omega
    have HDd:Hid (Below w.heap.size w wr.drew):=HD.out.drew;obtain⟨a',_,_,rfl,rfl,_,R1, -, -⟩:=(H1.out.below hhi HDd.out).runs hkL;obtain⟨b',_,_,rfl,rfl,_,R2, -, -⟩:=(H2.out.below hhi2 HDd.out).runs hkM;have HX:Hid (fP L[k] M[k]=true->∀j,j < k+1->lU fP L M j=true):=fun e j hj=>by
     by_cases hjk:j=k
     ·subst hjk;rw [HEA.out j hkL hkM];exact e
     ·exact HA.out j (by omega)
    have HY:Hid (fP L[k] M[k]=false->eb=false):=fun e=>by rw [<-HO.out];exact aBz hkL (by rw [HEA.out k hkL hkM];exact e)
    have NE:=fun W=>cne L[k] M[k] W;have HS:Hid ((Instr.loadAt 57 (.pointer (some (a'.add (k * 3))))).run Tryz.prog wr.drew=.ok (cellV L[k]) wr.drew/\(Instr.loadAt 57 (.pointer (some (b'.add (k * 3))))).run Tryz.prog wr.drew=.ok (cellV M[k]) wr.drew):=⟨R1.out,R2.out⟩
    clear R1 R2;generalize L[k]=x at *;generalize M[k]=y at *;cases hq:fP x y with
    | true=>
     rw [hq] at NE;have HX2:Hid _:=HX.out hq;clear HX HY;go_wp2;refine aP (fun u=>(Instr.loadAt 57 (.pointer (some (a'.add (k * 3))))).run Tryz.prog u=.ok (cellV x) u/\(Instr.loadAt 57 (.pointer (some (b'.add (k * 3))))).run Tryz.prog u=.ok (cellV y) u) (fun j=>false) (by kernel_rfl) ?_;refine dwp 0 ((.slice (some a') L.length c)) ?_;refine dwp 1 ((.int .i64 (k:Int))) ?_;refine dwp 2 ((.pointer (some (a'.add (k * 3))))) ?_;refine dwl 3 ((cellV x)) ?_ (hS:=HS.out) (hy:=(fun u hSu=>aG rfl rfl hSu.1));refine dwp 4 ((.slice (some b') M.length d)) ?_;refine dwp 5 ((.int .i64 (k:Int))) ?_;refine dwp 6 ((.pointer (some (b'.add (k * 3))))) ?_;refine dwl 7 ((cellV y)) ?_ (hS:=HS.out) (hy:=(fun u hSu=>aG rfl rfl hSu.2));refine dwp 8 ((.bool false)) ?_;refine aR (by kernel_rfl) ?_ _;go_wp2;go_roundw
     case rel=>exact⟨k+1,by omega,by go_num,HX2,HDd⟩
     case measure=>simp [intOf];omega
    | false=>
     rw [hq] at NE;obtain rfl:=HY.out hq;clear HX HY;go_wp2;refine aP (fun u=>(Instr.loadAt 57 (.pointer (some (a'.add (k * 3))))).run Tryz.prog u=.ok (cellV x) u/\(Instr.loadAt 57 (.pointer (some (b'.add (k * 3))))).run Tryz.prog u=.ok (cellV y) u) (fun j=>false) (by kernel_rfl) ?_;refine dwp 0 ((.slice (some a') L.length c)) ?_;refine dwp 1 ((.int .i64 (k:Int))) ?_;refine dwp 2 ((.pointer (some (a'.add (k * 3))))) ?_;refine dwl 3 ((cellV x)) ?_ (hS:=HS.out) (hy:=(fun u hSu=>aG rfl rfl hSu.1));refine dwp 4 ((.slice (some b') M.length d)) ?_;refine dwp 5 ((.int .i64 (k:Int))) ?_;refine dwp 6 ((.pointer (some (b'.add (k * 3))))) ?_;refine dwl 7 ((cellV y)) ?_ (hS:=HS.out) (hy:=(fun u hSu=>aG rfl rfl hSu.2));refine dwp 8 ((.bool true)) ?_;refine aR (by kernel_rfl) ?_ _;go_wp2;go_ret;exact⟨rfl,HDd.out⟩
   ·have hki:¬(k:Int) < L.length:=by omega
    obtain rfl:eb=true:=by rw [<-HO.out];exact wW HLM.out fun i hi=>HA.out i (by omega)
    go_wp2;go_ret;exact⟨rfl,HD.out⟩
 ·have hne:((L.length:Int) !=(M.length:Int))=true:=by simp only [bne_iff_ne];omega
  obtain rfl:eb=false:=by rw [<-HO.out];exact wV hlm
  clear hlm HEA HO;go_enter Tryz.func103,Tryz.ntmps103;go_wp2;go_ret;exact⟨rfl,Below.refl _ _⟩
theorem aJr {lo hi lo2 hi2:Nat} {w:World} {a b:Option Addr} {c d:Nat} {L M:List eY} (h:Nms lo hi w (.slice a L.length c) L) (hhi:hi<=w.heap.size) (h2:Nms lo2 hi2 w (.slice b M.length d) M) (hhi2:hi2<=w.heap.size):
  CR 68 #[.slice a L.length c,.slice b M.length d] w (.bool (eqL fQ L M)):=by
 obtain⟨_,_,he,hz1,hz2⟩:=h.slice;cases he
 have hlen:L.length<=9223372036854775807:=by unfold maxLen at hz2;omega
 have H1:Hid (Nms lo hi w (.slice a L.length c) L):=h;have H2:Hid (Nms lo2 hi2 w (.slice b M.length d) M):=h2;have HEA:Hid (∀k (hk:k < L.length) (hm:k < M.length),lU fQ L M k=fQ L[k] M[k]):=fun k hk hm=>by unfold lU;simp only [List.getElem?_eq_getElem hk,List.getElem?_eq_getElem hm]
 generalize hO:eqL fQ L M=eb;have HO:Hid (eqL fQ L M=eb):=hO;have hgd:Tryz.prog.eqGuardType Tryz.prog.depth 89=false:=by kernel_rfl
 clear h h2 hz1 hz2 hO;by_cases hlm:L.length=M.length
 ·have hne:((L.length:Int) !=(M.length:Int))=false:=by simp [hlm]
  have HLM:Hid (L.length=M.length):=hlm;clear hlm;go_enter Tryz.func68,Tryz.ntmps68;go_wp2;go_loopw [13] (fun i wr=>∃(k:Nat),k<=L.length/\i=.int .i64 (k:Nat)/\Hid (∀j,j < k->lU fQ L M j=true)/\Hid (Below w.heap.size w wr)) (fun i _=>L.length - (intOf i).toNat)
  case atStart=>exact⟨0,Nat.zero_le _,rfl,fun j hj=>by omega,Below.refl _ _⟩
  case round=>
   obtain⟨k,hk,rfl,HA,HD⟩:=hrel;by_cases hkL:k < L.length
   ·have hki:(k:Int) < L.length:=by omega
    have hkM:k < M.length:=by rw [<-HLM.out];exact hkL
    have hkm:(k:Int) < M.length:=by omega
    have iJ:k < 9223372036854775807:=by omega
    have HDd:Hid (Below w.heap.size w wr.drew):=HD.out.drew;obtain⟨a',_,_,rfl,rfl,_,R1, -, -⟩:=(H1.out.below hhi HDd.out).runs hkL;obtain⟨b',_,_,rfl,rfl,_,R2, -, -⟩:=(H2.out.below hhi2 HDd.out).runs hkM;have HX:Hid (fQ L[k] M[k]=true->∀j,j < k+1->lU fQ L M j=true):=fun e j hj=>by
     by_cases hjk:j=k
     ·subst hjk;rw [HEA.out j hkL hkM];exact e
     ·exact HA.out j (by omega)
    have HY:Hid (fQ L[k] M[k]=false->eb=false):=fun e=>by rw [<-HO.out];exact aBz hkL (by rw [HEA.out k hkL hkM];exact e)
    have NE:=fun W=>nne L[k] M[k] W;have HS:Hid ((Instr.loadAt 89 (.pointer (some (a'.add (k * 3))))).run Tryz.prog wr.drew=.ok (jZ L[k]) wr.drew/\(Instr.loadAt 89 (.pointer (some (b'.add (k * 3))))).run Tryz.prog wr.drew=.ok (jZ M[k]) wr.drew):=⟨R1.out,R2.out⟩
    clear R1 R2;generalize L[k]=x at *;generalize M[k]=y at *;cases hq:fQ x y with
    | true=>
     rw [hq] at NE;have HX2:Hid _:=HX.out hq;clear HX HY;go_wp2;refine aP (fun u=>(Instr.loadAt 89 (.pointer (some (a'.add (k * 3))))).run Tryz.prog u=.ok (jZ x) u/\(Instr.loadAt 89 (.pointer (some (b'.add (k * 3))))).run Tryz.prog u=.ok (jZ y) u) (fun j=>false) (by kernel_rfl) ?_;refine dwp 0 ((.slice (some a') L.length c)) ?_;refine dwp 1 ((.int .i64 (k:Int))) ?_;refine dwp 2 ((.pointer (some (a'.add (k * 3))))) ?_;refine dwl 3 ((jZ x)) ?_ (hS:=HS.out) (hy:=(fun u hSu=>aG rfl rfl hSu.1));refine dwp 4 ((.slice (some b') M.length d)) ?_;refine dwp 5 ((.int .i64 (k:Int))) ?_;refine dwp 6 ((.pointer (some (b'.add (k * 3))))) ?_;refine dwl 7 ((jZ y)) ?_ (hS:=HS.out) (hy:=(fun u hSu=>aG rfl rfl hSu.2));refine dwp 8 ((.bool false)) ?_;refine aR (by kernel_rfl) ?_ _;go_wp2;go_roundw
     case rel=>exact⟨k+1,by omega,by go_num,HX2,HDd⟩
     case measure=>simp [intOf];omega
    | false=>
     rw [hq] at NE;obtain rfl:=HY.out hq;clear HX HY;go_wp2;refine aP (fun u=>(Instr.loadAt 89 (.pointer (some (a'.add (k * 3))))).run Tryz.prog u=.ok (jZ x) u/\(Instr.loadAt 89 (.pointer (some (b'.add (k * 3))))).run Tryz.prog u=.ok (jZ y) u) (fun j=>false) (by kernel_rfl) ?_;refine dwp 0 ((.slice (some a') L.length c)) ?_;refine dwp 1 ((.int .i64 (k:Int))) ?_;refine dwp 2 ((.pointer (some (a'.add (k * 3))))) ?_;refine dwl 3 ((jZ x)) ?_ (hS:=HS.out) (hy:=(fun u hSu=>aG rfl rfl hSu.1));refine dwp 4 ((.slice (some b') M.length d)) ?_;refine dwp 5 ((.int .i64 (k:Int))) ?_;refine dwp 6 ((.pointer (some (b'.add (k * 3))))) ?_;refine dwl 7 ((jZ y)) ?_ (hS:=HS.out) (hy:=(fun u hSu=>aG rfl rfl hSu.2));refine dwp 8 ((.bool true)) ?_;refine aR (by kernel_rfl) ?_ _;go_wp2;go_ret;exact⟨rfl,HDd.out⟩
   ·have hki:¬(k:Int) < L.length:=by omega
    obtain rfl:eb=true:=by rw [<-HO.out];exact wW HLM.out fun i hi=>HA.out i (by omega)
    go_wp2;go_ret;exact⟨rfl,HD.out⟩
 ·have hne:((L.length:Int) !=(M.length:Int))=true:=by simp only [bne_iff_ne];omega
  obtain rfl:eb=false:=by rw [<-HO.out];exact wV hlm
  clear hlm HEA HO;go_enter Tryz.func68,Tryz.ntmps68;go_wp2;go_ret;exact⟨rfl,Below.refl _ _⟩
theorem aJs {lo hi lo2 hi2:Nat} {w:World} {a b:Option Addr} {c d:Nat} {L M:List dW} (h:Lks lo hi w (.slice a L.length c) L) (hhi:hi<=w.heap.size) (h2:Lks lo2 hi2 w (.slice b M.length d) M) (hhi2:hi2<=w.heap.size):
  CR 69 #[.slice a L.length c,.slice b M.length d] w (.bool (eqL fT L M)):=by
 obtain⟨_,_,he,hz1,hz2⟩:=h.slice;cases he
 have hlen:L.length<=9223372036854775807:=by unfold maxLen at hz2;omega
 have H1:Hid (Lks lo hi w (.slice a L.length c) L):=h;have H2:Hid (Lks lo2 hi2 w (.slice b M.length d) M):=h2;have HEA:Hid (∀k (hk:k < L.length) (hm:k < M.length),lU fT L M k=fT L[k] M[k]):=fun k hk hm=>by unfold lU;simp only [List.getElem?_eq_getElem hk,List.getElem?_eq_getElem hm]
 generalize hO:eqL fT L M=eb;have HO:Hid (eqL fT L M=eb):=hO;have hgd:Tryz.prog.eqGuardType Tryz.prog.depth 91=false:=by kernel_rfl
 clear h h2 hz1 hz2 hO;by_cases hlm:L.length=M.length
 ·have hne:((L.length:Int) !=(M.length:Int))=false:=by simp [hlm]
  have HLM:Hid (L.length=M.length):=hlm;clear hlm;go_enter Tryz.func69,Tryz.ntmps69;go_wp2;go_loopw [13] (fun i wr=>∃(k:Nat),k<=L.length/\i=.int .i64 (k:Nat)/\Hid (∀j,j < k->lU fT L M j=true)/\Hid (Below w.heap.size w wr)) (fun i _=>L.length - (intOf i).toNat)
  case atStart=>exact⟨0,Nat.zero_le _,rfl,fun j hj=>by omega,Below.refl _ _⟩
  case round=>
   obtain⟨k,hk,rfl,HA,HD⟩:=hrel;by_cases hkL:k < L.length
   ·have hki:(k:Int) < L.length:=by omega
    have hkM:k < M.length:=by rw [<-HLM.out];exact hkL
    have hkm:(k:Int) < M.length:=by omega
    have iJ:k < 9223372036854775807:=by omega
    have HDd:Hid (Below w.heap.size w wr.drew):=HD.out.drew;obtain⟨a',_,_,rfl,rfl,_,R1, -, -⟩:=(H1.out.below hhi HDd.out).runs hkL;obtain⟨b',_,_,rfl,rfl,_,R2, -, -⟩:=(H2.out.below hhi2 HDd.out).runs hkM;have HX:Hid (fT L[k] M[k]=true->∀j,j < k+1->lU fT L M j=true):=fun e j hj=>by
     by_cases hjk:j=k
     ·subst hjk;rw [HEA.out j hkL hkM];exact e
     ·exact HA.out j (by omega)
    have HY:Hid (fT L[k] M[k]=false->eb=false):=fun e=>by rw [<-HO.out];exact aBz hkL (by rw [HEA.out k hkL hkM];exact e)
    have NE:=fun W=>lne L[k] M[k] W;have HS:Hid ((Instr.loadAt 91 (.pointer (some (a'.add (k * 7))))).run Tryz.prog wr.drew=.ok (kC L[k]) wr.drew/\(Instr.loadAt 91 (.pointer (some (b'.add (k * 7))))).run Tryz.prog wr.drew=.ok (kC M[k]) wr.drew):=⟨R1.out,R2.out⟩
    clear R1 R2;generalize L[k]=x at *;generalize M[k]=y at *;cases hq:fT x y with
    | true=>
     rw [hq] at NE;have HX2:Hid _:=HX.out hq;clear HX HY;go_wp2;refine aP (fun u=>(Instr.loadAt 91 (.pointer (some (a'.add (k * 7))))).run Tryz.prog u=.ok (kC x) u/\(Instr.loadAt 91 (.pointer (some (b'.add (k * 7))))).run Tryz.prog u=.ok (kC y) u) (fun j=>false) (by kernel_rfl) ?_;refine dwp 0 ((.slice (some a') L.length c)) ?_;refine dwp 1 ((.int .i64 (k:Int))) ?_;refine dwp 2 ((.pointer (some (a'.add (k * 7))))) ?_;refine dwl 3 ((kC x)) ?_ (hS:=HS.out) (hy:=(fun u hSu=>aG rfl rfl hSu.1));refine dwp 4 ((.slice (some b') M.length d)) ?_;refine dwp 5 ((.int .i64 (k:Int))) ?_;refine dwp 6 ((.pointer (some (b'.add (k * 7))))) ?_;refine dwl 7 ((kC y)) ?_ (hS:=HS.out) (hy:=(fun u hSu=>aG rfl rfl hSu.2));refine dwp 8 ((.bool false)) ?_;refine aR (by kernel_rfl) ?_ _;go_wp2;go_roundw
     case rel=>exact⟨k+1,by omega,by go_num,HX2,HDd⟩
     case measure=>simp [intOf];omega
    | false=>
     rw [hq] at NE;obtain rfl:=HY.out hq;clear HX HY;go_wp2;refine aP (fun u=>(Instr.loadAt 91 (.pointer (some (a'.add (k * 7))))).run Tryz.prog u=.ok (kC x) u/\(Instr.loadAt 91 (.pointer (some (b'.add (k * 7))))).run Tryz.prog u=.ok (kC y) u) (fun j=>false) (by kernel_rfl) ?_;refine dwp 0 ((.slice (some a') L.length c)) ?_;refine dwp 1 ((.int .i64 (k:Int))) ?_;refine dwp 2 ((.pointer (some (a'.add (k * 7))))) ?_;refine dwl 3 ((kC x)) ?_ (hS:=HS.out) (hy:=(fun u hSu=>aG rfl rfl hSu.1));refine dwp 4 ((.slice (some b') M.length d)) ?_;refine dwp 5 ((.int .i64 (k:Int))) ?_;refine dwp 6 ((.pointer (some (b'.add (k * 7))))) ?_;refine dwl 7 ((kC y)) ?_ (hS:=HS.out) (hy:=(fun u hSu=>aG rfl rfl hSu.2));refine dwp 8 ((.bool true)) ?_;refine aR (by kernel_rfl) ?_ _;go_wp2;go_ret;exact⟨rfl,HDd.out⟩
   ·have hki:¬(k:Int) < L.length:=by omega
    obtain rfl:eb=true:=by rw [<-HO.out];exact wW HLM.out fun i hi=>HA.out i (by omega)
    go_wp2;go_ret;exact⟨rfl,HD.out⟩
 ·have hne:((L.length:Int) !=(M.length:Int))=true:=by simp only [bne_iff_ne];omega
  obtain rfl:eb=false:=by rw [<-HO.out];exact wV hlm
  clear hlm HEA HO;go_enter Tryz.func69,Tryz.ntmps69;go_wp2;go_ret;exact⟨rfl,Below.refl _ _⟩
def eX (a b:aO):Bool:=a.name.toList==b.name.toList && eqL fP a.cells b.cells
def iD (x y:aU):Bool:=eqL eX x.aA y.aA && (eqL fQ x.names y.names && eqL fT x.links y.links)
abbrev shO (n:ByteArray) (a:Option Addr) (l c:Nat):Obj:=.cells #[.string n,.slice a l c] 78
theorem ldS {u:World} {g:Nat} {y:aO} {v:Value} {z:Nat × Nat} (h:u.heap[g]? =some (.cells (bN y v).toArray 78 z)):(Instr.loadAt 78 (pt g)).run Tryz.prog u=.ok (aD1 y v) u:=by
 have hi:(Tryz.prog.info? 78).map (·.size)=some (bN y v).toArray.size:=by show _=some 2;kernel_rfl
 simp only [Instr.loadAt,Instr.sureAddr,Sem.run_bind,Sem.run_pure,Result.andThen_ok,run_loadVar_row u g 78 78 _ z _ h Tryz.underlying78 rfl hi];rfl
theorem aGI {lo hi lo2 hi2:Nat} {w:World} {n m:ByteArray} {a b:Option Addr} {c d:Nat} {L M:List aK} (h:Cls lo hi w (.slice a L.length c) L) (hhi:hi<=w.heap.size) (h2:Cls lo2 hi2 w (.slice b M.length d) M) (hhi2:hi2<=w.heap.size):
  CR 67 #[.agg #[.string n,.slice a L.length c],.agg #[.string m,.slice b M.length d]] w (.bool (n.toList==m.toList && eqL fP L M)):=by
 obtain⟨W,hW⟩:∃W,W=(w.alloc (shO n a L.length c)).alloc (shO m b M.length d):=⟨_,rfl⟩
 have HB:Below w.heap.size w W:=by rw [hW];exact Sh.aD (Sh.aD (Below.refl _ _) (Nat.le_refl _) _) (Nat.le_refl _) _
 have hX0:W.heap[w.heap.size]? =some (shO n a L.length c):=by rw [hW,Below.heap_alloc _ _ _ (by simp)];exact heap_alloc_new w _
 have hX1:W.heap[w.heap.size+1]? =some (shO m b M.length d):=by rw [hW];simpa using heap_alloc_new (w.alloc (shO n a L.length c)) (shO m b M.length d)
 have C:=aGH (h.below hhi HB) (Nat.le_trans hhi HB.size) (h2.below hhi2 HB) (Nat.le_trans hhi2 HB.size);have c00:=aH hX0 (j:=0) rfl;have c01:=aH hX0 (j:=1) rfl;have c10:=aH hX1 (j:=0) rfl;have c11:=aH hX1 (j:=1) rfl;have HBh:Hid _:=HB;rw [hW] at c00 c01 c10 c11;have HW:Hid ((w.alloc (shO n a L.length c)).alloc (shO m b M.length d)=W):=hW.symm;generalize eqL fP L M=eb at *;clear h h2 HB hX0 hX1 hW;cases hn:n.toList==m.toList with
 | false=>
  go_enter Tryz.func67,Tryz.ntmps67;go_wp2;go_ret;exact⟨rfl,by rw [HW.out];exact HBh.out⟩
 | true=>
  go_enter Tryz.func67,Tryz.ntmps67;go_wp2_with (go_at_call 103;rw [HW.out];refine C.mono ?_;clear C;rintro e w1 ⟨rfl,hb⟩;have HB1:Hid _:=Sh.aF HBh.out HBh.out.size hb;clear hb)
  go_ret;exact⟨rfl,HB1.out⟩
theorem aAe {lo hi lo2 hi2:Nat} {w:World} {a b:Option Addr} {c d:Nat} {L M:List aO} (h:Shs lo hi w (.slice a L.length c) L) (hhi:hi<=w.heap.size) (h2:Shs lo2 hi2 w (.slice b M.length d) M) (hhi2:hi2<=w.heap.size):
  CR 66 #[.slice a L.length c,.slice b M.length d,.func (.func 67) #[] #[]] w (.bool (eqL eX L M)):=by
 obtain⟨_,_,he,hz1,hz2⟩:=h.slice;cases he
 have hlen:L.length<=9223372036854775807:=by unfold maxLen at hz2;omega
 have H1:Hid (Shs lo hi w (.slice a L.length c) L):=h;have H2:Hid (Shs lo2 hi2 w (.slice b M.length d) M):=h2;have HEA:Hid (∀k (hk:k < L.length) (hm:k < M.length),lU eX L M k=eX L[k] M[k]):=fun k hk hm=>by unfold lU;simp only [List.getElem?_eq_getElem hk,List.getElem?_eq_getElem hm]
 generalize hO:eqL eX L M=eb;have HO:Hid (eqL eX L M=eb):=hO;clear h h2 hz1 hz2 hO;by_cases hlm:L.length=M.length
 ·have hne:((L.length:Int) !=(M.length:Int))=false:=by simp [hlm]
  have HLM:Hid (L.length=M.length):=hlm;clear hlm;go_enter Tryz.func66,Tryz.ntmps66;go_wp2;go_loopw [17] (fun i wr=>∃(k:Nat),k<=L.length/\i=.int .i64 (k:Nat)/\Hid (∀j,j < k->lU eX L M j=true)/\Hid (Below w.heap.size w wr)) (fun i _=>L.length - (intOf i).toNat)
  case atStart=>exact⟨0,Nat.zero_le _,rfl,fun j hj=>by omega,Below.refl _ _⟩
  case round=>
   obtain⟨k,hk,rfl,HA,HD⟩:=hrel;by_cases hkL:k < L.length
   ·have hki:(k:Int) < L.length:=by omega
    have hkM:k < M.length:=by rw [<-HLM.out];exact hkL
    have hkm:(k:Int) < M.length:=by omega
    have iJ:k < 9223372036854775807:=by omega
    obtain⟨a',cv,_,W,rfl,rfl,hcl,hW,R1,R2, -⟩:=(H1.out.below hhi HD.out).runs hkL;obtain⟨q,e0,rfl,_,_⟩:=hcl.slice;have hbW:Below wr.heap.size wr W:=by rw [hW];exact Sh.aD (Below.refl _ _) (Nat.le_refl _) _
    have HDW:Below w.heap.size w W:=Sh.aF HD.out HD.out.size hbW;obtain⟨b',cv2,_,W2,rfl,rfl,vF,hW2,R3,R4, -⟩:=(H2.out.below hhi2 HDW).runs hkM;obtain⟨q2,e2,rfl,_,_⟩:=vF.slice;have hbW2:Below W.heap.size W W2:=by rw [hW2];exact Sh.aD (Below.refl _ _) (Nat.le_refl _) _
    have HD2:Hid (Below w.heap.size w W2):=Sh.aF HDW HDW.size hbW2;have hs1:W.heap.size=wr.heap.size+1:=by rw [hW];simp
    have hx1:W2.heap[wr.heap.size]? =some (.cells (bN L[k] (.slice q L[k].cells.length e0)).toArray 78):=by rw [hbW2.block _ (by omega),hW];exact heap_alloc_new wr _
    have hx2:W2.heap[W.heap.size]? =some (.cells (bN M[k] (.slice q2 M[k].cells.length e2)).toArray 78):=by rw [hW2];exact heap_alloc_new W _
    have R5:Hid _:=ldS hx1;have R6:Hid _:=ldS hx2;have hw1:=Nat.le_trans hhi HD.out.size;have hw2:=Nat.le_trans hhi2 HDW.size;have C:=aGI (n:=L[k].name) (m:=M[k].name) ((hcl.below hw1 hbW).below (Nat.le_trans hw1 hbW.size) hbW2) (Nat.le_trans (Nat.le_trans hw1 hbW.size) hbW2.size) (vF.below hw2 hbW2) (Nat.le_trans hw2 hbW2.size);have HX:Hid (eX L[k] M[k]=true->∀j,j < k+1->lU eX L M j=true):=fun e j hj=>by
     by_cases hjk:j=k
     ·subst hjk;rw [HEA.out j hkL hkM];exact e
     ·exact HA.out j (by omega)
    have HY:Hid (eX L[k] M[k]=false->eb=false):=fun e=>by rw [<-HO.out];exact aBz hkL (by rw [HEA.out k hkL hkM];exact e)
    have HC:Hid (CR 67 #[.agg #[.string L[k].name,.slice q L[k].cells.length e0],.agg #[.string M[k].name,.slice q2 M[k].cells.length e2]] W2 (.bool (eX L[k] M[k]))):=C;clear hcl vF hW hW2 hbW hbW2 hx1 hx2 C hs1 hw1 hw2 HDW;generalize eX L[k] M[k]=sq at *;generalize L[k]=x at *;generalize M[k]=y at *;obtain⟨xn,xc⟩:=x;obtain⟨yn,yc⟩:=y;dsimp only [aD1,bN] at *;cases sq with
    | true=>
     have HX2:Hid _:=HX.out rfl;clear HX HY;go_wp2_with (first|((with_reducible show wL (Op.load 78 _));refine aC rfl 78 _ rfl _ _ rfl R1.out ?_;clear R1)|((with_reducible show wL (Op.store 78 _ _));refine aB rfl 78 _ _ rfl _ _ _ rfl rfl R2.out ?_;clear R2)|((with_reducible show wL (Op.load 78 _));refine aC rfl 78 _ rfl _ _ rfl R3.out ?_;clear R3)|((with_reducible show wL (Op.store 78 _ _));refine aB rfl 78 _ _ rfl _ _ _ rfl rfl R4.out ?_;clear R4)|((with_reducible show wL (Op.load 78 _));refine aC rfl 78 _ rfl _ _ rfl R5.out ?_;clear R5)|((with_reducible show wL (Op.load 78 _));refine aC rfl 78 _ rfl _ _ rfl R6.out ?_;clear R6)|(go_at_call 67;refine HC.out.mono ?_;clear HC;rintro e w1 ⟨rfl,hb⟩;have HB1:Hid _:=Sh.aF HD2.out HD2.out.size hb;clear hb))
     go_roundw
     case rel=>exact⟨k+1,by omega,by go_num,HX2,HB1⟩
     case measure=>simp [intOf];omega
    | false=>
     obtain rfl:=HY.out rfl;clear HX HY;go_wp2_with (first|((with_reducible show wL (Op.load 78 _));refine aC rfl 78 _ rfl _ _ rfl R1.out ?_;clear R1)|((with_reducible show wL (Op.store 78 _ _));refine aB rfl 78 _ _ rfl _ _ _ rfl rfl R2.out ?_;clear R2)|((with_reducible show wL (Op.load 78 _));refine aC rfl 78 _ rfl _ _ rfl R3.out ?_;clear R3)|((with_reducible show wL (Op.store 78 _ _));refine aB rfl 78 _ _ rfl _ _ _ rfl rfl R4.out ?_;clear R4)|((with_reducible show wL (Op.load 78 _));refine aC rfl 78 _ rfl _ _ rfl R5.out ?_;clear R5)|((with_reducible show wL (Op.load 78 _));refine aC rfl 78 _ rfl _ _ rfl R6.out ?_;clear R6)|(go_at_call 67;refine HC.out.mono ?_;clear HC;rintro e w1 ⟨rfl,hb⟩;have HB1:Hid _:=Sh.aF HD2.out HD2.out.size hb;clear hb))
     go_ret;exact⟨rfl,HB1.out⟩
   ·have hki:¬(k:Int) < L.length:=by omega
    obtain rfl:eb=true:=by rw [<-HO.out];exact wW HLM.out fun i hi=>HA.out i (by omega)
    go_wp2;go_ret;exact⟨rfl,HD.out⟩
 ·have hne:((L.length:Int) !=(M.length:Int))=true:=by simp only [bne_iff_ne];omega
  obtain rfl:eb=false:=by rw [<-HO.out];exact wV hlm
  clear hlm HEA HO;go_enter Tryz.func66,Tryz.ntmps66;go_wp2;go_ret;exact⟨rfl,Below.refl _ _⟩
theorem zI {lo hi lo2 hi2:Nat} {w:World} {sv nv lv sv2 nv2 lv2:Value} {x1 x2:aU} (h:BkM lo hi w sv nv lv x1) (hhi:hi<=w.heap.size) (h2:BkM lo2 hi2 w sv2 nv2 lv2 x2) (hhi2:hi2<=w.heap.size):
  CR 19 #[.agg #[sv,nv,lv],.agg #[sv2,nv2,lv2]] w (.bool (iD x1 x2)):=by
 obtain⟨s1,t1,rfl,_,_⟩:=h.sh.slice;obtain⟨n1,m1,rfl,_,_⟩:=h.nm.slice;obtain⟨l1,k1,rfl,_,_⟩:=h.lk.slice;obtain⟨s2,t2,rfl,_,_⟩:=h2.sh.slice;obtain⟨n2,m2,rfl,_,_⟩:=h2.nm.slice;obtain⟨l2,k2,rfl,_,_⟩:=h2.lk.slice;obtain⟨W,hW⟩:∃W,W=(w.alloc (bkO (.slice s1 x1.aA.length t1) (.slice n1 x1.names.length m1) (.slice l1 x1.links.length k1))).alloc (bkO (.slice s2 x2.aA.length t2) (.slice n2 x2.names.length m2) (.slice l2 x2.links.length k2)):=⟨_,rfl⟩
 have HB:Below w.heap.size w W:=by rw [hW];exact Sh.aD (Sh.aD (Below.refl _ _) (Nat.le_refl _) _) (Nat.le_refl _) _
 have hX0:W.heap[w.heap.size]? =some (bkO (.slice s1 x1.aA.length t1) (.slice n1 x1.names.length m1) (.slice l1 x1.links.length k1)):=by rw [hW,Below.heap_alloc _ _ _ (by simp)];exact heap_alloc_new w _
 have hX1:W.heap[w.heap.size+1]? =some (bkO (.slice s2 x2.aA.length t2) (.slice n2 x2.names.length m2) (.slice l2 x2.links.length k2)):=by rw [hW];simpa using heap_alloc_new (w.alloc (bkO (.slice s1 x1.aA.length t1) (.slice n1 x1.names.length m1) (.slice l1 x1.links.length k1))) (bkO (.slice s2 x2.aA.length t2) (.slice n2 x2.names.length m2) (.slice l2 x2.links.length k2))
 have KX:∀u,Below W.heap.size W u->(u.cell? ⟨w.heap.size,1,none⟩=some (.slice n1 x1.names.length m1)/\u.cell? ⟨w.heap.size,2,none⟩=some (.slice l1 x1.links.length k1))/\(u.cell? ⟨w.heap.size+1,1,none⟩=some (.slice n2 x2.names.length m2)/\u.cell? ⟨w.heap.size+1,2,none⟩=some (.slice l2 x2.links.length k2))/\Below w.heap.size w u:=fun u hu=>by have q0:=bU ((hu.block _ (aN hX0)).trans hX0);have q1:=bU ((hu.block _ (aN hX1)).trans hX1);exact⟨q0.2,q1.2,Sh.aF HB HB.size hu⟩
 have c0:=(bU hX0).1;have c1:=(bU hX1).1;have C1:Calls Tryz.prog 66 _ W fun e u=>e=.returned (.bool (eqL eX x1.aA x2.aA))/\u.cell? ⟨w.heap.size,1,none⟩=some (.slice n1 x1.names.length m1)/\u.cell? ⟨w.heap.size+1,1,none⟩=some (.slice n2 x2.names.length m2)/\Hid (Below W.heap.size W u):=(aAe (h.sh.below hhi HB) (Nat.le_trans hhi HB.size) (h2.sh.below hhi2 HB) (Nat.le_trans hhi2 HB.size)).mono (by
  rintro e u ⟨rfl,hu⟩;obtain⟨q0,q1,q2⟩:=KX u hu;exact⟨rfl,q0.1,q1.1,hu⟩)
 have C2:Hid (∀u,Below W.heap.size W u->Calls Tryz.prog 68 #[.slice n1 x1.names.length m1,.slice n2 x2.names.length m2] u fun e v=>e=.returned (.bool (eqL fQ x1.names x2.names))/\v.cell? ⟨w.heap.size,2,none⟩=some (.slice l1 x1.links.length k1)/\v.cell? ⟨w.heap.size+1,2,none⟩=some (.slice l2 x2.links.length k2)/\Hid (Below W.heap.size W v)):=fun u hu=>by have hub:=(KX u hu).2.2;refine (aJr (h.nm.below hhi hub) (Nat.le_trans hhi hub.size) (h2.nm.below hhi2 hub) (Nat.le_trans hhi2 hub.size)).mono ?_;rintro e v ⟨rfl,hv⟩;have hv2:=Sh.aF hu hu.size hv;obtain⟨q0,q1,q2⟩:=KX v hv2;exact⟨rfl,q0.2,q1.2,hv2⟩
 have C3:Hid (∀u,Below W.heap.size W u->Calls Tryz.prog 69 #[.slice l1 x1.links.length k1,.slice l2 x2.links.length k2] u fun e v=>e=.returned (.bool (eqL fT x1.links x2.links))/\Hid (Below w.heap.size w v)):=fun u hu=>by have hub:=(KX u hu).2.2;refine (aJs (h.lk.below hhi hub) (Nat.le_trans hhi hub.size) (h2.lk.below hhi2 hub) (Nat.le_trans hhi2 hub.size)).mono ?_;rintro e v ⟨rfl,hv⟩;exact⟨rfl,Sh.aF hub hub.size hv⟩
 have HKX:Hid (∀u,Below W.heap.size W u->Below w.heap.size w u):=fun u hu=>(KX u hu).2.2;rw [hW] at c0 c1;have HW:Hid ((w.alloc (bkO (.slice s1 x1.aA.length t1) (.slice n1 x1.names.length m1) (.slice l1 x1.links.length k1))).alloc (bkO (.slice s2 x2.aA.length t2) (.slice n2 x2.names.length m2) (.slice l2 x2.links.length k2))=W):=hW.symm;unfold iD;generalize eqL eX x1.aA x2.aA=e1 at *;generalize eqL fQ x1.names x2.names=e2 at *;generalize eqL fT x1.links x2.links=e3 at *;clear h h2 HB hX0 hX1 hW KX;cases e1 with
 | false=>
  go_enter Tryz.func19,Tryz.ntmps19;go_wp2_with (go_at_call 66;rw [HW.out];refine C1.mono ?_;clear C1;rintro e w1 ⟨rfl,d0,d1,HB1⟩)
  go_ret;exact⟨rfl,HKX.out _ HB1.out⟩
 | true=>
  cases e2 with
  | false=>
   go_enter Tryz.func19,Tryz.ntmps19;go_wp2_with (first|(go_at_call 66;rw [HW.out];refine C1.mono ?_;clear C1;rintro e w1 ⟨rfl,d0,d1,HB1⟩)|(go_at_call 68;refine (C2.out _ HB1.out).mono ?_;clear C2;rintro e w2 ⟨rfl,f0,f1,HB2⟩))
   go_ret;exact⟨rfl,HKX.out _ HB2.out⟩
  | true=>
   go_enter Tryz.func19,Tryz.ntmps19;go_wp2_with (first|(go_at_call 66;rw [HW.out];refine C1.mono ?_;clear C1;rintro e w1 ⟨rfl,d0,d1,HB1⟩)|(go_at_call 68;refine (C2.out _ HB1.out).mono ?_;clear C2;rintro e w2 ⟨rfl,f0,f1,HB2⟩)|(go_at_call 69;refine (C3.out _ HB2.out).mono ?_;clear C3;rintro e w3 ⟨rfl,HB3⟩))
   go_ret;exact⟨rfl,HB3.out⟩
end Go.Proofs.YtlhoklhjbpkgpaaGreatDoor.Sh
namespace Go.Proofs.YtlhoklhjbpkgpaaGreatDoor.Sh
open Go.RowKit Go.Fm
abbrev sS:ByteArray:=⟨#[83]⟩
abbrev bk0:aU:=⟨[⟨sS,[]⟩],[],[]⟩
abbrev tA:ByteArray:=⟨#[61,65,50,43,49]⟩
abbrev tB:ByteArray:=⟨#[61,65,50,43]⟩
abbrev tC:ByteArray:=⟨#[120]⟩
theorem aPq:eZ bk0.aA sS=some 0:=by kernel_rfl
theorem ex1:nU bk0 sS 1 1 tA=0:=by kernel_rfl
theorem ex2:nU bk0 sS 1 1 tB=10:=by kernel_rfl
theorem ex3:aJn bk0 sS=15:=by kernel_rfl
theorem ex4:nU bk0 sS 65 1 tC=9:=by kernel_rfl
theorem ex5:mG (fA (putAt bk0 0 ⟨1,1,tA⟩).aA sS) 1 1=tA:=by kernel_rfl
theorem ex6:iD (putAt bk0 0 ⟨1,1,tA⟩) (putAt bk0 0 ⟨1,1,tA⟩)=true:=by kernel_rfl
theorem aBA:Small bk0:=⟨by decide,by simp,by decide,by decide⟩
theorem aEp:vZ bk0:=by intro s hs;simp at hs;rw [hs];exact List.Pairwise.nil
theorem aLI {w:World} {g:Nat} (hg:w.heap[g]? =some (.cells #[.string sS,.slice none 0 0] 78)):BkM g (g+1) w (newS g 1) (.slice none 0 0) (.slice none 0 0) bk0:=by
 refine ⟨⟨fun _=> .slice none 0 0, ?_,fun j o hj=> ?_⟩,.inl ⟨rfl,rfl⟩,.inl ⟨rfl,rfl⟩⟩
 ·refine aK5 (L:=bk0.aA) hg (fun j hj=> ?_) (Nat.le_refl _) (by decide);obtain rfl:j=0:=by simpa using hj
  exact⟨rfl,rfl⟩
 ·obtain ⟨hj1,rfl⟩:=List.getElem?_eq_some_iff.1 hj;obtain rfl:j=0:=by simpa using hj1
  exact Cls.nil _ _ _
theorem wX {lo hi:Nat} {w:World} {sv nv lv:Value} {x:aU} (h:BkM lo hi w sv nv lv x) (hhi:hi<=w.heap.size) (hz:Small x) (hR:vZ x) (T:dD w) (s:ByteArray) (r c:Int) (t:ByteArray):
  Calls Tryz.prog 13 #[.agg #[sv,nv,lv],.string s,.int .i64 r,.int .i64 c,.string t] w (oK w (nU x s r c t) (putAt x ((eZ x.aA s).getD 0) ⟨r,c,t⟩)):=by
 obtain⟨sa,sc,rfl,hs1,hs2⟩:=h.sh.slice;obtain⟨na,nc,rfl,_,_⟩:=h.nm.slice;obtain⟨la,lc,rfl,_,_⟩:=h.lk.slice;obtain⟨W,hW⟩:∃W,W=(w.alloc (bkO (.slice sa x.aA.length sc) (.slice na x.names.length nc) (.slice la x.links.length lc))).alloc (.cells #[.slice none 0 0,.slice none 0 0,.slice none 0 0] 26):=⟨_,rfl⟩
 have HB0:Below w.heap.size w W:=by rw [hW];exact Sh.aD (Sh.aD (Below.refl _ _) (Nat.le_refl _) _) (Nat.le_refl _) _
 have hX0:W.heap[w.heap.size]? =some (bkO (.slice sa x.aA.length sc) (.slice na x.names.length nc) (.slice la x.links.length lc)):=by rw [hW,Below.heap_alloc _ _ _ (by simp)];exact heap_alloc_new w _
 have hX1:W.heap[w.heap.size+1]? =some (.cells #[.slice none 0 0,.slice none 0 0,.slice none 0 0] 26):=by rw [hW];simpa using heap_alloc_new (w.alloc (bkO (.slice sa x.aA.length sc) (.slice na x.names.length nc) (.slice la x.links.length lc))) (.cells #[.slice none 0 0,.slice none 0 0,.slice none 0 0] 26)
 have hlen:x.aA.length<=1000:=hz.sh;have KX:∀u,Below W.heap.size W u->u.heap[w.heap.size]? =some (bkO (.slice sa x.aA.length sc) (.slice na x.names.length nc) (.slice la x.links.length lc))/\u.heap[w.heap.size+1]? =some (.cells #[.slice none 0 0,.slice none 0 0,.slice none 0 0] 26)/\Below w.heap.size w u:=fun u hu=>⟨(hu.block _ (aN hX0)).trans hX0,(hu.block _ (aN hX1)).trans hX1,Sh.aF HB0 HB0.size hu⟩
 have C1:Calls Tryz.prog 20 #[.agg #[.slice sa x.aA.length sc,.slice na x.names.length nc,.slice la x.links.length lc],.string s] W fun e u=>e=.returned (.int .i64 (dK (eZ x.aA s)))/\Hid (Below W.heap.size W u):=(mI (h.below hhi HB0) (Nat.le_trans hhi HB0.size) s).mono (by
  rintro e u ⟨rfl,hu⟩;exact⟨rfl,hu⟩)
 have C2:Hid (∀u,Below W.heap.size W u->Calls Tryz.prog 26 #[.string t] u fun e v=>e=.returned (.int .i64 (dI t))/\Hid (Below W.heap.size W v)):=fun u hu=>(aBw t u (T.below (KX u hu).2.2)).mono (by
  rintro e v ⟨rfl,hv⟩;exact⟨rfl,Sh.aF hu hu.size hv⟩)
 have iK:Hid (∀u,Below W.heap.size W u->_):=fun u hu=>wU (KX u hu).2.2 (KX u hu).2.1 (by omega);have R0:Hid _:=ldB hX0;have HKX:Hid _:=KX;have HH:Hid (BkM lo hi w (.slice sa x.aA.length sc) (.slice na x.names.length nc) (.slice la x.links.length lc) x):=h;have HZz:Hid (Small x):=hz;have HRR:Hid (vZ x):=hR;rw [hW] at R0 C1;rw [<-hW] at C1 R0;have HW:Hid ((w.alloc (bkO (.slice sa x.aA.length sc) (.slice na x.names.length nc) (.slice la x.links.length lc))).alloc (.cells #[.slice none 0 0,.slice none 0 0,.slice none 0 0] 26)=W):=hW.symm;clear h HB0 hX0 hX1 hW T hs1 hs2 KX hz hR;unfold nU;by_cases h3:dI t=3
 ·rw [if_pos h3];rw [h3] at C2;generalize dK (eZ x.aA s)=oi at *;clear h3;go_enter Tryz.func13,Tryz.ntmps13;go_wp2_with (first|(rw [HW.out];refine aC rfl 26 _ rfl _ _ rfl R0.out ?_)|(go_at_call 20;refine C1.mono ?_;clear C1;rintro e w1 ⟨rfl,HB1⟩;have CM:=C2.out w1 HB1.out;clear C2)|(go_at_call 26;refine CM.mono ?_;clear CM;rintro e w2 ⟨rfl,HB2⟩;obtain⟨RS,HZ,HBz⟩:=iK.out w2 HB2.out;clear iK)|(refine bQ rfl 26 _ rfl _ _ (by go_simp) (fF _) ?_)|(refine aB rfl 26 _ _ rfl _ _ _ rfl rfl RS.out ?_))
  refine bodyPost_ret (res2 rfl rfl HZ.out rfl rfl) rfl ?_;exact⟨by rw [if_neg (by decide)];rfl,HBz.out⟩
 ·rw [if_neg h3];cases hO:eZ x.aA s with
  | none=>
   rw [hO] at C1;simp only [dK] at C1;have h3b:((dI t)==3)=false:=by simpa using h3
   clear h3;generalize dI t=me at *;go_enter Tryz.func13,Tryz.ntmps13;go_wp2_with (first|(rw [HW.out];refine aC rfl 26 _ rfl _ _ rfl R0.out ?_)|(go_at_call 20;refine C1.mono ?_;clear C1;rintro e w1 ⟨rfl,HB1⟩;have CM:=C2.out w1 HB1.out;clear C2)|(go_at_call 26;refine CM.mono ?_;clear CM;rintro e w2 ⟨rfl,HB2⟩;obtain⟨RS,HZ,HBz⟩:=iK.out w2 HB2.out;clear iK)|(refine bQ rfl 26 _ rfl _ _ (by go_simp) (fF _) ?_)|(refine aB rfl 26 _ _ rfl _ _ _ rfl rfl RS.out ?_))
   refine bodyPost_ret (res2 rfl rfl HZ.out rfl rfl) rfl ?_;exact⟨by rw [if_neg (by decide)];rfl,HBz.out⟩
  | some i=>
   rw [hO] at C1;simp only [dK] at C1;have hil:=oF hO;have hni:decide ((i:Int) < 0)=false:=by simp
   have hii:(i:Int) < x.aA.length:=by omega
   have h3b:((dI t)==3)=false:=by simpa using h3
   dsimp only [Option.getD];clear hO;by_cases h9:iZ r c=false
   ·rw [if_pos h9];clear h3;generalize dI t=me at *;go_enter Tryz.func13,Tryz.ntmps13;go_wp2_with (first|(rw [HW.out];refine aC rfl 26 _ rfl _ _ rfl R0.out ?_)|(go_at_call 20;refine C1.mono ?_;clear C1;rintro e w1 ⟨rfl,HB1⟩;have CM:=C2.out w1 HB1.out;clear C2)|(go_at_call 26;refine CM.mono ?_;clear CM;rintro e w2 ⟨rfl,HB2⟩;obtain⟨RS,HZ,HBz⟩:=iK.out w2 HB2.out;clear iK)|(go_at_call 56;refine mw (iC _ _ _) ?_)|(refine bQ rfl 26 _ rfl _ _ (by go_simp) (fF _) ?_)|(refine aB rfl 26 _ _ rfl _ _ _ rfl rfl RS.out ?_))
    refine bodyPost_ret (res2 rfl rfl HZ.out rfl rfl) rfl ?_;exact⟨by rw [if_neg (by decide)];rfl,HBz.out⟩
   ·rw [if_neg h9];have h9t:iZ r c=true:=by simpa using h9
    clear h9;by_cases h10:dI t ≠ 0
    ·rw [if_pos h10];have aPr:((dI t) !=0)=true:=by simpa using h10
     have HM:Hid (¬dI t=0):=h10;clear h3 h10;generalize dI t=me at *;go_enter Tryz.func13,Tryz.ntmps13;go_wp2_with (first|(rw [HW.out];refine aC rfl 26 _ rfl _ _ rfl R0.out ?_)|(go_at_call 20;refine C1.mono ?_;clear C1;rintro e w1 ⟨rfl,HB1⟩;have CM:=C2.out w1 HB1.out;clear C2)|(go_at_call 26;refine CM.mono ?_;clear CM;rintro e w2 ⟨rfl,HB2⟩;obtain⟨RS,HZ,HBz⟩:=iK.out w2 HB2.out;clear iK)|(go_at_call 56;refine mw (iC _ _ _) ?_)|(refine bQ rfl 26 _ rfl _ _ (by go_simp) (fF _) ?_)|(refine aB rfl 26 _ _ rfl _ _ _ rfl rfl RS.out ?_))
     refine bodyPost_ret (res2 rfl rfl HZ.out rfl rfl) rfl ?_;exact⟨by rw [if_neg HM.out];rfl,HBz.out⟩
    ·rw [if_neg h10];have aJt:dI t=0:=by simpa using h10
     rw [aJt] at C2;clear h3 h3b h10 aJt;obtain⟨cv,hr,hcc⟩:=HH.out.sh;obtain⟨a',rfl,_,_⟩:=Rws.at hr hil;obtain⟨q,d,hcv,_,_⟩:=(hcc i _ (List.getElem?_eq_getElem hil)).slice;have HCE:Hid (∀u,Below W.heap.size W u->u.cell? ⟨(a'.add (i * 2)).block,(a'.add (i * 2)).off+1,none⟩=some (.slice q x.aA[i].cells.length d)/\Cls lo hi u (.slice q x.aA[i].cells.length d) x.aA[i].cells):=fun u hu=>by
      have hub:=(HKX.out u hu).2.2;have hr2:=hr.kept (w':=u) fun k _ hk=>hub.block k (by omega);obtain⟨a2,e2,_,g2⟩:=Rws.at hr2 hil;cases e2
      refine ⟨g2 1 _ (by omega) (by simp [iP,List.getElem?_eq_getElem hil,bN,hcv]), ?_⟩;have:=(hcc i _ (List.getElem?_eq_getElem hil)).below hhi hub;rw [hcv] at this;exact this
     have C3:Hid (∀u,Below W.heap.size W u->Calls Tryz.prog 24 #[.agg #[.slice (some a') x.aA.length sc,.slice na x.names.length nc,.slice la x.links.length lc]] u fun e v=>e=.returned (.int .i64 (bK x.aA:Nat))/\v.cell? ⟨w.heap.size,0,none⟩=some (.slice (some a') x.aA.length sc)/\v.cell? ⟨(a'.add (i * 2)).block,(a'.add (i * 2)).off+1,none⟩=some (.slice q x.aA[i].cells.length d)/\Hid (Below W.heap.size W v)):=fun u hu=>
      (lZ (HH.out.below hhi (HKX.out u hu).2.2) (Nat.le_trans hhi (HKX.out u hu).2.2.size) (by have:=vE HZz.out;omega)).mono (by
       rintro e v ⟨rfl,hv⟩;have hv2:=Sh.aF hu hu.size hv;exact⟨rfl,aH (HKX.out v hv2).1 rfl,(HCE.out v hv2).1,hv2⟩)
     have C4:Hid (∀u,Below W.heap.size W u->Calls Tryz.prog 57 #[.slice q x.aA[i].cells.length d,.int .i64 r,.int .i64 c] u fun e v=>e=.returned (.bool (x.aA[i].cells.any (atB r c)))/\Hid (Below W.heap.size W v)):=fun u hu=>
      (aLa (HCE.out u hu).2 (Nat.le_trans hhi (HKX.out u hu).2.2.size) (HZz.out.cl _ (List.getElem_mem hil)) (HRR.out _ (List.getElem_mem hil)) r c).mono (by
       rintro e v ⟨rfl,hv⟩;exact⟨rfl,Sh.aF hu hu.size hv⟩)
     have C5:Hid (∀u,Below W.heap.size W u->Calls Tryz.prog 17 #[.agg #[.slice (some a') x.aA.length sc,.slice na x.names.length nc,.slice la x.links.length lc]] u fun e v=>∃gs gn gl,e=.returned (.agg #[newS gs x.aA.length,newS gn x.names.length,newS gl x.links.length])/\(v.alloc (.cells #[newS gs x.aA.length,newS gn x.names.length,newS gl x.links.length] 26)).cell? ⟨v.heap.size,0,none⟩=some (newS gs x.aA.length)/\(v.alloc (.cells #[newS gs x.aA.length,newS gn x.names.length,newS gl x.links.length] 26)).cell? ⟨gs,i * 2+1,none⟩=some (newS (gs+1+i) x.aA[i].cells.length)/\
       Hid (Calls Tryz.prog 58 #[newS (gs+1+i) x.aA[i].cells.length,cellV ⟨r,c,t⟩] (v.alloc (.cells #[newS gs x.aA.length,newS gn x.names.length,newS gl x.links.length] 26)) fun e w4=>∃pa pn pc w6,e=.returned (.slice pa pn pc)/\w4.cell? ⟨gs,i * 2+1,none⟩=some (newS (gs+1+i) x.aA[i].cells.length)/\w4.frozen? ⟨gs,i * 2+1,none⟩=false/\
        Hid ((Instr.loadAt 26 (pt v.heap.size)).run Tryz.prog (w4.setCell ⟨gs,i * 2+1,none⟩ (.slice pa pn pc))=.ok (.agg #[newS gs x.aA.length,newS gn x.names.length,newS gl x.links.length]) (w4.setCell ⟨gs,i * 2+1,none⟩ (.slice pa pn pc)))/\
        Hid ((Instr.storeAt 26 (.pointer (some ⟨w.heap.size+1,0,none⟩)) (.agg #[newS gs x.aA.length,newS gn x.names.length,newS gl x.links.length])).run Tryz.prog (w4.setCell ⟨gs,i * 2+1,none⟩ (.slice pa pn pc))=.ok () w6)/\
        Hid (w6.heap[w.heap.size+1]? =some (.cells #[newS gs x.aA.length,newS gn x.names.length,newS gl x.links.length] 26))/\
        Hid (gQ w.heap.size w6 (newS gs x.aA.length) (newS gn x.names.length) (newS gl x.links.length) (putAt x i ⟨r,c,t⟩))/\Hid (Below w.heap.size w w6))):=fun u hu=>
      (yO (HH.out.below hhi (HKX.out u hu).2.2) (Nat.le_trans hhi (HKX.out u hu).2.2.size) HZz.out).mono (by
       rintro e v ⟨⟨gs,gn,gl,rfl,hC⟩,hv⟩;have hub:=(HKX.out u hu).2.2;have hb1:=hC.b1;have hx1:=(HKX.out u hu).2.1;have hl1:=aN hx1;obtain⟨V,hV,c1,c2,CC⟩:=aJl (w:=w) (hC.mono hub.size) HZz.out HRR.out hil (Sh.aF hub hub.size hv) (by omega) ((hv.block _ hl1).trans hx1) ⟨r,c,t⟩;rw [hV] at c1 c2 CC;exact⟨gs,gn,gl,rfl,c1,c2,CC⟩)
     have HFU:Hid (full x i r c t=(!(t.toList==[]) && (decide (200<=bK x.aA) && !(x.aA[i].cells.any (atB r c))))):=by show _=_;unfold full;simp only [List.getElem?_eq_getElem hil,Option.map_some,Option.getD_some]
     generalize hfu:full x i r c t=fu at *;clear hr hcc hcv hfu HCE iK;generalize x.aA[i].cells.any (atB r c)=an at *;generalize x.aA[i].cells.length=ln at *;generalize bK x.aA=ct at *;have hi2:i < 9223372036854775807:=by omega
     clear hil HZz HRR HH;have BU:Hid (∀u:World,_):=fun u:World=>sW u r c t;have HOK:Hid (∀sv nv lv w6,gQ w.heap.size w6 sv nv lv (putAt x i ⟨r,c,t⟩)->Below w.heap.size w w6->oK w 0 (putAt x i ⟨r,c,t⟩) (.returned (.tuple #[.agg #[sv,nv,lv],.int .i64 0])) w6):=fun sv nv lv w6 h1 h2=>⟨by rw [if_pos rfl];exact⟨_,_,_,rfl,h1⟩,h2⟩
     cases ht:t.toList==[] with
     | true=>
      rw [ht] at HFU;obtain rfl:fu=false:=HFU.out;clear HFU C3 C4;rw [if_neg (by decide)];generalize oK w 0 (putAt x i ⟨r,c,t⟩)=Q0 at *;go_enter Tryz.func13,Tryz.ntmps13;go_wp2_with (first|(rw [HW.out];refine aC rfl 26 _ rfl _ _ rfl R0.out ?_;clear R0)|(go_at_call 20;refine C1.mono ?_;clear C1;rintro e w1 ⟨rfl,HB1⟩;have CM:=C2.out w1 HB1.out;clear C2)|(go_at_call 26;refine CM.mono ?_;clear CM;rintro e w2 ⟨rfl,HB2⟩;obtain⟨c20,c21,c22⟩:=bU (HKX.out _ HB2.out).1)|(go_at_call 56;refine mw (iC _ _ _) ?_)|(go_at_call 17;refine (C5.out _ HB2.out).mono ?_;clear C5;rintro e v ⟨gs,gn,gl,rfl,cV,cW,CW⟩)|(go_at_call 58;refine CW.out.mono ?_;clear CW;rintro e w5 ⟨pa,pn,pc,w6,rfl,c50,f50,RL6,RS6,HG6,HO6,HB6⟩)|((with_reducible show wL (Op.load 26 _));refine aC rfl 26 _ rfl _ _ rfl RL6.out ?_;clear RL6)|((with_reducible show wL (Op.store 26 _ _));refine aB rfl 26 _ _ rfl _ _ _ rfl rfl RS6.out ?_;clear RS6))
      refine bodyPost_ret (res2 rfl rfl HG6.out rfl rfl) rfl ?_;exact HOK.out _ _ _ _ HO6.out HB6.out
     | false=>
      rw [ht] at HFU;by_cases hct:200<=ct
      ·have aNn:(200:Int)<=ct:=by omega
       cases han:an with
       | true=>
        rw [han] at HFU C4;obtain rfl:fu=false:=by rw [HFU.out];simp
        clear HFU;rw [if_neg (by decide)];generalize oK w 0 (putAt x i ⟨r,c,t⟩)=Q0 at *;go_enter Tryz.func13,Tryz.ntmps13;go_wp2_with (first|(rw [HW.out];refine aC rfl 26 _ rfl _ _ rfl R0.out ?_;clear R0)|(go_at_call 20;refine C1.mono ?_;clear C1;rintro e w1 ⟨rfl,HB1⟩;have CM:=C2.out w1 HB1.out;clear C2)|(go_at_call 26;refine CM.mono ?_;clear CM;rintro e w2 ⟨rfl,HB2⟩;obtain⟨c20,c21,c22⟩:=bU (HKX.out _ HB2.out).1)|(go_at_call 56;refine mw (iC _ _ _) ?_)|(go_at_call 24;refine (C3.out _ HB2.out).mono ?_;clear C3;rintro e w3 ⟨rfl,c30,c31,HB3⟩;obtain⟨_,c32,c33⟩:=bU (HKX.out _ HB3.out).1)|(go_at_call 57;refine (C4.out _ HB3.out).mono ?_;clear C4;rintro e w4 ⟨rfl,HB4⟩;obtain⟨c40,c41,c42⟩:=bU (HKX.out _ HB4.out).1)|(go_at_call 17;refine (C5.out _ HB4.out).mono ?_;clear C5;rintro e v ⟨gs,gn,gl,rfl,cV,cW,CW⟩)|(go_at_call 58;refine CW.out.mono ?_;clear CW;rintro e w5 ⟨pa,pn,pc,w6,rfl,c50,f50,RL6,RS6,HG6,HO6,HB6⟩)|((with_reducible show wL (Op.load 26 _));refine aC rfl 26 _ rfl _ _ rfl RL6.out ?_;clear RL6)|((with_reducible show wL (Op.store 26 _ _));refine aB rfl 26 _ _ rfl _ _ _ rfl rfl RS6.out ?_;clear RS6))
        refine bodyPost_ret (res2 rfl rfl HG6.out rfl rfl) rfl ?_;exact HOK.out _ _ _ _ HO6.out HB6.out
       | false=>
        rw [han] at HFU C4;obtain rfl:fu=true:=by rw [HFU.out];simp [hct]
        clear HFU;rw [if_pos rfl];have iK:Hid (∀u,Below W.heap.size W u->_):=fun u hu=>wU (HKX.out u hu).2.2 (HKX.out u hu).2.1 (Nat.le_succ _);go_enter Tryz.func13,Tryz.ntmps13;go_wp2_with (first|(rw [HW.out];refine aC rfl 26 _ rfl _ _ rfl R0.out ?_)|(go_at_call 20;refine C1.mono ?_;clear C1;rintro e w1 ⟨rfl,HB1⟩;have CM:=C2.out w1 HB1.out;clear C2)|(go_at_call 26;refine CM.mono ?_;clear CM;rintro e w2 ⟨rfl,HB2⟩;obtain⟨c20,c21,c22⟩:=bU (HKX.out _ HB2.out).1)|(go_at_call 56;refine mw (iC _ _ _) ?_)|(go_at_call 24;refine (C3.out _ HB2.out).mono ?_;clear C3;rintro e w3 ⟨rfl,c30,c31,HB3⟩)|(go_at_call 57;refine (C4.out _ HB3.out).mono ?_;clear C4;rintro e w4 ⟨rfl,HB4⟩;obtain⟨RS,HZ,HBz⟩:=iK.out w4 HB4.out;clear iK)|(refine bQ rfl 26 _ rfl _ _ (by go_simp) (fF _) ?_)|(refine aB rfl 26 _ _ rfl _ _ _ rfl rfl RS.out ?_))
        refine bodyPost_ret (res2 rfl rfl HZ.out rfl rfl) rfl ?_;exact⟨by rw [if_neg (by decide)];rfl,HBz.out⟩
      ·have aNn:¬(200:Int)<=ct:=by omega
       obtain rfl:fu=false:=by rw [HFU.out];simp [hct]
       clear HFU C4;rw [if_neg (by decide)];generalize oK w 0 (putAt x i ⟨r,c,t⟩)=Q0 at *;go_enter Tryz.func13,Tryz.ntmps13;go_wp2_with (first|(rw [HW.out];refine aC rfl 26 _ rfl _ _ rfl R0.out ?_;clear R0)|(go_at_call 20;refine C1.mono ?_;clear C1;rintro e w1 ⟨rfl,HB1⟩;have CM:=C2.out w1 HB1.out;clear C2)|(go_at_call 26;refine CM.mono ?_;clear CM;rintro e w2 ⟨rfl,HB2⟩;obtain⟨c20,c21,c22⟩:=bU (HKX.out _ HB2.out).1)|(go_at_call 56;refine mw (iC _ _ _) ?_)|(go_at_call 24;refine (C3.out _ HB2.out).mono ?_;clear C3;rintro e w3 ⟨rfl,c30,c31,HB3⟩;obtain⟨_,c32,c33⟩:=bU (HKX.out _ HB3.out).1)|(go_at_call 17;refine (C5.out _ HB3.out).mono ?_;clear C5;rintro e v ⟨gs,gn,gl,rfl,cV,cW,CW⟩)|(go_at_call 58;refine CW.out.mono ?_;clear CW;rintro e w5 ⟨pa,pn,pc,w6,rfl,c50,f50,RL6,RS6,HG6,HO6,HB6⟩)|((with_reducible show wL (Op.load 26 _));refine aC rfl 26 _ rfl _ _ rfl RL6.out ?_;clear RL6)|((with_reducible show wL (Op.store 26 _ _));refine aB rfl 26 _ _ rfl _ _ _ rfl rfl RS6.out ?_;clear RS6))
       refine bodyPost_ret (res2 rfl rfl HG6.out rfl rfl) rfl ?_;exact HOK.out _ _ _ _ HO6.out HB6.out
end Go.Proofs.YtlhoklhjbpkgpaaGreatDoor.Sh
