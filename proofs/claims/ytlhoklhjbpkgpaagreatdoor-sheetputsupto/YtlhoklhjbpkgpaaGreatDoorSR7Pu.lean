/- SSp, SBy0, SBy, SR6, SR7. -/
import Derived.Deep.RegionWith
import Derived.Lib.AppendStr
import Derived.Lib.Zigzag
import Derived.Test.YtlhoklhjbpkgpaaGreatDoorRPar2Pu
set_option linter.unusedVariables false
set_option linter.unusedSimpArgs false
set_option maxHeartbeats 16000000
set_option maxRecDepth 100000
namespace Go.Proofs.YtlhoklhjbpkgpaaGreatDoor.Sh
open Go.RowKit
structure FrZ (lo hi:Nat) (w w':World):Prop where
 bel:Below lo w w'
 up:∀g,hi<=g->g < w.heap.size->w'.heap[g]? =w.heap[g]?
theorem FrZ.refl (lo hi:Nat) (w:World):FrZ lo hi w w:=⟨Below.refl _ _,fun _ _ _=>rfl⟩
theorem FrZ.set {lo hi g:Nat} {w u:World} (h:FrZ lo hi w u) (h1:lo<=g) (h2:g < hi) (es:Array Value):FrZ lo hi w (u.setRow g es):=
 ⟨below_setRow h.bel h1 es,fun k hk hl=>(setRow_other _ _ _ _ (by omega)).trans (h.up k hk hl)⟩
def rM (lo hi:Nat) (w:World) (t:TypeId) (sz:Nat) (v:Value) (n:Nat):Prop:=
 (v=bR/\n=0)\/∃g cap cur,v=.slice (some ⟨g,0,none⟩) n cap/\lo<=g/\g < hi/\w.heap[g]? =some (.cells cur t (0,0))/\n * sz<=cur.size
theorem rM.of {lo hi sz n:Nat} {w w':World} {t:TypeId} {v:Value} {xs:List Value} (h:w.ownsRow lo t sz v n xs) (hh:w.heap.size<=hi) (hk:∀g,g < w.heap.size->w'.heap[g]? =w.heap[g]?):rM lo hi w' t sz v n:=by
 rcases h.2 with e | ⟨g,cap,cur,e,h1,h2,h3,h4,h5,h6⟩
 ·exact .inl e
 ·have:=aN h2;exact .inr ⟨g,cap,cur,e,h1,by omega,(hk g this).trans h2,by rw [h5];exact Nat.mul_le_mul_right _ h3⟩
theorem rM.set {lo hi sz n g:Nat} {w:World} {t t':TypeId} {v:Value} {cur cur':Array Value} (h:rM lo hi w t sz v n) (hg:w.heap[g]? =some (.cells cur t' (0,0))) (hs:cur'.size=cur.size):rM lo hi (w.setRow g cur') t sz v n:=by
 rcases h with e | ⟨k,cap,c,e,h1,h2,h3,h4⟩
 ·exact .inl e
 ·by_cases hk:k=g
  ·subst hk;rw [hg] at h3;cases h3
   exact .inr ⟨k,cap,cur',e,h1,h2,setRow_heap _ _ _ _ _ _ hg,by omega⟩
  ·exact .inr ⟨k,cap,c,e,h1,h2,(setRow_other _ _ _ _ hk).trans h3,h4⟩
theorem rM.slice {lo hi sz n:Nat} {w:World} {t:TypeId} {v:Value} (h:rM lo hi w t sz v n):∃a c,v=.slice a n c:=by
 rcases h with ⟨rfl,rfl⟩ | ⟨k,cap,c,e,_⟩
 ·exact ⟨_,_,rfl⟩
 ·exact ⟨_,_,e⟩
theorem rM.store {lo hi sz n k:Nat} {w:World} {t:TypeId} {a:Option Addr} {c:Nat} {val:Value} {vs:List Value} (h:rM lo hi w t sz (.slice a n c) n) (hk:k < n) (hz:(sizeOf t).run Tryz.prog w=.ok sz w) (hv:val.cells=vs.toArray) (hl:vs.length=sz) (h1:∀u ∈ vs,u.oneCell'=true):
  ∃(A:Addr) (g:Nat) (cur cur':Array Value),a=some A/\Hid ((Instr.storeAt t (.pointer (some (A.add (k * sz)))) val).run Tryz.prog w=.ok () (w.setRow g cur'))/\w.heap[g]? =some (.cells cur t (0,0))/\cur'.size=cur.size/\lo<=g/\g < hi:=by
 rcases h with ⟨e,e2⟩ | ⟨g,cap,cur,e,h2,h3,h4,h5⟩
 ·omega
 ·cases e
  have hf:k * sz+vs.length<=cur.size:=by have:(k+1) * sz<=n * sz:=Nat.mul_le_mul_right _ hk;rw [Nat.add_mul] at this;omega
  refine ⟨⟨g,0,none⟩,g,cur,(cur.toList.take (k * sz)++vs++cur.toList.drop (k * sz+vs.length)).toArray,rfl, ?_,h4, ?_,h2,h3⟩
  ·show _=_;rw [Addr.add_mid,Nat.zero_add];exact aC6 h4 hv hf h1 (by rw [hl];exact hz)
  ·simp only [List.size_toArray,List.length_append,List.length_take,List.length_drop,Array.length_toList];omega
def SRw (lo hi:Nat) (w:World) (v:Value) (n:Nat) (cv:Nat->Value):Prop:=
 (v=bR/\n=0)\/∃g cap cur,v=.slice (some ⟨g,0,none⟩) n cap/\lo<=g/\g < hi/\w.heap[g]? =some (.cells cur 78 (0,0))/\n * 2<=cur.size/\∀j,j < n->cur[j * 2+1]? =some (cv j)
structure SpI (lo hi:Nat) (W w:World) (sv nv lv:Value) (n:Nat) (cv:Nat->Value) (m:Nat->Nat) (nn ln:Nat):Prop where
 sh:SRw lo hi w sv n cv
 cl:∀j,j < n->rM lo hi w 57 3 (cv j) (m j)
 nm:rM lo hi w 89 3 nv nn
 lk:rM lo hi w 91 7 lv ln
 fr:FrZ lo hi W w
section
variable {lo hi n nn ln:Nat} {W w:World} {sv nv lv:Value} {cv:Nat->Value} {m:Nat->Nat}
theorem SpI.set (h:SpI lo hi W w sv nv lv n cv m nn ln) {g:Nat} {cur cur':Array Value} {t:TypeId} (hg:w.heap[g]? =some (.cells cur t (0,0))) (ht:t ≠ 78) (hs:cur'.size=cur.size) (h1:lo<=g) (h2:g < hi):SpI lo hi W (w.setRow g cur') sv nv lv n cv m nn ln:=by
 refine ⟨?_,fun j hj=>(h.cl j hj).set hg hs,h.nm.set hg hs,h.lk.set hg hs,h.fr.set h1 h2 _⟩;rcases h.sh with e | ⟨k,cap,c,e,k1,k2,k3,k4⟩
 ·exact .inl e
 ·have hk:k ≠ g:=by
   intro eq;rw [eq,hg] at k3;cases k3
   exact ht rfl
  exact .inr ⟨k,cap,c,e,k1,k2,(setRow_other _ _ _ _ hk).trans k3,k4⟩
theorem SpI.at {sa:Option Addr} {sc:Nat} (h:SpI lo hi W w (.slice sa n sc) nv lv n cv m nn ln) {i:Nat} (hi':i < n):
  ∃(S:Addr) (w2:World),sa=some S/\w.cell? ⟨(S.add (i * 2)).block,(S.add (i * 2)).off+1,none⟩=some (cv i)/\Hid ((Instr.storeAt 9 (.pointer (some (S.add (i * 2)))) (.string ⟨#[115,112,111,105,108,116]⟩)).run Tryz.prog w=.ok () w2)/\Hid (SpI lo hi W w2 (.slice (some S) n sc) nv lv n cv m nn ln):=by
 rcases h.sh with ⟨e,e2⟩ | ⟨g,cap,cur,e,k1,k2,k3,k4,k5⟩
 ·omega
 ·cases e
  have hst:=aC6 (o:=i * 2) (ty:=9) (v:=.string ⟨#[115,112,111,105,108,116]⟩) (vs:=[.string ⟨#[115,112,111,105,108,116]⟩]) k3 rfl (by simp;omega) (by simp [Value.oneCell']) (Tryz.sizeOf9 w);refine ⟨⟨g,0,none⟩,_,rfl, ?_,by show _=_;rw [Addr.add_mid,Nat.zero_add];exact hst, ?_⟩
  ·rw [Addr.add_mid];exact aH k3 (by rw [Nat.zero_add];exact k5 i hi')
  ·have hsz:(cur.toList.take (i * 2)++ [Value.string ⟨#[115,112,111,105,108,116]⟩]++cur.toList.drop (i * 2+ [Value.string ⟨#[115,112,111,105,108,116]⟩].length)).toArray.size=cur.size:=by simp only [List.size_toArray,List.length_append,List.length_take,List.length_drop,Array.length_toList,List.length_cons,List.length_nil];omega
   refine ⟨.inr ⟨g,_,_,rfl,k1,k2,setRow_heap _ _ _ _ _ _ k3,by rw [hsz];exact k4,fun j hj=> ?_⟩,fun j hj=>(h.cl j hj).set k3 hsz,h.nm.set k3 hsz,h.lk.set k3 hsz,h.fr.set k1 k2 _⟩;rw [<-k5 j hj];simp only [List.getElem?_toArray,List.length_cons,List.length_nil];by_cases hlt:j < i
   ·rw [List.append_assoc,List.getElem?_append_left (by simp;omega),List.getElem?_take_of_lt (by omega)];simp
   ·rw [List.getElem?_append_right (by simp;omega),List.getElem?_drop];simp only [List.length_append,List.length_take,Array.length_toList,List.length_cons,List.length_nil,Array.getElem?_toList];congr 1;omega
end
def clN (x:aU) (j:Nat):Nat:=(x.aA[j]?.map (·.cells.length)).getD 0
theorem aNH {x:aU} (hz:Small x) (j:Nat):clN x j<=1000:=by
 unfold clN;by_cases hj:j < x.aA.length
 ·rw [List.getElem?_eq_getElem hj];exact hz.cl _ (List.getElem_mem hj)
 ·rw [List.getElem?_eq_none (by omega)];exact Nat.zero_le _
theorem gQ.spi {lo:Nat} {w1 w:World} {sv nv lv:Value} {x:aU} (h:gQ lo w1 sv nv lv x) (hb:∀g,g < w1.heap.size->w.heap[g]? =w1.heap[g]?):
  ∃cv,SpI lo w1.heap.size w w sv nv lv x.aA.length cv (clN x) x.names.length x.links.length:=by
 obtain⟨cv,h1,h2⟩:=h.sh;refine ⟨cv, ?_,fun j hj=> ?_,rM.of h.nm (Nat.le_refl _) hb,rM.of h.lk (Nat.le_refl _) hb,FrZ.refl _ _ _⟩
 ·rcases h1.2 with e | ⟨g,cap,cur,e,k1,k2,k3,k4,k5,k6⟩
  ·exact .inl e
  ·have hl:=aN k2;refine .inr ⟨g,cap,cur,e,k1,hl,(hb g hl).trans k2,by omega,fun j hj=> ?_⟩;have hp:(pairs x.aA cv).length=x.aA.length:=by simp
   have hf:=sU (enc:=iV) bY (pairs x.aA cv) j 1 (by omega) (by decide);rw [<-k6,List.getElem?_take_of_lt (by omega)] at hf;rw [Array.getElem?_toList] at hf;rw [hf];simp [bN]
 ·have:=h2 j _ (List.getElem?_eq_getElem hj);unfold clN;rw [List.getElem?_eq_getElem hj];exact rM.of this (Nat.le_refl _) hb
theorem aPI (u:World):(Instr.build 57 #[(0,.int .i64 (-1))]).run Tryz.prog u=.ok (.agg #[.int .i64 (-1),iA,dY]) u:=by kernel_rfl
theorem aPJ (u:World):(Instr.build 89 #[]).run Tryz.prog u=.ok (.agg #[dY,dY,dY]) u:=by kernel_rfl
theorem aPK (u:World):(Instr.build 91 #[]).run Tryz.prog u=.ok (.agg #[dY,dY,iA,iA,iA,iA,dY]) u:=by kernel_rfl
theorem aGY {lo:Nat} {w1 w:World} {sv nv lv:Value} {x:aU} (h:gQ lo w1 sv nv lv x) (hz:Small x) (hlo:lo<=w1.heap.size) (hs:w1.heap.size<=w.heap.size) (hb:∀g,g < w1.heap.size->w.heap[g]? =w1.heap[g]?):
  Calls Tryz.prog 16 #[.agg #[sv,nv,lv]] w fun e w'=>e=.returned (.tuple #[])/\FrZ lo w1.heap.size w w':=by
 obtain⟨W,hW⟩:∃W,W=w.alloc (bkO sv nv lv):=⟨_,rfl⟩
 have hWs:W.heap.size=w.heap.size+1:=by rw [hW];simp
 have hbW:Below w.heap.size w W:=by rw [hW];exact Sh.aD (Below.refl _ _) (Nat.le_refl _) _
 have hG0:W.heap[w.heap.size]? =some (bkO sv nv lv):=by rw [hW];exact heap_alloc_new w _
 obtain⟨cv,hI⟩:=h.spi (w:=W) fun g hg=>(hbW.block g (by omega)).trans (hb g hg);have hlm:∀j,clN x j<=1000:=aNH hz;have hls:x.aA.length<=1000:=hz.sh;have hln:x.names.length<=1000:=hz.nm;have hll:x.links.length<=1000:=hz.lk;have KB:Hid (∀u,FrZ lo w1.heap.size W u->u.cell? ⟨w.heap.size,0,none⟩=some sv/\u.cell? ⟨w.heap.size,1,none⟩=some nv/\u.cell? ⟨w.heap.size,2,none⟩=some lv):=fun u hu=>bU ((hu.up _ hs (by omega)).trans hG0);have aPL:Hid (∀u,FrZ lo w1.heap.size W u->FrZ lo w1.heap.size w u):=fun u hu=>
  ⟨⟨hu.bel.os.trans hbW.os,hu.bel.tape.trans hbW.tape,hu.bel.output.trans hbW.output,Nat.le_trans hbW.size hu.bel.size,fun k hk=>(hu.bel.block k hk).trans (hbW.block k (by omega))⟩,fun g hg hl=>(hu.up g hg (by omega)).trans (hbW.block g hl)⟩
 have HI:Hid _:=hI;obtain⟨sa,sc,rfl⟩:∃a c,sv=.slice a x.aA.length c:=by obtain⟨cv',q1,_⟩:=h.sh;exact bL q1
 obtain⟨na,nc,rfl⟩:=bL h.nm;obtain⟨la,lc,rfl⟩:=bL h.lk;obtain⟨z0,z1,z2⟩:=bU hG0;rw [hW] at z0 z1 z2;have HW:Hid (w.alloc (bkO (.slice sa x.aA.length sc) (.slice na x.names.length nc) (.slice la x.links.length lc))=W):=hW.symm;clear h hs hb hlo hI hW hWs hbW hG0 hz;generalize clN x=m at *;generalize x.aA.length=n at *;generalize x.names.length=nn at *;generalize x.links.length=ln at *;go_enter Tryz.func16,Tryz.ntmps16;go_wp2;go_loopw [9] (fun i wr=>∃(k:Nat),k<=n/\i=.int .i64 (k:Nat)/\Hid (SpI lo w1.heap.size W wr (.slice sa n sc) (.slice na nn nc) (.slice la ln lc) n cv m nn ln)) (fun i _=>n - (intOf i).toNat)
 case atStart=> rw [HW.out];exact⟨0,Nat.zero_le _,rfl,HI.out⟩
 case round=>
  obtain⟨k,hk,rfl,HI⟩:=hrel;clear z0 z1 z2;by_cases hkL:k < n
  ·have hki:(k:Int) < n:=by omega
   have iJ:k < 9223372036854775807:=by omega
   obtain⟨ca,cc,hcv⟩:=(HI.out.cl k hkL).slice;have HCV:Hid (cv k=.slice ca (m k) cc):=hcv;obtain⟨S,_,rfl,c1,_,_⟩:=HI.out.at hkL;obtain⟨z0,_,_⟩:=KB.out _ HI.out.fr;rw [hcv] at c1;clear hcv;have hmk:=hlm k;obtain⟨mk,hmk'⟩:∃mk,mk=m k:=⟨_,rfl⟩
   have HMK:Hid (m k=mk):=hmk'.symm;rw [<-hmk'] at c1 hmk HCV;clear hmk';go_wp2;go_loopw [19] (fun i wr=>∃(j:Nat),j<=mk/\i=.int .i64 (j:Nat)/\Hid (SpI lo w1.heap.size W wr (.slice (some S) n sc) (.slice na nn nc) (.slice la ln lc) n cv m nn ln)) (fun i _=>mk - (intOf i).toNat)
   case atStart=>exact⟨0,Nat.zero_le _,rfl,HI⟩
   case round=>
    clear HI z0 c1;obtain⟨j,hj,rfl,HI⟩:=hrel;obtain⟨S',w2,e,c1,RS,HI2⟩:=HI.out.at hkL;obtain rfl:=Option.some.inj e;clear e;obtain⟨z0,_,_⟩:=KB.out _ HI.out.fr;rw [HCV.out] at c1;by_cases hjL:j < mk
    ·have hji:(j:Int) < mk:=by omega
     have aOy:j < 9223372036854775807:=by omega
     have hR:=HI.out.cl k hkL;rw [HCV.out,HMK.out] at hR;obtain⟨A,g,cur,cur',rfl,RC,hg,hsz,hg1,hg2⟩:=hR.store hjL (Tryz.sizeOf57 _) (val:=.agg #[.int .i64 (-1),iA,dY]) (vs:=[.int .i64 (-1),iA,dY]) rfl rfl (by simp [Value.oneCell']);have HI3:Hid (SpI lo w1.heap.size W _ (.slice (some S) n sc) (.slice na nn nc) (.slice la ln lc) n cv m nn ln):=HI.out.set hg (by decide) hsz hg1 hg2;clear hR hg hsz hg1 hg2 HI HI2 RS;generalize World.setRow _ g cur'=w3 at *;go_wp2_with (first|((with_reducible show wL (Op.build 57 _));refine bQ rfl 57 _ rfl _ _ (by go_simp) (aPI _) ?_)|((with_reducible show wL (Op.store 57 _ _));refine aB rfl 57 _ _ rfl _ _ _ rfl rfl RC.out ?_;clear RC))
     go_roundw
     case rel=>exact⟨j+1,by omega,by go_num,HI3⟩
     case measure=>simp [intOf];omega
    ·have hji:¬(j:Int) < mk:=by omega
     clear c1 HI;go_wp2_with (first|((with_reducible show wL (Op.store 9 _ _));refine aB rfl 9 _ _ rfl _ _ _ rfl rfl RS.out ?_;clear RS))
     go_roundw
     case rel=>exact⟨k+1,by omega,by go_num,HI2⟩
     case measure=>simp [intOf];omega
  ·have hki:¬(k:Int) < n:=by omega
   obtain⟨z0,z1,z2⟩:=KB.out _ HI.out.fr;clear z0;go_wp2;go_loopw [41] (fun i wr=>∃(j:Nat),j<=nn/\i=.int .i64 (j:Nat)/\Hid (SpI lo w1.heap.size W wr (.slice sa n sc) (.slice na nn nc) (.slice la ln lc) n cv m nn ln)) (fun i _=>nn - (intOf i).toNat)
   case atStart=>exact⟨0,Nat.zero_le _,rfl,HI⟩
   case round=>
    clear HI z1 z2;obtain⟨j,hj,rfl,HI⟩:=hrel;obtain⟨z0,z1,z2⟩:=KB.out _ HI.out.fr;clear z0;by_cases hjL:j < nn
    ·have hji:(j:Int) < nn:=by omega
     have aOy:j < 9223372036854775807:=by omega
     obtain⟨A,g,cur,cur',rfl,RC,hg,hsz,hg1,hg2⟩:=HI.out.nm.store hjL (Tryz.sizeOf89 _) (val:=.agg #[dY,dY,dY]) (vs:=[dY,dY,dY]) rfl rfl (by simp [Value.oneCell']);have HI3:Hid (SpI lo w1.heap.size W _ (.slice sa n sc) (.slice (some A) nn nc) (.slice la ln lc) n cv m nn ln):=HI.out.set hg (by decide) hsz hg1 hg2;clear hg hsz hg1 hg2 HI z2;generalize World.setRow _ g cur'=w3 at *;go_wp2_with (first|((with_reducible show wL (Op.build 89 _));refine bQ rfl 89 _ rfl _ _ (by go_simp) (aPJ _) ?_)|((with_reducible show wL (Op.store 89 _ _));refine aB rfl 89 _ _ rfl _ _ _ rfl rfl RC.out ?_;clear RC))
     go_roundw
     case rel=>exact⟨j+1,by omega,by go_num,HI3⟩
     case measure=>simp [intOf];omega
    ·have hji:¬(j:Int) < nn:=by omega
     clear z1;go_wp2;go_loopw [53] (fun i wr=>∃(j:Nat),j<=ln/\i=.int .i64 (j:Nat)/\Hid (SpI lo w1.heap.size W wr (.slice sa n sc) (.slice na nn nc) (.slice la ln lc) n cv m nn ln)) (fun i _=>ln - (intOf i).toNat)
     case atStart=>exact⟨0,Nat.zero_le _,rfl,HI⟩
     case round=>
      clear HI z2 hj hjL hji;obtain⟨j,hj,rfl,HI⟩:=hrel;obtain⟨z0,z1,z2⟩:=KB.out _ HI.out.fr;clear z0 z1;by_cases hjL:j < ln
      ·have hji:(j:Int) < ln:=by omega
       have aOy:j < 9223372036854775807:=by omega
       obtain⟨A,g,cur,cur',rfl,RC,hg,hsz,hg1,hg2⟩:=HI.out.lk.store hjL (Tryz.sizeOf91 _) (val:=.agg #[dY,dY,iA,iA,iA,iA,dY]) (vs:=[dY,dY,iA,iA,iA,iA,dY]) rfl rfl (by simp [Value.oneCell']);have HI3:Hid (SpI lo w1.heap.size W _ (.slice sa n sc) (.slice na nn nc) (.slice (some A) ln lc) n cv m nn ln):=HI.out.set hg (by decide) hsz hg1 hg2;clear hg hsz hg1 hg2 HI;generalize World.setRow _ g cur'=w3 at *;go_wp2_with (first|((with_reducible show wL (Op.build 91 _));refine bQ rfl 91 _ rfl _ _ (by go_simp) (aPK _) ?_)|((with_reducible show wL (Op.store 91 _ _));refine aB rfl 91 _ _ rfl _ _ _ rfl rfl RC.out ?_;clear RC))
       go_roundw
       case rel=>exact⟨j+1,by omega,by go_num,HI3⟩
       case measure=>simp [intOf];omega
      ·have hji:¬(j:Int) < ln:=by omega
       have HF:=aPL.out _ HI.out.fr;have HFH:Hid _:=HF;clear HF HI z2;go_wp2;exact bodyPost_end (results_none rfl _ _ _) rfl ⟨rfl,HFH.out⟩
end Go.Proofs.YtlhoklhjbpkgpaaGreatDoor.Sh
namespace Go.Proofs.YtlhoklhjbpkgpaaGreatDoor.Sh.Bt
open Go.RowKit
def fU (l:List UInt8):List Value:=l.map fun b=>Value.int .u8 b.toNat
theorem qJ (l:List UInt8):(fU l).length=l.length:=by simp [fU]
theorem qK (l m:List UInt8):fU (l++m)=fU l++fU m:=by simp [fU]
theorem aEG {l:List UInt8} {j:Nat} (h:j < l.length):(fU l)[j]? =some (.int .u8 (l[j].toNat)):=by simp [fU,h]
theorem jF (a:Addr) (n:Nat):(a.add n).block=a.block:=by unfold Addr.add;split <;> rfl
def Bts (w:World) (v:Value) (l:List UInt8):Prop:=
 (v=.slice none 0 0/\l=[])\/∃a cap,v=.slice (some a) l.length cap/\l.length<=cap/\cap<=maxLen/\∀j u,(fU l)[j]? =some u->w.cell? (a.add j)=some u
theorem info5:(Tryz.prog.info? 5).map (fun i=>(i.zero,i.size,i.bytes))=some (some (.int .u8 0),1,1):=by kernel_rfl
def Own (base:Nat) (w:World) (v:Value) (l:List UInt8):Prop:=w.ownsRow base 5 1 v l.length (fU l)
theorem bO {w w':World} {base:Nat} {e:TypeId} {size:Nat} {v:Value} {n:Nat} {xs:List Value} (h:w.ownsRow base e size v n xs)
  (hk:∀g,v.ownBlock=some g->w'.heap[g]? =w.heap[g]?):w'.ownsRow base e size v n xs:=by
 refine ⟨h.1, ?_⟩;rcases h.2 with hn | ⟨g,cap,cur,rfl,hb,hgg,rest⟩
 ·exact .inl hn
 ·exact .inr ⟨g,cap,cur,rfl,hb,by rw [hk g rfl];exact hgg,rest⟩
theorem Own.of_block {w w':World} {base:Nat} {v:Value} {l:List UInt8} (h:Own base w v l) (hk:∀g,v.ownBlock=some g->w'.heap[g]? =w.heap[g]?):Own base w' v l:=bO h hk
theorem Own.lt {w:World} {base:Nat} {v:Value} {l:List UInt8} (h:Own base w v l) {g:Nat} (hg:v.ownBlock=some g):base<=g/\g < w.heap.size:=World.ownsRow.lt h g hg
theorem Own.kept {w w':World} {base:Nat} {v:Value} {l:List UInt8} (h:Own base w v l) (hk:∀i,i < w.heap.size->w'.heap[i]? =w.heap[i]?):Own base w' v l:=h.of_block fun _ hg=>hk _ (h.lt hg).2
theorem Own.alloc {w:World} {base:Nat} {v:Value} {l:List UInt8} (h:Own base w v l) (o:Obj):Own base (w.alloc o) v l:=h.kept fun i hi=>Below.heap_alloc w o i hi
theorem Own.nil (w:World) (base:Nat):Own base w (.slice none 0 0) []:=World.ownsRow_nil w base 5 1
structure Apd (base:Nat) (w:World) (v:Value) (w':World) (v':Value) (l:List UInt8):Prop where
 own:Own base w' v' l
 gr:w.grownBy w' v.ownBlock
 loc:∀g,v'.ownBlock=some g->v.ownBlock=some g\/w.heap.size<=g
theorem Apd.refl {base:Nat} {w:World} {v:Value} {l:List UInt8} (h:Own base w v l):Apd base w v w v l:=⟨h,⟨rfl,rfl,rfl,Nat.le_refl _,fun _ _ _=>rfl⟩,fun _ hg=> .inl hg⟩
theorem Apd.trans {base:Nat} {w w1 w2:World} {v v1 v2:Value} {l1 l2:List UInt8} (h:Apd base w v w1 v1 l1) (k:Apd base w1 v1 w2 v2 l2):Apd base w v w2 v2 l2:=by
 refine ⟨k.own,⟨k.gr.os.trans h.gr.os,k.gr.tape.trans h.gr.tape,k.gr.output.trans h.gr.output,Nat.le_trans h.gr.size k.gr.size,fun i hi hne=> ?_⟩,fun g hg=> ?_⟩
 ·refine (k.gr.block i (Nat.lt_of_lt_of_le hi h.gr.size) fun e=> ?_).trans (h.gr.block i hi hne);rcases h.loc i e.symm with h1 | h1
  ·exact hne h1.symm
  ·omega
 ·rcases k.loc g hg with h1 | h1
  ·exact h.loc g h1
  ·exact .inr (Nat.le_trans h.gr.size h1)
theorem Apd.jW {base:Nat} {w w':World} {v v':Value} {l:List UInt8} {o:Obj} (h:Apd base (w.alloc o) v w' v' l):Apd base w v w' v' l:=by
 refine ⟨h.own,⟨h.gr.os,h.gr.tape,h.gr.output,by have:=h.gr.size;simp at this;omega,fun i hi hne=> ?_⟩,fun g hg=> ?_⟩
 ·exact (h.gr.block i (by simp;omega) hne).trans (Below.heap_alloc w o i hi)
 ·rcases h.loc g hg with h1 | h1
  ·exact .inl h1
  ·right;simp at h1;omega
theorem Apd.below {base:Nat} {w w':World} {v v':Value} {l0 l:List UInt8} (h:Apd base w v w' v' l) (h0:Own base w v l0) (hb:base<=w.heap.size):Below base w w':=
 (Below.refl base w).grown h.gr hb fun _ hk=>(h0.lt hk).1
theorem aMd {base:Nat} {w:World} {v:Value} {l:List UInt8} (ty:TypeId) (h:Own base w v l) {bv:Value} {m:List UInt8} (hs:Bts w bv m) (hn:l.length+m.length<=140737488355328) (hbase:base<=w.heap.size):
  ∃v' w',(Builtin.append_ #[96,96] ty #[v,bv]).run Tryz.prog w=.ok v' w'/\Apd base w v w' v' (l++m):=by
 obtain⟨i0,hi,hz0,hz1,hz2⟩:=info_parts info5;rcases hs with ⟨rfl,rfl⟩ | ⟨a,cap,rfl,_,_,hc⟩
 ·exact ⟨v,w,run_append_owned_none w base 96 ty 5 i0 1 Tryz.underlying96 hi v _ _ h,Apd.refl (by simpa using h)⟩
 ·obtain ⟨v',w',h1,h2,h3,_,h5⟩:=run_append_own_at w base 96 ty 5 i0 (.int .u8 0) 1 1 Tryz.underlying96 hi hz0 hz1 hz2 rfl (by decide) v _ _ h a m.length cap (fU m) (by rw [qJ,Nat.mul_one]) hc
   (by intro u hu;simp [fU] at hu;obtain⟨x,_,rfl⟩:=hu;rfl) (by simp only [maxLen];omega) (by omega) hbase
  refine ⟨v',w',h1, ?_,h3,fun g hg=> ?_⟩
  ·unfold Own;rw [List.length_append,qK];exact h2
  ·rcases h5 with e | e
   ·left;rw [<-e];exact hg
   ·right;rw [e] at hg;cases hg;exact Nat.le_refl _
theorem wpList_append_run {P:Program} {ops:Array Oper} {rest:List Oper} {o:Oper} {a:Act} {w:World} {Q:Exit->Act->World->Prop} (hgd:o.guard=none) (s x:Operand) (t:TypeId)
  (ho:o.op=Op.call { callee:=Callee.builtin Builtin.append,args:=#[s,x],argTypes:=#[t,t] }) (v bv v':Value) (w':World) (hs:a.eval s=v) (hx:a.eval x=bv)
  (hrun:(Builtin.append_ #[t,t] o.type #[v,bv]).run P w=.ok v' w') (h:wpList P ops Q rest (a.put o.dst v') w'):wpList P ops Q (o:: rest) a w:=by
 refine wpList_plain hgd fun K hK=> ?_;unfold Oper.wp;simp [execOp,ho,resolve,invoke,builtin,hs,hx,hrun,Result.andThen];exact hK _ _ h
theorem aMe (w:World) (l:List UInt8) (z:Nat × Nat) (hl:l.length<=maxLen):Bts (w.alloc (.cells (fU l).toArray 5 z)) (.slice (some ⟨w.heap.size,0,none⟩) l.length l.length) l:=by
 refine .inr ⟨⟨w.heap.size,0,none⟩,l.length,rfl,Nat.le_refl _,hl, ?_⟩;intro j u hj;have:(w.alloc (.cells (fU l).toArray 5 z)).cell? ((⟨w.heap.size,0,none⟩:Addr).add j)=(fU l).toArray[j]? :=by
  have hp:(⟨w.heap.size,0,none⟩:Addr).add j=⟨w.heap.size,j,none⟩:=by unfold Addr.add;split <;> simp_all
  rw [hp];simp only [World.cell?,heap_alloc_new];rfl
 rw [this];simpa using hj
def lN (n:Int):Nat:=if n < 0 then (-2 * n - 1).toNat else (2 * n).toNat
def digits (u:Nat):List UInt8:=if u < 128 then [UInt8.ofNat u] else UInt8.ofNat (u % 128+128):: digits (u / 128)
def bH (n:Int):List UInt8:=digits (lN n)
theorem zU {n:Int} (h:In64 n):lN n < 18446744073709551616:=by unfold lN;unfold In64 at h;split <;> omega
theorem digits_length (u:Nat):∀k,u < 128 ^ (k+1)->(digits u).length<=k+1:=by
 intro k;induction k generalizing u with
 | zero=>intro h;unfold digits;rw [if_pos (by omega)];simp
 | succ k ih=>
  intro h;unfold digits;split
  ·simp
  ·have:=ih (u / 128) (by rw [Nat.pow_succ] at h;omega);simp;omega
theorem dJ {n:Int} (h:In64 n):(bH n).length<=10:=digits_length _ 9 (by have:=zU h;omega)
theorem rO {u:Nat} (h:128<=u):digits u=UInt8.ofNat (u % 128+128):: digits (u / 128):=by rw [digits,if_neg (by omega)]
theorem nN {u:Nat} (h:u < 128):digits u=[UInt8.ofNat u]:=by rw [digits,if_pos h]
theorem uF {base:Nat} {w:World} {v:Value} {l:List UInt8} (h:Own base w v l) (hb:base<=w.heap.size) (x:Nat) (hx:x < 256) (hl:l.length+1<=140737488355328):
  ∃v' w',(Builtin.append_ #[96,96] 96 #[v,.slice (some ⟨w.heap.size,0,none⟩) 1 1]).run Tryz.prog (w.alloc (.cells #[.int .u8 x] 5))=.ok v' w'/\Apd base w v w' v' (l++ [UInt8.ofNat x]):=by
 have bt:=aMe w [UInt8.ofNat x] (0,0) (by simp [maxLen]);have e:fU [UInt8.ofNat x]=[.int .u8 x]:=by simp [fU];omega
 rw [e] at bt;obtain⟨v',w',h1,h2⟩:=aMd 96 (h.alloc _) bt (by simpa using hl) (by simp;omega);exact⟨v',w',h1,h2.jW⟩
def lV:Nat->Nat->List UInt8->Option (Nat × List UInt8)
 | _,_,[]=>none
 | i,u,d:: r=>if i=9/\1 < d.toNat then none else
   if 128<=d.toNat then lV (i+1) (u+d.toNat % 128 * 128 ^ i) r else if d.toNat=0/\0 < i then none else some (u+d.toNat % 128 * 128 ^ i,r)
def pW (u:Nat):Int:=if u % 2=1 then -((u / 2:Nat):Int) - 1 else ((u / 2:Nat):Int)
theorem aEH {i u:Nat} {d:UInt8} {r:List UInt8} (h9:¬(i=9/\1 < d.toNat)) (h:d.toNat < 128) (h0:¬(d.toNat=0/\0 < i)):lV i u (d:: r)=some (u+d.toNat % 128 * 128 ^ i,r):=by rw [lV,if_neg h9,if_neg (by omega),if_neg h0]
def aBL (l:List UInt8):Option (Nat × List UInt8):=
 match lV 0 0 l with
 | none=>none
 | some (u,r)=>if pW u < 0\/(r.length:Int) < pW u then none else some ((pW u).toNat,r)
theorem aAj (r:List UInt8):∀(u i acc:Nat),i<=9->u * 128 ^ i < 18446744073709551616->(0 < i->0 < u)->lV i acc (digits u++r)=some (acc+u * 128 ^ i,r):=by
 intro u;induction u using Nat.strongRecOn with
 | _ u ih=>
  intro i acc hi hu h0;have e9:(128:Nat) ^ 9=9223372036854775808:=by decide
  by_cases hs:u < 128
  ·rw [nN hs];have ht:(UInt8.ofNat u).toNat=u:=by simp;omega
   have h9:¬(i=9/\1 < u):=by rintro ⟨rfl,h⟩;have:2 * 128 ^ 9<=u * 128 ^ 9:=Nat.mul_le_mul_right _ h;omega
   show lV i acc (UInt8.ofNat u:: r)=_;rw [aEH (by rw [ht];exact h9) (by rw [ht];exact hs) (by rw [ht];omega),ht,Nat.mod_eq_of_lt hs]
  ·rw [rO (by omega)];have ht:(UInt8.ofNat (u % 128+128)).toNat=u % 128+128:=by simp;omega
   have h9:i < 9:=by
    rcases Nat.lt_or_ge i 9 with h | h
    ·exact h
    ·have:i=9:=by omega
     subst this;have:128 * 128 ^ 9<=u * 128 ^ 9:=Nat.mul_le_mul_right _ (by omega);omega
   have hp:u=128 * (u / 128)+u % 128:=by omega
   have hm:u * 128 ^ i=u % 128 * 128 ^ i+u / 128 * 128 ^ (i+1):=by
    rw [Nat.pow_succ];generalize 128 ^ i=p
    conv=>lhs;rw [hp,Nat.add_mul]
    rw [Nat.add_comm,Nat.mul_comm p 128,Nat.mul_comm 128 (u / 128),Nat.mul_assoc]
   show lV i acc (UInt8.ofNat (u % 128+128):: (digits (u / 128)++r))=_;rw [lV,ht,if_neg (by omega),if_pos (by omega),ih (u / 128) (by omega) (i+1) _ (by omega) (by omega) (by omega),hm];congr 2;have:(u % 128+128) % 128=u % 128:=by omega
   rw [this];omega
theorem wI {n:Int} (h:In64 n) (r:List UInt8):lV 0 0 (bH n++r)=some (lN n,r):=by have:=aAj r (lN n) 0 0 (by omega) (by have:=zU h;simpa using this) (by omega);simpa [bH] using this
theorem wJ (n:Int):pW (lN n)=n:=by unfold pW lN;split <;> split <;> omega
theorem aEI (u:Nat):1<=(digits u).length:=by rw [digits];split <;> simp
def bJ (s:ByteArray):List UInt8:=bH s.size++s.data.toList
def bE (c:aK):List UInt8:=bH c.row++(bH c.col++bJ c.text)
def eT (x:eY):List UInt8:=bJ x.scope++(bJ x.name++bJ x.text)
def zV (v:sP):List UInt8:=bH v.kind++(bH v.n++bJ v.s)
def gB (x:dW):List UInt8:=bJ x.book++(bJ x.eP++(bH x.row++(bH x.col++zV x.value)))
def cO {α:Type} (B:α->List UInt8) (l:List α):List UInt8:=bH l.length++l.flatMap B
theorem oO (n:Int):1<=(bH n).length:=aEI _
theorem iW (s:ByteArray):(bJ s).length=(bH s.size).length+s.size:=by simp [bJ]
theorem pX (c:aK):1<=(bE c).length:=by have:=oO c.row;simp [bE];omega
theorem vO (c:eY):1<=(eT c).length:=by have:=oO c.scope.size;simp [eT,bJ];omega
theorem vP (c:dW):1<=(gB c).length:=by have:=oO c.row;simp [gB];omega
theorem kZ {α:Type} {B:α->List UInt8} (hB:∀x,1<=(B x).length) (l:List α):l.length<=(l.flatMap B).length:=by
 induction l with
 | nil=>simp
 | cons x r ih=>have:=hB x;simp only [List.flatMap_cons,List.length_append,List.length_cons];omega
theorem iX {α:Type} (B:α->List UInt8) (l:List α) (k:Nat) (h:k < l.length):(l.take (k+1)).flatMap B=(l.take k).flatMap B++B l[k]:=by rw [List.take_add_one,List.getElem?_eq_getElem h,List.flatMap_append];simp
theorem aAk {α:Type} (B:α->List UInt8) (l:List α) (k:Nat) (h:k < l.length):l.flatMap B=(l.take k).flatMap B++(B l[k]++(l.drop (k+1)).flatMap B):=by
 conv=>lhs;rw [<-List.take_append_drop (k+1) l,List.flatMap_append,iX B l k h,List.append_assoc]
theorem kJ {α:Type} (B:α->List UInt8) (l:List α) (k:Nat) (h:k < l.length):((l.take k).flatMap B).length+(B l[k]).length<=(l.flatMap B).length:=by rw [aAk B l k h];simp only [List.length_append];omega
abbrev Rdr (α:Type):=List UInt8->Option (α × List UInt8)
def aDm:Rdr Int:=fun l=>(lV 0 0 l).map fun p=>(pW p.1,p.2)
def qL:Rdr ByteArray:=fun l=>(aBL l).map fun p=>(⟨(p.2.take p.1).toArray⟩,p.2.drop p.1)
def nX:Rdr aK:=fun l=>(aDm l).bind fun a=>(aDm a.2).bind fun b=>(qL b.2).bind fun t=>some (⟨a.1,b.1,t.1⟩,t.2)
def aFB:Rdr eY:=fun l=>(qL l).bind fun a=>(qL a.2).bind fun b=>(qL b.2).bind fun t=>some (⟨a.1,b.1,t.1⟩,t.2)
def aNI:Rdr sP:=fun l=>(aDm l).bind fun a=>(aDm a.2).bind fun b=>(qL b.2).bind fun t=>some (⟨a.1,b.1,t.1⟩,t.2)
def aFC:Rdr dW:=fun l=>(qL l).bind fun a=>(qL a.2).bind fun b=>(aDm b.2).bind fun c=>(aDm c.2).bind fun d=>(aNI d.2).bind fun v=>some (⟨a.1,b.1,c.1,d.1,v.1⟩,v.2)
def aBM {α:Type} (R:Rdr α):Nat->Rdr (List α)
 | 0,l=>some ([],l)
 | n+1,l=>(R l).bind fun p=>(aBM R n p.2).bind fun q=>some (p.1:: q.1,q.2)
def aAl {α:Type} (R:Rdr α):Rdr (List α):=fun l=>(aBL l).bind fun p=>aBM R p.1 p.2
theorem vQ {n:Int} (h:In64 n) (r:List UInt8):aDm (bH n++r)=some (n,r):=by unfold aDm;rw [wI h];simp [wJ]
theorem aDn {n:Nat} (h:n<=9223372036854775807) {r:List UInt8} (hr:n<=r.length):aBL (bH n++r)=some (n,r):=by unfold aBL;rw [wI (by constructor <;> omega)];dsimp only;rw [wJ,if_neg (by omega)];simp
theorem lQ {s:ByteArray} (h:(bJ s).length<=9223372036854775807) (r:List UInt8):qL (bJ s++r)=some (s,r):=by
 rw [iW] at h;unfold qL bJ;rw [List.append_assoc,aDn (by omega) (by simp)];have e:s.size=s.data.toList.length:=by simp
 simp only [Option.map_some,e,List.take_left,List.drop_left]
theorem aMf {c:aK} (h:c.Ok) (hl:(bE c).length<=9223372036854775807) (r:List UInt8):nX (bE c++r)=some (c,r):=by simp only [bE,List.length_append] at hl;simp only [nX,bE,List.append_assoc,vQ h.1,vQ h.2,Option.bind_some,lQ (s:=c.text) (by omega)]
theorem aMg {c:eY} (hl:(eT c).length<=9223372036854775807) (r:List UInt8):aFB (eT c++r)=some (c,r):=by simp only [eT,List.length_append] at hl;simp only [aFB,eT,List.append_assoc,Option.bind_some,lQ (s:=c.scope) (by omega),lQ (s:=c.name) (by omega),lQ (s:=c.text) (by omega)]
theorem aNJ {c:sP} (h:c.Ok) (hl:(zV c).length<=9223372036854775807) (r:List UInt8):aNI (zV c++r)=some (c,r):=by simp only [zV,List.length_append] at hl;simp only [aNI,zV,List.append_assoc,vQ h.1,vQ h.2,Option.bind_some,lQ (s:=c.s) (by omega)]
theorem aMh {c:dW} (h:c.Ok) (hl:(gB c).length<=9223372036854775807) (r:List UInt8):aFC (gB c++r)=some (c,r):=by simp only [gB,List.length_append] at hl;simp only [aFC,gB,List.append_assoc,vQ h.1,vQ h.2.1,Option.bind_some,lQ (s:=c.book) (by omega),lQ (s:=c.eP) (by omega),aNJ (c:=c.value) h.2.2 (by omega)]
theorem aKe {α:Type} {R:Rdr α} {B:α->List UInt8} (l:List α) (h:∀x ∈ l,∀r,R (B x++r)=some (x,r)) (r:List UInt8):aBM R l.length (l.flatMap B++r)=some (l,r):=by
 induction l with
 | nil=>rfl
 | cons x t ih=>
  have h1:=ih fun y hy=>h y (by simp [hy]);rw [List.flatMap_cons,List.append_assoc,List.length_cons,aBM,h x (by simp)];simp only [Option.bind_some];rw [h1];rfl
theorem aBN {α:Type} {R:Rdr α} {B:α->List UInt8} (hB:∀x,1<=(B x).length) (l:List α) (h:∀x ∈ l,∀r,R (B x++r)=some (x,r)) (hl:(cO B l).length<=9223372036854775807) (r:List UInt8):aAl R (cO B l++r)=some (l,r):=by have hg:=kZ hB l;simp only [cO,List.length_append] at hl;unfold aAl cO;rw [List.append_assoc,aDn (by omega) (by rw [List.length_append];omega)];simp only [Option.bind_some];exact aKe l h r
theorem wY {α:Type} {B:α->List UInt8} {l:List α} {x:α} (h:x ∈ l):(B x).length<=(l.flatMap B).length:=by
 induction l with
 | nil=>cases h
 | cons y t ih=>
  simp only [List.flatMap_cons,List.length_append];rcases List.mem_cons.1 h with rfl | h
  ·omega
  ·have:=ih h;omega
def bC (s:aO):List UInt8:=bJ s.name++cO bE s.cells
def dF (x:aU):List UInt8:=cO bC x.aA++(cO eT x.names++cO gB x.links)
theorem zW (c:aO):1<=(bC c).length:=by have:=oO c.name.size;simp [bC,bJ];omega
def aBO:Rdr aO:=fun l=>(qL l).bind fun a=>(aAl nX a.2).bind fun b=>some (⟨a.1,b.1⟩,b.2)
def aKf:Rdr aU:=fun l=>(aAl aBO l).bind fun a=>(aAl aFB a.2).bind fun b=>(aAl aFC b.2).bind fun c=>some (⟨a.1,b.1,c.1⟩,c.2)
def aMD (l:List UInt8):Option aU:=
 match aKf l with
 | some (x,[])=>some x
 | _=>none
theorem aKg {l:List aK} (h:∀c ∈ l,c.Ok) (hl:(cO bE l).length<=9223372036854775807) (r:List UInt8):aAl nX (cO bE l++r)=some (l,r):=
 aBN pX l (fun o ho r=>aMf (h o ho) (by
  have:=wY (B:=bE) ho;simp only [cO,List.length_append] at hl;omega) r) hl r
theorem aKh {c:aO} (h:c.Ok) (hl:(bC c).length<=9223372036854775807) (r:List UInt8):aBO (bC c++r)=some (c,r):=by simp only [bC,List.length_append] at hl;simp only [aBO,bC,List.append_assoc,Option.bind_some,lQ (s:=c.name) (by omega),aKg h (by omega)]
theorem aGZ {l:List aO} (h:∀c ∈ l,c.Ok) (hl:(cO bC l).length<=9223372036854775807) (r:List UInt8):aAl aBO (cO bC l++r)=some (l,r):=
 aBN zW l (fun o ho r=>aKh (h o ho) (by
  have:=wY (B:=bC) ho;simp only [cO,List.length_append] at hl;omega) r) hl r
theorem aKi {l:List eY} (hl:(cO eT l).length<=9223372036854775807) (r:List UInt8):aAl aFB (cO eT l++r)=some (l,r):=
 aBN vO l (fun o ho r=>aMg (by
  have:=wY (B:=eT) ho;simp only [cO,List.length_append] at hl;omega) r) hl r
theorem aKj {l:List dW} (h:∀c ∈ l,c.Ok) (hl:(cO gB l).length<=9223372036854775807) (r:List UInt8):aAl aFC (cO gB l++r)=some (l,r):=
 aBN vP l (fun o ho r=>aMh (h o ho) (by
  have:=wY (B:=gB) ho;simp only [cO,List.length_append] at hl;omega) r) hl r
theorem aMi {x:aU} (h:x.Ok) (hl:(dF x).length<=9223372036854775807) (r:List UInt8):aKf (dF x++r)=some (x,r):=by simp only [dF,List.length_append] at hl;simp only [aKf,dF,List.append_assoc,Option.bind_some,aGZ h.1 (by omega),aKi (l:=x.names) (by omega),aKj h.2 (by omega)]
theorem wZ {x:aU} (h:x.Ok) (hl:(dF x).length<=9223372036854775807):aMD (dF x)=some x:=by have:=aMi h hl [];rw [List.append_nil] at this;unfold aMD;rw [this]
end Go.Proofs.YtlhoklhjbpkgpaaGreatDoor.Sh.Bt
namespace Go.Proofs.YtlhoklhjbpkgpaaGreatDoor.Sh
open Go.RowKit
theorem Cls.at {lo hi:Nat} {w:World} {a:Option Addr} {c:Nat} {L:List aK} (h:Cls lo hi w (.slice a L.length c) L) {k:Nat} (hk:k < L.length):
  ∃a',a=some a'/\w.cell? (a'.add (k * 3))=some (.int .i64 L[k].row)/\w.cell? ⟨(a'.add (k * 3)).block,(a'.add (k * 3)).off+1,none⟩=some (.int .i64 L[k].col)/\w.cell? ⟨(a'.add (k * 3)).block,(a'.add (k * 3)).off+2,none⟩=some (.string L[k].text):=by
 obtain⟨a',h1,h2,h3⟩:=Rws.at h hk;refine ⟨a',h1,h2 _ ?_,h3 1 _ (by decide) ?_,h3 2 _ (by decide) ?_⟩ <;> simp [List.getElem?_eq_getElem hk,cellC]
end Go.Proofs.YtlhoklhjbpkgpaaGreatDoor.Sh
namespace Go.Proofs.YtlhoklhjbpkgpaaGreatDoor.Sh.Bt
open Go.RowKit
theorem aFD {base:Nat} {w:World} {v:Value} {l:List UInt8} (ty:TypeId) (h:Own base w v l) (s:ByteArray) (hn:l.length+s.size<=140737488355328) (hbase:base<=w.heap.size):
  ∃v' w',(Builtin.append_ #[96,9] ty #[v,.string s]).run Tryz.prog w=.ok v' w'/\Own base w' v' (l++s.data.toList)/\w.grownBy w' v.ownBlock:=by
 obtain⟨i0,hi,hz0,hz1,hz2⟩:=info_parts info5;obtain⟨v',w',h1,h2,h3,_⟩:=Go.Lib.run_append_own_string (P:=Tryz.prog) w base 96 9 ty 5 i0 Tryz.underlying96 Tryz.underlying9 hi hz0 hz1 hz2 v _ _ h s (by simp only [maxLen];omega) hn hbase;refine ⟨v',w',h1, ?_,h3⟩;unfold Own;rw [List.length_append,qK];exact h2
theorem Own.aNK {base:Nat} {w:World} {v:Value} {l:List UInt8} (h:Own base w v l) {b:Nat} {C:Array Value} {z:Nat × Nat} {t:TypeId} (ht:t ≠ 5) (hb:w.heap[b]? =some (.cells C t z)):some b ≠ v.ownBlock:=by
 rcases h.2 with ⟨rfl,_⟩ | ⟨g,cap,cur,rfl,_,hh,_⟩
 ·simp [Value.ownBlock]
 ·simp only [Value.ownBlock];intro e;simp at e;subst e;rw [hb] at hh;simp at hh;exact ht hh.2.1
theorem rP {P:Program} {ops:Array Oper} {rest:List Oper} {o:Oper} {a:Act} {w:World} {Q:Exit->Act->World->Prop} (hgd:o.guard=none) (s x:Operand) (t u:TypeId)
  (ho:o.op=Op.call { callee:=Callee.builtin Builtin.append,args:=#[s,x],argTypes:=#[t,u] }) (v bv v':Value) (w':World) (hs:a.eval s=v) (hx:a.eval x=bv)
  (hrun:(Builtin.append_ #[t,u] o.type #[v,bv]).run P w=.ok v' w') (h:wpList P ops Q rest (a.put o.dst v') w'):wpList P ops Q (o:: rest) a w:=by
 refine wpList_plain hgd fun K hK=> ?_;unfold Oper.wp;simp [execOp,ho,resolve,invoke,builtin,hs,hx,hrun,Result.andThen];exact hK _ _ h
theorem aKk {base:Nat} {w:World} {v:Value} {l:List UInt8} (ty:TypeId) (h:Own base w v l) (s:ByteArray) (hn:l.length+s.size<=140737488355328) (hbase:base<=w.heap.size):
  ∃v' w',(Builtin.append_ #[96,9] ty #[v,.string s]).run Tryz.prog w=.ok v' w'/\Own base w' v' (l++s.data.toList)/\w.grownBy w' v.ownBlock/\∀g,v'.ownBlock=some g->v.ownBlock=some g\/w.heap.size<=g:=by
 obtain⟨i0,hi,hz0,hz1,hz2⟩:=info_parts info5;obtain⟨v',w',h1,h2,h3⟩:=aFD ty h s hn hbase;refine ⟨v',w',h1,h2,h3,fun g hg=> ?_⟩;rcases h.2 with ⟨rfl,hl0⟩ | ⟨g',cap,cur,rfl,hb,hh,hc1,hc2,hcs,htk⟩
 ·obtain rfl:=List.eq_nil_of_length_eq_zero hl0;obtain⟨v2,w2,k1,k2,_⟩:=aFD ty (Own.nil w w.heap.size) s hn (Nat.le_refl _);rw [h1] at k1;injection k1 with e1 e2;subst e1;exact .inr (k2.lt hg).1
 ·by_cases hroom:l.length+s.size<=cap
  ·have hr:=Lib.run_append_room_string (P:=Tryz.prog) w 96 9 ty 5 i0 Tryz.underlying96 Tryz.underlying9 hi hz1 g' l.length cap cur hh s hroom (by rw [hcs];omega);rw [h1] at hr;injection hr with e1 e2;subst e1;exact .inl hg
  ·have hr:=Lib.run_append_grow_string (P:=Tryz.prog) w 96 9 ty 5 i0 (.int .u8 0) Tryz.underlying96 Tryz.underlying9 hi hz0 ⟨g',0,none⟩ l.length cap (fU l) (by rw [qJ,hz1,Nat.mul_one]) (World.ownsRow.cells h (g:=g') rfl) s (by omega) (by omega) (growslice_fits (by omega) (by rw [hz2];omega));rw [h1] at hr;injection hr with e1 e2;subst e1;simp [Value.ownBlock] at hg;subst hg;exact .inr (Nat.le_refl _)
theorem aKl {base:Nat} {w:World} {v:Value} {l:List UInt8} (h:Own base w v l) (hb:base<=w.heap.size) (s:ByteArray) (hl:l.length+s.size<=140737488355328):
  ∃v' w',(Builtin.append_ #[96,9] 96 #[v,.string s]).run Tryz.prog w=.ok v' w'/\Apd base w v w' v' (l++s.data.toList):=by
 obtain⟨v',w',h1,h2,h3,h4⟩:=aKk 96 h s hl hb;exact⟨v',w',h1,h2,h3,h4⟩
theorem Apd.box {base:Nat} {w w':World} {v v':Value} {l m:List UInt8} (a:Apd base w v w' v' m) (h:Own base w v l) {b:Nat} {C:Array Value} {z:Nat × Nat} {t:TypeId} (ht:t ≠ 5) (hb:w.heap[b]? =some (.cells C t z)):w'.heap[b]? =some (.cells C t z):=by
 rw [a.gr.block b ?_ (h.aNK ht hb)]
 ·exact hb
 ·rcases Nat.lt_or_ge b w.heap.size with h | h
  ·exact h
  ·rw [Array.getElem?_eq_none h] at hb;cases hb
theorem aKm {n:Int} (h:In64 n) (h0:n < 0):bits .xor .u64 (IntKind.u64.wrap (IntKind.u64.wrap n * 2)) 18446744073709551615=(lN n:Int):=by
 unfold In64 at h;have e1:IntKind.u64.wrap (IntKind.u64.wrap n * 2)=(((2 * n+18446744073709551616).toNat:Nat):Int):=by rw [IntKind.wrap_u64,IntKind.wrap_u64];omega
 have e2:(18446744073709551615:Int)=((2 ^ 64 - 1:Nat):Int):=by decide
 rw [e1,e2,bits_xor_u64_nat _ _ (by omega) (by decide),Nat.xor_comm,Lib.xor_ones64 _ (by omega)];unfold lN;rw [if_pos h0];omega
theorem iY {base:Nat} {w:World} {v:Value} {l:List UInt8} (h:Own base w v l) (hb:base<=w.heap.size) (n:Int) (hn:In64 n) (hl:l.length+10<=140737488355328):
  Calls Tryz.prog 98 #[v,.int .i64 n] w fun e w'=>∃v',e=.returned v'/\Apd base w v w' v' (l++bH n):=by
 have hlt:=zU hn;have HL:Hid ((bH n).length<=10):=dJ hn;have HN:Hid (bH n=digits (lN n)):=rfl;have H:Hid (Own base w v l):=h;by_cases h0:n < 0
 ·have FX:=aKm hn h0;unfold In64 at hn;clear h;go_enter Tryz.func98,Tryz.ntmps98;go_wp2_with fail
  go_loopw [0,5] (fun v5 u5 wr=>∃m:Nat,u5=.int .u64 m/\m < 18446744073709551616/\Hid (∃done,bH n=done++digits m/\Apd base w v wr v5 (l++done))) (fun _ u5 _=>(intOf u5).toNat)
  case atStart=>exact⟨lN n,by rfl,hlt,[],HN.out,by simpa using Apd.refl H.out⟩
  case round=>
   obtain⟨m,rfl,hm,HD⟩:=hrel;clear HN hlt hn h0 FX;have fo:bits .or .u8 ((m:Int) % 256) 128=(m:Int) % 128+128:=by rw [Lib.u8_or128_any _ (by omega) (by omega)];omega
   by_cases hbig:128<=m
   ·have E:Hid (∃v' w',(Builtin.append_ #[96,96] 96 #[u0,.slice (some ⟨wr.heap.size,0,none⟩) 1 1]).run Tryz.prog (wr.alloc (.cells #[.int .u8 ((m:Int) % 128+128)] 5))=.ok v' w'/\∃done,bH n=done++digits (m / 128)/\Apd base w v w' v' (l++done)):=by obtain⟨done,hd,ap⟩:=HD.out;rw [rO hbig] at hd;have hlen:=HL.out;rw [hd] at hlen;simp only [List.length_append,List.length_cons] at hlen;obtain⟨v',w',h1,h2⟩:=uF ap.own (Nat.le_trans hb ap.gr.size) (m % 128+128) (by omega) (by simp only [List.length_append];omega);refine ⟨v',w',by exact h1,done++ [UInt8.ofNat (m % 128+128)],by rw [hd];simp, ?_⟩;have:=ap.trans h2;rw [List.append_assoc] at this;exact this
    obtain⟨v',w',run,E2⟩:=E.out;have R:Hid _:=run;have E3:Hid _:=E2;clear E run E2 HD;go_wp2_with (at_builtin;refine wpList_append_run rfl _ _ 96 rfl _ _ _ _ rfl rfl R.out ?_)
    go_roundw
    case rel=>exact⟨m / 128,by go_num,by omega,E3.out⟩
    case measure=>simp [intOf];omega
   ·have E:Hid (∃v' w',(Builtin.append_ #[96,96] 96 #[u0,.slice (some ⟨wr.heap.size,0,none⟩) 1 1]).run Tryz.prog (wr.alloc (.cells #[.int .u8 (m:Int)] 5))=.ok v' w'/\Apd base w v w' v' (l++bH n)):=by obtain⟨done,hd,ap⟩:=HD.out;rw [nN (by omega)] at hd;have hlen:=HL.out;rw [hd] at hlen;simp only [List.length_append,List.length_cons] at hlen;obtain⟨v',w',h1,h2⟩:=uF ap.own (Nat.le_trans hb ap.gr.size) m (by omega) (by simp only [List.length_append];omega);refine ⟨v',w',h1, ?_⟩;have:=ap.trans h2;rw [List.append_assoc,<-hd] at this;exact this
    obtain⟨v',w',run,E2⟩:=E.out;have R:Hid _:=run;have E3:Hid _:=E2;clear E run E2 HD fo;go_wp2_with (at_builtin;refine wpList_append_run rfl _ _ 96 rfl _ _ _ _ rfl rfl R.out ?_)
    go_ret;exact⟨v',rfl,E3.out⟩
 ·have FX:Hid (n * 2=(lN n:Int)):=by show _=_;unfold lN;rw [if_neg h0];omega
  unfold In64 at hn;clear h;go_enter Tryz.func98,Tryz.ntmps98;go_wp2_with fail
  go_loopw [0,5] (fun v5 u5 wr=>∃m:Nat,u5=.int .u64 m/\m < 18446744073709551616/\Hid (∃done,bH n=done++digits m/\Apd base w v wr v5 (l++done))) (fun _ u5 _=>(intOf u5).toNat)
  case atStart=>exact⟨lN n,by rw [<-FX.out],hlt,[],HN.out,by simpa using Apd.refl H.out⟩
  case round=>
   obtain⟨m,rfl,hm,HD⟩:=hrel;clear HN hlt hn h0 FX;have fo:bits .or .u8 ((m:Int) % 256) 128=(m:Int) % 128+128:=by rw [Lib.u8_or128_any _ (by omega) (by omega)];omega
   by_cases hbig:128<=m
   ·have E:Hid (∃v' w',(Builtin.append_ #[96,96] 96 #[u0,.slice (some ⟨wr.heap.size,0,none⟩) 1 1]).run Tryz.prog (wr.alloc (.cells #[.int .u8 ((m:Int) % 128+128)] 5))=.ok v' w'/\∃done,bH n=done++digits (m / 128)/\Apd base w v w' v' (l++done)):=by obtain⟨done,hd,ap⟩:=HD.out;rw [rO hbig] at hd;have hlen:=HL.out;rw [hd] at hlen;simp only [List.length_append,List.length_cons] at hlen;obtain⟨v',w',h1,h2⟩:=uF ap.own (Nat.le_trans hb ap.gr.size) (m % 128+128) (by omega) (by simp only [List.length_append];omega);refine ⟨v',w',by exact h1,done++ [UInt8.ofNat (m % 128+128)],by rw [hd];simp, ?_⟩;have:=ap.trans h2;rw [List.append_assoc] at this;exact this
    obtain⟨v',w',run,E2⟩:=E.out;have R:Hid _:=run;have E3:Hid _:=E2;clear E run E2 HD;go_wp2_with (at_builtin;refine wpList_append_run rfl _ _ 96 rfl _ _ _ _ rfl rfl R.out ?_)
    go_roundw
    case rel=>exact⟨m / 128,by go_num,by omega,E3.out⟩
    case measure=>simp [intOf];omega
   ·have E:Hid (∃v' w',(Builtin.append_ #[96,96] 96 #[u0,.slice (some ⟨wr.heap.size,0,none⟩) 1 1]).run Tryz.prog (wr.alloc (.cells #[.int .u8 (m:Int)] 5))=.ok v' w'/\Apd base w v w' v' (l++bH n)):=by obtain⟨done,hd,ap⟩:=HD.out;rw [nN (by omega)] at hd;have hlen:=HL.out;rw [hd] at hlen;simp only [List.length_append,List.length_cons] at hlen;obtain⟨v',w',h1,h2⟩:=uF ap.own (Nat.le_trans hb ap.gr.size) m (by omega) (by simp only [List.length_append];omega);refine ⟨v',w',h1, ?_⟩;have:=ap.trans h2;rw [List.append_assoc,<-hd] at this;exact this
    obtain⟨v',w',run,E2⟩:=E.out;have R:Hid _:=run;have E3:Hid _:=E2;clear E run E2 HD fo;go_wp2_with (at_builtin;refine wpList_append_run rfl _ _ 96 rfl _ _ _ _ rfl rfl R.out ?_)
    go_ret;exact⟨v',rfl,E3.out⟩
theorem Own.drew {base:Nat} {w:World} {v:Value} {l:List UInt8} (h:Own base w v l):Own base w.drew v l:=h
theorem Apd.uG {base:Nat} {w w':World} {v v':Value} {l:List UInt8} (h:Apd base w.drew v w' v' l):Apd base w v w' v' l:=⟨h.own,⟨h.gr.os,h.gr.tape,h.gr.output,h.gr.size,h.gr.block⟩,h.loc⟩
theorem fC {base:Nat} {w:World} {v:Value} {l:List UInt8} (h:Own base w v l) (hb:base<=w.heap.size) (s:ByteArray) (hl:l.length+(bJ s).length+10<=140737488355328):
  Calls Tryz.prog 100 #[v,.string s] w fun e w'=>∃v',e=.returned v'/\Apd base w v w' v' (l++bJ s):=by
 have hz:=iW s;have C:Calls Tryz.prog 98 #[v,.int .i64 s.size] w fun e w'=>∃v1,e=.returned v1/\∃v' w2,Hid ((Builtin.append_ #[96,9] 96 #[v1,.string s]).run Tryz.prog w'=.ok v' w2)/\Hid (Apd base w v w2 v' (l++bJ s)):=by refine (iY h hb s.size (by constructor <;> omega) (by omega)).mono ?_;rintro e w' ⟨v1,rfl,ap⟩;obtain⟨v',w2,hr,ap2⟩:=aKl ap.own (Nat.le_trans hb ap.gr.size) s (by rw [List.length_append];omega);refine ⟨v1,rfl,v',w2,hr, ?_⟩;have:=ap.trans ap2;rw [List.append_assoc] at this;exact this
 have hs:s.size<=140737488355328:=by omega
 clear h hl hz hb;go_enter Tryz.func100,Tryz.ntmps100;go_wp2_with (first|(go_at_call 98;refine C.mono ?_;rintro e w1 ⟨v1,rfl,v2,w2,R,A⟩)|(at_builtin;refine rP rfl _ _ 96 9 rfl _ _ _ _ rfl rfl R.out ?_))
 go_ret;exact⟨v2,rfl,A.out⟩
theorem aDo {base:Nat} {w:World} {v:Value} {l:List UInt8} (h:Own base w v l) (hb:base<=w.heap.size) (x:eY) (hl:l.length+(eT x).length+10<=140737488355328):
  Calls Tryz.prog 101 #[v,jZ x] w fun e w'=>∃v',e=.returned v'/\Apd base w v w' v' (l++eT x):=by
 obtain⟨sc,nm,tx⟩:=x;simp only [eT,List.length_append] at *;try dsimp only at *
 have HL:Hid _:=hl;have O0:Hid (Own base (w.alloc (.cells #[.string sc,.string nm,.string tx] 89)) v l):=h.alloc _;have HK:Hid ((w.alloc (.cells #[.string sc,.string nm,.string tx] 89)).heap[w.heap.size]? =some (.cells #[.string sc,.string nm,.string tx] 89)):=heap_alloc_new w _;have HB:Hid (base<=(w.alloc (.cells #[.string sc,.string nm,.string tx] 89)).heap.size):=by show _<=_;simp;omega
 have T1:Hid (Calls Tryz.prog 100 #[v,.string sc] (w.alloc (.cells #[.string sc,.string nm,.string tx] 89)).drew fun e w'=>∃v',e=.returned v'/\Hid (w'.heap[w.heap.size]? =some (.cells #[.string sc,.string nm,.string tx] 89))/\Hid (Apd base (w.alloc (.cells #[.string sc,.string nm,.string tx] 89)) v w' v' (l++bJ sc))):=by refine (fC (O0.out.drew) HB.out sc (by have:=HL.out;(try simp only [List.length_append]);omega)).mono ?_;rintro e w' ⟨v',rfl,ap⟩;exact⟨v',rfl,Apd.box (w:=(w.alloc (.cells #[.string sc,.string nm,.string tx] 89)).drew) ap O0.out.drew (by decide) HK.out,ap.uG⟩
 have T2:Hid (∀w1 v1,Hid (w1.heap[w.heap.size]? =some (.cells #[.string sc,.string nm,.string tx] 89))->Hid (Apd base (w.alloc (.cells #[.string sc,.string nm,.string tx] 89)) v w1 v1 (l++bJ sc))->Calls Tryz.prog 100 #[v1,.string nm] w1 fun e w'=>∃v',e=.returned v'/\Hid (w'.heap[w.heap.size]? =some (.cells #[.string sc,.string nm,.string tx] 89))/\Hid (Apd base (w.alloc (.cells #[.string sc,.string nm,.string tx] 89)) v w' v' (l++bJ sc++bJ nm))):=by intro w1 v1 hk ap1;refine (fC (ap1.out.own) (Nat.le_trans HB.out ap1.out.gr.size) nm (by have:=HL.out;(try simp only [List.length_append]);omega)).mono ?_;rintro e w' ⟨v',rfl,ap⟩;exact⟨v',rfl,Apd.box ap ap1.out.own (by decide) hk.out,ap1.out.trans ap⟩
 have T3:Hid (∀w1 v1,Hid (w1.heap[w.heap.size]? =some (.cells #[.string sc,.string nm,.string tx] 89))->Hid (Apd base (w.alloc (.cells #[.string sc,.string nm,.string tx] 89)) v w1 v1 (l++bJ sc++bJ nm))->Calls Tryz.prog 100 #[v1,.string tx] w1 fun e w'=>∃v',e=.returned v'/\Hid (w'.heap[w.heap.size]? =some (.cells #[.string sc,.string nm,.string tx] 89))/\Hid (Apd base (w.alloc (.cells #[.string sc,.string nm,.string tx] 89)) v w' v' (l++bJ sc++bJ nm++bJ tx))):=by intro w1 v1 hk ap1;refine (fC (ap1.out.own) (Nat.le_trans HB.out ap1.out.gr.size) tx (by have:=HL.out;(try simp only [List.length_append]);omega)).mono ?_;rintro e w' ⟨v',rfl,ap⟩;exact⟨v',rfl,Apd.box ap ap1.out.own (by decide) hk.out,ap1.out.trans ap⟩
 clear h hl hb O0 HB HL;go_enter Tryz.func101,Tryz.ntmps101;go_wp2_with fail
 go_region_held_law (fun u=>u.cell? ⟨w.heap.size,0,none⟩=some (.string sc)/\u.cell? ⟨w.heap.size,1,none⟩=some (.string nm)/\u.cell? ⟨w.heap.size,2,none⟩=some (.string tx)) (exact ⟨aH HK.out rfl,aH HK.out rfl,aH HK.out rfl⟩) (first|(go_at_call_of 100 sc;refine T1.out.mono ?_;rintro e w1 ⟨v1,rfl,HK,HA⟩)|(go_at_call_of 100 nm;refine (T2.out _ _ HK HA).mono ?_;rintro e w1 ⟨v1,rfl,HK,HA⟩)|(go_at_call_of 100 tx;refine (T3.out _ _ HK HA).mono ?_;rintro e w1 ⟨v1,rfl,HK,HA⟩))
 go_wp2_with fail
 go_ret;exact⟨_,rfl,by have:=HA.out.jW;simp only [List.append_assoc] at this;exact this⟩
theorem aBP {base:Nat} {w:World} {v:Value} {l:List UInt8} (h:Own base w v l) (hb:base<=w.heap.size) (x:sP) (ok:x.Ok) (hl:l.length+(zV x).length+10<=140737488355328):
  Calls Tryz.prog 147 #[v,aKW x] w fun e w'=>∃v',e=.returned v'/\Apd base w v w' v' (l++zV x):=by
 obtain⟨kd,nn,ss⟩:=x;obtain⟨i1,i2⟩:=ok;simp only [zV,List.length_append] at *;try dsimp only at *
 have HL:Hid _:=hl;have O0:Hid (Own base (w.alloc (.cells #[.int .i64 kd,.int .i64 nn,.string ss] 62)) v l):=h.alloc _;have HK:Hid ((w.alloc (.cells #[.int .i64 kd,.int .i64 nn,.string ss] 62)).heap[w.heap.size]? =some (.cells #[.int .i64 kd,.int .i64 nn,.string ss] 62)):=heap_alloc_new w _;have HB:Hid (base<=(w.alloc (.cells #[.int .i64 kd,.int .i64 nn,.string ss] 62)).heap.size):=by show _<=_;simp;omega
 have T1:Hid (Calls Tryz.prog 98 #[v,.int .i64 kd] (w.alloc (.cells #[.int .i64 kd,.int .i64 nn,.string ss] 62)).drew fun e w'=>∃v',e=.returned v'/\Hid (w'.heap[w.heap.size]? =some (.cells #[.int .i64 kd,.int .i64 nn,.string ss] 62))/\Hid (Apd base (w.alloc (.cells #[.int .i64 kd,.int .i64 nn,.string ss] 62)) v w' v' (l++bH kd))):=by refine (iY (O0.out.drew) HB.out kd i1 (by have:=HL.out;(try simp only [List.length_append]);omega)).mono ?_;rintro e w' ⟨v',rfl,ap⟩;exact⟨v',rfl,Apd.box (w:=(w.alloc (.cells #[.int .i64 kd,.int .i64 nn,.string ss] 62)).drew) ap O0.out.drew (by decide) HK.out,ap.uG⟩
 have T2:Hid (∀w1 v1,Hid (w1.heap[w.heap.size]? =some (.cells #[.int .i64 kd,.int .i64 nn,.string ss] 62))->Hid (Apd base (w.alloc (.cells #[.int .i64 kd,.int .i64 nn,.string ss] 62)) v w1 v1 (l++bH kd))->Calls Tryz.prog 98 #[v1,.int .i64 nn] w1 fun e w'=>∃v',e=.returned v'/\Hid (w'.heap[w.heap.size]? =some (.cells #[.int .i64 kd,.int .i64 nn,.string ss] 62))/\Hid (Apd base (w.alloc (.cells #[.int .i64 kd,.int .i64 nn,.string ss] 62)) v w' v' (l++bH kd++bH nn))):=by intro w1 v1 hk ap1;refine (iY (ap1.out.own) (Nat.le_trans HB.out ap1.out.gr.size) nn i2 (by have:=HL.out;(try simp only [List.length_append]);omega)).mono ?_;rintro e w' ⟨v',rfl,ap⟩;exact⟨v',rfl,Apd.box ap ap1.out.own (by decide) hk.out,ap1.out.trans ap⟩
 have T3:Hid (∀w1 v1,Hid (w1.heap[w.heap.size]? =some (.cells #[.int .i64 kd,.int .i64 nn,.string ss] 62))->Hid (Apd base (w.alloc (.cells #[.int .i64 kd,.int .i64 nn,.string ss] 62)) v w1 v1 (l++bH kd++bH nn))->Calls Tryz.prog 100 #[v1,.string ss] w1 fun e w'=>∃v',e=.returned v'/\Hid (w'.heap[w.heap.size]? =some (.cells #[.int .i64 kd,.int .i64 nn,.string ss] 62))/\Hid (Apd base (w.alloc (.cells #[.int .i64 kd,.int .i64 nn,.string ss] 62)) v w' v' (l++bH kd++bH nn++bJ ss))):=by intro w1 v1 hk ap1;refine (fC (ap1.out.own) (Nat.le_trans HB.out ap1.out.gr.size) ss (by have:=HL.out;(try simp only [List.length_append]);omega)).mono ?_;rintro e w' ⟨v',rfl,ap⟩;exact⟨v',rfl,Apd.box ap ap1.out.own (by decide) hk.out,ap1.out.trans ap⟩
 clear h hl hb O0 HB HL;go_enter Tryz.func147,Tryz.ntmps147;go_wp2_with fail
 go_region_held_law (fun u=>u.cell? ⟨w.heap.size,0,none⟩=some (.int .i64 kd)/\u.cell? ⟨w.heap.size,1,none⟩=some (.int .i64 nn)/\u.cell? ⟨w.heap.size,2,none⟩=some (.string ss)) (exact ⟨aH HK.out rfl,aH HK.out rfl,aH HK.out rfl⟩) (first|(go_at_call_of 98 kd;refine T1.out.mono ?_;rintro e w1 ⟨v1,rfl,HK,HA⟩)|(go_at_call_of 98 nn;refine (T2.out _ _ HK HA).mono ?_;rintro e w1 ⟨v1,rfl,HK,HA⟩)|(go_at_call_of 100 ss;refine (T3.out _ _ HK HA).mono ?_;rintro e w1 ⟨v1,rfl,HK,HA⟩))
 go_wp2_with fail
 go_ret;exact⟨_,rfl,by have:=HA.out.jW;simp only [List.append_assoc] at this;exact this⟩
theorem aDp {base:Nat} {w:World} {v:Value} {l:List UInt8} (h:Own base w v l) (hb:base<=w.heap.size) (x:dW) (ok:x.Ok) (hl:l.length+(gB x).length+10<=140737488355328):
  Calls Tryz.prog 102 #[v,kC x] w fun e w'=>∃v',e=.returned v'/\Apd base w v w' v' (l++gB x):=by
 obtain⟨bk,sh,rw,cl,va⟩:=x;obtain⟨i1,i2,i3⟩:=ok;simp only [gB,List.length_append] at *;try dsimp only at *
 have HL:Hid _:=hl;have O0:Hid (Own base (w.alloc (.cells #[.string bk,.string sh,.int .i64 rw,.int .i64 cl,.int .i64 va.kind,.int .i64 va.n,.string va.s] 91)) v l):=h.alloc _;have HK:Hid ((w.alloc (.cells #[.string bk,.string sh,.int .i64 rw,.int .i64 cl,.int .i64 va.kind,.int .i64 va.n,.string va.s] 91)).heap[w.heap.size]? =some (.cells #[.string bk,.string sh,.int .i64 rw,.int .i64 cl,.int .i64 va.kind,.int .i64 va.n,.string va.s] 91)):=heap_alloc_new w _;have HB:Hid (base<=(w.alloc (.cells #[.string bk,.string sh,.int .i64 rw,.int .i64 cl,.int .i64 va.kind,.int .i64 va.n,.string va.s] 91)).heap.size):=by show _<=_;simp;omega
 have T1:Hid (Calls Tryz.prog 100 #[v,.string bk] (w.alloc (.cells #[.string bk,.string sh,.int .i64 rw,.int .i64 cl,.int .i64 va.kind,.int .i64 va.n,.string va.s] 91)).drew fun e w'=>∃v',e=.returned v'/\Hid (w'.heap[w.heap.size]? =some (.cells #[.string bk,.string sh,.int .i64 rw,.int .i64 cl,.int .i64 va.kind,.int .i64 va.n,.string va.s] 91))/\Hid (Apd base (w.alloc (.cells #[.string bk,.string sh,.int .i64 rw,.int .i64 cl,.int .i64 va.kind,.int .i64 va.n,.string va.s] 91)) v w' v' (l++bJ bk))):=by refine (fC (O0.out.drew) HB.out bk (by have:=HL.out;(try simp only [List.length_append]);omega)).mono ?_;rintro e w' ⟨v',rfl,ap⟩;exact⟨v',rfl,Apd.box (w:=(w.alloc (.cells #[.string bk,.string sh,.int .i64 rw,.int .i64 cl,.int .i64 va.kind,.int .i64 va.n,.string va.s] 91)).drew) ap O0.out.drew (by decide) HK.out,ap.uG⟩
 have T2:Hid (∀w1 v1,Hid (w1.heap[w.heap.size]? =some (.cells #[.string bk,.string sh,.int .i64 rw,.int .i64 cl,.int .i64 va.kind,.int .i64 va.n,.string va.s] 91))->Hid (Apd base (w.alloc (.cells #[.string bk,.string sh,.int .i64 rw,.int .i64 cl,.int .i64 va.kind,.int .i64 va.n,.string va.s] 91)) v w1 v1 (l++bJ bk))->Calls Tryz.prog 100 #[v1,.string sh] w1 fun e w'=>∃v',e=.returned v'/\Hid (w'.heap[w.heap.size]? =some (.cells #[.string bk,.string sh,.int .i64 rw,.int .i64 cl,.int .i64 va.kind,.int .i64 va.n,.string va.s] 91))/\Hid (Apd base (w.alloc (.cells #[.string bk,.string sh,.int .i64 rw,.int .i64 cl,.int .i64 va.kind,.int .i64 va.n,.string va.s] 91)) v w' v' (l++bJ bk++bJ sh))):=by intro w1 v1 hk ap1;refine (fC (ap1.out.own) (Nat.le_trans HB.out ap1.out.gr.size) sh (by have:=HL.out;(try simp only [List.length_append]);omega)).mono ?_;rintro e w' ⟨v',rfl,ap⟩;exact⟨v',rfl,Apd.box ap ap1.out.own (by decide) hk.out,ap1.out.trans ap⟩
 have T3:Hid (∀w1 v1,Hid (w1.heap[w.heap.size]? =some (.cells #[.string bk,.string sh,.int .i64 rw,.int .i64 cl,.int .i64 va.kind,.int .i64 va.n,.string va.s] 91))->Hid (Apd base (w.alloc (.cells #[.string bk,.string sh,.int .i64 rw,.int .i64 cl,.int .i64 va.kind,.int .i64 va.n,.string va.s] 91)) v w1 v1 (l++bJ bk++bJ sh))->Calls Tryz.prog 98 #[v1,.int .i64 rw] w1 fun e w'=>∃v',e=.returned v'/\Hid (w'.heap[w.heap.size]? =some (.cells #[.string bk,.string sh,.int .i64 rw,.int .i64 cl,.int .i64 va.kind,.int .i64 va.n,.string va.s] 91))/\Hid (Apd base (w.alloc (.cells #[.string bk,.string sh,.int .i64 rw,.int .i64 cl,.int .i64 va.kind,.int .i64 va.n,.string va.s] 91)) v w' v' (l++bJ bk++bJ sh++bH rw))):=by intro w1 v1 hk ap1;refine (iY (ap1.out.own) (Nat.le_trans HB.out ap1.out.gr.size) rw i1 (by have:=HL.out;(try simp only [List.length_append]);omega)).mono ?_;rintro e w' ⟨v',rfl,ap⟩;exact⟨v',rfl,Apd.box ap ap1.out.own (by decide) hk.out,ap1.out.trans ap⟩
 have T4:Hid (∀w1 v1,Hid (w1.heap[w.heap.size]? =some (.cells #[.string bk,.string sh,.int .i64 rw,.int .i64 cl,.int .i64 va.kind,.int .i64 va.n,.string va.s] 91))->Hid (Apd base (w.alloc (.cells #[.string bk,.string sh,.int .i64 rw,.int .i64 cl,.int .i64 va.kind,.int .i64 va.n,.string va.s] 91)) v w1 v1 (l++bJ bk++bJ sh++bH rw))->Calls Tryz.prog 98 #[v1,.int .i64 cl] w1 fun e w'=>∃v',e=.returned v'/\Hid (w'.heap[w.heap.size]? =some (.cells #[.string bk,.string sh,.int .i64 rw,.int .i64 cl,.int .i64 va.kind,.int .i64 va.n,.string va.s] 91))/\Hid (Apd base (w.alloc (.cells #[.string bk,.string sh,.int .i64 rw,.int .i64 cl,.int .i64 va.kind,.int .i64 va.n,.string va.s] 91)) v w' v' (l++bJ bk++bJ sh++bH rw++bH cl))):=by intro w1 v1 hk ap1;refine (iY (ap1.out.own) (Nat.le_trans HB.out ap1.out.gr.size) cl i2 (by have:=HL.out;(try simp only [List.length_append]);omega)).mono ?_;rintro e w' ⟨v',rfl,ap⟩;exact⟨v',rfl,Apd.box ap ap1.out.own (by decide) hk.out,ap1.out.trans ap⟩
 have T5:Hid (∀w1 v1,Hid (w1.heap[w.heap.size]? =some (.cells #[.string bk,.string sh,.int .i64 rw,.int .i64 cl,.int .i64 va.kind,.int .i64 va.n,.string va.s] 91))->Hid (Apd base (w.alloc (.cells #[.string bk,.string sh,.int .i64 rw,.int .i64 cl,.int .i64 va.kind,.int .i64 va.n,.string va.s] 91)) v w1 v1 (l++bJ bk++bJ sh++bH rw++bH cl))->Calls Tryz.prog 147 #[v1,aKW va] w1 fun e w'=>∃v',e=.returned v'/\Hid (w'.heap[w.heap.size]? =some (.cells #[.string bk,.string sh,.int .i64 rw,.int .i64 cl,.int .i64 va.kind,.int .i64 va.n,.string va.s] 91))/\Hid (Apd base (w.alloc (.cells #[.string bk,.string sh,.int .i64 rw,.int .i64 cl,.int .i64 va.kind,.int .i64 va.n,.string va.s] 91)) v w' v' (l++bJ bk++bJ sh++bH rw++bH cl++zV va))):=by intro w1 v1 hk ap1;refine (aBP (ap1.out.own) (Nat.le_trans HB.out ap1.out.gr.size) va i3 (by have:=HL.out;(try simp only [List.length_append]);omega)).mono ?_;rintro e w' ⟨v',rfl,ap⟩;exact⟨v',rfl,Apd.box ap ap1.out.own (by decide) hk.out,ap1.out.trans ap⟩
 clear h hl hb O0 HB HL;go_enter Tryz.func102,Tryz.ntmps102;go_wp2_with fail
 go_region_held_law (fun u=>u.cell? ⟨w.heap.size,0,none⟩=some (.string bk)/\u.cell? ⟨w.heap.size,1,none⟩=some (.string sh)/\u.cell? ⟨w.heap.size,2,none⟩=some (.int .i64 rw)/\u.cell? ⟨w.heap.size,3,none⟩=some (.int .i64 cl)/\u.cell? ⟨w.heap.size,4,none⟩=some (.int .i64 va.kind)/\u.cell? ⟨w.heap.size,5,none⟩=some (.int .i64 va.n)/\u.cell? ⟨w.heap.size,6,none⟩=some (.string va.s)) (exact ⟨aH HK.out rfl,aH HK.out rfl,aH HK.out rfl,aH HK.out rfl,aH HK.out rfl,aH HK.out rfl,aH HK.out rfl⟩) (first|(go_at_call_of 100 bk;refine T1.out.mono ?_;rintro e w1 ⟨v1,rfl,HK,HA⟩)|(go_at_call_of 100 sh;refine (T2.out _ _ HK HA).mono ?_;rintro e w1 ⟨v1,rfl,HK,HA⟩)|(go_at_call_of 98 rw;refine (T3.out _ _ HK HA).mono ?_;rintro e w1 ⟨v1,rfl,HK,HA⟩)|(go_at_call_of 98 cl;refine (T4.out _ _ HK HA).mono ?_;rintro e w1 ⟨v1,rfl,HK,HA⟩)|(go_at_call 147;refine (T5.out _ _ HK HA).mono ?_;rintro e w1 ⟨v1,rfl,HK,HA⟩))
 go_wp2_with fail
 go_ret;exact⟨_,rfl,by have:=HA.out.jW;simp only [List.append_assoc] at this;exact this⟩
theorem aBQ {base lo hi:Nat} {w:World} {v:Value} {l:List UInt8} (h:Own base w v l) (hb:base<=w.heap.size) {iv:Value} {L:List aK} (hs:Cls lo hi w iv L) (hhi:hi<=base) (hn:∀c ∈ L,c.Ok) (hl:l.length+(cO bE L).length+10<=140737488355328):
  Calls Tryz.prog 99 #[v,iv] w fun e w'=>∃v',e=.returned v'/\Apd base w v w' v' (l++cO bE L):=by
 have H:Hid (Own base w v l):=h;have HS:Hid (∀w',Below base w w'->Cls lo hi w' iv L):=fun w' hw=>hs.below hhi hw;have hg:=kZ pX L;simp only [cO,List.length_append] at hl;have P1:=iY h hb L.length (by constructor <;> omega) (by omega);obtain⟨a,c,rfl,_,_⟩:=hs.slice;have HL0:Hid (l.length+((bH L.length).length+(L.flatMap bE).length)+10<=140737488355328):=hl;have hlen:L.length<=140737488355328:=by omega
 clear h hs hl hg;go_enter Tryz.func99,Tryz.ntmps99;go_wp2_with (go_at_call 98;refine P1.mono ?_;rintro e w1 ⟨v1,rfl,ap1⟩)
 have HP:Hid (Apd base w v w1 v1 (l++bH L.length)):=ap1;clear P1 ap1;go_loopw [0,13] (fun u0 u13 wr=>∃k:Nat,u13=.int .i64 k/\k<=L.length/\Hid (Apd base w v wr u0 (l++(bH L.length++(L.take k).flatMap bE)))) (fun _ u13 _=>L.length - (intOf u13).toNat)
 case atStart=>exact⟨0,rfl,by omega,by show Apd _ _ _ _ _ _;simpa using HP.out⟩
 case round=>
  obtain⟨k,rfl,hk,HD⟩:=hrel;clear HP;by_cases hlt:k < L.length
  ·obtain ⟨a',rfl,c0,c1,c2⟩:=(HS.out wr (HD.out.below H.out hb)).at hlt;have hw:base<=wr.heap.size:=Nat.le_trans hb HD.out.gr.size;have ok:=hn _ (List.getElem_mem hlt);have HL1:((L.take k).flatMap bE).length+(bE L[k]).length<=(L.flatMap bE).length:=kJ bE L k hlt;have HF:Hid (((L.take k).flatMap bE++bE L[k])=(L.take (k+1)).flatMap bE):=(iX bE L k hlt).symm;generalize L[k]=x at *;obtain⟨rw,cl,tx⟩:=x;obtain⟨i1,i2⟩:=ok;dsimp only at *;simp only [bE,List.length_append] at HL1;have HL:Hid (l.length+((bH L.length).length+(((L.take k).flatMap bE).length+((bH rw).length+((bH cl).length+(bJ tx).length))))+10<=140737488355328):=by have:=HL0.out;show _<=_;omega
   have O0:Hid (Own base (wr.alloc (.cells #[.int .i64 rw,.int .i64 cl,.string tx] 57)) u0 (l++(bH L.length++(L.take k).flatMap bE))):=HD.out.own.alloc _;have HK:Hid ((wr.alloc (.cells #[.int .i64 rw,.int .i64 cl,.string tx] 57)).heap[wr.heap.size]? =some (.cells #[.int .i64 rw,.int .i64 cl,.string tx] 57)):=heap_alloc_new wr _;have HB:Hid (base<=(wr.alloc (.cells #[.int .i64 rw,.int .i64 cl,.string tx] 57)).heap.size):=by show _<=_;simp;omega
   have T1:Hid (Calls Tryz.prog 98 #[u0,.int .i64 rw] (wr.alloc (.cells #[.int .i64 rw,.int .i64 cl,.string tx] 57)).drew fun e w'=>∃v',e=.returned v'/\Hid (w'.heap[wr.heap.size]? =some (.cells #[.int .i64 rw,.int .i64 cl,.string tx] 57))/\Hid (Apd base (wr.alloc (.cells #[.int .i64 rw,.int .i64 cl,.string tx] 57)) u0 w' v' (l++(bH L.length++(L.take k).flatMap bE)++bH rw))):=by refine (iY (O0.out.drew) HB.out rw i1 (by have:=HL.out;(try simp only [List.length_append]);omega)).mono ?_;rintro e w' ⟨v',rfl,ap⟩;exact⟨v',rfl,Apd.box (w:=(wr.alloc (.cells #[.int .i64 rw,.int .i64 cl,.string tx] 57)).drew) ap O0.out.drew (by decide) HK.out,ap.uG⟩
   have T2:Hid (∀w1 v1,Hid (w1.heap[wr.heap.size]? =some (.cells #[.int .i64 rw,.int .i64 cl,.string tx] 57))->Hid (Apd base (wr.alloc (.cells #[.int .i64 rw,.int .i64 cl,.string tx] 57)) u0 w1 v1 (l++(bH L.length++(L.take k).flatMap bE)++bH rw))->Calls Tryz.prog 98 #[v1,.int .i64 cl] w1 fun e w'=>∃v',e=.returned v'/\Hid (w'.heap[wr.heap.size]? =some (.cells #[.int .i64 rw,.int .i64 cl,.string tx] 57))/\Hid (Apd base (wr.alloc (.cells #[.int .i64 rw,.int .i64 cl,.string tx] 57)) u0 w' v' (l++(bH L.length++(L.take k).flatMap bE)++bH rw++bH cl))):=by intro w1 v1 hk ap1;refine (iY (ap1.out.own) (Nat.le_trans HB.out ap1.out.gr.size) cl i2 (by have:=HL.out;(try simp only [List.length_append]);omega)).mono ?_;rintro e w' ⟨v',rfl,ap⟩;exact⟨v',rfl,Apd.box ap ap1.out.own (by decide) hk.out,ap1.out.trans ap⟩
   have T3:Hid (∀w1 v1,Hid (w1.heap[wr.heap.size]? =some (.cells #[.int .i64 rw,.int .i64 cl,.string tx] 57))->Hid (Apd base (wr.alloc (.cells #[.int .i64 rw,.int .i64 cl,.string tx] 57)) u0 w1 v1 (l++(bH L.length++(L.take k).flatMap bE)++bH rw++bH cl))->Calls Tryz.prog 100 #[v1,.string tx] w1 fun e w'=>∃v',e=.returned v'/\Hid (w'.heap[wr.heap.size]? =some (.cells #[.int .i64 rw,.int .i64 cl,.string tx] 57))/\Hid (Apd base (wr.alloc (.cells #[.int .i64 rw,.int .i64 cl,.string tx] 57)) u0 w' v' (l++(bH L.length++(L.take k).flatMap bE)++bH rw++bH cl++bJ tx))):=by intro w1 v1 hk ap1;refine (fC (ap1.out.own) (Nat.le_trans HB.out ap1.out.gr.size) tx (by have:=HL.out;(try simp only [List.length_append]);omega)).mono ?_;rintro e w' ⟨v',rfl,ap⟩;exact⟨v',rfl,Apd.box ap ap1.out.own (by decide) hk.out,ap1.out.trans ap⟩
   have iJ:k < 9223372036854775807:=by omega
   clear hw O0 HB HL HL1 i1 i2;go_wp2_with fail
   go_region_held_law (fun u=>u.cell? ⟨wr.heap.size,0,none⟩=some (.int .i64 rw)/\u.cell? ⟨wr.heap.size,1,none⟩=some (.int .i64 cl)/\u.cell? ⟨wr.heap.size,2,none⟩=some (.string tx)) (exact ⟨aH HK.out rfl,aH HK.out rfl,aH HK.out rfl⟩) (first|(go_at_call_of 98 rw;refine T1.out.mono ?_;rintro e w1 ⟨v1,rfl,HK,HA⟩)|(go_at_call_of 98 cl;refine (T2.out _ _ HK HA).mono ?_;rintro e w1 ⟨v1,rfl,HK,HA⟩)|(go_at_call_of 100 tx;refine (T3.out _ _ HK HA).mono ?_;rintro e w1 ⟨v1,rfl,HK,HA⟩))
   have HD2:Hid (Apd base w v w1 v1 (l++(bH L.length++(L.take (k+1)).flatMap bE))):=by have:=HD.out.trans HA.out.jW;rw [<-HF.out];simp only [bE,List.append_assoc] at this ⊢;exact this
   clear HA HK HD HF T1 T2 T3;go_wp2_with fail
   go_roundw
   case rel=>exact⟨k+1,by go_num,by omega,HD2⟩
   case measure=>simp [intOf];omega
  ·have HD2:Hid (Apd base w v wr u0 (l++cO bE L)):=by have:=HD.out;rw [List.take_of_length_le (by omega)] at this;exact this
   clear HD;go_wp2_with fail
   go_ret;exact⟨u0,rfl,HD2.out⟩
theorem wK {lo hi:Nat} {w:World} {sv nv lv:Value} {x:aU} (hs:BkM lo hi w sv nv lv x) (hhi:hi<=w.heap.size) (ok:x.Ok) (hl:(dF x).length+10<=140737488355328):
  Calls Tryz.prog 65 #[.agg #[sv,nv,lv]] w fun e w'=>∃v',e=.returned v'/\Own w.heap.size w' v' (dF x)/\Below w.heap.size w w':=by
 obtain⟨sa,sc,rfl,_,_⟩:=hs.sh.slice;obtain⟨na,nc,rfl,_,_⟩:=hs.nm.slice;obtain⟨la,lc,rfl,_,_⟩:=hs.lk.slice;obtain⟨W0,hW0⟩:∃W0,W0=(w.alloc (.cells #[.slice sa x.aA.length sc,.slice na x.names.length nc,.slice la x.links.length lc] 26)):=⟨_,rfl⟩
 have HF:Hid (Below w.heap.size w W0):=by rw [hW0];exact(Below.refl _ _).alloc (Nat.le_refl _) _
 have HS:Hid (∀w',Below w.heap.size W0 w'->BkM lo hi w' (.slice sa x.aA.length sc) (.slice na x.names.length nc) (.slice la x.links.length lc) x):=fun w' hw=>hs.below hhi (HF.out.trans hw);have b0:Hid (W0.heap[w.heap.size]? =some (.cells #[.slice sa x.aA.length sc,.slice na x.names.length nc,.slice la x.links.length lc] 26)):=by rw [hW0];exact heap_alloc_new w _
 have HB1:Hid (w.heap.size < W0.heap.size):=by show _ < _;rw [hW0];simp
 have HB0:Hid (w.heap.size<=W0.heap.size):=Nat.le_of_lt HB1.out;have hg1:=kZ zW x.aA;have hg2:=kZ vO x.names;have hg3:=kZ vP x.links;simp only [dF,cO,List.length_append] at hl;have HL0:Hid (((bH x.aA.length).length+(x.aA.flatMap bC).length)+(((bH x.names.length).length+(x.names.flatMap eT).length)+((bH x.links.length).length+(x.links.flatMap gB).length))+10<=140737488355328):=hl;have hlen1:x.aA.length<=140737488355328:=by omega
 have aMw:x.names.length<=140737488355328:=by omega
 have hlen3:x.links.length<=140737488355328:=by omega
 have P1:=iY (Own.nil W0 w.heap.size) HB0.out x.aA.length (by constructor <;> omega) (by simp);rw [hW0] at P1;have HW0:Hid (W0=(w.alloc (.cells #[.slice sa x.aA.length sc,.slice na x.names.length nc,.slice la x.links.length lc] 26))):=hW0;clear hs hl hg1 hg2 hg3 hW0;go_enter Tryz.func65,Tryz.ntmps65;go_wp2_with fail
 refine P1.mono ?_;rintro e w1 ⟨v1,rfl,ap1⟩;rw [<-HW0.out] at ap1;have HP:Hid (Apd w.heap.size W0 (.slice none 0 0) w1 v1 (bH x.aA.length)):=by show Apd _ _ _ _ _ _;simpa using ap1
 have X1:=(ap1.gr.block _ HB1.out (by simp [Value.ownBlock])).trans b0.out;have c1:=aH X1 (j:=0) rfl;clear P1 ap1 X1;go_wp2_with fail
 go_loopw [3,17] (fun u3 u17 wr=>∃k:Nat,u17=.int .i64 k/\k<=x.aA.length/\Hid (Apd w.heap.size W0 (.slice none 0 0) wr u3 (bH x.aA.length++(x.aA.take k).flatMap bC))) (fun _ u17 _=>x.aA.length - (intOf u17).toNat)
 case atStart=>exact⟨0,rfl,by omega,by show Apd _ _ _ _ _ _;simpa using HP.out⟩
 case round=>
  obtain⟨k,rfl,hk,HD⟩:=hrel;clear HP;by_cases hlt:k < x.aA.length
  ·obtain ⟨a',cv,ov,W,rfl,ho,hcl,hW,R1,R2, -⟩:=(HS.out wr (HD.out.below (Own.nil _ _) HB0.out)).sh.runs hlt;have hw:w.heap.size<=wr.heap.size:=Nat.le_trans HB0.out HD.out.gr.size;have okk:=ok.1 _ (List.getElem_mem hlt);have HL1:((x.aA.take k).flatMap bC).length+(bC x.aA[k]).length<=(x.aA.flatMap bC).length:=kJ bC x.aA k hlt;have HFm:Hid (((x.aA.take k).flatMap bC++bC x.aA[k])=(x.aA.take (k+1)).flatMap bC):=(iX bC x.aA k hlt).symm;obtain⟨ca,cc,rfl,_,_⟩:=hcl.slice;generalize x.aA[k]=y at *;obtain⟨sn,cs⟩:=y;dsimp only at *;simp only [bC,List.length_append] at HL1;have HL:Hid ((bH x.aA.length).length+(((x.aA.take k).flatMap bC).length+((bJ sn).length+(cO bE cs).length))+10<=140737488355328):=by have:=HL0.out;show _<=_;omega
   have O0:Hid (Own w.heap.size W u3 (bH x.aA.length++(x.aA.take k).flatMap bC)):=by rw [hW];exact HD.out.own.alloc _
   have HK:Hid (W.heap[wr.heap.size]? =some (.cells #[.string sn,.slice ca cs.length cc] 78)):=by rw [hW];exact heap_alloc_new wr _
   have HB:Hid (w.heap.size<=W.heap.size):=by show _<=_;rw [hW];simp;omega
   have HC:Hid (∀w',Below w.heap.size W w'->Cls lo hi w' (.slice ca cs.length cc) cs):=fun w' hb=>by rw [hW] at hb;exact hcl.below hhi (((Below.refl _ wr).alloc hw _).trans hb)
   have HW:Hid (∀w1 v1 m,Apd w.heap.size W u3 w1 v1 m->Apd w.heap.size wr u3 w1 v1 m):=fun w1 v1 m hm=>by rw [hW] at hm;exact hm.jW
   clear hW hcl ho;have T1:Hid (Calls Tryz.prog 100 #[u3,.string sn] (W).drew fun e w'=>∃v',e=.returned v'/\Hid (w'.heap[wr.heap.size]? =some (.cells #[.string sn,.slice ca cs.length cc] 78))/\Hid (Apd w.heap.size (W) u3 w' v' (bH x.aA.length++(x.aA.take k).flatMap bC++bJ sn))):=by refine (fC (O0.out.drew) HB.out sn (by have:=HL.out;(try simp only [List.length_append]);omega)).mono ?_;rintro e w' ⟨v',rfl,ap⟩;exact⟨v',rfl,Apd.box (w:=(W).drew) ap O0.out.drew (by decide) HK.out,ap.uG⟩
   have T2:Hid (∀w1 v1,Hid (w1.heap[wr.heap.size]? =some (.cells #[.string sn,.slice ca cs.length cc] 78))->Hid (Apd w.heap.size (W) u3 w1 v1 (bH x.aA.length++(x.aA.take k).flatMap bC++bJ sn))->Calls Tryz.prog 99 #[v1,.slice ca cs.length cc] w1 fun e w'=>∃v',e=.returned v'/\Hid (w'.heap[wr.heap.size]? =some (.cells #[.string sn,.slice ca cs.length cc] 78))/\Hid (Apd w.heap.size (W) u3 w' v' (bH x.aA.length++(x.aA.take k).flatMap bC++bJ sn++cO bE cs))):=by intro w1 v1 hk ap1;refine (aBQ (ap1.out.own) (Nat.le_trans HB.out ap1.out.gr.size) (HC.out _ (ap1.out.below O0.out HB.out)) hhi okk (by have:=HL.out;(try simp only [List.length_append]);omega)).mono ?_;rintro e w' ⟨v',rfl,ap⟩;exact⟨v',rfl,Apd.box ap ap1.out.own (by decide) hk.out,ap1.out.trans ap⟩
   have iJ:k < 9223372036854775807:=by omega
   clear hw O0 HB HL HL1 okk HC;go_wp2_with (first|(refine aC rfl 78 _ rfl _ _ rfl R1.out ?_)|(refine aB rfl 78 _ _ rfl _ _ _ rfl rfl R2.out ?_))
   clear R1 R2;go_region_held_law (fun u=>u.cell? ⟨wr.heap.size,0,none⟩=some (.string sn)/\u.cell? ⟨wr.heap.size,1,none⟩=some (.slice ca cs.length cc)) (exact ⟨aH HK.out rfl,aH HK.out rfl⟩) (first|(go_at_call 100;refine T1.out.mono ?_;rintro e w1 ⟨v1,rfl,HK,HA⟩)|(go_at_call 99;refine (T2.out _ _ HK HA).mono ?_;rintro e w1 ⟨v1,rfl,HK,HA⟩))
   have HD2:Hid (Apd w.heap.size W0 (.slice none 0 0) w1 v1 (bH x.aA.length++(x.aA.take (k+1)).flatMap bC)):=by have:=HD.out.trans (HW.out _ _ _ HA.out);rw [<-HFm.out];simp only [bC,List.append_assoc] at this ⊢;exact this
   clear HA HK HD HFm HW T1 T2;go_wp2_with fail
   go_roundw
   case rel=>exact⟨k+1,by go_num,by omega,HD2⟩
   case measure=>simp [intOf];omega
  ·have HD2:Hid (Apd w.heap.size W0 (.slice none 0 0) wr u3 (cO bC x.aA)):=by have:=HD.out;rw [List.take_of_length_le (by omega)] at this;exact this
   clear HD;have X1:Hid _:=(HD2.out.gr.block _ HB1.out (by simp [Value.ownBlock])).trans b0.out;have c1:=aH X1.out (j:=1) rfl;have P2:=iY HD2.out.own (Nat.le_trans HB0.out HD2.out.gr.size) x.names.length (by constructor <;> omega) (by have:=HL0.out;simp only [cO,List.length_append] at *;omega);go_wp2_with fail
   refine P2.mono ?_;rintro e w2 ⟨v2,rfl,ap2⟩;have HP:Hid (Apd w.heap.size W0 (.slice none 0 0) w2 v2 (cO bC x.aA++bH x.names.length)):=HD2.out.trans ap2;have X2:=(HP.out.gr.block _ HB1.out (by simp [Value.ownBlock])).trans b0.out;have c2:=aH X2 (j:=1) rfl;clear P2 ap2 HD2 X1 X2 c1;go_wp2_with fail
   go_loopw [3,37] (fun u3 u37 wr=>∃k:Nat,u37=.int .i64 k/\k<=x.names.length/\Hid (Apd w.heap.size W0 (.slice none 0 0) wr u3 (cO bC x.aA++(bH x.names.length++(x.names.take k).flatMap eT)))) (fun _ u37 _=>x.names.length - (intOf u37).toNat)
   case atStart=>exact⟨0,rfl,by omega,by show Apd _ _ _ _ _ _;simpa using HP.out⟩
   case round=>
    obtain⟨k,rfl,hk,HD⟩:=hrel;clear HP;by_cases hlt:k < x.names.length
    ·obtain ⟨a',ov,W,rfl,ho,hW,R1,R2,R3⟩:=(HS.out wr (HD.out.below (Own.nil _ _) HB0.out)).nm.runs hlt;have hw:w.heap.size<=wr.heap.size:=Nat.le_trans HB0.out HD.out.gr.size;have PN:Calls Tryz.prog 101 #[u3,ov] W fun e w'=>∃v',e=.returned v'/\Hid (Apd w.heap.size W0 (.slice none 0 0) w' v' (cO bC x.aA++(bH x.names.length++(x.names.take (k+1)).flatMap eT))):=by
      rw [ho,hW];refine (aDo (HD.out.own.alloc (.cells (kQ x.names[k]).toArray 89)) (by simp;omega) x.names[k] (by
       have h1:=kJ eT x.names k hlt;have h2:=HL0.out;simp only [cO,List.length_append];omega)).mono ?_
      rintro e w2 ⟨v2,rfl,ap2⟩;refine ⟨v2,rfl, ?_⟩;have:=HD.out.trans ap2.jW;rw [iX eT x.names k hlt];simp only [List.append_assoc] at this ⊢;exact this
     have iJ:k < 9223372036854775807:=by omega
     clear hw ho hW HD;go_wp2_with (first|(refine aC rfl 89 _ rfl _ _ rfl R1.out ?_)|(refine aB rfl 89 _ _ rfl _ _ _ rfl rfl R2.out ?_)|(refine aC rfl 89 _ rfl _ _ rfl R3.out ?_)|(go_at_call 101;refine PN.mono ?_;rintro e w2 ⟨v2,rfl,HD2⟩))
     clear PN R1 R2 R3;go_roundw
     case rel=>exact⟨k+1,by go_num,by omega,HD2⟩
     case measure=>simp [intOf];omega
    ·have HD2:Hid (Apd w.heap.size W0 (.slice none 0 0) wr u3 (cO bC x.aA++cO eT x.names)):=by have:=HD.out;rw [List.take_of_length_le (by omega)] at this;exact this
     clear HD;have X2:Hid _:=(HD2.out.gr.block _ HB1.out (by simp [Value.ownBlock])).trans b0.out;have c2:=aH X2.out (j:=2) rfl;have P3:=iY HD2.out.own (Nat.le_trans HB0.out HD2.out.gr.size) x.links.length (by constructor <;> omega) (by have:=HL0.out;simp only [cO,List.length_append] at *;omega);go_wp2_with fail
     refine P3.mono ?_;rintro e w3 ⟨v3,rfl,ap3⟩;have HP:Hid (Apd w.heap.size W0 (.slice none 0 0) w3 v3 (cO bC x.aA++cO eT x.names++bH x.links.length)):=HD2.out.trans ap3;have X3:=(HP.out.gr.block _ HB1.out (by simp [Value.ownBlock])).trans b0.out;have c3:=aH X3 (j:=2) rfl;clear P3 ap3 HD2 X2 X3 c2;go_wp2_with fail
     go_loopw [3,53] (fun u3 u53 wr=>∃k:Nat,u53=.int .i64 k/\k<=x.links.length/\Hid (Apd w.heap.size W0 (.slice none 0 0) wr u3 (cO bC x.aA++cO eT x.names++(bH x.links.length++(x.links.take k).flatMap gB)))) (fun _ u53 _=>x.links.length - (intOf u53).toNat)
     case atStart=>exact⟨0,rfl,by omega,by show Apd _ _ _ _ _ _;simpa using HP.out⟩
     case round=>
      obtain⟨k,rfl,hk,HD⟩:=hrel;clear HP;by_cases hlt:k < x.links.length
      ·obtain ⟨a',ov,W,rfl,ho,hW,R1,R2,R3⟩:=(HS.out wr (HD.out.below (Own.nil _ _) HB0.out)).lk.runs hlt;have hw:w.heap.size<=wr.heap.size:=Nat.le_trans HB0.out HD.out.gr.size;have PN:Calls Tryz.prog 102 #[u3,ov] W fun e w'=>∃v',e=.returned v'/\Hid (Apd w.heap.size W0 (.slice none 0 0) w' v' (cO bC x.aA++cO eT x.names++(bH x.links.length++(x.links.take (k+1)).flatMap gB))):=by
        rw [ho,hW];refine (aDp (HD.out.own.alloc (.cells (kR x.links[k]).toArray 91)) (by simp;omega) x.links[k] (ok.2 _ (List.getElem_mem _)) (by
         have h1:=kJ gB x.links k hlt;have h2:=HL0.out;simp only [cO,List.length_append];omega)).mono ?_
        rintro e w2 ⟨v2,rfl,ap2⟩;refine ⟨v2,rfl, ?_⟩;have:=HD.out.trans ap2.jW;rw [iX gB x.links k hlt];simp only [List.append_assoc] at this ⊢;exact this
       have iJ:k < 9223372036854775807:=by omega
       clear hw ho hW HD;go_wp2_with (first|(refine aC rfl 91 _ rfl _ _ rfl R1.out ?_)|(refine aB rfl 91 _ _ rfl _ _ _ rfl rfl R2.out ?_)|(refine aC rfl 91 _ rfl _ _ rfl R3.out ?_)|(go_at_call 102;refine PN.mono ?_;rintro e w2 ⟨v2,rfl,HD2⟩))
       clear PN R1 R2 R3;go_roundw
       case rel=>exact⟨k+1,by go_num,by omega,HD2⟩
       case measure=>simp [intOf];omega
      ·have HD2:Hid (Apd w.heap.size W0 (.slice none 0 0) wr u3 (cO bC x.aA++cO eT x.names++cO gB x.links)):=by have:=HD.out;rw [List.take_of_length_le (by omega)] at this;exact this
       clear HD;go_wp2_with fail
       go_ret;exact⟨u3,rfl,by have:=HD2.out.own;simp only [List.append_assoc] at this;exact this,HF.out.trans (HD2.out.below (Own.nil _ _) HB0.out)⟩
end Go.Proofs.YtlhoklhjbpkgpaaGreatDoor.Sh.Bt
namespace Go.Proofs.YtlhoklhjbpkgpaaGreatDoor.Sh
open Go.RowKit
theorem ba_eq {a b:ByteArray}:a.toList=b.toList↔a=b:=by refine ⟨fun h=> ?_,fun h=>by rw [h]⟩;rw [ByteArray.toList_eq,ByteArray.toList_eq] at h;exact ByteArray.ext (Array.toList_inj.1 h)
theorem xA {α:Type} {eq:α->α->Bool} (he:∀a b,eq a b=true↔a=b) {L M:List α}:eqL eq L M=true↔L=M:=by
 unfold eqL;rw [Bool.and_eq_true,decide_eq_true_eq,List.all_eq_true];constructor
 ·rintro ⟨h1,h2⟩;refine List.ext_getElem h1 fun i hi hj=>(he _ _).1 ?_;have:=h2 i (List.mem_range.2 hi);unfold lU at this;simpa [List.getElem?_eq_getElem hi,List.getElem?_eq_getElem hj] using this
 ·rintro rfl;refine ⟨rfl,fun i hi=> ?_⟩;have hi:=List.mem_range.1 hi;unfold lU;simpa [List.getElem?_eq_getElem hi] using (he _ _).2 rfl
theorem aEJ (a b:aK):fP a b=true↔a=b:=by cases a;cases b;simp only [fP,Bool.and_eq_true,beq_iff_eq,ba_eq,aK.mk.injEq]
theorem aEK (a b:eY):fQ a b=true↔a=b:=by cases a;cases b;simp only [fQ,Bool.and_eq_true,beq_iff_eq,ba_eq,eY.mk.injEq]
theorem aG0 (a b:sP):zH a b=true↔a=b:=by cases a;cases b;simp only [zH,Bool.and_eq_true,beq_iff_eq,ba_eq,sP.mk.injEq]
theorem aEL (a b:dW):fT a b=true↔a=b:=by cases a;cases b;simp only [fT,Bool.and_eq_true,beq_iff_eq,ba_eq,aG0,dW.mk.injEq]
theorem aDq (a b:aO):eX a b=true↔a=b:=by cases a;cases b;simp only [eX,Bool.and_eq_true,beq_iff_eq,ba_eq,xA aEJ,aO.mk.injEq]
theorem nO (x y:aU):iD x y=true↔x=y:=by cases x;cases y;simp only [iD,Bool.and_eq_true,xA aDq,xA aEK,xA aEL,aU.mk.injEq]
theorem aKn {x y:aU} (hx:x.Ok) (hy:y.Ok) (lx:(Bt.dF x).length<=9223372036854775807) (ly:(Bt.dF y).length<=9223372036854775807):(Bt.dF x==Bt.dF y)=iD x y:=by rw [Bool.eq_iff_iff,beq_iff_eq,nO];refine ⟨fun h=> ?_,fun h=>by rw [h]⟩;have h1:=Bt.wZ hx lx;rw [h,Bt.wZ hy ly] at h1;exact(Option.some.inj h1).symm
theorem zX {base:Nat} {w:World} {v:Value} {l:List UInt8} (h:Bt.Own base w v l) (hl:l ≠ []):(convert 96 9 v).run Tryz.prog w=.ok (.string ⟨l.toArray⟩) w:=by
 have hc:=fun g (hg:v.ownBlock=some g)=>World.ownsRow.cells h hg;rcases h.2 with ⟨rfl,h0⟩ | ⟨g,cap,cur,rfl,_⟩
 ·exact absurd (List.eq_nil_of_length_eq_zero h0) hl
 ·exact run_convert_bytes_back w 96 9 5 _ cap l Tryz.underlying96 Tryz.underlying5 Tryz.underlying9 fun j hj=>hc g rfl j _ (Bt.aEG hj)
theorem aG1 {base:Nat} {w w':World} {v:Value} {l:List UInt8} (h:Bt.Own base w v l) (hb:Below w.heap.size w w'):Bt.Own base w' v l:=
 World.ownsRow.kept h (row:=none) ⟨hb.os,hb.tape,hb.output,hb.size,fun i hi _=>hb.block i hi⟩ (by cases v.ownBlock <;> simp)
theorem vR {lo hi:Nat} {w:World} {s1 n1 l1 s2 n2 l2:Value} {x y:aU} (hx:BkM lo hi w s1 n1 l1 x) (hy:BkM lo hi w s2 n2 l2 y) (hhi:hi<=w.heap.size) (ox:x.Ok) (oy:y.Ok)
  (lx:(Bt.dF x).length+10<=140737488355328) (ly:(Bt.dF y).length+10<=140737488355328):
  CR 18 #[.agg #[s1,n1,l1],.agg #[s2,n2,l2]] w (.bool (iD x y)):=by
 have nx:Bt.dF x ≠ []:=fun e=>by have:=Bt.wZ ox (by omega);rw [e] at this;cases this
 have ny:Bt.dF y ≠ []:=fun e=>by have:=Bt.wZ oy (by omega);rw [e] at this;cases this
 obtain⟨W,hW⟩:∃W,W=((w.alloc (bkO s1 n1 l1)).alloc (bkO s2 n2 l2)).drew:=⟨_,rfl⟩
 have HB:Below w.heap.size w W:=by rw [hW];exact(Sh.aD (Sh.aD (Below.refl _ _) (Nat.le_refl _) _) (Nat.le_refl _) _).drew
 have G1:W.heap[w.heap.size]? =some (bkO s1 n1 l1):=by rw [hW];show ((w.alloc (bkO s1 n1 l1)).alloc (bkO s2 n2 l2)).heap[w.heap.size]? =_;rw [((Below.refl (w.alloc (bkO s1 n1 l1)).heap.size (w.alloc (bkO s1 n1 l1))).alloc (Nat.le_refl _) (bkO s2 n2 l2)).block _ (by simp)];exact heap_alloc_new w _
 have G2:W.heap[w.heap.size+1]? =some (bkO s2 n2 l2):=by rw [hW];have:=heap_alloc_new (w.alloc (bkO s1 n1 l1)) (bkO s2 n2 l2);rw [show (w.alloc (bkO s1 n1 l1)).heap.size=w.heap.size+1 by simp] at this;exact this
 have hE:=aKn ox oy (by omega) (by omega);have C1:Calls Tryz.prog 65 #[.agg #[s1,n1,l1]] W fun e w1=>∃v1,e=.returned v1/\(w1.cell? ⟨w.heap.size+1,0,none⟩=some s2/\w1.cell? ⟨w.heap.size+1,1,none⟩=some n2/\w1.cell? ⟨w.heap.size+1,2,none⟩=some l2)/\(convert 96 9 v1).run Tryz.prog w1=.ok (.string ⟨(Bt.dF x).toArray⟩) w1/\
   Hid (Calls Tryz.prog 65 #[.agg #[s2,n2,l2]] w1 fun e w2=>∃v2,e=.returned v2/\(convert 96 9 v1).run Tryz.prog w2=.ok (.string ⟨(Bt.dF x).toArray⟩) w2/\(convert 96 9 v2).run Tryz.prog w2=.ok (.string ⟨(Bt.dF y).toArray⟩) w2/\Hid (Below w.heap.size w w2)):=
  (Bt.wK (hx.below hhi HB) (Nat.le_trans hhi HB.size) ox lx).mono (by
   rintro e w1 ⟨v1,rfl,o1,b1⟩;have HB1:=Sh.aF HB HB.size b1;have G2':=(b1.block _ (aN G2)).trans G2;refine ⟨v1,rfl,Cm.tT G2',zX o1 nx,(Bt.wK (hy.below hhi HB1) (Nat.le_trans hhi HB1.size) oy ly).mono ?_⟩;rintro e w2 ⟨v2,rfl,o2,b2⟩;exact⟨v2,rfl,zX (aG1 o1 b2) nx,zX o2 ny,Sh.aF HB1 HB1.size b2⟩)
 obtain⟨c0,c1,c2⟩:=Cm.tT G1;obtain⟨d0,d1,d2⟩:=Cm.tT G2;generalize Bt.dF x=X at *;generalize Bt.dF y=Y at *;have HE:Hid ((X==Y)=iD x y):=hE;generalize iD x y=r at *;rw [hW] at C1 c0 c1 c2 d0 d1 d2;clear hx hy lx ly nx ny HB G1 G2 hW hE ox oy;go_enter Tryz.func18,Tryz.ntmps18;go_wp2;go_region_with (go_at_call 65;first|(refine C1.mono ?_;clear C1;rintro e w1 ⟨v1,rfl,⟨k0,k1,k2⟩,q1,C2⟩)|(refine C2.out.mono ?_;clear C2;rintro e w2 ⟨v2,rfl,q2,q3,HB⟩))
 all_goals
  go_simp;go_wp2;go_ret;exact⟨by rw [<-HE.out];rfl,HB.out⟩
end Go.Proofs.YtlhoklhjbpkgpaaGreatDoor.Sh
