/- SRow, SCop, SCopy, SDel, SIns, SWith. -/
import Derived.Laws.CopyRow
import Derived.Laws.MakeOwn
import Derived.Lib.AppendZerosOnto
import Derived.Test.YtlhoklhjbpkgpaaGreatDoorSPutPu
set_option linter.unusedVariables false
set_option linter.unusedSimpArgs false
set_option maxHeartbeats 16000000
set_option maxRecDepth 100000
namespace Go.Proofs.YtlhoklhjbpkgpaaGreatDoor.Sh
open Go.RowKit
structure RT (S t:TypeId) (sz bytes:Nat) (zv:Value):Prop where
 st:Tryz.prog.underlying S=some (.slice t)
 inf:(Tryz.prog.info? t).map (fun i=>(i.zero,i.size,i.bytes))=some (some zv,sz,bytes)
 zs:zv.cells.size=sz
 pos:0 < sz
 z1:∀u ∈ zv.cells.toList,u.oneCell'=true
 zr:∀w,(zeroValue t).run Tryz.prog w=.ok zv w
theorem rtC:RT 27 57 3 32 (.agg #[iA,iA,dY]):=⟨Tryz.underlying27,by kernel_rfl,rfl,by decide,by simp [Value.cells,Value.oneCell'],fun w=>by kernel_rfl⟩
theorem rtS:RT 22 78 2 40 (.agg #[dY,.slice none 0 0]):=⟨Tryz.underlying22,by kernel_rfl,rfl,by decide,by simp [Value.cells,Value.oneCell'],fun w=>by kernel_rfl⟩
theorem rtN:RT 23 89 3 48 (.agg #[dY,dY,dY]):=⟨Tryz.underlying23,by kernel_rfl,rfl,by decide,by simp [Value.cells,Value.oneCell'],fun w=>by kernel_rfl⟩
theorem rtL:RT 24 91 7 80 (.agg #[dY,dY,iA,iA,iA,iA,dY]):=⟨Tryz.underlying24,by kernel_rfl,rfl,by decide,by simp [Value.cells,Value.oneCell'],fun w=>by kernel_rfl⟩
section
variable {S t:TypeId} {sz bytes:Nat} {zv:Value}
theorem RT.size (R:RT S t sz bytes zv):∃i,Tryz.prog.info? t=some i/\i.zero=some zv/\i.size=sz/\i.bytes=bytes:=by obtain⟨i,hi,h⟩:=Option.map_eq_some_iff.1 R.inf;simp only [Prod.mk.injEq] at h;exact⟨i,hi,h.1,h.2.1,h.2.2⟩
theorem aIC (R:RT S t sz bytes zv) (n:Nat) (hb:bytes * n<=281474976710656) (h63:n<=9223372036854775807) (w:World):
  (Instr.makeSlice S (.int .i64 (n:Int)) (.int .i64 (n:Int))).run Tryz.prog w=.ok (.slice (some ⟨w.heap.size,0,none⟩) n n) (w.alloc (.cells (madeCells zv.cells (n * sz)) t)):=by
 obtain⟨i,hi,hz,hs,hby⟩:=R.size;have hb':(i.bytes:Int) * (n:Int)<=281474976710656:=by
  have h:((i.bytes * n:Nat):Int)<=281474976710656:=by rw [hby];omega
  rwa [Int.natCast_mul] at h
 have hr:=run_make (P:=Tryz.prog) w S t i zv R.st hi hz .i64 .i64 n n (by omega) (Int.le_refl _) hb' (by omega);simp only [Int.toNat_natCast,hs] at hr;exact hr
theorem yM (R:RT S t sz bytes zv) (w:World) (ty:TypeId) (g o dLen dCap:Nat) (a:Addr) (sLen sCap:Nat) (cur:Array Value) (t':TypeId) (cs:List Value)
  (hg:w.heap[g]? =some (.cells cur t' (0,0))) (hn:cs.length=Nat.min sLen dLen * sz)
  (hsrc:∀j v,cs[j]? =some v->w.cell? (a.add j)=some v) (hfit:o+cs.length<=cur.size) (h1:∀v ∈ cs,v.oneCell'=true):
  (Builtin.copy_ #[S,S] ty #[.slice (some ⟨g,o,none⟩) dLen dCap,.slice (some a) sLen sCap]).run Tryz.prog w=
   .ok (goInt (Nat.min sLen dLen)) (w.setRow g (cur.toList.take o++cs++cur.toList.drop (o+cs.length)).toArray):=by
 have hl:=run_loadCells_list (P:=Tryz.prog) w a cs hsrc;have hst:=run_storeCells_at Tryz.prog g o t' cs 0 cur w hg (by simpa using hfit) h1;obtain⟨i,hi,hz,hs,hby⟩:=R.size;simp [Builtin.copy_,run_underlying R.st,Builtin.lenOf,Builtin.firstCells,sizeOf,typeInfo,hi,hs,<-hn,hl,hst]
theorem aID (R:RT S t sz bytes zv) (w:World) (ty:TypeId) (a:Addr) (dLen dCap:Nat):
  (Builtin.copy_ #[S,S] ty #[.slice (some a) dLen dCap,.slice none 0 0]).run Tryz.prog w=.ok (goInt 0) w:=by
 obtain⟨i,hi,hz,hs,hby⟩:=R.size;simp [Builtin.copy_,run_underlying R.st,Builtin.lenOf,Builtin.firstCells,sizeOf,typeInfo,hi,storeCells]
theorem aGg (R:RT S t sz bytes zv) (w:World) (ty:TypeId) (g o n c:Nat) (cur:Array Value) (t':TypeId) (hg:w.heap[g]? =some (.cells cur t' (0,0))) (hn:0 < n) (hfit:o+n * sz<=cur.size):
  ∃zs:List Value,zs.length=n * sz/\(Builtin.clear_ #[S] ty #[.slice (some ⟨g,o,none⟩) n c]).run Tryz.prog w=.ok (.tuple #[]) (w.setRow g (cur.toList.take o++zs++cur.toList.drop (o+zs.length)).toArray):=by
 have hzl:(Builtin.zeroCells zv.cells n).toList.length=n * sz:=by simp [Builtin.zeroCells,R.zs]
 have hz1:∀v ∈ (Builtin.zeroCells zv.cells n).toList,v.oneCell'=true:=by intro v hv;simp only [Builtin.zeroCells,Array.toList_map,List.mem_map] at hv;obtain⟨k,hk,rfl⟩:=hv;have hlt:k % zv.cells.size < zv.cells.size:=Nat.mod_lt _ (by rw [R.zs];exact R.pos);have hgp:zv.cells[k % zv.cells.size]! =zv.cells[k % zv.cells.size]:=getElem!_pos zv.cells _ hlt;rw [hgp];exact R.z1 _ (by simp)
 have hst:=run_storeCells_at Tryz.prog g o t' (Builtin.zeroCells zv.cells n).toList 0 cur w hg (by rw [hzl];simpa using hfit) hz1;refine ⟨_,hzl, ?_⟩;obtain⟨m,rfl⟩:∃m,n=m+1:=⟨n - 1,by omega⟩
 simp only [Nat.add_zero] at hst;simp [Builtin.clear_,run_underlying R.st,R.zr,hst]
end
section
variable {α:Type} {enc:α->List Value} {sz:Nat}
theorem cK (he:∀x,(enc x).length=sz):∀L:List α,(L.flatMap enc).length=L.length * sz
 | []=>by simp
 | x:: L=>by rw [List.flatMap_cons,List.length_append,cK he L,he,List.length_cons,Nat.add_mul];omega
theorem sU (he:∀x,(enc x).length=sz):∀(L:List α) (i j:Nat) (hi:i < L.length),j < sz->(L.flatMap enc)[i * sz+j]? =(enc L[i])[j]?
 | x:: L,0,j,_,h=>by rw [List.flatMap_cons,Nat.zero_mul,Nat.zero_add,List.getElem?_append_left (by rw [he];exact h)];rfl
 | x:: L,i+1,j,hi,h=>by rw [List.flatMap_cons,List.getElem?_append_right (by rw [he,Nat.add_mul];omega),show (i+1) * sz+j - (enc x).length=i * sz+j by rw [he,Nat.add_mul];omega];exact sU he L i j (by simpa using hi) h
theorem aBi (he:∀x,(enc x).length=sz):∀(L:List α) (k:Nat),(L.drop k).flatMap enc=(L.flatMap enc).drop (k * sz)
 | L,0=>by simp
 | [],k+1=>by simp
 | x:: L,k+1=>by
  have e:(k+1) * sz=(enc x).length+k * sz:=by rw [he,Nat.add_mul];omega
  rw [List.drop_succ_cons,aBi he L k,List.flatMap_cons,e,<-List.drop_drop,List.drop_left]
theorem aBj (he:∀x,(enc x).length=sz):∀(L:List α) (k:Nat),(L.take k).flatMap enc=(L.flatMap enc).take (k * sz)
 | L,0=>by simp
 | [],k+1=>by simp
 | x:: L,k+1=>by
  have e:(k+1) * sz=(enc x).length+k * sz:=by rw [he,Nat.add_mul];omega
  rw [List.take_succ_cons,List.flatMap_cons,aBj he L k,List.flatMap_cons,e,List.take_length_add_append]
theorem Rws.flat {lo hi:Nat} {w:World} {a:Addr} {n c:Nat} {L:List α} (he:∀x,(enc x).length=sz) (hsz:0 < sz) (h:Rws lo hi sz w (.slice (some a) n c) L.length fun j=>(L[j]?.map enc).getD []):
  ∀j u,(L.flatMap enc)[j]? =some u->w.cell? (a.add j)=some u:=by
 intro j u hj;rcases h with ⟨e,_⟩ | ⟨a',cap,e,h2,h3,h4,h5⟩
 ·cases e
 ·cases e
  have hlt:j < (L.flatMap enc).length:=(List.getElem?_eq_some_iff.1 hj).1;rw [cK he] at hlt;have hq:j / sz < L.length:=(Nat.div_lt_iff_lt_mul hsz).2 hlt;have hr:j % sz < sz:=Nat.mod_lt _ hsz;have hd:j / sz * sz+j % sz=j:=by rw [Nat.mul_comm];exact Nat.div_add_mod j sz
  have:=sU he L (j / sz) (j % sz) hq hr;rw [hd,hj] at this;have h6:=h5 (j / sz) (j % sz) u hq (by simp only [List.getElem?_eq_getElem hq,Option.map_some,Option.getD_some];exact this.symm)
  rwa [hd] at h6
theorem aIE {w:World} {g:Nat} {cap:Nat} {cur:Array Value} {t:TypeId} {z:Nat × Nat} {L:List α} (he:∀x,(enc x).length=sz) (hg:w.heap[g]? =some (.cells cur t z)) (hc:cur.toList.take (L.length * sz)=L.flatMap enc) (hn:L.length<=cap) (hm:cap<=maxLen):
  Rws g (g+1) sz w (.slice (some ⟨g,0,none⟩) L.length cap) L.length fun j=>(L[j]?.map enc).getD []:=by
 refine .inr ⟨_,_,rfl,hn,hm,fun _=>⟨Nat.le_refl _,Nat.lt_succ_self _⟩,fun j i u hj hu=> ?_⟩;simp only [List.getElem?_eq_getElem hj,Option.map_some,Option.getD_some] at hu;have hi:i < sz:=by rw [<-he L[j]];exact(List.getElem?_eq_some_iff.1 hu).1
 have hadd:(⟨g,0,none⟩:Addr).add (j * sz+i)=⟨g,j * sz+i,none⟩:=by unfold Addr.add;split <;> simp_all
 rw [hadd,cell_of_row w g _ _ _ _ hg,<-hu,<-sU he L j i hj hi,<-hc,List.getElem?_take_of_lt]
 ·simp
 ·have:(j+1) * sz<=L.length * sz:=Nat.mul_le_mul_right _ hj;rw [Nat.add_mul] at this;omega
end
theorem bP (c:aK):(cellC c).length=3:=rfl
theorem jH (c:eY):(kQ c).length=3:=rfl
theorem jI (c:dW):(kR c).length=7:=rfl
theorem bY (c:aO × Value):(bN c.1 c.2).length=2:=rfl
theorem oG {α:Type} {enc:α->List Value} (h:∀x,∀u ∈ enc x,u.oneCell'=true) (L:List α):∀u ∈ L.flatMap enc,u.oneCell'=true:=by intro u hu;obtain⟨x,_,hx⟩:=List.mem_flatMap.1 hu;exact h x u hx
theorem kL (c:aK):∀u ∈ cellC c,u.oneCell'=true:=by intro u hu;simp only [cellC,List.mem_cons,List.not_mem_nil,or_false] at hu;rcases hu with rfl | rfl | rfl <;> rfl
theorem aAx (c:eY):∀u ∈ kQ c,u.oneCell'=true:=by intro u hu;simp only [kQ,List.mem_cons,List.not_mem_nil,or_false] at hu;rcases hu with rfl | rfl | rfl <;> rfl
theorem aAy (c:dW):∀u ∈ kR c,u.oneCell'=true:=by intro u hu;simp only [kR,List.mem_cons,List.not_mem_nil,or_false] at hu;rcases hu with rfl | rfl | rfl | rfl | rfl | rfl | rfl <;> rfl
section
variable {P:Program} {ops:Array Oper} {rest:List Oper} {o:Oper} {a:Act} {w:World} {Q:Exit->Act->World->Prop}
theorem sV (hgd:o.guard=none) (ty:TypeId) (x y:Operand) (ho:o.op=.makeSlice ty x y) (vx vy v:Value) (w':World) (hx:a.eval x=vx) (hy:a.eval y=vy) (hrun:(Instr.makeSlice ty vx vy).run P w=.ok v w')
  (h:wpList P ops Q rest (a.put o.dst v) w'):wpList P ops Q (o:: rest) a w:=by
 refine wpList_plain hgd fun K hK=> ?_;unfold Oper.wp execOp;simp only [ho,hx,hy,Sem.run_bind,Sem.run_pure,hrun,Result.andThen_ok];exact hK _ _ h
theorem bV (hgd:o.guard=none) (s x:Operand) (t t2:TypeId) (ho:o.op=.call { callee:=.builtin .append,args:=#[s,x],argTypes:=#[t,t2] }) (v bv v':Value) (w':World) (hs:a.eval s=v) (hx:a.eval x=bv) (hrun:(Builtin.append_ #[t,t2] o.type #[v,bv]).run P w=.ok v' w')
  (h:wpList P ops Q rest (a.put o.dst v') w'):wpList P ops Q (o:: rest) a w:=by
 refine wpList_plain hgd fun K hK=> ?_;unfold Oper.wp;simp [execOp,ho,resolve,invoke,builtin,hs,hx,hrun,Result.andThen];exact hK _ _ h
end
def Src (w:World) (a:Option Addr) (n c:Nat) (cs:List Value):Prop:=(a=none/\n=0/\c=0/\cs=[])\/∃ad,a=some ad/\∀j v,cs[j]? =some v->w.cell? (ad.add j)=some v
theorem setRow_size (w:World) (g:Nat) (es:Array Value):(w.setRow g es).heap.size=w.heap.size:=by simp [World.setRow]
theorem below_setRow {B g:Nat} {w0 w:World} (hb:Below B w0 w) (hBg:B<=g) (cs:Array Value):Below B w0 (w.setRow g cs):=
 hb.trans ⟨rfl,rfl,rfl,by simp [World.setRow],fun k hk=>setRow_other w g k cs (by omega)⟩
theorem lK {S t:TypeId} {sz bytes:Nat} {zv:Value} (R:RT S t sz bytes zv) {w:World} {a:Option Addr} {n c:Nat} {cs:List Value} (h:Src w a n c cs) (hl:cs.length=n * sz) (h1:∀u ∈ cs,u.oneCell'=true) (hb:bytes * n<=281474976710656) (h63:n<=9223372036854775807):
  ∃w1 w2 r,(Instr.makeSlice S (.int .i64 (n:Int)) (.int .i64 (n:Int))).run Tryz.prog w=.ok (.slice (some ⟨w.heap.size,0,none⟩) n n) w1/\
   (∀ty,(Builtin.copy_ #[S,S] ty #[.slice (some ⟨w.heap.size,0,none⟩) n n,.slice a n c]).run Tryz.prog w1=.ok r w2)/\
   w2.heap[w.heap.size]? =some (.cells cs.toArray t)/\w2.heap.size=w.heap.size+1/\Below w.heap.size w w2:=by
 have hm:=aIC R n hb h63 w;have hB:Below w.heap.size w (w.alloc (.cells (madeCells zv.cells (n * sz)) t)):=aD (Below.refl _ _) (Nat.le_refl _) _;rcases h with ⟨rfl,rfl,rfl,rfl⟩ | ⟨ad,rfl,hc⟩
 ·refine ⟨_,_,_,hm,fun ty=>aID R _ _ _ _ _, ?_,by simp,hB⟩;rw [heap_alloc_new];simp [madeCells]
 ·refine ⟨_,_,_,hm,fun ty=>yM R _ _ w.heap.size 0 n n ad n c (madeCells zv.cells (n * sz)) t cs (heap_alloc_new w _) (by rw [show Nat.min n n=n from Nat.min_self n];exact hl) (fun j v hj=> ?_) (by rw [size_madeCells];omega) h1, ?_,by rw [setRow_size];simp,below_setRow hB (Nat.le_refl _) _⟩
  ·rw [<-hc j v hj];exact World.cell?_of_block (Below.heap_alloc w _ _ (World.block_lt_of_cell? w _ (hc j v hj)))
  ·rw [setRow_heap _ _ _ _ _ _ (heap_alloc_new w _)];have e:(madeCells zv.cells (n * sz)).toList.drop (0+cs.length)=[]:=List.drop_of_length_le (by rw [Array.length_toList,size_madeCells];omega);rw [e];simp
theorem aGh {w:World} {a:Option Addr} {n c:Nat} {cs:List Value} (h:Src w a n c cs) (hl:cs.length=n * 2) (h1:∀u ∈ cs,u.oneCell'=true) (hb:40 * n<=281474976710656):
  Calls Tryz.prog 61 #[.slice a n c] w fun e w'=>e=.returned (.slice (some ⟨w.heap.size,0,none⟩) n n)/\w'.heap[w.heap.size]? =some (.cells cs.toArray 78)/\w'.heap.size=w.heap.size+1/\Below w.heap.size w w':=by
 obtain⟨w1,w2,r,R1,R2,h3,h4,h5⟩:=lK rtS h hl h1 hb (by omega);have R1h:Hid _:=R1;have R2:=R2 3;have h3h:Hid _:=h3;have h4h:Hid _:=h4;have h5h:Hid _:=h5;clear h hl h1 hb R1 h3 h4 h5;go_enter Tryz.func61,Tryz.ntmps61;go_wp2_with (refine sV rfl 22 _ _ rfl _ _ _ _ rfl rfl R1h.out ?_;clear R1h)
 go_ret;exact⟨rfl,h3h.out,h4h.out,h5h.out⟩
theorem aGi {w:World} {a:Option Addr} {n c:Nat} {cs:List Value} (h:Src w a n c cs) (hl:cs.length=n * 3) (h1:∀u ∈ cs,u.oneCell'=true) (hb:32 * n<=281474976710656):
  Calls Tryz.prog 62 #[.slice a n c] w fun e w'=>e=.returned (.slice (some ⟨w.heap.size,0,none⟩) n n)/\w'.heap[w.heap.size]? =some (.cells cs.toArray 57)/\w'.heap.size=w.heap.size+1/\Below w.heap.size w w':=by
 obtain⟨w1,w2,r,R1,R2,h3,h4,h5⟩:=lK rtC h hl h1 hb (by omega);have R1h:Hid _:=R1;have R2:=R2 3;have h3h:Hid _:=h3;have h4h:Hid _:=h4;have h5h:Hid _:=h5;clear h hl h1 hb R1 h3 h4 h5;go_enter Tryz.func62,Tryz.ntmps62;go_wp2_with (refine sV rfl 27 _ _ rfl _ _ _ _ rfl rfl R1h.out ?_;clear R1h)
 go_ret;exact⟨rfl,h3h.out,h4h.out,h5h.out⟩
theorem aGj {w:World} {a:Option Addr} {n c:Nat} {cs:List Value} (h:Src w a n c cs) (hl:cs.length=n * 3) (h1:∀u ∈ cs,u.oneCell'=true) (hb:48 * n<=281474976710656):
  Calls Tryz.prog 63 #[.slice a n c] w fun e w'=>e=.returned (.slice (some ⟨w.heap.size,0,none⟩) n n)/\w'.heap[w.heap.size]? =some (.cells cs.toArray 89)/\w'.heap.size=w.heap.size+1/\Below w.heap.size w w':=by
 obtain⟨w1,w2,r,R1,R2,h3,h4,h5⟩:=lK rtN h hl h1 hb (by omega);have R1h:Hid _:=R1;have R2:=R2 3;have h3h:Hid _:=h3;have h4h:Hid _:=h4;have h5h:Hid _:=h5;clear h hl h1 hb R1 h3 h4 h5;go_enter Tryz.func63,Tryz.ntmps63;go_wp2_with (refine sV rfl 23 _ _ rfl _ _ _ _ rfl rfl R1h.out ?_;clear R1h)
 go_ret;exact⟨rfl,h3h.out,h4h.out,h5h.out⟩
theorem aGk {w:World} {a:Option Addr} {n c:Nat} {cs:List Value} (h:Src w a n c cs) (hl:cs.length=n * 7) (h1:∀u ∈ cs,u.oneCell'=true) (hb:80 * n<=281474976710656):
  Calls Tryz.prog 64 #[.slice a n c] w fun e w'=>e=.returned (.slice (some ⟨w.heap.size,0,none⟩) n n)/\w'.heap[w.heap.size]? =some (.cells cs.toArray 91)/\w'.heap.size=w.heap.size+1/\Below w.heap.size w w':=by
 obtain⟨w1,w2,r,R1,R2,h3,h4,h5⟩:=lK rtL h hl h1 hb (by omega);have R1h:Hid _:=R1;have R2:=R2 3;have h3h:Hid _:=h3;have h4h:Hid _:=h4;have h5h:Hid _:=h5;clear h hl h1 hb R1 h3 h4 h5;go_enter Tryz.func64,Tryz.ntmps64;go_wp2_with (refine sV rfl 24 _ _ rfl _ _ _ _ rfl rfl R1h.out ?_;clear R1h)
 go_ret;exact⟨rfl,h3h.out,h4h.out,h5h.out⟩
structure Small (x:aU):Prop where
 sh:x.aA.length<=1000
 cl:∀s ∈ x.aA,s.cells.length<=1000
 nm:x.names.length<=1000
 lk:x.links.length<=1000
abbrev newS (g n:Nat):Value:=.slice (some ⟨g,0,none⟩) n n
structure CpB (base:Nat) (w:World) (gs gn gl:Nat) (x:aU):Prop where
 row:∃cur,w.heap[gs]? =some (.cells cur 78)/\cur.size=x.aA.length * 2/\∀j (hj:j < x.aA.length),cur[j * 2]? =some (.string x.aA[j].name)/\cur[j * 2+1]? =some (newS (gs+1+j) x.aA[j].cells.length)
 cls:∀j (hj:j < x.aA.length),w.heap[gs+1+j]? =some (.cells (x.aA[j].cells.flatMap cellC).toArray 57)
 nms:w.heap[gn]? =some (.cells (x.names.flatMap kQ).toArray 89)
 lks:w.heap[gl]? =some (.cells (x.links.flatMap kR).toArray 91)
 b1:base<=gs
 b2:gs+1+x.aA.length<=gn
 b3:gs+1+x.aA.length<=gl
theorem aM3 {w:World} {g:Nat} {cap:Nat} {cur:Array Value} {z:Nat × Nat} {L:List aK} (hg:w.heap[g]? =some (.cells cur 57 z)) (hc:cur.toList.take (L.length * 3)=L.flatMap cellC) (hn:L.length<=cap) (hm:cap<=maxLen):Cls g (g+1) w (.slice (some ⟨g,0,none⟩) L.length cap) L:=aIE bP hg hc hn hm
theorem aGl {w:World} {g:Nat} {z:Nat × Nat} {L:List aK} (hg:w.heap[g]? =some (.cells (L.flatMap cellC).toArray 57 z)) (hm:L.length<=maxLen):Cls g (g+1) w (newS g L.length) L:=
 aM3 hg (by rw [List.toList_toArray];exact List.take_of_length_le (by rw [cK bP];omega)) (Nat.le_refl _) hm
theorem bT {n:Nat} (h:n<=1000):n<=maxLen:=by unfold maxLen;omega
theorem aK5 {w:World} {gs cap:Nat} {cur:Array Value} {z:Nat × Nat} {L:List aO} {cv:Nat->Value} (hg:w.heap[gs]? =some (.cells cur 78 z)) (hc:∀j (hj:j < L.length),cur[j * 2]? =some (.string L[j].name)/\cur[j * 2+1]? =some (cv j)) (hn:L.length<=cap) (hm:cap<=maxLen):
  Rws gs (gs+1) 2 w (.slice (some ⟨gs,0,none⟩) L.length cap) L.length (iP L cv):=by
 refine .inr ⟨_,_,rfl,hn,hm,fun _=>⟨Nat.le_refl _,Nat.lt_succ_self _⟩,fun j i u hj hu=> ?_⟩;have hadd:(⟨gs,0,none⟩:Addr).add (j * 2+i)=⟨gs,j * 2+i,none⟩:=by unfold Addr.add;split <;> simp_all
 rw [hadd,cell_of_row w gs _ _ _ _ hg];simp only [iP,List.getElem?_eq_getElem hj,Option.map_some,Option.getD_some,bN] at hu
 match i,hu with
 | 0,hu=>simp at hu;rw [<-hu];exact(hc j hj).1
 | 1,hu=>simp at hu;rw [<-hu];exact(hc j hj).2
theorem aBk {α:Type} {enc:α->List Value} {sz lo hi:Nat} {w:World} {a:Option Addr} {c:Nat} {L:List α} (he:∀x,(enc x).length=sz) (hsz:0 < sz) (h:Rws lo hi sz w (.slice a L.length c) L.length fun j=>(L[j]?.map enc).getD []):Src w a L.length c (L.flatMap enc):=by
 rcases a with _ | ad
 ·left;rcases h with ⟨e,h0⟩ | ⟨_,_,e,_⟩
  ·simp only [Value.slice.injEq] at e;refine ⟨rfl,h0,e.2.2, ?_⟩;rw [List.eq_nil_of_length_eq_zero h0];rfl
  ·cases e
 ·exact .inr ⟨ad,rfl,Rws.flat he hsz h⟩
theorem Cls.src {lo hi:Nat} {w:World} {a:Option Addr} {c:Nat} {L:List aK} (h:Cls lo hi w (.slice a L.length c) L):Src w a L.length c (L.flatMap cellC):=aBk bP (by decide) h
theorem Nms.src {lo hi:Nat} {w:World} {a:Option Addr} {c:Nat} {L:List eY} (h:Nms lo hi w (.slice a L.length c) L):Src w a L.length c (L.flatMap kQ):=aBk jH (by decide) h
theorem Lks.src {lo hi:Nat} {w:World} {a:Option Addr} {c:Nat} {L:List dW} (h:Lks lo hi w (.slice a L.length c) L):Src w a L.length c (L.flatMap kR):=aBk jI (by decide) h
theorem aM4 {L:List (aO × Value)} {j:Nat} (hj:j < L.length):(L.flatMap fun p=>bN p.1 p.2).toArray[j * 2]? =some (.string L[j].1.name)/\(L.flatMap fun p=>bN p.1 p.2).toArray[j * 2+1]? =some L[j].2:=by have h0:=sU (enc:=fun p:aO × Value=>bN p.1 p.2) bY L j 0 hj (by decide);have h1:=sU (enc:=fun p:aO × Value=>bN p.1 p.2) bY L j 1 hj (by decide);simp only [List.getElem?_toArray];exact⟨h0,h1⟩
theorem yN {w:World} {g i:Nat} {cur:Array Value} {t:TypeId} {v:Value} (hg:w.heap[g]? =some (.cells cur t (0,0))):w.setCell ⟨g,i,none⟩ v=w.setRow g (cur.setIfInBounds i v):=setCell_eq_setRow w g i cur t (0,0) v hg
theorem ld1 {u:World} {p:Addr} {v:Value} {t:TypeId} (h:u.cell? p=some v) (ht:(isAgg t).run Tryz.prog u=.ok false u):(Instr.loadAt t (.pointer (some p))).run Tryz.prog u=.ok v u:=by simp [Instr.loadAt,Instr.sureAddr,loadVar,Sem.run_bind,ht,run_load,h]
theorem aM5 (u:World) (a1 a2 a3:Option Addr) (n1 c1 n2 c2 n3 c3:Nat):(Instr.build 26 #[(0,.slice a1 n1 c1),(1,.slice a2 n2 c2),(2,.slice a3 n3 c3)]).run Tryz.prog u=.ok (.agg #[.slice a1 n1 c1,.slice a2 n2 c2,.slice a3 n3 c3]) u:=by kernel_rfl
theorem kS {P:Program} {ev:Operand->Value} {o:Oper} {ty:TypeId} {xs:Array (Nat × Operand)} {ps:Array (Nat × Value)} {v:Value} {u:World} (ho:o.op=.build ty xs) (hx:(xs.map fun (i,x)=>(i,ev x))=ps) (hrun:(Instr.build ty ps).run P u=.ok v u):(execOp ev o).run P u=.ok (.value v) u:=by unfold execOp;simp only [ho,hx,Sem.run_bind,Sem.run_pure,hrun,Result.andThen_ok]
theorem oH {P:Program} {o:Oper} {a:Act} {w w':World} {K:Act->World->Prop} {Q:Exit->Act->World->Prop} {ty:TypeId} {x y:Operand} {p v:Value} (ho:o.op=.store ty x y) (hx:a.eval x=p) (hy:a.eval y=v) (hrun:(Instr.storeAt ty p v).run P w=.ok () w') (h:K (a.put o.dst undef) w'):Oper.wp P o a w K Q:=by unfold Oper.wp execOp;simp only [ho,hx,hy,Sem.run_bind,Sem.run_pure,hrun,Result.andThen_ok];exact h
theorem aGm {u:World} {g:Nat} {x y:Array Value} (hg:u.heap[g]? =some (.cells x 26)) (hx:x.size=3) (hy:y.size=3) (h1:y.all (·.oneCell')=true):(Instr.storeAt 26 (pt g) (.agg y)).run Tryz.prog u=.ok () (u.setRow g y):=by
 have hi:(Tryz.prog.info? 26).map (·.size)=some y.size:=by rw [hy];kernel_rfl
 have hr:=run_storeVar_row (P:=Tryz.prog) u g 26 26 x y hg hi (by omega) h1;simp only [Instr.storeAt,Instr.sureAddr,Sem.run_bind,Sem.run_pure,Result.andThen_ok,hr]
theorem aMu {fn:Func} {p:Tmp} (h:fn.results=#[.cell p 26]) {tmps:Array Value} {w:World} {g:Nat} {y:Array Value} (hp:tmps.getD p undef=pt g) (hg:w.heap[g]? =some (.cells y 26)) (hy:y.size=3:=by rfl):(results fn tmps).run Tryz.prog w=.ok (.agg y) w:=by
 have hi:(Tryz.prog.info? 26).map (·.size)=some y.size:=by rw [hy];kernel_rfl
 exact results_cell_row h tmps w g 26 y (0,0) _ hp hg Tryz.underlying26 rfl hi
theorem yO {lo hi:Nat} {w:World} {sv nv lv:Value} {x:aU} (h:BkM lo hi w sv nv lv x) (hhi:hi<=w.heap.size) (hz:Small x):
  Calls Tryz.prog 17 #[.agg #[sv,nv,lv]] w fun e w'=>(∃gs gn gl,e=.returned (.agg #[newS gs x.aA.length,newS gn x.names.length,newS gl x.links.length])/\CpB w.heap.size w' gs gn gl x)/\Below w.heap.size w w':=by
 obtain⟨sa,sc,rfl,hs1,hs2⟩:=h.sh.slice;obtain⟨na,nc,rfl,_,_⟩:=h.nm.slice;obtain⟨la,lc,rfl,_,_⟩:=h.lk.slice;have HZ:Hid (Small x):=hz;have HH:Hid (BkM lo hi w (.slice sa x.aA.length sc) (.slice na x.names.length nc) (.slice la x.links.length lc) x):=h;obtain⟨W,hW⟩:∃W,W=(w.alloc (bkO (.slice sa x.aA.length sc) (.slice na x.names.length nc) (.slice la x.links.length lc))).alloc (.cells #[.slice none 0 0,.slice none 0 0,.slice none 0 0] 26):=⟨_,rfl⟩
 have hWs:W.heap.size=w.heap.size+2:=by rw [hW];simp
 have HB:Below w.heap.size w W:=by rw [hW];exact Sh.aD (Sh.aD (Below.refl _ _) (Nat.le_refl _) _) (Nat.le_refl _) _
 have hG0:W.heap[w.heap.size]? =some (bkO (.slice sa x.aA.length sc) (.slice na x.names.length nc) (.slice la x.links.length lc)):=by rw [hW,Below.heap_alloc _ _ _ (by simp)];exact heap_alloc_new w _
 have hG1:W.heap[w.heap.size+1]? =some (.cells #[.slice none 0 0,.slice none 0 0,.slice none 0 0] 26):=by rw [hW];simpa using heap_alloc_new (w.alloc (bkO (.slice sa x.aA.length sc) (.slice na x.names.length nc) (.slice la x.links.length lc))) (.cells #[.slice none 0 0,.slice none 0 0,.slice none 0 0] 26)
 obtain⟨cv,hr0,aM6⟩:=h.sh;have hr:=hr0.kept (w':=W) fun i _ hi=>HB.block i (by omega);have hcc:∀u,Below w.heap.size w u->∀j o,x.aA[j]? =some o->Cls lo hi u (cv j) o.cells:=fun u hu j o hj=>(aM6 j o hj).below hhi hu;have hPl:(x.aA.mapIdx fun j s=>(s,cv j)).length=x.aA.length:=by simp
 have hsrc:Src W sa x.aA.length sc ((x.aA.mapIdx fun j s=>(s,cv j)).flatMap fun p=>bN p.1 p.2):=by
  have:=aBk (enc:=fun p:aO × Value=>bN p.1 p.2) (lo:=lo) (hi:=hi) (w:=W) (a:=sa) (c:=sc) (L:=x.aA.mapIdx fun j s=>(s,cv j)) bY (by decide) (by
   rw [hPl];refine hr.congr fun j hj=> ?_;simp [iP,List.getElem?_eq_getElem hj])
  rwa [hPl] at this
 have hone:∀u ∈ (x.aA.mapIdx fun j s=>(s,cv j)).flatMap fun p=>bN p.1 p.2,u.oneCell'=true:=by intro u hu;obtain⟨p,hp,hu⟩:=List.mem_flatMap.1 hu;obtain⟨j,hj,rfl⟩:=List.mem_mapIdx.1 hp;obtain⟨q,d,e,_,_⟩:=(aM6 j _ (List.getElem?_eq_getElem hj)).slice;simp only [bN,e,List.mem_cons,List.not_mem_nil,or_false] at hu;rcases hu with rfl | rfl <;> rfl
 have C1:Calls Tryz.prog 61 _ _ fun e w1=>e=.returned (newS (w.heap.size+2) x.aA.length)/\Hid (∃cur,w1.heap[w.heap.size+2]? =some (.cells cur 78)/\cur.size=x.aA.length * 2/\∀j (hj:j < x.aA.length),cur[j * 2]? =some (.string x.aA[j].name)/\cur[j * 2+1]? =some (cv j))/\Hid (w1.heap.size=w.heap.size+3)/\Hid (Below w.heap.size w w1)/\Hid (w1.heap[w.heap.size]? =some (bkO (.slice sa x.aA.length sc) (.slice na x.names.length nc) (.slice la x.links.length lc)))/\Hid (w1.heap[w.heap.size+1]? =some (.cells #[.slice none 0 0,.slice none 0 0,.slice none 0 0] 26)):=
  (aGh hsrc (by rw [cK (enc:=fun p:aO × Value=>bN p.1 p.2) bY,hPl]) hone (by have:=hz.sh;omega)).mono (by
   rintro e w1 ⟨rfl,h1,h2,h3⟩;rw [hWs] at h1 h2;refine ⟨by rw [hWs],⟨_,h1, ?_,fun j hj=> ?_⟩,by show _=_;omega,Sh.aF HB HB.size h3,(h3.block _ (aN hG0)).trans hG0,(h3.block _ (aN hG1)).trans hG1⟩
   ·rw [List.size_toArray,cK (enc:=fun p:aO × Value=>bN p.1 p.2) bY,hPl]
   ·have:=aM4 (L:=x.aA.mapIdx fun j s=>(s,cv j)) (j:=j) (by rw [hPl];exact hj);simpa using this)
 rw [hW] at C1;have HCC:Hid (∀u,Below w.heap.size w u->∀j o,x.aA[j]? =some o->Cls lo hi u (cv j) o.cells):=hcc;have hc0:=aH hG0 (j:=0) rfl;rw [hW] at hc0;have hlen:x.aA.length<=9223372036854775807:=by unfold maxLen at hs2;omega
 clear h hz hs1 hs2 hr hcc hPl hsrc hone HB hG0 hG1 hWs hr0 aM6;go_enter Tryz.func17,Tryz.ntmps17;go_wp2_with (go_at_call 61;refine C1.mono ?_;clear C1;rintro e w1 ⟨rfl,HR,HSZ,HB,HG0,HG1⟩)
 go_loopw [10] (fun i wr=>∃(k:Nat),k<=x.aA.length/\i=.int .i64 (k:Nat)/\Hid (∃cur,wr.heap[w.heap.size+2]? =some (.cells cur 78)/\cur.size=x.aA.length * 2/\∀j (hj:j < x.aA.length),cur[j * 2]? =some (.string x.aA[j].name)/\cur[j * 2+1]? =some (if j < k then newS (w.heap.size+3+j) x.aA[j].cells.length else cv j))/\Hid (∀j (hj:j < x.aA.length),j < k->wr.heap[w.heap.size+3+j]? =some (.cells (x.aA[j].cells.flatMap cellC).toArray 57))/\Hid (wr.heap.size=w.heap.size+3+k)/\Hid (Below w.heap.size w wr)/\Hid (wr.heap[w.heap.size]? =some (bkO (.slice sa x.aA.length sc) (.slice na x.names.length nc) (.slice la x.links.length lc)))/\Hid (wr.heap[w.heap.size+1]? =some (.cells #[.slice none 0 0,.slice none 0 0,.slice none 0 0] 26))) (fun i _=>x.aA.length - (intOf i).toNat)
 case atStart=> refine ⟨0,Nat.zero_le _,rfl, ?_,fun j _ h=>by omega,HSZ,HB,HG0,HG1⟩;obtain⟨cur,h1,h2,h3⟩:=HR.out;exact⟨cur,h1,h2,fun j hj=>by simpa using h3 j hj⟩
 case round=>
  obtain⟨k,hk,rfl,HR,HCL,HSZ,HB,HG0,HG1⟩:=hrel;by_cases hkL:k < x.aA.length
  ·have hki:(k:Int) < x.aA.length:=by omega
   have iJ:k < 9223372036854775807:=by omega
   obtain⟨cur,hcur,hcs,hcp⟩:=HR.out;have hcl:=HCC.out wr HB.out k _ (List.getElem?_eq_getElem hkL);obtain⟨q,d,hcv,_,_⟩:=hcl.slice;have ck:wr.cell? ⟨w.heap.size+2,k * 2+1,none⟩=some (.slice q x.aA[k].cells.length d):=by refine aH hcur ?_;rw [(hcp k hkL).2,if_neg (by omega),hcv]
   rw [hcv] at hcl;have C2:=aGi hcl.src (by rw [cK bP]) (oG kL _) (by have:=HZ.out.cl _ (List.getElem_mem hkL);omega);have C:Calls Tryz.prog 62 _ _ fun e w2=>e=.returned (newS (w.heap.size+3+k) x.aA[k].cells.length)/\w2.cell? ⟨w.heap.size+2,k * 2+1,none⟩=some (.slice q x.aA[k].cells.length d)/\w2.frozen? ⟨w.heap.size+2,k * 2+1,none⟩=false/\Hid (w2.heap[w.heap.size+2]? =some (.cells cur 78))/\Hid (∀j (hj:j < x.aA.length),j < k+1->w2.heap[w.heap.size+3+j]? =some (.cells (x.aA[j].cells.flatMap cellC).toArray 57))/\Hid (w2.heap.size=w.heap.size+3+(k+1))/\Hid (Below w.heap.size w w2)/\Hid (w2.heap[w.heap.size]? =some (bkO (.slice sa x.aA.length sc) (.slice na x.names.length nc) (.slice la x.links.length lc)))/\Hid (w2.heap[w.heap.size+1]? =some (.cells #[.slice none 0 0,.slice none 0 0,.slice none 0 0] 26)):=C2.mono (by
    rintro e w2 ⟨rfl,h1,h2,h3⟩;have hg2:w2.heap[w.heap.size+2]? =some (.cells cur 78):=(h3.block _ (aN hcur)).trans hcur;have hsz:wr.heap.size=w.heap.size+3+k:=HSZ.out;refine ⟨by rw [hsz],(World.cell?_of_block (h3.block _ (aN hcur))).trans ck,by simp [World.frozen?,hg2],hg2,fun j hj hjk=> ?_,by show _=_;omega,Sh.aF HB.out HB.out.size h3,(h3.block _ (aN HG0.out)).trans HG0.out,(h3.block _ (aN HG1.out)).trans HG1.out⟩;by_cases e:j=k
    ·subst e;rw [hsz] at h1;exact h1
    ·have:=HCL.out j hj (by omega);exact(h3.block _ (aN this)).trans this)
   have Hcs:Hid (cur.size=x.aA.length * 2):=hcs;have Hcp:Hid _:=hcp;clear hcl hcur hcs hcp C2 HR HCL HSZ HB HG0 HG1 hcv;go_wp2_with (go_at_call 62;refine C.mono ?_;clear C;rintro e w2 ⟨rfl,g1,g2,HCU,HCL,HSZ,HB,HG0,HG1⟩)
   go_roundw
   case rel=>
    have hsame:(w2.setCell ⟨w.heap.size+2,k * 2+1,none⟩ (newS (w.heap.size+3+k) x.aA[k].cells.length))=w2.setRow (w.heap.size+2) (cur.setIfInBounds (k * 2+1) (newS (w.heap.size+3+k) x.aA[k].cells.length)):=yN HCU.out;rw [hsame];have hcsz:=Hcs.out;refine ⟨k+1,by omega,by go_num,⟨_,setRow_heap _ _ _ _ _ _ HCU.out,by simpa using hcsz,fun j hj=> ?_⟩,fun j hj hjk=> ?_,by show _=_;rw [setRow_size];exact HSZ.out,below_setRow HB.out (by omega) _, ?_, ?_⟩
    ·have h0:=Hcp.out j hj;rw [Array.getElem?_setIfInBounds_ne (by omega)];refine ⟨h0.1, ?_⟩;by_cases e:j=k
     ·subst e;rw [Array.getElem?_setIfInBounds_self_of_lt (by omega),if_pos (by omega)]
     ·rw [Array.getElem?_setIfInBounds_ne (by omega),h0.2];by_cases e2:j < k
      ·rw [if_pos e2,if_pos (by omega)]
      ·rw [if_neg e2,if_neg (by omega)]
    ·rw [setRow_other _ _ _ _ (by omega)];exact HCL.out j hj hjk
    ·show _=_;rw [setRow_other _ _ _ _ (by omega)];exact HG0.out
    ·show _=_;rw [setRow_other _ _ _ _ (by omega)];exact HG1.out
   case measure=>simp [intOf];omega
  ·have hki:¬(k:Int) < x.aA.length:=by omega
   obtain rfl:k=x.aA.length:=by omega
   have Hd:Hid (Below w.heap.size w wr.drew):=HB.out.drew;have HS:Hid (wr.drew.cell? ⟨w.heap.size,1,none⟩=some (.slice na x.names.length nc)/\wr.drew.cell? ⟨w.heap.size,2,none⟩=some (.slice la x.links.length lc)):=⟨aH HG0.out rfl,aH HG0.out rfl⟩
   obtain⟨cur,hcur,hcs,hcp⟩:=HR.out;have CN:=aGj (HH.out.nm.below hhi Hd.out).src (by rw [cK jH]) (oG aAx _) (by have:=HZ.out.nm;omega);have CL:∀u,Below w.heap.size w u->_:=fun u hu=>aGk (HH.out.lk.below hhi hu).src (by rw [cK jI]) (oG aAy _) (by have:=HZ.out.lk;omega);have jV:Hid (∀u,Below wr.heap.size wr u->(∃cur,u.heap[w.heap.size+2]? =some (.cells cur 78)/\cur.size=x.aA.length * 2/\∀j (hj:j < x.aA.length),cur[j * 2]? =some (.string x.aA[j].name)/\cur[j * 2+1]? =some (newS (w.heap.size+2+1+j) x.aA[j].cells.length))/\(∀j (hj:j < x.aA.length),u.heap[w.heap.size+2+1+j]? =some (.cells (x.aA[j].cells.flatMap cellC).toArray 57))/\u.heap[w.heap.size+1]? =some (.cells #[.slice none 0 0,.slice none 0 0,.slice none 0 0] 26)):=by
    intro u hu;refine ⟨⟨cur,(hu.block _ (aN hcur)).trans hcur,hcs,fun j hj=> ?_⟩,fun j hj=> ?_,(hu.block _ (aN HG1.out)).trans HG1.out⟩
    ·have:=hcp j hj;rw [if_pos hj] at this;exact this
    ·have:=HCL.out j hj hj;exact(hu.block _ (aN this)).trans this
   have aO9:Hid _:=CL;have HDD:Hid (Below wr.heap.size wr wr.drew):=(Below.refl _ _).drew;clear hcur hcs hcp HR HCL HCC CL HG0 HG1;go_wp2;refine aP (fun u=>u.cell? ⟨w.heap.size,1,none⟩=some (.slice na x.names.length nc)/\u.cell? ⟨w.heap.size,2,none⟩=some (.slice la x.links.length lc)) (fun j=>j==8) (by kernel_rfl) ?_;refine dwp 0 ((newS (w.heap.size+2) x.aA.length)) ?_;refine dwp 1 ((.pointer (some ⟨w.heap.size,1,none⟩))) ?_;refine dwl 2 ((.slice na x.names.length nc)) ?_ (hS:=HS.out) (hy:=(fun u hSu=>aG rfl rfl (ld1 hSu.1 (Tryz.isAgg23 _))));refine dwp 4 ((.pointer (some ⟨w.heap.size,2,none⟩))) ?_;refine dwl 5 ((.slice la x.links.length lc)) ?_ (hS:=HS.out) (hy:=(fun u hSu=>aG rfl rfl (ld1 hSu.2 (Tryz.isAgg24 _))));refine aJ (i:=3) (by kernel_rfl) rfl ?_;intro K' hK';go_simp;refine CN.mono ?_;clear CN;rintro e w2 ⟨rfl,N1,N2,N3⟩;have HN1:Hid _:=N1;have HN2:Hid _:=N2;have HB2:Hid (Below w.heap.size w w2):=Sh.aF Hd.out Hd.out.size N3;have HD2:Hid (Below wr.heap.size wr w2):=Sh.aF HDD.out HDD.out.size N3;have CL:=aO9.out w2 HB2.out;have HS2:w2.cell? ⟨w.heap.size,1,none⟩=some (.slice na x.names.length nc)/\w2.cell? ⟨w.heap.size,2,none⟩=some (.slice la x.links.length lc):=⟨(World.cell?_of_block (N3.block _ (World.block_lt_of_cell? _ _ HS.out.1))).trans HS.out.1,(World.cell?_of_block (N3.block _ (World.block_lt_of_cell? _ _ HS.out.2))).trans HS.out.2⟩
   clear N1 N2 N3;refine hK' _ _ (.inr fun _=>HS2) ?_;clear hK';try simp only [Act.put,List.setIfInBounds_toArray,List.set_cons_zero,List.set_cons_succ]
   refine aJ (i:=6) (by kernel_rfl) rfl ?_;intro K' hK';go_simp;refine CL.mono ?_;clear CL;rintro e w3 ⟨rfl,L1,L2,L3⟩;have HL1:Hid _:=L1;have HN3:Hid _:=(L3.block _ (aN HN1.out)).trans HN1.out;have HB3:Hid (Below w.heap.size w w3):=Sh.aF HB2.out HB2.out.size L3;have HD3:Hid (Below wr.heap.size wr w3):=Sh.aF HD2.out HD2.out.size L3;have HS3:w3.cell? ⟨w.heap.size,1,none⟩=some (.slice na x.names.length nc)/\w3.cell? ⟨w.heap.size,2,none⟩=some (.slice la x.links.length lc):=⟨(World.cell?_of_block (L3.block _ (World.block_lt_of_cell? _ _ HS2.1))).trans HS2.1,(World.cell?_of_block (L3.block _ (World.block_lt_of_cell? _ _ HS2.2))).trans HS2.2⟩
   clear L1 L2 L3;refine hK' _ _ (.inr fun _=>HS3) ?_;clear hK';try simp only [Act.put,List.setIfInBounds_toArray,List.set_cons_zero,List.set_cons_succ]
   refine dwp 7 ((.agg #[newS (w.heap.size+2) x.aA.length,newS wr.drew.heap.size x.names.length,newS w2.heap.size x.links.length])) ?_ (hy:=(fun u=>kS rfl (by go_simp) (aM5 u _ _ _ _ _ _ _ _ _)));refine aJ (i:=8) (by kernel_rfl) rfl ?_;intro K' hK';rw [if_pos (by rfl)];have KP:=jV.out w3 HD3.out;have RS:=aGm (y:=#[newS (w.heap.size+2) x.aA.length,newS wr.drew.heap.size x.names.length,newS w2.heap.size x.links.length]) KP.2.2 rfl rfl (by simp [Value.oneCell']);refine oH rfl rfl rfl RS ?_;refine hK' _ _ (.inl rfl) ?_;clear hK';try simp only [Act.put,List.setIfInBounds_toArray,List.set_cons_zero,List.set_cons_succ]
   refine aR (by kernel_rfl) ?_ _;go_wp2;refine bodyPost_ret (aMu rfl rfl (setRow_heap _ _ _ _ _ _ KP.2.2)) rfl ?_;have hw2:w2.heap.size=wr.drew.heap.size+1:=HN2.out;have hwr:wr.drew.heap.size=w.heap.size+3+x.aA.length:=HSZ.out;refine ⟨⟨w.heap.size+2,wr.drew.heap.size,w2.heap.size,rfl,⟨?_,fun j hj=> ?_, ?_, ?_,by omega,by omega,by omega⟩⟩,below_setRow HB3.out (by omega) _⟩
   ·obtain ⟨cur,k1,k2,k3⟩:=KP.1;exact⟨cur,by rw [setRow_other _ _ _ _ (by omega)];exact k1,k2,k3⟩
   ·rw [setRow_other _ _ _ _ (by omega)];exact KP.2.1 j hj
   ·rw [setRow_other _ _ _ _ (by omega)];exact HN3.out
   ·rw [setRow_other _ _ _ _ (by omega)];exact HL1.out
section
variable {P:Program} {ops:Array Oper} {rest:List Oper} {o:Oper} {a:Act} {w w':World} {Q:Exit->Act->World->Prop} {K:Act->World->Prop}
theorem gL (hgd:o.guard=none) (ty:TypeId) (x:Operand) (lo hi mx:Option Operand) (ho:o.op=.slice ty x lo hi mx) (vx:Value) (vl vh vm:Option Value) (v:Value)
  (hx:a.eval x=vx) (hl:lo.map a.eval=vl) (hh:hi.map a.eval=vh) (hm:mx.map a.eval=vm) (hrun:(Instr.sliceAt ty vx vl vh vm).run P w=.ok v w) (h:wpList P ops Q rest (a.put o.dst v) w):wpList P ops Q (o:: rest) a w:=by
 refine wpList_plain hgd fun K hK=> ?_;unfold Oper.wp execOp;simp only [ho,hx,hl,hh,hm,Sem.run_bind,Sem.run_pure,hrun,Result.andThen_ok];exact hK _ _ h
theorem jJ {ev:Operand->Value} {ty:TypeId} {x:Operand} {lo hi mx:Option Operand} {vx v:Value} {vl vh vm:Option Value} {u:World} (ho:o.op=.slice ty x lo hi mx) (hx:ev x=vx) (hl:lo.map ev=vl) (hh:hi.map ev=vh) (hm:mx.map ev=vm)
  (hrun:(Instr.sliceAt ty vx vl vh vm).run P u=.ok v u):(execOp ev o).run P u=.ok (.value v) u:=by
 unfold execOp;simp only [ho,hx,hl,hh,hm,Sem.run_bind,Sem.run_pure,hrun,Result.andThen_ok]
theorem pF {s x:Operand} {t t2:TypeId} (ho:o.op=.call { callee:=.builtin .append,args:=#[s,x],argTypes:=#[t,t2] }) {v bv v':Value} (hs:a.eval s=v) (hx:a.eval x=bv) (hrun:(Builtin.append_ #[t,t2] o.type #[v,bv]).run P w=.ok v' w')
  (h:K (a.put o.dst v') w'):Oper.wp P o a w K Q:=by
 unfold Oper.wp;simp [execOp,ho,resolve,invoke,builtin,hs,hx,hrun,Result.andThen];exact h
theorem aK6 {s x:Operand} {t t2:TypeId} (ho:o.op=.call { callee:=.builtin .copy,args:=#[s,x],argTypes:=#[t,t2] }) {v bv v':Value} (hs:a.eval s=v) (hx:a.eval x=bv) (hrun:(Builtin.copy_ #[t,t2] o.type #[v,bv]).run P w=.ok v' w')
  (h:K (a.put o.dst v') w'):Oper.wp P o a w K Q:=by
 unfold Oper.wp;simp [execOp,ho,resolve,invoke,builtin,hs,hx,hrun,Result.andThen];exact h
end
section
variable {S t:TypeId} {sz bytes:Nat} {zv:Value}
theorem RT.elem (R:RT S t sz bytes zv):Tryz.prog.elem S=t:=by unfold Program.elem;rw [R.st]
theorem RT.so (R:RT S t sz bytes zv) (w:World):(sizeOf t).run Tryz.prog w=.ok sz w:=by obtain⟨i,hi,_,hs,_⟩:=R.size;simp [sizeOf,typeInfo,hi,hs]
theorem nD (g o k:Nat):(⟨g,o,none⟩:Addr).add k=⟨g,o+k,none⟩:=by unfold Addr.add;split <;> simp_all
def nE (g o c k sz:Nat):Addr:=if c=k then ⟨g,o,none⟩ else ⟨g,o+k * sz,none⟩
theorem aD3 (R:RT S t sz bytes zv) (g o n c k:Nat) (hk:k<=c) (u:World):(Instr.sliceAt S (.slice (some ⟨g,o,none⟩) n c) none (some (.int .i64 (k:Nat))) none).run Tryz.prog u=.ok (.slice (some ⟨g,o,none⟩) k c) u:=by
 have h2:Tryz.prog.underlying S=some (.slice (Tryz.prog.elem S)):=by rw [R.elem];exact R.st
 rw [run_sliceAt_slice u S _ _ _ _ h2,run_slice_h u S _ n c h2 .i64 (k:Nat) (by omega) (by omega),R.elem,R.so u];simp [sliced,Result.andThen,nD]
theorem uR (R:RT S t sz bytes zv) (g o n c k:Nat) (hk:k<=n) (u:World):(Instr.sliceAt S (.slice (some ⟨g,o,none⟩) n c) (some (.int .i64 (k:Nat))) none none).run Tryz.prog u=.ok (.slice (some (nE g o c k sz)) (n - k) (c - k)) u:=by
 have h2:Tryz.prog.underlying S=some (.slice (Tryz.prog.elem S)):=by rw [R.elem];exact R.st
 rw [run_sliceAt_slice u S _ _ _ _ h2,run_slice_l u S _ n c h2 .i64 (k:Nat) (by omega) (by omega),R.elem,R.so u];simp only [sliced,Result.andThen,Int.toNat_natCast,Option.map_some,nD,nE];split <;> rfl
theorem aMv (R:RT S t sz bytes zv) (g o n c l h:Nat) (hl:l<=h) (hh:h<=c) (u:World):(Instr.sliceAt S (.slice (some ⟨g,o,none⟩) n c) (some (.int .i64 (l:Nat))) (some (.int .i64 (h:Nat))) none).run Tryz.prog u=.ok (.slice (some (nE g o c l sz)) (h - l) (c - l)) u:=by
 have h2:Tryz.prog.underlying S=some (.slice (Tryz.prog.elem S)):=by rw [R.elem];exact R.st
 rw [run_sliceAt_slice u S _ _ _ _ h2,run_slice_lh u S _ n c h2 .i64 .i64 (l:Nat) (h:Nat) (by omega) (by omega) (by omega),R.elem,R.so u];simp only [sliced,Result.andThen,Int.toNat_natCast,Option.map_some,nD,nE];split <;> rfl
theorem aIF (R:RT S t sz bytes zv) (g o n c l h m:Nat) (hl:l<=h) (hh:h<=m) (hm:m<=c) (u:World):(Instr.sliceAt S (.slice (some ⟨g,o,none⟩) n c) (some (.int .i64 (l:Nat))) (some (.int .i64 (h:Nat))) (some (.int .i64 (m:Nat)))).run Tryz.prog u=.ok (.slice (some (nE g o m l sz)) (h - l) (m - l)) u:=by
 have h2:Tryz.prog.underlying S=some (.slice (Tryz.prog.elem S)):=by rw [R.elem];exact R.st
 rw [run_sliceAt_slice u S _ _ _ _ h2,run_slice_lhm u S _ n c h2 .i64 .i64 .i64 (l:Nat) (h:Nat) (m:Nat) (by omega) (by omega) (by omega) (by omega),R.elem,R.so u];simp only [sliced,Result.andThen,Int.toNat_natCast,Option.map_some,nD,nE];split <;> rfl
theorem aCB (R:RT S t sz bytes zv) {w:World} {g n i:Nat} {cur:Array Value} (hg:w.heap[g]? =some (.cells cur t (0,0))) (hs:cur.size=n * sz) (hi:i < n) (h1:∀u ∈ cur.toList,u.oneCell'=true):
  ∃w1 w2,(Builtin.append_ #[S,S] S #[.slice (some ⟨g,0,none⟩) i n,.slice (some (nE g 0 n (i+1) sz)) (n - (i+1)) (n - (i+1))]).run Tryz.prog w=.ok (.slice (some ⟨g,0,none⟩) (n - 1) n) w1/\
   (∀ty,(Builtin.clear_ #[S] ty #[.slice (some (nE g 0 n (n - 1) sz)) 1 1]).run Tryz.prog w1=.ok (.tuple #[]) w2)/\
   (∃cur',w2.heap[g]? =some (.cells cur' t (0,0))/\cur'.size=n * sz/\cur'.toList.take ((n - 1) * sz)=cur.toList.take (i * sz)++cur.toList.drop ((i+1) * sz))/\w2.heap.size=w.heap.size/\w.grownBy w2 (some g):=by
 obtain⟨ti,hti,_,hsz,_⟩:=R.size;have hp:=R.pos;have e1:(i+1) * sz=i * sz+sz:=by rw [Nat.add_mul];omega
 have e2:(i+1) * sz+(n - (i+1)) * sz=n * sz:=by rw [<-Nat.add_mul];congr 1;omega
 have e3:(n - 1) * sz+sz=n * sz:=by
  have:(n - 1) * sz+1 * sz=n * sz:=by rw [<-Nat.add_mul];congr 1;omega
  omega
 have hdl:(cur.toList.drop ((i+1) * sz)).length=(n - (i+1)) * sz:=by rw [List.length_drop,Array.length_toList,hs];omega
 have hr:=run_append_room (P:=Tryz.prog) w S S t ti R.st hti g i n cur hg (nE g 0 n (i+1) sz) (n - (i+1)) (n - (i+1)) (cur.toList.drop ((i+1) * sz)) (by rw [hdl,hsz])
  (fun j u hj=>by
   have hlt:=(List.getElem?_eq_some_iff.1 hj).1;rw [hdl] at hlt;have hne:¬n=i+1:=fun e=>by rw [<-e,Nat.sub_self,Nat.zero_mul] at hlt;omega
   unfold nE;rw [if_neg hne,nD,cell_of_row w g _ _ _ _ hg];rw [List.getElem?_drop] at hj;simpa using hj)
  (fun u hu=>h1 u (List.mem_of_mem_drop hu)) (by omega) (by rw [hdl,hsz,hs];omega)
 rw [hsz,show i+(n - (i+1))=n - 1 by omega] at hr;obtain⟨X,hX⟩:∃X,X=cur.toList.take (i * sz)++cur.toList.drop ((i+1) * sz)++cur.toList.drop (i * sz+(cur.toList.drop ((i+1) * sz)).length):=⟨_,rfl⟩
 rw [<-hX] at hr;have hXl:X.length=n * sz:=by rw [hX,List.length_append,List.length_append,List.length_take,hdl,List.length_drop,Array.length_toList,hs];omega
 have hXt:X.take ((n - 1) * sz)=cur.toList.take (i * sz)++cur.toList.drop ((i+1) * sz):=by rw [hX];refine List.take_left' ?_;rw [List.length_append,List.length_take,hdl,Array.length_toList,hs];omega
 obtain⟨zs,hzl,hcl⟩:=aGg R (w.setRow g X.toArray) 0 g ((n - 1) * sz) 1 1 X.toArray t (setRow_heap w g cur X.toArray t (0,0) hg) (by decide) (by rw [List.size_toArray,hXl];omega);have hca:(n - 1) * sz=0+(n - 1) * sz:=by omega
 obtain⟨Y,hY⟩:∃Y,Y=(X.toArray.toList.take ((n - 1) * sz)++zs++X.toArray.toList.drop ((n - 1) * sz+zs.length)).toArray:=⟨_,rfl⟩
 rw [<-hY] at hcl;refine ⟨w.setRow g X.toArray,(w.setRow g X.toArray).setRow g Y,hr,fun ty=> ?_,⟨Y,setRow_heap _ _ _ _ _ _ (setRow_heap w g cur X.toArray t (0,0) hg), ?_, ?_⟩,by rw [setRow_size,setRow_size], ?_⟩
 ·unfold nE;rw [if_neg (by omega),<-hca];exact hcl
 ·rw [hY,List.size_toArray,List.length_append,List.length_append,List.length_take,List.length_drop,List.toList_toArray,hXl,hzl];omega
 ·rw [hY,List.toList_toArray,List.toList_toArray,List.append_assoc,List.take_append_of_le_length (by rw [List.length_take,hXl];omega),List.take_take,Nat.min_self,hXt]
 ·refine ⟨rfl,rfl,rfl,by rw [setRow_size,setRow_size];exact Nat.le_refl _,fun k _ hk=> ?_⟩;rw [setRow_other _ _ _ _ (fun e=>hk (by rw [e])),setRow_other _ _ _ _ (fun e=>hk (by rw [e]))]
end
theorem aGn {w:World} {g n i:Nat} {cur:Array Value} (hg:w.heap[g]? =some (.cells cur 57 (0,0))) (hs:cur.size=n * 3) (hi:i < n) (hn:n<=1000000) (h1:∀u ∈ cur.toList,u.oneCell'=true):
  Calls Tryz.prog 95 #[.slice (some ⟨g,0,none⟩) n n,.int .i64 (i:Nat),.int .i64 ((i+1:Nat):Int)] w fun e w'=>e=.returned (.slice (some ⟨g,0,none⟩) (n - 1) n)/\
   (∃cur',w'.heap[g]? =some (.cells cur' 57 (0,0))/\cur'.size=n * 3/\cur'.toList.take ((n - 1) * 3)=cur.toList.take (i * 3)++cur.toList.drop ((i+1) * 3))/\w'.heap.size=w.heap.size/\w.grownBy w' (some g):=by
 obtain⟨w1,w2,hr,hc,HE⟩:=aCB rtC (w:=w.drew) hg hs hi h1;have HEh:Hid _:=HE;have hc:=hc 0;have RA:Hid _:=hr;obtain⟨ca,hca⟩:∃ca,ca=nE g 0 n (i+1) 3:=⟨_,rfl⟩
 obtain⟨cb,hcb⟩:∃cb,cb=nE g 0 n (n - 1) 3:=⟨_,rfl⟩
 have HSF:Hid (∀u,(Instr.sliceAt 27 (.slice (some ⟨g,0,none⟩) n n) (some (.int .i64 ((i+1:Nat):Int))) none none).run Tryz.prog u=.ok (.slice (some ca) (n - (i+1)) (n - (i+1))) u):=fun u=>by rw [hca];exact uR rtC g 0 n n (i+1) (by omega) u
 have HSL:Hid (∀u,(Instr.sliceAt 27 (.slice (some ⟨g,0,none⟩) (n - 1) n) (some (.int .i64 ((n - 1:Nat):Int))) (some (.int .i64 (n:Nat))) none).run Tryz.prog u=.ok (.slice (some cb) 1 1) u):=fun u=>by have:=aMv rtC g 0 (n - 1) n (n - 1) n (by omega) (by omega) u;rw [show n - (n - 1)=1 by omega,<-hcb] at this;exact this
 have HSM:Hid (∀u,∃v,(Instr.sliceAt 27 (.slice (some ⟨g,0,none⟩) n n) (some (.int .i64 (i:Nat))) (some (.int .i64 ((i+1:Nat):Int))) (some (.int .i64 (n:Nat)))).run Tryz.prog u=.ok v u):=fun u=>⟨_,aIF rtC g 0 n n i (i+1) n (by omega) (by omega) (by omega) u⟩
 obtain⟨vm,RM⟩:=HSM.out w;have RMh:Hid _:=RM;rw [<-hca] at RA;rw [<-hcb] at hc;obtain⟨m,hm⟩:∃m,m=i+1:=⟨_,rfl⟩
 rw [<-hm] at RA HSF RMh HEh ⊢;have hne:¬(i:Int)=(m:Int):=by omega
 obtain⟨n1,hn1⟩:∃n1,n1=n - 1:=⟨_,rfl⟩
 rw [<-hn1] at RA HSL HEh ⊢;have hmn:m<=n:=by omega
 have hin:i<=n:=by omega
 clear hg hs hr HE RM HSM hca hcb hn1 h1;go_enter Tryz.func95,Tryz.ntmps95;go_wp2_with (refine gL rfl 27 _ _ _ _ rfl _ _ _ _ _ rfl rfl rfl rfl RMh.out ?_;clear RMh)
 refine aP (fun u=>True) (fun j=>false) (by kernel_rfl) ?_;refine dwp 0 ((.slice (some ⟨g,0,none⟩) n n)) ?_;refine dwp 1 ((.int .i64 (i:Int))) ?_;refine dwp 2 ((.slice (some ⟨g,0,none⟩) i n)) ?_ (hy:=(fun u=>jJ rfl rfl rfl rfl rfl (aD3 rtC g 0 n n i (by omega) u)));refine dwp 3 ((.slice (some ⟨g,0,none⟩) n n)) ?_;refine dwp 4 ((.int .i64 (m:Int))) ?_;refine dwp 5 ((.slice (some ca) (n - m) (n - m))) ?_ (hy:=(fun u=>jJ rfl rfl rfl rfl rfl (HSF.out u)));refine aJ (i:=6) (by kernel_rfl) rfl ?_;intro K' hK';rw [if_pos (by rfl)];refine pF rfl rfl rfl RA.out ?_;refine hK' _ _ (.inr id) ?_;clear hK';try simp only [Act.put,List.setIfInBounds_toArray,List.set_cons_zero,List.set_cons_succ]
 refine dwp 7 ((.slice (some ⟨g,0,none⟩) n1 n)) ?_;refine aR (by kernel_rfl) ?_ _;go_wp2_with (refine gL rfl 27 _ _ _ _ rfl _ _ _ _ _ rfl rfl rfl rfl (HSL.out _) ?_)
 go_ret;exact⟨rfl,HEh.out.1,HEh.out.2.1,⟨HEh.out.2.2.os,HEh.out.2.2.tape,HEh.out.2.2.output,HEh.out.2.2.size,HEh.out.2.2.block⟩⟩
theorem aGo {w:World} {g n i:Nat} {cur:Array Value} (hg:w.heap[g]? =some (.cells cur 78 (0,0))) (hs:cur.size=n * 2) (hi:i < n) (hn:n<=1000000) (h1:∀u ∈ cur.toList,u.oneCell'=true):
  Calls Tryz.prog 79 #[.slice (some ⟨g,0,none⟩) n n,.int .i64 (i:Nat),.int .i64 ((i+1:Nat):Int)] w fun e w'=>e=.returned (.slice (some ⟨g,0,none⟩) (n - 1) n)/\
   (∃cur',w'.heap[g]? =some (.cells cur' 78 (0,0))/\cur'.size=n * 2/\cur'.toList.take ((n - 1) * 2)=cur.toList.take (i * 2)++cur.toList.drop ((i+1) * 2))/\w'.heap.size=w.heap.size/\w.grownBy w' (some g):=by
 obtain⟨w1,w2,hr,hc,HE⟩:=aCB rtS (w:=w.drew) hg hs hi h1;have HEh:Hid _:=HE;have hc:=hc 0;have RA:Hid _:=hr;obtain⟨ca,hca⟩:∃ca,ca=nE g 0 n (i+1) 2:=⟨_,rfl⟩
 obtain⟨cb,hcb⟩:∃cb,cb=nE g 0 n (n - 1) 2:=⟨_,rfl⟩
 have HSF:Hid (∀u,(Instr.sliceAt 22 (.slice (some ⟨g,0,none⟩) n n) (some (.int .i64 ((i+1:Nat):Int))) none none).run Tryz.prog u=.ok (.slice (some ca) (n - (i+1)) (n - (i+1))) u):=fun u=>by rw [hca];exact uR rtS g 0 n n (i+1) (by omega) u
 have HSL:Hid (∀u,(Instr.sliceAt 22 (.slice (some ⟨g,0,none⟩) (n - 1) n) (some (.int .i64 ((n - 1:Nat):Int))) (some (.int .i64 (n:Nat))) none).run Tryz.prog u=.ok (.slice (some cb) 1 1) u):=fun u=>by have:=aMv rtS g 0 (n - 1) n (n - 1) n (by omega) (by omega) u;rw [show n - (n - 1)=1 by omega,<-hcb] at this;exact this
 have HSM:Hid (∀u,∃v,(Instr.sliceAt 22 (.slice (some ⟨g,0,none⟩) n n) (some (.int .i64 (i:Nat))) (some (.int .i64 ((i+1:Nat):Int))) (some (.int .i64 (n:Nat)))).run Tryz.prog u=.ok v u):=fun u=>⟨_,aIF rtS g 0 n n i (i+1) n (by omega) (by omega) (by omega) u⟩
 obtain⟨vm,RM⟩:=HSM.out w;have RMh:Hid _:=RM;rw [<-hca] at RA;rw [<-hcb] at hc;obtain⟨m,hm⟩:∃m,m=i+1:=⟨_,rfl⟩
 rw [<-hm] at RA HSF RMh HEh ⊢;have hne:¬(i:Int)=(m:Int):=by omega
 obtain⟨n1,hn1⟩:∃n1,n1=n - 1:=⟨_,rfl⟩
 rw [<-hn1] at RA HSL HEh ⊢;have hmn:m<=n:=by omega
 have hin:i<=n:=by omega
 clear hg hs hr HE RM HSM hca hcb hn1 h1;go_enter Tryz.func79,Tryz.ntmps79;go_wp2_with (refine gL rfl 22 _ _ _ _ rfl _ _ _ _ _ rfl rfl rfl rfl RMh.out ?_;clear RMh)
 refine aP (fun u=>True) (fun j=>false) (by kernel_rfl) ?_;refine dwp 0 ((.slice (some ⟨g,0,none⟩) n n)) ?_;refine dwp 1 ((.int .i64 (i:Int))) ?_;refine dwp 2 ((.slice (some ⟨g,0,none⟩) i n)) ?_ (hy:=(fun u=>jJ rfl rfl rfl rfl rfl (aD3 rtS g 0 n n i (by omega) u)));refine dwp 3 ((.slice (some ⟨g,0,none⟩) n n)) ?_;refine dwp 4 ((.int .i64 (m:Int))) ?_;refine dwp 5 ((.slice (some ca) (n - m) (n - m))) ?_ (hy:=(fun u=>jJ rfl rfl rfl rfl rfl (HSF.out u)));refine aJ (i:=6) (by kernel_rfl) rfl ?_;intro K' hK';rw [if_pos (by rfl)];refine pF rfl rfl rfl RA.out ?_;refine hK' _ _ (.inr id) ?_;clear hK';try simp only [Act.put,List.setIfInBounds_toArray,List.set_cons_zero,List.set_cons_succ]
 refine dwp 7 ((.slice (some ⟨g,0,none⟩) n1 n)) ?_;refine aR (by kernel_rfl) ?_ _;go_wp2_with (refine gL rfl 22 _ _ _ _ rfl _ _ _ _ _ rfl rfl rfl rfl (HSL.out _) ?_)
 go_ret;exact⟨rfl,HEh.out.1,HEh.out.2.1,⟨HEh.out.2.2.os,HEh.out.2.2.tape,HEh.out.2.2.output,HEh.out.2.2.size,HEh.out.2.2.block⟩⟩
section
variable {S t:TypeId} {sz bytes:Nat} {zv:Value}
theorem eO {w:World} {base g n:Nat} {xs:List Value} (hg:w.heap[g]? =some (.cells xs.toArray t (0,0))) (hl:xs.length=n * sz) (hb:base<=g) (hn:n<=maxLen):w.ownsRow base t sz (newS g n) n xs:=
 ⟨hl,.inr ⟨g,n,xs.toArray,rfl,hb,hg,Nat.le_refl _,hn,by rw [List.size_toArray];exact hl,by rw [List.toList_toArray];exact List.take_of_length_le (by omega)⟩⟩
theorem aK7 (R:RT S t sz bytes zv) {w:World} {base g h n:Nat} {xs es:List Value} {z:Nat × Nat} (hg:w.heap[g]? =some (.cells xs.toArray t (0,0))) (hl:xs.length=n * sz) (hb:base<=g) (hn:n<=1000) (hby:bytes<=100) (hh:w.heap[h]? =some (.cells es.toArray t z)) (hel:es.length=sz) (h1:∀u ∈ es,u.oneCell'=true):
  ∃v' w',(Builtin.append_ #[S,S] S #[newS g n,.slice (some ⟨h,0,none⟩) 1 1]).run Tryz.prog w=.ok v' w'/\w'.ownsRow base t sz v' (n+1) (xs++es)/\w.grownBy w' (some g):=by
 obtain⟨ti,hti,hz,hsz,hbb⟩:=R.size;obtain⟨v',w',r1,o1,g1,_,_⟩:=run_append_own_at w base S S t ti zv sz bytes R.st hti hz hsz hbb R.zs R.pos (newS g n) n xs (eO hg hl hb (bT hn)) ⟨h,0,none⟩ 1 1 es (by omega)
  (fun j u hj=>by rw [nD,cell_of_row w h _ _ _ _ hh,Nat.zero_add,<-hj];simp) h1 (by unfold maxLen;omega) (by have:(n+1) * bytes<=1001 * 100:=Nat.mul_le_mul (by omega) hby;omega) (Nat.le_trans hb (Nat.le_of_lt (aN hg)))
 exact⟨v',w',r1,o1,g1⟩
theorem aK8 (R:RT S t sz bytes zv) (h3:Tryz.prog.underlying 3=some (.int .i64)) {w:World} {base g h n i:Nat} {xs es:List Value} {z:Nat × Nat} (hg:w.heap[g]? =some (.cells xs.toArray t (0,0))) (hl:xs.length=n * sz) (hb:base<=g) (hn:n<=1000) (hby:bytes<=100) (hi:i < n) (hh:w.heap[h]? =some (.cells es.toArray t z)) (hel:es.length=sz) (h1:∀u ∈ es,u.oneCell'=true) (h1x:∀u ∈ xs,u.oneCell'=true):
  ∃(G:Nat) (W1 W2 W3:World),n+1<=G/\G<=9223372036854775807/\
   (∀ty,(Builtin.append_ #[S,3] ty #[.slice (some ⟨g,0,none⟩) i n,.int .i64 ((n+1 - i:Nat):Int)]).run Tryz.prog w=.ok (.slice (some ⟨w.heap.size,0,none⟩) (n+1) G) W1)/\
   (∀ty dc,(Builtin.copy_ #[S,S] ty #[.slice (some ⟨w.heap.size,i * sz,none⟩) (n+1 - i) dc,.slice (some ⟨h,0,none⟩) 1 1]).run Tryz.prog W1=.ok (goInt 1) W2)/\
   (∀ty dc sc,(Builtin.copy_ #[S,S] ty #[.slice (some ⟨w.heap.size,(i+1) * sz,none⟩) (n - i) dc,.slice (some ⟨g,i * sz,none⟩) (n - i) sc]).run Tryz.prog W2.drew=.ok (goInt (n - i:Nat)) W3)/\
   W3.ownsRow base t sz (.slice (some ⟨w.heap.size,0,none⟩) (n+1) G) (n+1) (xs.take (i * sz)++es++xs.drop (i * sz))/\w.grownBy W3 (some g):=by
 obtain⟨ti,hti,hz,hsz,hbb⟩:=R.size;have hp:=R.pos;have hgl:=aN hg;have hhl:=aN hh;have hbig:(n+1) * bytes<=140737488355328:=by have:(n+1) * bytes<=1001 * 100:=Nat.mul_le_mul (by omega) hby;omega
 have e1:(i+1) * sz=i * sz+sz:=by rw [Nat.add_mul];omega
 have e2:i * sz+(n - i) * sz=n * sz:=by rw [<-Nat.add_mul];congr 1;omega
 have e3:(n+1) * sz=n * sz+sz:=by rw [Nat.add_mul];omega
 have e4:(n+1 - i) * sz+i * sz=(n+1) * sz:=by rw [<-Nat.add_mul];congr 1;omega
 have hold:(Builtin.firstCells ti.size i (.slice (some ⟨g,0,none⟩) i n)).run Tryz.prog w.drew=.ok (xs.take (i * sz)).toArray w.drew:=by
  refine run_firstCells_some w.drew ti.size i ⟨g,0,none⟩ i n (xs.take (i * sz)) (by rw [hsz,List.length_take];omega) fun j v hj=> ?_;rw [nD,cell_of_row w.drew g _ _ _ _ hg,Nat.zero_add];rw [List.getElem?_take] at hj;split at hj
  ·simpa using hj
  ·cases hj
 have hbq:(n+1 - i) * ti.bytes<=281474976710656:=by rw [hbb];have:(n+1 - i) * bytes<=(n+1) * bytes:=Nat.mul_le_mul_right _ (by omega);omega
 have hra:∀ty,_:=fun ty=>Lib.run_append_grow_zeros (P:=Tryz.prog) w S 3 ty t ti zv .i64 .i64 R.st h3 hti hz (some ⟨g,0,none⟩) i n (xs.take (i * sz)) hold (n+1 - i) (by omega) (by omega) (by omega) (by omega) hbq (by rw [hbb,show i+(n+1 - i)=n+1 by omega];exact growslice_fits (by omega) hbig);rw [show i+(n+1 - i)=n+1 by omega] at hra;obtain⟨G,hG⟩:∃G,G=grownCap w (n+1) n t:=⟨_,rfl⟩
 rw [<-hG] at hra;have hGn:n+1<=G:=by rw [hG];exact grownCap_ge w _ _ _
 have hGm:G<=maxLen:=by rw [hG];exact grownCap_le_maxLen w (n+1) n t (by unfold maxLen;omega)
 obtain⟨ROW,hROW⟩:∃ROW:Array Value,ROW=(xs.take (i * sz)).toArray++Builtin.zeroCells zv.cells (n+1 - i)++Builtin.zeroCells zv.cells (G - (n+1)):=⟨_,rfl⟩
 rw [<-hROW] at hra;have hRl:ROW.size=G * sz:=by
  rw [hROW,Array.size_append,Array.size_append,size_zeroCells,size_zeroCells,R.zs,List.size_toArray,List.length_take];have e5:(G - (n+1)) * sz+(n+1) * sz=G * sz:=by rw [<-Nat.add_mul];congr 1;omega
  omega
 have hRt:ROW.toList.take (i * sz)=xs.take (i * sz):=by rw [hROW,Array.toList_append,Array.toList_append,List.append_assoc,List.take_append_of_le_length (by rw [List.toList_toArray,List.length_take];omega),List.toList_toArray,List.take_take,Nat.min_self]
 have hGs:(n+1) * sz<=G * sz:=Nat.mul_le_mul_right _ hGn;obtain⟨W1,hW1⟩:∃W1,W1=w.drew.alloc (.cells ROW t):=⟨_,rfl⟩
 rw [<-hW1] at hra;have g1:W1.heap[w.heap.size]? =some (.cells ROW t (0,0)):=by rw [hW1];exact heap_alloc_new w.drew _
 have aN3:∀k,k < w.heap.size->W1.heap[k]? =w.heap[k]? :=fun k hk=>by rw [hW1];exact Below.heap_alloc w.drew _ k hk
 obtain⟨Y1,hY1⟩:∃Y1:List Value,Y1=ROW.toList.take (i * sz)++es++ROW.toList.drop (i * sz+es.length):=⟨_,rfl⟩
 have aN4:Y1.length=G * sz:=by rw [hY1,List.length_append,List.length_append,List.length_take,List.length_drop,Array.length_toList,hRl];omega
 have hc1:∀ty dc,(Builtin.copy_ #[S,S] ty #[.slice (some ⟨w.heap.size,i * sz,none⟩) (n+1 - i) dc,.slice (some ⟨h,0,none⟩) 1 1]).run Tryz.prog W1=.ok (goInt 1) (W1.setRow w.heap.size Y1.toArray):=fun ty dc=>by have hmin:Nat.min 1 (n+1 - i)=1:=Nat.min_eq_left (by omega);have:=yM R W1 ty w.heap.size (i * sz) (n+1 - i) dc ⟨h,0,none⟩ 1 1 ROW t es g1 (by rw [hmin];omega) (fun j v hj=>by rw [nD,cell_of_row W1 h _ _ _ _ ((aN3 h hhl).trans hh),Nat.zero_add,<-hj];simp) (by rw [hRl];omega) h1;rw [hmin,<-hY1] at this;exact this
 have g2:(W1.setRow w.heap.size Y1.toArray).drew.heap[w.heap.size]? =some (.cells Y1.toArray t (0,0)):=setRow_heap _ _ _ _ _ _ g1;have aN5:∀k,k < w.heap.size->(W1.setRow w.heap.size Y1.toArray).drew.heap[k]? =w.heap[k]? :=fun k hk=>(setRow_other _ _ _ _ (by omega)).trans (aN3 k hk);obtain⟨Y2,hY2⟩:∃Y2:List Value,Y2=Y1.toArray.toList.take ((i+1) * sz)++xs.drop (i * sz)++Y1.toArray.toList.drop ((i+1) * sz+(xs.drop (i * sz)).length):=⟨_,rfl⟩
 have hdl:(xs.drop (i * sz)).length=(n - i) * sz:=by rw [List.length_drop,hl];omega
 have aPa:Y2.length=G * sz:=by rw [hY2,List.length_append,List.length_append,List.length_take,hdl,List.length_drop,List.toList_toArray,aN4];omega
 have hc2:∀ty dc sc,(Builtin.copy_ #[S,S] ty #[.slice (some ⟨w.heap.size,(i+1) * sz,none⟩) (n - i) dc,.slice (some ⟨g,i * sz,none⟩) (n - i) sc]).run Tryz.prog (W1.setRow w.heap.size Y1.toArray).drew=.ok (goInt (n - i:Nat)) ((W1.setRow w.heap.size Y1.toArray).drew.setRow w.heap.size Y2.toArray):=fun ty dc sc=>by
  have hmin:Nat.min (n - i) (n - i)=n - i:=Nat.min_self _;have:=yM R (W1.setRow w.heap.size Y1.toArray).drew ty w.heap.size ((i+1) * sz) (n - i) dc ⟨g,i * sz,none⟩ (n - i) sc Y1.toArray t (xs.drop (i * sz)) g2 (by rw [hmin,hdl]) (fun j v hj=>by
   rw [nD,cell_of_row _ g _ _ _ _ ((aN5 g hgl).trans hg)];rw [List.getElem?_drop] at hj;simpa using hj) (by rw [List.size_toArray,aN4,hdl];omega) (fun u hu=>h1x u (List.mem_of_mem_drop hu))
  rw [hmin,<-hY2] at this;exact this
 refine ⟨G,W1,_,_,hGn,by unfold maxLen at hGm;omega,hra,hc1,hc2,⟨?_,.inr ⟨w.heap.size,G,Y2.toArray,rfl,by omega,setRow_heap _ _ _ _ _ _ g2,hGn,hGm,by rw [List.size_toArray,aPa], ?_⟩⟩,⟨by rw [hW1];rfl,by rw [hW1];rfl,by rw [hW1];rfl, ?_,fun k hk hne=> ?_⟩⟩
 ·rw [List.length_append,List.length_append,List.length_take,hdl,hel];omega
 ·have hA:Y1.take ((i+1) * sz)=xs.take (i * sz)++es:=by rw [hY1,hRt];refine List.take_left' ?_;rw [List.length_append,List.length_take];omega
  rw [List.toList_toArray,hY2,List.toList_toArray,hA];refine List.take_left' ?_;rw [List.length_append,List.length_append,List.length_take,hdl];omega
 ·rw [setRow_size];show _<=(W1.setRow w.heap.size Y1.toArray).heap.size;rw [setRow_size,hW1];show _<=(w.drew.alloc _).heap.size;simp
 ·rw [setRow_other _ _ _ _ (by omega)];exact aN5 k hk
end
theorem aGp {w:World} {base g h n i:Nat} {xs es:List Value} {z:Nat × Nat} (hg:w.heap[g]? =some (.cells xs.toArray 57 (0,0))) (hl:xs.length=n * 3) (hb:base<=g) (hn:n<=1000) (hi:i<=n) (hh:w.heap[h]? =some (.cells es.toArray 57 z)) (hel:es.length=3) (h1:∀u ∈ es,u.oneCell'=true) (h1x:∀u ∈ xs,u.oneCell'=true):
  Calls Tryz.prog 96 #[.slice (some ⟨g,0,none⟩) n n,.int .i64 (i:Nat),.slice (some ⟨h,0,none⟩) 1 1] w fun e w'=>(∃v',e=.returned v'/\w'.ownsRow base 57 3 v' (n+1) (xs.take (i * 3)++es++xs.drop (i * 3)))/\w.grownBy w' (some g):=by
 have RS1:Hid _:=uR rtC g 0 n n i hi w;obtain⟨ca,hca⟩:∃ca,ca=nE g 0 n i 3:=⟨_,rfl⟩
 rw [<-hca] at RS1;by_cases he:i=n
 ·subst he;obtain⟨v',w',RA,HO,HG⟩:=aK7 rtC hg hl hb hn (by decide) hh hel h1;rw [show xs.take (i * 3)=xs from List.take_of_length_le (by omega),show xs.drop (i * 3)=[] from List.drop_of_length_le (by omega),List.append_nil];have RAh:Hid _:=RA;have HOh:Hid _:=HO;have HGh:Hid _:=HG;clear hg hl hh hel h1 h1x RA HO HG hca;go_enter Tryz.func96,Tryz.ntmps96;go_wp2_with (first|(refine gL rfl 27 _ _ _ _ rfl _ _ _ _ _ rfl rfl rfl rfl RS1.out ?_;clear RS1)|(at_builtin;refine bV rfl _ _ 27 27 rfl _ _ _ _ rfl rfl RAh.out ?_;clear RAh))
  go_ret;exact⟨⟨_,rfl,HOh.out⟩,HGh.out⟩
 ·have hlt:i < n:=by omega
  obtain⟨G,W1,W2,W3,hGn,hG63,RA,RC1,RC2,HO,HG⟩:=aK8 rtC Tryz.underlying3 hg hl hb hn (by decide) hlt hh hel h1 h1x;have RA:=RA 27;have HOh:Hid _:=HO;have HGh:Hid _:=HG;obtain⟨gN,hgN⟩:∃gN,gN=w.heap.size:=⟨_,rfl⟩
  rw [<-hgN] at RA RC1 RC2 HOh;obtain⟨n1,hn1⟩:∃n1,n1=n+1:=⟨_,rfl⟩
  obtain⟨i1,hi1⟩:∃i1,i1=i+1:=⟨_,rfl⟩
  have HS2:Hid (∀u,(Instr.sliceAt 27 (.slice (some ⟨gN,0,none⟩) n1 G) (some (.int .i64 (i1:Nat))) none none).run Tryz.prog u=.ok (.slice (some ⟨gN,i1 * 3,none⟩) (n - i) (G - i1)) u):=fun u=>by have:=uR rtC gN 0 n1 G i1 (by omega) u;unfold nE at this;rw [if_neg (by omega),Nat.zero_add,show n1 - i1=n - i by omega] at this;exact this
  have HS3:Hid (∀u,(Instr.sliceAt 27 (.slice (some ⟨g,0,none⟩) n n) (some (.int .i64 (i:Nat))) none none).run Tryz.prog u=.ok (.slice (some ⟨g,i * 3,none⟩) (n - i) (n - i)) u):=fun u=>by have:=uR rtC g 0 n n i (by omega) u;unfold nE at this;rw [if_neg (by omega),Nat.zero_add] at this;exact this
  have HS4:Hid (∀u,(Instr.sliceAt 27 (.slice (some ⟨gN,0,none⟩) n1 G) (some (.int .i64 (i:Nat))) none none).run Tryz.prog u=.ok (.slice (some ⟨gN,i * 3,none⟩) (n1 - i) (G - i)) u):=fun u=>by have:=uR rtC gN 0 n1 G i (by omega) u;unfold nE at this;rw [if_neg (by omega),Nat.zero_add] at this;exact this
  have RP:Hid _:=aD3 rtC g 0 n n i hi w;have e1:(n:Int)+1=(n1:Int):=by omega
  have e2:IntKind.i64.wrap (n1:Int)=(n1:Int):=by rw [IntKind.wrap_i64];omega
  have e3:(n1:Int) - (i:Int)=((n1 - i:Nat):Int):=by omega
  have e4:IntKind.i64.wrap ((n1 - i:Nat):Int)=((n1 - i:Nat):Int):=by rw [IntKind.wrap_i64];omega
  have e5:(i:Int)+1=(i1:Int):=by omega
  have e6:IntKind.i64.wrap (i1:Int)=(i1:Int):=by rw [IntKind.wrap_i64];omega
  have e7:(n:Int) < (n1:Int):=by omega
  have e8:¬(i:Int)=(n:Int):=by omega
  rw [<-hn1] at RA RC1 HOh hGn ⊢;rw [<-hi1] at RC2;obtain⟨q,hq⟩:∃q,q=n1 - i:=⟨_,rfl⟩
  rw [<-hq] at RA RC1 e3 e4 HS4;have RAh:Hid _:=RA;have aPT:=RC1 3 (G - i);have RC2:Hid _:=RC2;clear hg hl hh hel h1 h1x RA RC1 HO HG hca he hn1 hi1 hq hgN;go_enter Tryz.func96,Tryz.ntmps96;go_wp2_with (first|(refine gL rfl 27 _ _ _ _ rfl _ _ _ _ _ rfl rfl rfl rfl RS1.out ?_;clear RS1)|(refine gL rfl 27 _ _ _ _ rfl _ _ _ _ _ rfl rfl rfl rfl RP.out ?_;clear RP)|(at_builtin;refine bV rfl _ _ 27 3 rfl _ _ _ _ rfl rfl RAh.out ?_;clear RAh)|(refine gL rfl 27 _ _ _ _ rfl _ _ _ _ _ rfl rfl rfl rfl (HS4.out _) ?_;clear HS4))
  refine aP (fun u=>True) (fun j=>false) (by kernel_rfl) ?_;refine dwp 0 ((.slice (some ⟨gN,0,none⟩) n1 G)) ?_;refine dwp 1 ((.int .i64 (i:Int))) ?_;refine dwp 2 ((.int .i64 1)) ?_;refine dwp 3 ((.int .i64 (i1:Int))) ?_;refine dwp 4 ((.slice (some ⟨gN,i1 * 3,none⟩) (n - i) (G - i1))) ?_ (hy:=(fun u=>jJ rfl rfl rfl rfl rfl (HS2.out u)));refine dwp 5 ((.slice (some ⟨g,0,none⟩) n n)) ?_;refine dwp 6 ((.int .i64 (i:Int))) ?_;refine dwp 7 ((.slice (some ⟨g,i * 3,none⟩) (n - i) (n - i))) ?_ (hy:=(fun u=>jJ rfl rfl rfl rfl rfl (HS3.out u)));refine aJ (i:=8) (by kernel_rfl) rfl ?_;intro K' hK';rw [if_pos (by rfl)];refine aK6 rfl rfl rfl (RC2.out _ _ _) ?_;refine hK' _ _ (.inr id) ?_;clear hK';try simp only [Act.put,List.setIfInBounds_toArray,List.set_cons_zero,List.set_cons_succ]
  refine aR (by kernel_rfl) ?_ _;go_wp2;go_ret;exact⟨⟨_,rfl,HOh.out⟩,HGh.out⟩
theorem aK9 (u:World) (r c:Int):(Instr.build 57 #[(0,.int .i64 r),(1,.int .i64 c)]).run Tryz.prog u=.ok (cellV ⟨r,c,⟨#[]⟩⟩) u:=by kernel_rfl
theorem sW (u:World) (r c:Int) (s:ByteArray):(Instr.build 57 #[(0,.int .i64 r),(1,.int .i64 c),(2,.string s)]).run Tryz.prog u=.ok (cellV ⟨r,c,s⟩) u:=by kernel_rfl
theorem bQ {P:Program} {ops:Array Oper} {rest:List Oper} {o:Oper} {a:Act} {w:World} {Q:Exit->Act->World->Prop} (hgd:o.guard=none) (ty:TypeId) (xs:Array (Nat × Operand)) (ho:o.op=.build ty xs)
  (ps:Array (Nat × Value)) (v:Value) (hx:(xs.map fun (i,x)=>(i,a.eval x))=ps) (hrun:(Instr.build ty ps).run P w=.ok v w) (h:wpList P ops Q rest (a.put o.dst v) w):wpList P ops Q (o:: rest) a w:=by
 refine wpList_plain hgd fun K hK=> ?_;unfold Oper.wp execOp;simp only [ho,hx,Sem.run_bind,Sem.run_pure,hrun,Result.andThen_ok];exact hK _ _ h
theorem dN {P:Program} {ops:Array Oper} {rest:List Oper} {o:Oper} {a:Act} {w:World} {Q:Exit->Act->World->Prop} (hgd:o.guard=none) (ty:TypeId) (len:Nat) (xs:Array (Nat × Operand)) (ho:o.op=.buildSlice ty len xs)
  (ps:Array (Nat × Value)) (v:Value) (w':World) (hx:(xs.map fun (i,x)=>(i,a.eval x))=ps) (hrun:(Instr.buildSlice ty len ps).run P w=.ok v w') (h:wpList P ops Q rest (a.put o.dst v) w'):wpList P ops Q (o:: rest) a w:=by
 refine wpList_plain hgd fun K hK=> ?_;unfold Oper.wp execOp;simp only [ho,hx,Sem.run_bind,Sem.run_pure,hrun,Result.andThen_ok];exact hK _ _ h
theorem uS {lo hi:Nat} {w:World} {a:Option Addr} {c g:Nat} {L:List aK} (h:Cls lo hi w (.slice a L.length c) L) (hhi:hi<=w.heap.size) (hn:L.length<=1000) (hg:w.heap[g]? =some (.cells #[.slice a L.length c] 27)) (r k:Int):
  Calls Tryz.prog 116 #[.int .i64 r,.int .i64 k,pt g] w fun e w'=>(∃(i:Nat) (b:Bool),e=.returned (.tuple #[.int .i64 (i:Nat),.bool b])/\BsR L ⟨r,k,⟨#[]⟩⟩ i b)/\Below w.heap.size w w':=by
 have C:=aK4 h hhi (by omega) ⟨r,k,⟨#[]⟩⟩;have c0:=aH hg (j:=0) rfl;have RB:Hid _:=aK9 w r k;clear h hg;go_enter Tryz.func116,Tryz.ntmps116;go_wp2_with (first|(refine bQ rfl 57 _ rfl _ _ (by go_simp) RB.out ?_;clear RB)|(go_at_call 117;refine C.mono ?_;clear C;rintro e w1 ⟨⟨i,b,rfl,HR⟩,HB⟩;have HRh:Hid _:=HR;have HBh:Hid _:=HB;clear HR HB))
 go_ret2;exact⟨⟨i,b,rfl,HRh.out⟩,HBh.out⟩
abbrev findF (g:Nat):Value:=.func (.func 116) #[] #[pt g]
theorem qU (v:Value) (a:Option Addr) (n c:Nat) (hv:v=.slice a n c) (w:World):Calls Tryz.prog 81 #[v] w fun e w'=>e=.returned (findF w.heap.size)/\w'=w.alloc (.cells #[v] 27):=by subst hv;go_enter Tryz.func81,Tryz.ntmps81;go_wp2;go_ret;exact⟨rfl,rfl⟩
theorem aLa {lo hi:Nat} {w:World} {a:Option Addr} {c:Nat} {L:List aK} (h:Cls lo hi w (.slice a L.length c) L) (hhi:hi<=w.heap.size) (hn:L.length<=1000) (hR:iB L) (r k:Int):
  CR 57 #[.slice a L.length c,.int .i64 r,.int .i64 k] w (.bool (L.any (atB r k))):=by
 have C1:=qU _ a L.length c rfl w;have HB:Below w.heap.size w (w.alloc (.cells #[.slice a L.length c] 27)):=Sh.aD (Below.refl _ _) (Nat.le_refl _) _;have C2:Calls Tryz.prog 116 #[.int .i64 r,.int .i64 k,pt w.heap.size] (w.alloc (.cells #[.slice a L.length c] 27)) fun e w'=>(∃(i:Nat) (b:Bool),e=.returned (.tuple #[.int .i64 (i:Nat),.bool b])/\Hid (b=L.any (atB r k)))/\Hid (Below w.heap.size w w'):=(uS (h.below hhi HB) (Nat.le_trans hhi HB.size) hn (heap_alloc_new w _) r k).mono (by
  rintro e w' ⟨⟨i,b,rfl,hb⟩,hbl⟩;exact⟨⟨i,b,rfl,aM2 hR hb⟩,Sh.aF HB HB.size hbl⟩)
 clear h HB;go_enter Tryz.func57,Tryz.ntmps57;go_wp2_with (first|(go_at_call 81;refine C1.mono ?_;clear C1;rintro e w1 ⟨rfl,rfl⟩)|(go_at_call 116;refine C2.mono ?_;clear C2;rintro e w1 ⟨⟨i,b,rfl,Hb⟩,HB⟩))
 go_ret;exact⟨by rw [Hb.out];rfl,HB.out⟩
theorem aLb {w:World} {g n i:Nat} {xs:List Value} (hg:w.heap[g]? =some (.cells xs.toArray 57)) (hl:xs.length=n * 3) (hi:i < n) (t:aK):
  ∃w',(Instr.storeAt 57 (.pointer (some ⟨g,i * 3,none⟩)) (cellV t)).run Tryz.prog w=.ok () w'/\w'.heap[g]? =some (.cells (xs.take (i * 3)++cellC t++xs.drop ((i+1) * 3)).toArray 57)/\w'.heap.size=w.heap.size/\w.grownBy w' (some g):=by
 have hst:=run_storeCells_at Tryz.prog g (i * 3) 57 (cellC t) 0 xs.toArray w hg (by rw [List.size_toArray,hl,bP];omega) (kL t);have aN6:(Tryz.prog.info? 57).map (·.size)=some 3:=by kernel_rfl
 refine ⟨_, ?_,setRow_heap _ _ _ _ _ _ hg,setRow_size _ _ _,⟨rfl,rfl,rfl,by rw [setRow_size];exact Nat.le_refl _,fun k _ hk=>setRow_other _ _ _ _ (fun e=>hk (by rw [e]))⟩⟩;cases hq:Tryz.prog.info? 57 with
 | none=>simp [hq] at aN6
 | some j=>
  have hs:j.size=3:=by simpa [hq] using aN6
  simp only [Nat.add_zero,List.toList_toArray,bP,show i * 3+3=(i+1) * 3 by omega] at hst;simp only [cellC] at hst ⊢;simp [Instr.storeAt,Instr.sureAddr,storeVar,sizeOf,typeInfo,hq,hs,Value.cells,cellV,hst]
theorem aD4 (w:World) (x:aK):(Instr.buildSlice 27 1 #[(0,cellV x)]).run Tryz.prog w=.ok (.slice (some ⟨w.heap.size,0,none⟩) 1 1) (w.alloc (ceO x)):=by kernel_rfl
theorem bD {w w':World} {row:Option Nat} (h:Below w.heap.size w w'):w.grownBy w' row:=⟨h.os,h.tape,h.output,h.size,fun i hi _=>h.block i hi⟩
theorem uT (L:List aK) (i:Nat):(L.flatMap cellC).take (i * 3)=(L.take i).flatMap cellC:=(aBj bP L i).symm
theorem uU (L:List aK) (i:Nat):(L.flatMap cellC).drop (i * 3)=(L.drop i).flatMap cellC:=(aBi bP L i).symm
def aN7 (base:Nat) (w:World) (g:Nat) (L:List aK) (t:aK) (e:Ending) (w':World):Prop:=
 (∃v',e=.returned v'/\w'.ownsRow base 57 3 v' (dU L t).length ((dU L t).flatMap cellC))/\w.grownBy w' (some g)
theorem aIG {w:World} {base g:Nat} {L:List aK} (hg:w.heap[g]? =some (.cells (L.flatMap cellC).toArray 57)) (hb:base<=g) (hn:L.length<=1000) (hR:iB L) (t:aK):
  Calls Tryz.prog 58 #[newS g L.length,cellV t] w (aN7 base w g L t):=by
 obtain⟨tr,tc,tt⟩:=t;obtain⟨W,hW⟩:∃W,W=w.alloc (ceO ⟨tr,tc,tt⟩):=⟨_,rfl⟩
 have hX:W.heap[w.heap.size]? =some (ceO ⟨tr,tc,tt⟩):=by rw [hW];exact heap_alloc_new w _
 have HB0:Below w.heap.size w W:=by rw [hW];exact Sh.aD (Below.refl _ _) (Nat.le_refl _) _
 have hgW:W.heap[g]? =some (.cells (L.flatMap cellC).toArray 57):=(HB0.block _ (aN hg)).trans hg;have HKk:Hid (∀u,Below W.heap.size W u->u.cell? ⟨w.heap.size,0,none⟩=some (.int .i64 tr)/\u.cell? ⟨w.heap.size,1,none⟩=some (.int .i64 tc)):=fun u hu=>by obtain⟨c0,c1,_⟩:=bZ ((hu.block _ (aN hX)).trans hX);exact⟨c0,c1⟩
 have HB1:Hid (Below W.heap.size W (W.drew.alloc (.cells #[newS g L.length] 27))):=Sh.aD (Below.refl _ _).drew (Nat.le_refl _) _;have HS:Hid (W.drew.cell? ⟨w.heap.size,0,none⟩=some (.int .i64 tr)/\W.drew.cell? ⟨w.heap.size,1,none⟩=some (.int .i64 tc)):=HKk.out _ (Below.refl _ _).drew;have C1:=qU (newS g L.length) _ _ _ rfl W.drew;have hcl:Cls g (g+1) (W.drew.alloc (.cells #[newS g L.length] 27)) (newS g L.length) L:=aGl ((HB1.out.block _ (aN hgW)).trans hgW) (bT hn);have C2:Calls Tryz.prog 116 #[.int .i64 tr,.int .i64 tc,pt W.drew.heap.size] (W.drew.alloc (.cells #[newS g L.length] 27)) fun e w'=>(∃(i:Nat) (b:Bool),e=.returned (.tuple #[.int .i64 (i:Nat),.bool b])/\Hid (BsR L ⟨tr,tc,tt⟩ i b))/\Hid (Below W.heap.size W w'):=(uS hcl (Nat.le_trans (aN hgW) HB1.out.size) hn (heap_alloc_new W.drew _) tr tc).mono (by
  rintro e w' ⟨⟨i,b,rfl,hb⟩,hbl⟩;exact⟨⟨i,b,rfl,hb⟩,Sh.aF HB1.out HB1.out.size hbl⟩)
 have aN8:Hid (∀u,Below W.heap.size W u->u.cell? ⟨w.heap.size,2,none⟩=some (.string tt)/\Hid ((Instr.loadAt 57 (pt w.heap.size)).run Tryz.prog u=.ok (cellV ⟨tr,tc,tt⟩) u)/\Hid (u.heap[g]? =some (.cells (L.flatMap cellC).toArray 57))/\Hid (Below w.heap.size w u)):=fun u hu=>by have hX2:=(hu.block _ (aN hX)).trans hX;exact⟨(bZ hX2).2.2,ldC hX2,(hu.block _ (aN hgW)).trans hgW,Sh.aF HB0 HB0.size hu⟩
 have HR:Hid (iB L):=hR;have hWd:W.drew=(w.alloc (ceO ⟨tr,tc,tt⟩)).drew:=by rw [hW]
 simp only [ceO,cellC] at hW;clear hg hgW hX HB0 hcl hR hWd;go_enter Tryz.func58,Tryz.ntmps58;go_wp2;rw [<-hW];clear hW;refine aP (fun u=>u.cell? ⟨w.heap.size,0,none⟩=some (.int .i64 tr)/\u.cell? ⟨w.heap.size,1,none⟩=some (.int .i64 tc)) (fun j=>false) (by kernel_rfl) ?_;refine dwp 0 ((newS g L.length)) ?_;refine dwp 2 ((pt w.heap.size)) ?_;refine dwl 3 ((.int .i64 tr)) ?_ (hS:=HS.out) (hy:=(fun u hSu=>aG rfl rfl (ld1 hSu.1 (Tryz.isAgg3 _))));refine dwp 4 ((.pointer (some ⟨w.heap.size,1,none⟩))) ?_;refine dwl 5 ((.int .i64 tc)) ?_ (hS:=HS.out) (hy:=(fun u hSu=>aG rfl rfl (ld1 hSu.2 (Tryz.isAgg3 _))));refine aJ (i:=1) (by kernel_rfl) rfl ?_;intro K' hK';go_simp;refine C1.mono ?_;clear C1;rintro e w1 ⟨rfl,hw1⟩;subst hw1;have HK1:=HKk.out _ HB1.out;refine hK' _ _ (.inr fun _=>HK1) ?_;clear hK';try simp only [Act.put,List.setIfInBounds_toArray,List.set_cons_zero,List.set_cons_succ]
 refine aJ (i:=6) (by kernel_rfl) rfl ?_;intro K' hK';go_simp;refine C2.mono ?_;clear C2;rintro e w2 ⟨⟨i,b,rfl,HW⟩,HD⟩;have HK2:=HKk.out _ HD.out;refine hK' _ _ (.inr fun _=>HK2) ?_;clear hK';try simp only [Act.put,List.setIfInBounds_toArray,List.set_cons_zero,List.set_cons_succ]
 refine dwp 7 ((.tuple #[.int .i64 (i:Int),.bool b])) ?_;refine dwp 8 ((.int .i64 (i:Int))) ?_;refine dwp 9 ((.bool b)) ?_;refine dwp 10 ((.int .i64 (i:Int))) ?_;refine dwp 11 ((.bool b)) ?_;refine aR (by kernel_rfl) ?_ _;obtain⟨ct,RL,HG2,HBw⟩:=aN8.out w2 HD.out;have HGR:Hid (w.grownBy w2 (some g)):=bD HBw.out;clear HKk HK1 HK2 HS HB1 aN8 HD;have hlen3:=cK bP L;cases b with
 | true=>
  obtain⟨hi,hput⟩:=aGf HR.out HW.out;have hii:(i:Int) < L.length:=by omega
  cases ht:tt.toList==[] with
  | true=>
   rw [show (aK.mk tr tc tt).text=tt from rfl,ht,if_pos rfl,List.nil_append] at hput;have C:=aGn HG2.out (by rw [List.size_toArray];exact hlen3) hi (by omega) (by rw [List.toList_toArray];exact oG kL L);obtain⟨m,hm⟩:∃m,m=i+1:=⟨_,rfl⟩
   rw [<-hm] at C;have e5:(i:Int)+1=(m:Int):=by omega
   have e6:IntKind.i64.wrap (m:Int)=(m:Int):=by rw [IntKind.wrap_i64];omega
   have HP:Hid (dU L ⟨tr,tc,tt⟩=L.take i++L.drop (i+1)):=hput;have HM:Hid (m=i+1):=hm;clear hput hm hlen3;go_wp2_with (go_at_call 95;refine C.mono ?_;clear C;rintro e w3 ⟨rfl,h1,h2,h3⟩;have H1:Hid _:=h1;have H3:Hid _:=h3;clear h1 h2 h3)
   go_ret;refine ⟨⟨_,rfl, ?_⟩,HGR.out.trans H3.out⟩;obtain⟨cur',k1,k2,k3⟩:=H1.out;rw [HM.out,List.toList_toArray,uT,uU,<-List.flatMap_append,<-HP.out] at k3;have hpl:(dU L ⟨tr,tc,tt⟩).length=L.length - 1:=by rw [HP.out,List.length_append,List.length_take,List.length_drop];omega
   rw [hpl];exact⟨by rw [cK bP,hpl],.inr ⟨g,L.length,cur',rfl,hb,k1,by omega,bT hn,k2,k3⟩⟩
  | false=>
   rw [show (aK.mk tr tc tt).text=tt from rfl,ht,if_neg (by decide),List.singleton_append] at hput;obtain⟨w3,RS,k1,_,k3⟩:=aLb HG2.out hlen3 hi ⟨tr,tc,tt⟩;have RSh:Hid _:=RS;have H1:Hid _:=k1;have H3:Hid _:=k3;have HP:Hid (dU L ⟨tr,tc,tt⟩=L.take i++⟨tr,tc,tt⟩:: L.drop (i+1)):=hput;clear hput hlen3 RS k1 k3;go_wp2_with (first|(refine aC rfl 57 _ rfl _ _ rfl RL.out ?_;clear RL)|(refine aB rfl 57 _ _ rfl _ _ _ rfl rfl RSh.out ?_;clear RSh))
   go_ret;refine ⟨⟨_,rfl, ?_⟩,HGR.out.trans H3.out⟩;have k1:=H1.out;have e:(L.flatMap cellC).take (i * 3)++cellC ⟨tr,tc,tt⟩++(L.flatMap cellC).drop ((i+1) * 3)=(dU L ⟨tr,tc,tt⟩).flatMap cellC:=by rw [HP.out,uT,uU,List.flatMap_append,List.flatMap_cons,List.append_assoc]
   rw [e] at k1;have hpl:(dU L ⟨tr,tc,tt⟩).length=L.length:=by rw [HP.out,List.length_append,List.length_cons,List.length_take,List.length_drop];omega
   rw [hpl];exact eO k1 (by rw [cK bP,hpl]) hb (bT hn)
 | false=>
  obtain⟨hi,hput⟩:=aIA HR.out HW.out;cases ht:tt.toList==[] with
  | true=>
   rw [show (aK.mk tr tc tt).text=tt from rfl,ht,if_pos rfl,List.nil_append,List.take_append_drop] at hput;have HP:Hid (dU L ⟨tr,tc,tt⟩=L):=hput;clear hput;go_wp2;go_ret;refine ⟨⟨_,rfl, ?_⟩,HGR.out⟩;rw [HP.out];exact eO HG2.out hlen3 hb (bT hn)
  | false=>
   rw [show (aK.mk tr tc tt).text=tt from rfl,ht,if_neg (by decide),List.singleton_append] at hput;have HP:Hid (dU L ⟨tr,tc,tt⟩=L.take i++⟨tr,tc,tt⟩:: L.drop i):=hput;have RB:Hid _:=aD4 w2 ⟨tr,tc,tt⟩;have hGa:(w2.alloc (ceO ⟨tr,tc,tt⟩)).heap[g]? =some (.cells (L.flatMap cellC).toArray 57):=(Below.heap_alloc w2 _ g (aN HG2.out)).trans HG2.out;have C:=aGp (base:=base) hGa hlen3 hb hn hi (heap_alloc_new w2 _) (bP _) (kL _) (oG kL L);have HGA:Hid (w2.grownBy (w2.alloc (ceO ⟨tr,tc,tt⟩)) (some g)):=bD (Sh.aD (Below.refl _ _) (Nat.le_refl _) _);clear hput hlen3 hGa;go_wp2_with (first|(refine aC rfl 57 _ rfl _ _ rfl RL.out ?_;clear RL)|(refine dN rfl 27 1 _ rfl _ _ _ (by go_simp) RB.out ?_;clear RB)|(go_at_call 96;refine C.mono ?_;clear C;rintro e w3 ⟨⟨v',rfl,h1⟩,h3⟩;have H1:Hid _:=h1;have H3:Hid _:=h3;clear h1 h3))
   go_ret;refine ⟨⟨_,rfl, ?_⟩,(HGR.out.trans HGA.out).trans H3.out⟩;have k1:=H1.out;have e:(L.flatMap cellC).take (i * 3)++cellC ⟨tr,tc,tt⟩++(L.flatMap cellC).drop (i * 3)=(dU L ⟨tr,tc,tt⟩).flatMap cellC:=by rw [HP.out,uT,uU,List.flatMap_append,List.flatMap_cons,List.append_assoc]
   rw [e] at k1;have hpl:(dU L ⟨tr,tc,tt⟩).length=L.length+1:=by rw [HP.out,List.length_append,List.length_cons,List.length_take,List.length_drop];omega
   rw [hpl];exact k1
end Go.Proofs.YtlhoklhjbpkgpaaGreatDoor.Sh
