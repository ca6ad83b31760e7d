/- SMem, SFun, SIdx, SGet, SOrd, VDraw, SBin, SPut. -/
import Derived.Deep.RegionHeld
import Derived.Deep.Slices
import Derived.OrdersHeld
import Derived.OwnWalk
import Derived.Test.YtlhoklhjbpkgpaaGreatDoorSPurePu
set_option linter.unusedVariables false
set_option linter.unusedSimpArgs false
set_option maxHeartbeats 16000000
set_option maxRecDepth 100000
namespace Go.Proofs.YtlhoklhjbpkgpaaGreatDoor.Sh
open Go.RowKit
abbrev dY:Value:=.string ⟨#[]⟩
abbrev iA:Value:=.int .i64 0
theorem jF (a:Addr) (n:Nat):(a.add n).block=a.block:=by unfold Addr.add;split <;> rfl
theorem bO {w w':World} {base:Nat} {e:TypeId} {size:Nat} {v:Value} {n:Nat} {xs:List Value} (h:w.ownsRow base e size v n xs)
  (hk:∀g,v.ownBlock=some g->w'.heap[g]? =w.heap[g]?):w'.ownsRow base e size v n xs:=by
 refine ⟨h.1, ?_⟩;rcases h.2 with hn | ⟨g,cap,cur,rfl,hb,hgg,rest⟩
 ·exact .inl hn
 ·exact .inr ⟨g,cap,cur,rfl,hb,by rw [hk g rfl];exact hgg,rest⟩
abbrev cellV (c:aK):Value:=.agg #[.int .i64 c.row,.int .i64 c.col,.string c.text]
abbrev jZ (x:eY):Value:=.agg #[.string x.scope,.string x.name,.string x.text]
abbrev aKW (v:sP):Value:=.agg #[.int .i64 v.kind,.int .i64 v.n,.string v.s]
abbrev kC (x:dW):Value:=.agg #[.string x.book,.string x.eP,.int .i64 x.row,.int .i64 x.col,.int .i64 x.value.kind,.int .i64 x.value.n,.string x.value.s]
def cellC (c:aK):List Value:=[.int .i64 c.row,.int .i64 c.col,.string c.text]
def Rws (lo hi sz:Nat) (w:World) (v:Value) (n:Nat) (C:Nat->List Value):Prop:=
 (v=.slice none 0 0/\n=0)\/∃a cap,v=.slice (some a) n cap/\n<=cap/\cap<=maxLen/\(0 < n->lo<=a.block/\a.block < hi)/\∀j i u,j < n->(C j)[i]? =some u->w.cell? (a.add (j * sz+i))=some u
theorem Rws.kept {lo hi sz:Nat} {w w':World} {v:Value} {n:Nat} {C:Nat->List Value} (h:Rws lo hi sz w v n C) (hk:∀i,lo<=i->i < hi->w'.heap[i]? =w.heap[i]?):Rws lo hi sz w' v n C:=by
 rcases h with h | ⟨a,cap,h1,h2,h3,h4,h5⟩
 ·exact .inl h
 ·refine .inr ⟨a,cap,h1,h2,h3,h4,fun j i u hj hu=> ?_⟩;rw [<-h5 j i u hj hu];obtain⟨q1,q2⟩:=h4 (by omega);exact World.cell?_of_block (hk _ (by rw [jF];exact q1) (by rw [jF];exact q2))
theorem Rws.mono {lo hi lo' hi' sz:Nat} {w:World} {v:Value} {n:Nat} {C:Nat->List Value} (h:Rws lo hi sz w v n C) (h1:lo'<=lo) (h2:hi<=hi'):Rws lo' hi' sz w v n C:=by
 rcases h with h | ⟨a,cap,g1,g2,g3,g4,g5⟩
 ·exact .inl h
 ·exact .inr ⟨a,cap,g1,g2,g3,fun hn=>by have:=g4 hn;omega,g5⟩
theorem Rws.slice {lo hi sz:Nat} {w:World} {v:Value} {n:Nat} {C:Nat->List Value} (h:Rws lo hi sz w v n C):∃a c,v=.slice a n c/\n<=c/\c<=maxLen:=by
 rcases h with ⟨rfl,rfl⟩ | ⟨a,cap,rfl,h1,h2,_⟩
 ·exact ⟨none,0,rfl,Nat.le_refl _,by decide⟩
 ·exact ⟨_,_,rfl,h1,h2⟩
theorem Rws.congr {lo hi sz:Nat} {w:World} {v:Value} {n:Nat} {C D:Nat->List Value} (h:Rws lo hi sz w v n C) (hc:∀j,j < n->D j=C j):Rws lo hi sz w v n D:=by
 rcases h with h | ⟨a,cap,g1,g2,g3,g4,g5⟩
 ·exact .inl h
 ·exact .inr ⟨a,cap,g1,g2,g3,g4,fun j i u hj hu=>g5 j i u hj (by rw [<-hc j hj];exact hu)⟩
def Cls (lo hi:Nat) (w:World) (v:Value) (L:List aK):Prop:=Rws lo hi 3 w v L.length fun j=>(L[j]?.map cellC).getD []
section
variable {lo hi:Nat} {w w':World} {v:Value}
theorem Cls.kept {L:List aK} (h:Cls lo hi w v L) (hk:∀i,lo<=i->i < hi->w'.heap[i]? =w.heap[i]?):Cls lo hi w' v L:=Rws.kept h hk
theorem Cls.mono {L:List aK} {lo' hi':Nat} (h:Cls lo hi w v L) (h1:lo'<=lo) (h2:hi<=hi'):Cls lo' hi' w v L:=Rws.mono h h1 h2
theorem Cls.below {base:Nat} {L:List aK} (h:Cls lo hi w v L) (hh:hi<=base) (hb:Below base w w'):Cls lo hi w' v L:=h.kept fun i _ hi=>hb.block i (by omega)
theorem Cls.slice {L:List aK} (h:Cls lo hi w v L):∃a c,v=.slice a L.length c/\L.length<=c/\c<=maxLen:=Rws.slice h
theorem Cls.nil (w:World) (lo hi:Nat):Cls lo hi w (.slice none 0 0) []:=.inl ⟨rfl,rfl⟩
end
theorem aKX (a:Addr) (m i:Nat) (hi:0 < i):(⟨(a.add m).block,(a.add m).off+i,none⟩:Addr)=a.add (m+i):=by
 unfold Addr.add;by_cases hm:m=0
 ·subst hm;simp;omega
 ·simp [hm];omega
theorem Rws.at {lo hi sz:Nat} {w:World} {a:Option Addr} {n c:Nat} {C:Nat->List Value} (h:Rws lo hi sz w (.slice a n c) n C) {k:Nat} (hk:k < n):
  ∃a',a=some a'/\(∀u,(C k)[0]? =some u->w.cell? (a'.add (k * sz))=some u)/\∀i u,0 < i->(C k)[i]? =some u->w.cell? ⟨(a'.add (k * sz)).block,(a'.add (k * sz)).off+i,none⟩=some u:=by
 rcases h with ⟨_,e2⟩ | ⟨a',cap,g1,g2,g3,g4,g5⟩
 ·omega
 ·cases g1
  refine ⟨a',rfl,fun u hu=>by simpa using g5 k 0 u hk hu,fun i u hi hu=> ?_⟩;rw [aKX _ _ _ hi];exact g5 k i u hk hu
theorem aNZ:(Tryz.prog.info? 57).map (fun i=>(i.zero,i.size,i.bytes))=some (some (.agg #[.int .i64 0,.int .i64 0,.string ⟨#[]⟩]),3,32):=by kernel_rfl
theorem fI {P:Program} (w:World) (x:Addr) (ty:TypeId) (cs:List Value) (d:TypeDesc) (hc:∀j v,cs[j]? =some v->w.cell? (x.add j)=some v)
  (hu:P.underlying ty=some d) (hd:d.isRow=true) (hi:(P.info? ty).map (·.size)=some cs.length):
  (Instr.loadAt ty (.pointer (some x))).run P w=.ok (.agg cs.toArray) w:=by
 have hl:(loadCells x cs.length).run P w=.ok cs.toArray w:=run_loadCells_list (P:=P) w x cs hc;cases hq:P.info? ty with
 | none=>simp [hq] at hi
 | some i=>
  have hs:i.size=cs.length:=by simpa [hq] using hi
  have hagg:(isAgg ty).run P w=.ok true w:=by unfold isAgg;rw [Sem.run_bind,run_underlying hu w];cases d <;> simp_all
  simp [Instr.loadAt,Instr.sureAddr,loadVar,Sem.run_bind,hagg,sizeOf,typeInfo,hq,hs,hl]
theorem aC {P:Program} {ops:Array Oper} {rest:List Oper} {o:Oper} {a:Act} {w:World} {Q:Exit->Act->World->Prop} (hgd:o.guard=none) (ty:TypeId) (x:Operand) (ho:o.op=.load ty x)
  (p v:Value) (hx:a.eval x=p) (hrun:(Instr.loadAt ty p).run P w=.ok v w) (h:wpList P ops Q rest (a.put o.dst v) w):wpList P ops Q (o:: rest) a w:=by
 refine wpList_plain hgd fun K hK=> ?_;unfold Oper.wp execOp;simp only [ho,hx,Sem.run_bind,Sem.run_pure,hrun,Result.andThen_ok];exact hK _ _ h
theorem aB {P:Program} {ops:Array Oper} {rest:List Oper} {o:Oper} {a:Act} {w:World} {Q:Exit->Act->World->Prop} (hgd:o.guard=none) (ty:TypeId) (x y:Operand) (ho:o.op=.store ty x y)
  (p v:Value) (w':World) (hx:a.eval x=p) (hy:a.eval y=v) (hrun:(Instr.storeAt ty p v).run P w=.ok () w') (h:wpList P ops Q rest (a.put o.dst undef) w'):wpList P ops Q (o:: rest) a w:=by
 refine wpList_plain hgd fun K hK=> ?_;unfold Oper.wp execOp;simp only [ho,hx,hy,Sem.run_bind,Sem.run_pure,hrun,Result.andThen_ok];exact hK _ _ h
theorem aIy {t:TypeId} {zv:Value} {sz bytes:Nat} {d:TypeDesc} (hu:Tryz.prog.underlying t=some d) (hd:d.isRow=true) (aCx:(Tryz.prog.info? t).map (fun i=>(i.zero,i.size,i.bytes))=some (some zv,sz,bytes)) (w:World) (zs es:Array Value) (hz:zs.size=sz) (he:es.size=sz) (h1:es.all (·.oneCell')=true):
  (Instr.storeAt t (pt w.heap.size) (.agg es)).run Tryz.prog (w.alloc (.cells zs t))=.ok () (w.alloc (.cells es t))/\
  (Instr.loadAt t (pt w.heap.size)).run Tryz.prog (w.alloc (.cells es t))=.ok (.agg es) (w.alloc (.cells es t)):=by
 have hi:(Tryz.prog.info? t).map (·.size)=some es.size:=by
  cases hq:Tryz.prog.info? t with
  | none=>simp [hq] at aCx
  | some i=>simp [hq] at aCx ⊢;omega
 refine ⟨run_storeAt_new w t zs es hi (by omega) h1, ?_⟩;have:=fI (P:=Tryz.prog) (w.alloc (.cells es t)) ⟨w.heap.size,0,none⟩ t es.toList d (fun j v hv=>by
  have hadd:(⟨w.heap.size,0,none⟩:Addr).add j=⟨w.heap.size,j,none⟩:=by unfold Addr.add;split <;> simp_all
  rw [hadd,cell_of_row _ _ j es t (0,0) (heap_alloc_new w _)];simpa using hv) hu hd (by simpa using hi)
 simpa using this
theorem Rws.load {lo hi sz:Nat} {w:World} {a:Option Addr} {n c:Nat} {C:Nat->List Value} (h:Rws lo hi sz w (.slice a n c) n C) {k:Nat} (hk:k < n) {t:TypeId} {d:TypeDesc} (hu:Tryz.prog.underlying t=some d) (hd:d.isRow=true) (hi:(Tryz.prog.info? t).map (·.size)=some (C k).length):
  ∃a',a=some a'/\(Instr.loadAt t (.pointer (some (a'.add (k * sz))))).run Tryz.prog w=.ok (.agg (C k).toArray) w:=by
 rcases h with ⟨_,e2⟩ | ⟨a',cap,g1,g2,g3,g4,g5⟩
 ·omega
 ·cases g1
  refine ⟨a',rfl,fI w _ t (C k) d (fun j v hv=> ?_) hu hd hi⟩;rw [Go.Deep.add_add];exact g5 k j v hk hv
def kQ (x:eY):List Value:=[.string x.scope,.string x.name,.string x.text]
def kR (x:dW):List Value:=[.string x.book,.string x.eP,.int .i64 x.row,.int .i64 x.col,.int .i64 x.value.kind,.int .i64 x.value.n,.string x.value.s]
def bN (s:aO) (cv:Value):List Value:=[.string s.name,cv]
abbrev aD1 (s:aO) (cv:Value):Value:=.agg #[.string s.name,cv]
def aMZ (L:List eY):Nat->List Value:=fun j=>(L[j]?.map kQ).getD []
def aM0 (L:List dW):Nat->List Value:=fun j=>(L[j]?.map kR).getD []
def iP (L:List aO) (cv:Nat->Value):Nat->List Value:=fun j=>(L[j]?.map fun o=>bN o (cv j)).getD []
def Nms (lo hi:Nat) (w:World) (v:Value) (L:List eY):Prop:=Rws lo hi 3 w v L.length (aMZ L)
def Lks (lo hi:Nat) (w:World) (v:Value) (L:List dW):Prop:=Rws lo hi 7 w v L.length (aM0 L)
def Shs (lo hi:Nat) (w:World) (v:Value) (L:List aO):Prop:=∃cv:Nat->Value,Rws lo hi 2 w v L.length (iP L cv)/\∀j o,L[j]? =some o->Cls lo hi w (cv j) o.cells
structure BkM (lo hi:Nat) (w:World) (sv nv lv:Value) (x:aU):Prop where
 sh:Shs lo hi w sv x.aA
 nm:Nms lo hi w nv x.names
 lk:Lks lo hi w lv x.links
section
variable {lo hi:Nat} {w w':World} {v:Value}
theorem Nms.kept {L:List eY} (h:Nms lo hi w v L) (hk:∀i,lo<=i->i < hi->w'.heap[i]? =w.heap[i]?):Nms lo hi w' v L:=Rws.kept h hk
theorem Lks.kept {L:List dW} (h:Lks lo hi w v L) (hk:∀i,lo<=i->i < hi->w'.heap[i]? =w.heap[i]?):Lks lo hi w' v L:=Rws.kept h hk
theorem Shs.kept {L:List aO} (h:Shs lo hi w v L) (hk:∀i,lo<=i->i < hi->w'.heap[i]? =w.heap[i]?):Shs lo hi w' v L:=by obtain⟨cv,h1,h2⟩:=h;exact⟨cv,h1.kept hk,fun j o hj=>(h2 j o hj).kept hk⟩
theorem Nms.mono {L:List eY} {lo' hi':Nat} (h:Nms lo hi w v L) (h1:lo'<=lo) (h2:hi<=hi'):Nms lo' hi' w v L:=Rws.mono h h1 h2
theorem Lks.mono {L:List dW} {lo' hi':Nat} (h:Lks lo hi w v L) (h1:lo'<=lo) (h2:hi<=hi'):Lks lo' hi' w v L:=Rws.mono h h1 h2
theorem Shs.mono {L:List aO} {lo' hi':Nat} (h:Shs lo hi w v L) (h1:lo'<=lo) (h2:hi<=hi'):Shs lo' hi' w v L:=by obtain⟨cv,g1,g2⟩:=h;exact⟨cv,g1.mono h1 h2,fun j o hj=>(g2 j o hj).mono h1 h2⟩
theorem Nms.below {base:Nat} {L:List eY} (h:Nms lo hi w v L) (hh:hi<=base) (hb:Below base w w'):Nms lo hi w' v L:=h.kept fun i _ hi=>hb.block i (by omega)
theorem Lks.below {base:Nat} {L:List dW} (h:Lks lo hi w v L) (hh:hi<=base) (hb:Below base w w'):Lks lo hi w' v L:=h.kept fun i _ hi=>hb.block i (by omega)
theorem Shs.below {base:Nat} {L:List aO} (h:Shs lo hi w v L) (hh:hi<=base) (hb:Below base w w'):Shs lo hi w' v L:=h.kept fun i _ hi=>hb.block i (by omega)
theorem Nms.slice {L:List eY} (h:Nms lo hi w v L):∃a c,v=.slice a L.length c/\L.length<=c/\c<=maxLen:=Rws.slice h
theorem Lks.slice {L:List dW} (h:Lks lo hi w v L):∃a c,v=.slice a L.length c/\L.length<=c/\c<=maxLen:=Rws.slice h
theorem Shs.slice {L:List aO} (h:Shs lo hi w v L):∃a c,v=.slice a L.length c/\L.length<=c/\c<=maxLen:=by obtain⟨_,h,_⟩:=h;exact h.slice
theorem BkM.below {base:Nat} {sv nv lv:Value} {x:aU} (h:BkM lo hi w sv nv lv x) (hh:hi<=base) (hb:Below base w w'):BkM lo hi w' sv nv lv x:=⟨h.sh.below hh hb,h.nm.below hh hb,h.lk.below hh hb⟩
theorem BkM.mono {sv nv lv:Value} {x:aU} {lo' hi':Nat} (h:BkM lo hi w sv nv lv x) (h1:lo'<=lo) (h2:hi<=hi'):BkM lo' hi' w sv nv lv x:=⟨h.sh.mono h1 h2,h.nm.mono h1 h2,h.lk.mono h1 h2⟩
end
theorem aN0:(Tryz.prog.info? 78).map (fun i=>(i.zero,i.size,i.bytes))=some (some (.agg #[dY,.slice none 0 0]),2,40):=by kernel_rfl
theorem aN1:(Tryz.prog.info? 89).map (fun i=>(i.zero,i.size,i.bytes))=some (some (.agg #[dY,dY,dY]),3,48):=by kernel_rfl
theorem aN2:(Tryz.prog.info? 91).map (fun i=>(i.zero,i.size,i.bytes))=some (some (.agg #[dY,dY,iA,iA,iA,iA,dY]),7,80):=by kernel_rfl
theorem Rws.runs {lo hi sz:Nat} {w:World} {a:Option Addr} {n c:Nat} {C:Nat->List Value} (h:Rws lo hi sz w (.slice a n c) n C) {k:Nat} (hk:k < n) {t:TypeId} {d:TypeDesc} (hu:Tryz.prog.underlying t=some d) (hd:d.isRow=true) {zv:Value} {bytes:Nat}
  (aCx:(Tryz.prog.info? t).map (fun i=>(i.zero,i.size,i.bytes))=some (some zv,sz,bytes)) {cs:List Value} (hC:C k=cs) (hl:cs.length=sz) (h1:cs.toArray.all (·.oneCell')=true) (zs:Array Value) (hz:zs.size=sz):
  ∃a' ov W,a=some a'/\ov=.agg cs.toArray/\W=w.alloc (.cells cs.toArray t)/\
   Hid ((Instr.loadAt t (.pointer (some (a'.add (k * sz))))).run Tryz.prog w=.ok ov w)/\
   Hid ((Instr.storeAt t (pt w.heap.size) ov).run Tryz.prog (w.alloc (.cells zs t))=.ok () W)/\
   Hid ((Instr.loadAt t (pt w.heap.size)).run Tryz.prog W=.ok ov W):=by
 have hi:(Tryz.prog.info? t).map (·.size)=some cs.length:=by
  cases hq:Tryz.prog.info? t with
  | none=>simp [hq] at aCx
  | some i=>simp [hq] at aCx ⊢;omega
 obtain⟨a',e1,e2⟩:=Rws.load h hk (t:=t) hu hd (by rw [hC];exact hi);rw [hC] at e2;obtain⟨b1,b2⟩:=aIy hu hd aCx w zs cs.toArray hz (by simpa using hl) h1;exact⟨a',_,_,e1,rfl,rfl,e2,b1,b2⟩
theorem getD_some {α:Type} {L:List α} {f:α->List Value} {k:Nat} (hk:k < L.length):(L[k]?.map f).getD []=f L[k]:=by simp [List.getElem?_eq_getElem hk]
theorem Nms.runs {lo hi:Nat} {w:World} {a:Option Addr} {c:Nat} {L:List eY} (h:Nms lo hi w (.slice a L.length c) L) {k:Nat} (hk:k < L.length):
  ∃a' ov W,a=some a'/\ov=jZ L[k]/\W=w.alloc (.cells (kQ L[k]).toArray 89)/\
   Hid ((Instr.loadAt 89 (.pointer (some (a'.add (k * 3))))).run Tryz.prog w=.ok ov w)/\
   Hid ((Instr.storeAt 89 (pt w.heap.size) ov).run Tryz.prog (w.alloc (.cells #[dY,dY,dY] 89))=.ok () W)/\
   Hid ((Instr.loadAt 89 (pt w.heap.size)).run Tryz.prog W=.ok ov W):=
 Rws.runs h hk Tryz.underlying89 rfl aN1 (getD_some hk) rfl (by simp [kQ,Value.oneCell']) _ rfl
theorem Lks.runs {lo hi:Nat} {w:World} {a:Option Addr} {c:Nat} {L:List dW} (h:Lks lo hi w (.slice a L.length c) L) {k:Nat} (hk:k < L.length):
  ∃a' ov W,a=some a'/\ov=kC L[k]/\W=w.alloc (.cells (kR L[k]).toArray 91)/\
   Hid ((Instr.loadAt 91 (.pointer (some (a'.add (k * 7))))).run Tryz.prog w=.ok ov w)/\
   Hid ((Instr.storeAt 91 (pt w.heap.size) ov).run Tryz.prog (w.alloc (.cells #[dY,dY,iA,iA,iA,iA,dY] 91))=.ok () W)/\
   Hid ((Instr.loadAt 91 (pt w.heap.size)).run Tryz.prog W=.ok ov W):=
 Rws.runs h hk Tryz.underlying91 rfl aN2 (getD_some hk) rfl (by simp [kR,Value.oneCell']) _ rfl
theorem Shs.runs {lo hi:Nat} {w:World} {a:Option Addr} {c:Nat} {L:List aO} (h:Shs lo hi w (.slice a L.length c) L) {k:Nat} (hk:k < L.length):
  ∃a' cv ov W,a=some a'/\ov=aD1 L[k] cv/\Cls lo hi w cv L[k].cells/\W=w.alloc (.cells (bN L[k] cv).toArray 78)/\
   Hid ((Instr.loadAt 78 (.pointer (some (a'.add (k * 2))))).run Tryz.prog w=.ok ov w)/\
   Hid ((Instr.storeAt 78 (pt w.heap.size) ov).run Tryz.prog (w.alloc (.cells #[dY,.slice none 0 0] 78))=.ok () W)/\
   Hid ((Instr.loadAt 78 (pt w.heap.size)).run Tryz.prog W=.ok ov W):=by
 obtain⟨cv,hr,hc⟩:=h;have hcs:=hc k _ (List.getElem?_eq_getElem hk);obtain⟨ca,cc,e1,_,_⟩:=hcs.slice;obtain⟨a',ov,W,q⟩:=Rws.runs hr hk Tryz.underlying78 rfl aN0 (getD_some (f:=fun o=>bN o (cv k)) hk) rfl (by rw [e1];simp [bN,Value.oneCell']) #[dY,.slice none 0 0] rfl;exact⟨a',cv k,ov,W,q.1,q.2.1,hcs,q.2.2⟩
theorem aH {w:World} {b j:Nat} {xs:Array Value} {t:TypeId} {z:Nat × Nat} {v:Value} (h:w.heap[b]? =some (.cells xs t z)) (hj:xs[j]? =some v):w.cell? ⟨b,j,none⟩=some v:=by rw [cell_of_row w b j xs t z h];exact hj
theorem Cls.runs {lo hi:Nat} {w:World} {a:Option Addr} {c:Nat} {L:List aK} (h:Cls lo hi w (.slice a L.length c) L) {k:Nat} (hk:k < L.length):
  ∃a' ov W,a=some a'/\ov=cellV L[k]/\W=w.alloc (.cells (cellC L[k]).toArray 57)/\
   Hid ((Instr.loadAt 57 (.pointer (some (a'.add (k * 3))))).run Tryz.prog w=.ok ov w)/\
   Hid ((Instr.storeAt 57 (pt w.heap.size) ov).run Tryz.prog (w.alloc (.cells #[iA,iA,dY] 57))=.ok () W)/\
   Hid ((Instr.loadAt 57 (pt w.heap.size)).run Tryz.prog W=.ok ov W):=
 Rws.runs h hk Tryz.underlying57 rfl aNZ (getD_some hk) rfl (by simp [cellC,Value.oneCell']) _ rfl
theorem aN {w:World} {g:Nat} {o:Obj} (h:w.heap[g]? =some o):g < w.heap.size:=(Array.getElem?_eq_some_iff.1 h).1
theorem aD {base:Nat} {w u:World} (h:Below base w u) (hb:base<=w.heap.size) (o:Obj):Below base w (u.alloc o):=h.alloc (Nat.le_trans hb h.size) o
theorem aF {base:Nat} {w u w':World} (h:Below base w u) (hb:base<=u.heap.size) (h2:Below u.heap.size u w'):Below base w w':=h.trans (h2.mono hb)
def dK:Option Nat->Int
 | some i=>i
 | none=> -1
def eZ (L:List aO) (s:ByteArray):Option Nat:=L.findIdx? fun t=>t.name.toList==s.toList
def fA (L:List aO) (s:ByteArray):List aK:=match eZ L s with
 | some i=>(L[i]?.map (·.cells)).getD []
 | none=> []
def atB (r c:Int) (d:aK):Bool:=d.row==r && d.col==c
def mG (L:List aK) (r c:Int):ByteArray:=match L.find? (atB r c) with
 | some d=>d.text
 | none=>⟨#[]⟩
def bK (L:List aO):Nat:=(L.map fun s=>s.cells.length).sum
theorem iQ {α:Type} {p:α->Bool} {L:List α} (h:∀j (hj:j < L.length),p L[j]=false):L.findIdx? p=none:=by rw [List.findIdx?_eq_none_iff];intro x hx;obtain⟨j,hj,rfl⟩:=List.mem_iff_getElem.1 hx;exact h j hj
theorem iR {α:Type} {p:α->Bool} {L:List α} {k:Nat} (hk:k < L.length) (h:∀j (hj:j < k),p (L[j]'(by omega))=false) (hp:p L[k]=true):L.findIdx? p=some k:=by rw [List.findIdx?_eq_some_iff_getElem];exact⟨hk,hp,fun j hj=>by simpa using h j hj⟩
theorem oF {L:List aO} {s:ByteArray} {i:Nat} (h:eZ L s=some i):i < L.length:=by unfold eZ at h;rw [List.findIdx?_eq_some_iff_getElem] at h;exact h.1
theorem aAv {α:Type} {p:α->Bool} {L:List α} (h:∀j (hj:j < L.length),p L[j]=false):L.find? p=none:=by rw [List.find?_eq_none];intro x hx;obtain⟨j,hj,rfl⟩:=List.mem_iff_getElem.1 hx;simpa using h j hj
theorem aAw {α:Type} {p:α->Bool} {L:List α} {k:Nat} (hk:k < L.length) (h:∀j (hj:j < k),p (L[j]'(by omega))=false) (hp:p L[k]=true):L.find? p=some L[k]:=by rw [List.find?_eq_some_iff_getElem];exact⟨hp,k,hk,rfl,fun j hj=>by simpa using h j hj⟩
def cpI (a b:Int):Int:=if a < b then -1 else if b < a then 1 else 0
def jU (a b:aK):Int:=if cpI a.row b.row ≠ 0 then cpI a.row b.row else cpI a.col b.col
def Lt (a b:aK):Prop:=a.row < b.row\/a.row=b.row/\a.col < b.col
theorem yG (a b:Int):(cpI a b= -1/\a < b)\/(cpI a b=0/\a=b)\/(cpI a b=1/\b < a):=by
 unfold cpI;split
 ·exact .inl ⟨rfl,by assumption⟩
 ·split
  ·exact .inr (.inr ⟨rfl,by assumption⟩)
  ·exact .inr (.inl ⟨rfl,by omega⟩)
theorem mH (a b:aK):(jU a b= -1/\Lt a b)\/(jU a b=0/\a.row=b.row/\a.col=b.col)\/(jU a b=1/\Lt b a):=by
 unfold jU Lt;rcases yG a.row b.row with ⟨h1,h2⟩ | ⟨h1,h2⟩ | ⟨h1,h2⟩
 ·rw [h1];exact .inl ⟨rfl,.inl h2⟩
 ·rw [h1];rcases yG a.col b.col with ⟨g1,g2⟩ | ⟨g1,g2⟩ | ⟨g1,g2⟩
  ·exact .inl ⟨by simpa using g1,.inr ⟨h2,g2⟩⟩
  ·exact .inr (.inl ⟨by simpa using g1,h2,g2⟩)
  ·exact .inr (.inr ⟨by simpa using g1,.inr ⟨h2.symm,g2⟩⟩)
 ·rw [h1];exact .inr (.inr ⟨rfl,.inl h2⟩)
theorem Lt.trans {a b c:aK} (h:Lt a b) (k:Lt b c):Lt a c:=by unfold Lt at *;omega
theorem Lt.irrefl {a b:aK} (h:Lt a b):¬Lt b a:=by unfold Lt at *;omega
theorem pE {a b:aK}:jU a b < 0↔Lt a b:=by
 rcases mH a b with ⟨h1,h2⟩ | ⟨h1,h2,h3⟩ | ⟨h1,h2⟩
 ·rw [h1];simp [h2]
 ·rw [h1];unfold Lt;omega
 ·rw [h1];have:=h2.irrefl;simp [this]
theorem aIz {a b:aK}:jU a b=0↔(a.row=b.row/\a.col=b.col):=by
 rcases mH a b with ⟨h1,h2⟩ | ⟨h1,h2,h3⟩ | ⟨h1,h2⟩
 ·rw [h1];unfold Lt at h2;omega
 ·rw [h1];simp [h2,h3]
 ·rw [h1];unfold Lt at h2;omega
def iB (L:List aK):Prop:=L.Pairwise Lt
def iZ (r c:Int):Bool:=decide (1<=r/\r<=64/\1<=c/\c<=26)
def stB (L:List aK) (i:Nat):Bool:=match L[i]? with
 | none=>true
 | some d=>iZ d.row d.col && (!(d.text.toList==[]) && (i==0 || match L[i - 1]? with
  | none=>true
  | some p=>decide (jU p d < 0)))
def laidB (L:List aK):Bool:=(List.range L.length).all (stB L)
theorem yH {L:List aK} (h:∀i,i < L.length->stB L i=true):laidB L=true:=by unfold laidB;rw [List.all_eq_true];intro i hi;exact h i (List.mem_range.1 hi)
theorem aFa {L:List aK} {i:Nat} (hi:i < L.length) (h:stB L i=false):laidB L=false:=by unfold laidB;rw [List.all_eq_false];exact⟨i,List.mem_range.2 hi,by simp [h]⟩
theorem aKY {L:List aK} (h:laidB L=true) {i:Nat} (hi:i < L.length):stB L i=true:=by unfold laidB at h;rw [List.all_eq_true] at h;exact h i (List.mem_range.2 hi)
theorem sQ {L:List aK}:laidB L=true↔(∀c ∈ L,iZ c.row c.col=true/\c.text.toList ≠ [])/\iB L:=by
 constructor
 ·intro h;have h1:∀i (hi:i < L.length),iZ L[i].row L[i].col=true/\L[i].text.toList ≠ []/\(i=0\/∃h:i - 1 < L.length,Lt L[i - 1] L[i]):=by
   intro i hi;have:=aKY h hi;unfold stB at this;rw [List.getElem?_eq_getElem hi] at this;simp only [Bool.and_eq_true,Bool.or_eq_true,Bool.not_eq_true',beq_eq_false_iff_ne] at this;refine ⟨this.1,this.2.1, ?_⟩;rcases this.2.2 with e | e
   ·exact .inl (by simpa using e)
   ·rw [List.getElem?_eq_getElem (by omega:i - 1 < L.length)] at e;exact .inr ⟨by omega,pE.1 (by simpa using e)⟩
  refine ⟨fun c hc=> ?_, ?_⟩
  ·obtain ⟨j,hj,rfl⟩:=List.mem_iff_getElem.1 hc;exact⟨(h1 j hj).1,(h1 j hj).2.1⟩
  ·have h2:∀(d i:Nat) (hi:i+d+1 < L.length),Lt (L[i]'(by omega)) L[i+d+1]:=by
    intro d;induction d with
    | zero=>
     intro i hi;rcases (h1 (i+0+1) hi).2.2 with e | ⟨_,e⟩
     ·omega
     ·simpa using e
    | succ d ih=>
     intro i hi;refine (ih i (by omega)).trans ?_;rcases (h1 (i+(d+1)+1) hi).2.2 with e | ⟨_,e⟩
     ·omega
     ·have e2:i+(d+1)+1 - 1=i+d+1:=by omega
      simp only [e2] at e;exact e
   unfold iB;rw [List.pairwise_iff_getElem];intro i j hi hj hij;have:=h2 (j - i - 1) i (by omega);have e2:i+(j - i - 1)+1=j:=by omega
   simp only [e2] at this;exact this
 ·rintro ⟨h1,h2⟩;refine yH fun i hi=> ?_;unfold stB;rw [List.getElem?_eq_getElem hi];obtain⟨q1,q2⟩:=h1 _ (List.getElem_mem hi);simp only [q1,Bool.true_and];have q3:(L[i].text.toList==[])=false:=by simpa using q2
  rw [q3];by_cases h0:i=0
  ·simp [h0]
  ·rw [List.getElem?_eq_getElem (by omega:i - 1 < L.length)];unfold iB at h2;rw [List.pairwise_iff_getElem] at h2;have:=pE.2 (h2 (i - 1) i (by omega) hi (by omega));simp [this]
theorem aM1 {w:World} {g:Nat} {s:ByteArray} (hg:w.heap[g]? =some (.cells #[.string s] 9)) (t:ByteArray) (p:Option Addr) (n c:Nat):
  CR 71 #[.agg #[.string t,.slice p n c],pt g] w (.bool (t.toList==s.toList)):=by
 have hlt:g < w.heap.size:=(Array.getElem?_eq_some_iff.1 hg).1;have c1:(w.alloc (.cells #[.string t,.slice p n c] 78)).cell? ⟨g,0,none⟩=some (.string s):=aH ((Below.heap_alloc w _ g hlt).trans hg) rfl;have c2:=aH (heap_alloc_new w (.cells #[.string t,.slice p n c] 78)) (j:=0) rfl;have HB:Hid (Below w.heap.size w (w.alloc (.cells #[.string t,.slice p n c] 78))):=(Below.refl _ _).alloc (Nat.le_refl _) _;clear hg;go_enter Tryz.func71,Tryz.ntmps71;go_wp2;go_ret;exact⟨rfl,HB.out⟩
theorem aKZ {lo hi:Nat} {w:World} {a:Option Addr} {c:Nat} {L:List aO} (h:Shs lo hi w (.slice a L.length c) L) (hhi:hi<=w.heap.size) (p:aO->Bool) (g:Nat)
  (HP:∀(k:Nat) (hk:k < L.length) (u:World) (q:Option Addr) (m d:Nat),Below w.heap.size w u->Cls lo hi u (.slice q m d) L[k].cells->CR 71 #[.agg #[.string L[k].name,.slice q m d],pt g] u (.bool (p L[k]))):
  CR 70 #[.slice a L.length c,.func (.func 71) #[] #[pt g]] w (.int .i64 (dK (L.findIdx? p))):=by
 obtain⟨_,_,he,hz1,hz2⟩:=h.slice;cases he
 have hlen:L.length<=9223372036854775807:=by unfold maxLen at hz2;omega
 have HS:Hid (Shs lo hi w (.slice a L.length c) L):=h;have HPh:Hid _:=HP;generalize hO:L.findIdx? p=o;have HO:Hid (L.findIdx? p=o):=hO;clear h HP hz1 hz2 hO;go_enter Tryz.func70,Tryz.ntmps70;go_wp2;go_loopw [8] (fun i wr=>∃(k:Nat),k<=L.length/\i=.int .i64 (k:Nat)/\Hid (∀j (hj:j < L.length),j < k->p L[j]=false)/\Hid (Below w.heap.size w wr)) (fun i _=>L.length - (intOf i).toNat)
 case atStart=>exact⟨0,Nat.zero_le _,rfl,fun j _ hj=>by omega,Below.refl _ _⟩
 case round=>
  obtain⟨k,hk,rfl,HA,HB⟩:=hrel;by_cases hkL:k < L.length
  ·have hki:(k:Int) < L.length:=by omega
   have HS2:=HS.out.below hhi HB.out;obtain⟨a',cv,ov,W,rfl,rfl,hcl,hW,R1, -, -⟩:=HS2.runs hkL;obtain⟨q,d,rfl,_,_⟩:=hcl.slice;have C:=HPh.out k hkL wr q _ d HB.out hcl;have iJ:k < 9223372036854775807:=by omega
   have HX:Hid (p L[k]=true->o=some k):=fun e=>HO.out.symm.trans <| iR hkL (fun j hj=>HA.out j (by omega) hj) e;have HY:Hid (p L[k]=false->∀j (hj:j < L.length),j < k+1->p L[j]=false):=fun e j hj hlt=>by
    by_cases hjk:j=k
    ·subst hjk;exact e
    ·exact HA.out j hj (by omega)
   clear hcl hW HS2;cases hp:p L[k] with
   | true=>
    obtain rfl:=HX.out hp;rw [hp] at C;clear HX HY hp;generalize L[k]=y at *;obtain⟨yn,yc⟩:=y;dsimp only at *;go_wp2_with (first|(refine aC rfl 78 _ rfl _ _ rfl R1.out ?_;clear R1)|(go_at_call 71;refine C.mono ?_;rintro e w1 ⟨rfl,hb1⟩;have HB1:Hid _:=aF HB.out HB.out.size hb1;clear hb1))
    go_ret;exact⟨rfl,HB1.out⟩
   | false=>
    have HY2:Hid _:=HY.out hp;rw [hp] at C;clear HX HY hp;generalize L[k]=y at *;obtain⟨yn,yc⟩:=y;dsimp only at *;go_wp2_with (first|(refine aC rfl 78 _ rfl _ _ rfl R1.out ?_;clear R1)|(go_at_call 71;refine C.mono ?_;rintro e w1 ⟨rfl,hb1⟩;have HB1:Hid _:=aF HB.out HB.out.size hb1;clear hb1))
    go_roundw
    case rel=>exact⟨k+1,by omega,by go_num,HY2,HB1⟩
    case measure=>simp [intOf];omega
  ·have hki:¬(k:Int) < L.length:=by omega
   obtain rfl:o=none:=HO.out.symm.trans <| iQ fun j hj=>HA.out j hj (by omega);go_wp2;go_ret;exact⟨rfl,HB.out⟩
theorem aK0 {lo hi:Nat} {w:World} {a:Option Addr} {c:Nat} {L:List aO} (h:Shs lo hi w (.slice a L.length c) L) (hhi:hi<=w.heap.size) (p:aO->Bool)
  (HP:∀(k:Nat) (hk:k < L.length) (u:World) (q:Option Addr) (m d:Nat),Below w.heap.size w u->Cls lo hi u (.slice q m d) L[k].cells->CR 52 #[.agg #[.string L[k].name,.slice q m d]] u (.bool (p L[k]))):
  CR 70 #[.slice a L.length c,.func (.func 52) #[] #[]] w (.int .i64 (dK (L.findIdx? p))):=by
 obtain⟨_,_,he,hz1,hz2⟩:=h.slice;cases he
 have hlen:L.length<=9223372036854775807:=by unfold maxLen at hz2;omega
 have HS:Hid (Shs lo hi w (.slice a L.length c) L):=h;have HPh:Hid _:=HP;generalize hO:L.findIdx? p=o;have HO:Hid (L.findIdx? p=o):=hO;clear h HP hz1 hz2 hO;go_enter Tryz.func70,Tryz.ntmps70;go_wp2;go_loopw [8] (fun i wr=>∃(k:Nat),k<=L.length/\i=.int .i64 (k:Nat)/\Hid (∀j (hj:j < L.length),j < k->p L[j]=false)/\Hid (Below w.heap.size w wr)) (fun i _=>L.length - (intOf i).toNat)
 case atStart=>exact⟨0,Nat.zero_le _,rfl,fun j _ hj=>by omega,Below.refl _ _⟩
 case round=>
  obtain⟨k,hk,rfl,HA,HB⟩:=hrel;by_cases hkL:k < L.length
  ·have hki:(k:Int) < L.length:=by omega
   have HS2:=HS.out.below hhi HB.out;obtain⟨a',cv,ov,W,rfl,rfl,hcl,hW,R1, -, -⟩:=HS2.runs hkL;obtain⟨q,d,rfl,_,_⟩:=hcl.slice;have C:=HPh.out k hkL wr q _ d HB.out hcl;have iJ:k < 9223372036854775807:=by omega
   have HX:Hid (p L[k]=true->o=some k):=fun e=>HO.out.symm.trans <| iR hkL (fun j hj=>HA.out j (by omega) hj) e;have HY:Hid (p L[k]=false->∀j (hj:j < L.length),j < k+1->p L[j]=false):=fun e j hj hlt=>by
    by_cases hjk:j=k
    ·subst hjk;exact e
    ·exact HA.out j hj (by omega)
   clear hcl hW HS2;cases hp:p L[k] with
   | true=>
    obtain rfl:=HX.out hp;rw [hp] at C;clear HX HY hp;generalize L[k]=y at *;obtain⟨yn,yc⟩:=y;dsimp only at *;go_wp2_with (first|(refine aC rfl 78 _ rfl _ _ rfl R1.out ?_;clear R1)|(go_at_call 52;refine C.mono ?_;rintro e w1 ⟨rfl,hb1⟩;have HB1:Hid _:=aF HB.out HB.out.size hb1;clear hb1))
    go_ret;exact⟨rfl,HB1.out⟩
   | false=>
    have HY2:Hid _:=HY.out hp;rw [hp] at C;clear HX HY hp;generalize L[k]=y at *;obtain⟨yn,yc⟩:=y;dsimp only at *;go_wp2_with (first|(refine aC rfl 78 _ rfl _ _ rfl R1.out ?_;clear R1)|(go_at_call 52;refine C.mono ?_;rintro e w1 ⟨rfl,hb1⟩;have HB1:Hid _:=aF HB.out HB.out.size hb1;clear hb1))
    go_roundw
    case rel=>exact⟨k+1,by omega,by go_num,HY2,HB1⟩
    case measure=>simp [intOf];omega
  ·have hki:¬(k:Int) < L.length:=by omega
   obtain rfl:o=none:=HO.out.symm.trans <| iQ fun j hj=>HA.out j hj (by omega);go_wp2;go_ret;exact⟨rfl,HB.out⟩
theorem aK1 {lo hi:Nat} {w:World} {a:Option Addr} {c:Nat} {L:List aO} (h:Shs lo hi w (.slice a L.length c) L) (hhi:hi<=w.heap.size) (p:aO->Bool)
  (HP:∀(k:Nat) (hk:k < L.length) (u:World) (q:Option Addr) (m d:Nat),Below w.heap.size w u->Cls lo hi u (.slice q m d) L[k].cells->CR 54 #[.agg #[.string L[k].name,.slice q m d]] u (.bool (p L[k]))):
  CR 70 #[.slice a L.length c,.func (.func 54) #[] #[]] w (.int .i64 (dK (L.findIdx? p))):=by
 obtain⟨_,_,he,hz1,hz2⟩:=h.slice;cases he
 have hlen:L.length<=9223372036854775807:=by unfold maxLen at hz2;omega
 have HS:Hid (Shs lo hi w (.slice a L.length c) L):=h;have HPh:Hid _:=HP;generalize hO:L.findIdx? p=o;have HO:Hid (L.findIdx? p=o):=hO;clear h HP hz1 hz2 hO;go_enter Tryz.func70,Tryz.ntmps70;go_wp2;go_loopw [8] (fun i wr=>∃(k:Nat),k<=L.length/\i=.int .i64 (k:Nat)/\Hid (∀j (hj:j < L.length),j < k->p L[j]=false)/\Hid (Below w.heap.size w wr)) (fun i _=>L.length - (intOf i).toNat)
 case atStart=>exact⟨0,Nat.zero_le _,rfl,fun j _ hj=>by omega,Below.refl _ _⟩
 case round=>
  obtain⟨k,hk,rfl,HA,HB⟩:=hrel;by_cases hkL:k < L.length
  ·have hki:(k:Int) < L.length:=by omega
   have HS2:=HS.out.below hhi HB.out;obtain⟨a',cv,ov,W,rfl,rfl,hcl,hW,R1, -, -⟩:=HS2.runs hkL;obtain⟨q,d,rfl,_,_⟩:=hcl.slice;have C:=HPh.out k hkL wr q _ d HB.out hcl;have iJ:k < 9223372036854775807:=by omega
   have HX:Hid (p L[k]=true->o=some k):=fun e=>HO.out.symm.trans <| iR hkL (fun j hj=>HA.out j (by omega) hj) e;have HY:Hid (p L[k]=false->∀j (hj:j < L.length),j < k+1->p L[j]=false):=fun e j hj hlt=>by
    by_cases hjk:j=k
    ·subst hjk;exact e
    ·exact HA.out j hj (by omega)
   clear hcl hW HS2;cases hp:p L[k] with
   | true=>
    obtain rfl:=HX.out hp;rw [hp] at C;clear HX HY hp;generalize L[k]=y at *;obtain⟨yn,yc⟩:=y;dsimp only at *;go_wp2_with (first|(refine aC rfl 78 _ rfl _ _ rfl R1.out ?_;clear R1)|(go_at_call 54;refine C.mono ?_;rintro e w1 ⟨rfl,hb1⟩;have HB1:Hid _:=aF HB.out HB.out.size hb1;clear hb1))
    go_ret;exact⟨rfl,HB1.out⟩
   | false=>
    have HY2:Hid _:=HY.out hp;rw [hp] at C;clear HX HY hp;generalize L[k]=y at *;obtain⟨yn,yc⟩:=y;dsimp only at *;go_wp2_with (first|(refine aC rfl 78 _ rfl _ _ rfl R1.out ?_;clear R1)|(go_at_call 54;refine C.mono ?_;rintro e w1 ⟨rfl,hb1⟩;have HB1:Hid _:=aF HB.out HB.out.size hb1;clear hb1))
    go_roundw
    case rel=>exact⟨k+1,by omega,by go_num,HY2,HB1⟩
    case measure=>simp [intOf];omega
  ·have hki:¬(k:Int) < L.length:=by omega
   obtain rfl:o=none:=HO.out.symm.trans <| iQ fun j hj=>HA.out j hj (by omega);go_wp2;go_ret;exact⟨rfl,HB.out⟩
abbrev bkO (sv nv lv:Value):Obj:=.cells #[sv,nv,lv] 26
theorem ldB {w:World} {g:Nat} {sv nv lv:Value} {z:Nat × Nat} (h:w.heap[g]? =some (.cells #[sv,nv,lv] 26 z)):(Instr.loadAt 26 (pt g)).run Tryz.prog w=.ok (.agg #[sv,nv,lv]) w:=by
 have hi:(Tryz.prog.info? 26).map (·.size)=some (#[sv,nv,lv]:Array Value).size:=by kernel_rfl
 simp only [Instr.loadAt,Instr.sureAddr,Sem.run_bind,Sem.run_pure,Result.andThen_ok,run_loadVar_row w g 26 26 _ z _ h Tryz.underlying26 rfl hi]
theorem bZ {u:World} {g:Nat} {y:aK} {z:Nat × Nat} (h:u.heap[g]? =some (.cells (cellC y).toArray 57 z)):u.cell? ⟨g,0,none⟩=some (.int .i64 y.row)/\u.cell? ⟨g,1,none⟩=some (.int .i64 y.col)/\u.cell? ⟨g,2,none⟩=some (.string y.text):=
 ⟨aH h rfl,aH h rfl,aH h rfl⟩
theorem mI {lo hi:Nat} {w:World} {sv nv lv:Value} {x:aU} (h:BkM lo hi w sv nv lv x) (hhi:hi<=w.heap.size) (s:ByteArray):
  CR 20 #[.agg #[sv,nv,lv],.string s] w (.int .i64 (dK (eZ x.aA s))):=by
 obtain⟨sa,sc,rfl,_,_⟩:=h.sh.slice;obtain⟨na,nc,rfl,_,_⟩:=h.nm.slice;obtain⟨la,lc,rfl,_,_⟩:=h.lk.slice;obtain⟨W,hW⟩:∃W,W=(w.alloc (bkO (.slice sa x.aA.length sc) (.slice na x.names.length nc) (.slice la x.links.length lc))).alloc (.cells #[.string s] 9):=⟨_,rfl⟩
 have HB:Below w.heap.size w W:=by rw [hW];exact aD (aD (Below.refl _ _) (Nat.le_refl _) _) (Nat.le_refl _) _
 have hz:hi<=W.heap.size:=Nat.le_trans hhi HB.size;have HG:W.heap[w.heap.size+1]? =some (.cells #[.string s] 9):=by rw [hW];simpa using heap_alloc_new (w.alloc (bkO (.slice sa x.aA.length sc) (.slice na x.names.length nc) (.slice la x.links.length lc))) (.cells #[.string s] 9)
 have C:=aKZ (h.sh.below hhi HB) hz (fun t=>t.name.toList==s.toList) (w.heap.size+1) (fun k hk u q m d hu hc=>aM1 (by rw [hu.block _ (aN HG)];exact HG) _ q m d);rw [hW] at C;have HBh:Hid (Below w.heap.size w W):=HB;have HW:Hid (W=_):=hW;have HE:Hid (eZ x.aA s=x.aA.findIdx? fun t=>t.name.toList==s.toList):=rfl;rw [HE.out];generalize (x.aA.findIdx? fun t=>t.name.toList==s.toList)=o at *;clear h HB HG hW hz HE;go_enter Tryz.func20,Tryz.ntmps20;go_wp2_with (go_at_call 70;refine C.mono ?_;rintro e w1 ⟨rfl,hb⟩;rw [<-HW.out] at hb;have HB2:Hid _:=aF HBh.out HBh.out.size hb;clear hb)
 go_ret;exact⟨rfl,HB2.out⟩
theorem vU {lo hi:Nat} {w:World} {sv nv lv:Value} {x:aU} (h:BkM lo hi w sv nv lv x) (hhi:hi<=w.heap.size) (s:ByteArray):
  Calls Tryz.prog 72 #[.agg #[sv,nv,lv],.string s] w fun e w'=>(∃v,e=.returned v/\Cls lo hi w' v (fA x.aA s))/\Below w.heap.size w w':=by
 have h0:=h;obtain⟨sa,sc,rfl,hs1,hs2⟩:=h.sh.slice;obtain⟨na,nc,rfl,_,_⟩:=h.nm.slice;obtain⟨la,lc,rfl,_,_⟩:=h.lk.slice;obtain⟨W,hW⟩:∃W,W=w.alloc (bkO (.slice sa x.aA.length sc) (.slice na x.names.length nc) (.slice la x.links.length lc)):=⟨_,rfl⟩
 have HB:Below w.heap.size w W:=by rw [hW];exact aD (Below.refl _ _) (Nat.le_refl _) _
 have HG:W.heap[w.heap.size]? =some (bkO (.slice sa x.aA.length sc) (.slice na x.names.length nc) (.slice la x.links.length lc)):=by rw [hW];exact heap_alloc_new w _
 have R1:Hid _:=ldB HG;have C0:=mI (h.below hhi HB) (Nat.le_trans hhi HB.size) s;have hlen:x.aA.length<=9223372036854775807:=by unfold maxLen at hs2;omega
 unfold fA;cases hO:eZ x.aA s with
 | none=>
  rw [hO] at C0;have C:Calls Tryz.prog 20 _ _ fun e w'=>e=.returned (.int .i64 (-1))/\Hid (Below w.heap.size w w'):=
   C0.mono (by
    rintro e w' ⟨rfl,hb⟩;exact⟨rfl,aF HB HB.size hb⟩)
  rw [hW] at C R1;clear h h0 HB HG hW hs1 hs2 C0;dsimp only;go_enter Tryz.func72,Tryz.ntmps72;go_wp2_with (first|(refine aC rfl 26 _ rfl _ _ rfl R1.out ?_;clear R1)|(go_at_call 20;refine C.mono ?_;clear C;rintro e w1 ⟨rfl,HB⟩))
  go_ret;exact⟨⟨_,rfl,Cls.nil _ _ _⟩,HB.out⟩
 | some i=>
  rw [hO] at C0;have hil:=oF hO;have C:Calls Tryz.prog 20 _ _ fun e w'=>e=.returned (.int .i64 (i:Nat))/\∃a' q d,sa=some a'/\w'.cell? ⟨w.heap.size,0,none⟩=some (.slice sa x.aA.length sc)/\w'.cell? ⟨(a'.add (i * 2)).block,(a'.add (i * 2)).off+1,none⟩=some (.slice q x.aA[i].cells.length d)/\Hid (Cls lo hi w' (.slice q x.aA[i].cells.length d) x.aA[i].cells)/\Hid (Below w.heap.size w w'):=
   C0.mono (by
    rintro e w' ⟨rfl,hb⟩;have hb2:=aF HB HB.size hb;obtain⟨cv,hr,hc⟩:=h.sh.below hhi hb2;have hcs:=hc i _ (List.getElem?_eq_getElem hil);obtain⟨a',rfl,h1,h2⟩:=Rws.at hr hil;obtain⟨q,d,hcv,_,_⟩:=hcs.slice;exact⟨rfl,a',q,d,rfl,aH ((hb.block _ (aN HG)).trans HG) rfl,h2 1 _ (by omega) (by simp [iP,List.getElem?_eq_getElem hil,bN,hcv]),by rw [<-hcv];exact hcs,hb2⟩)
  rw [hW] at C R1;have hni:¬(i:Int) < 0:=by omega
  have hii:(i:Int) < x.aA.length:=by omega
  have HE:Hid ((x.aA[i]?.map (·.cells)).getD []=x.aA[i].cells):=by show _=_;simp [List.getElem?_eq_getElem hil]
  dsimp only;rw [HE.out];clear h h0 HB HG hW hs1 hs2 C0 HE;generalize x.aA[i].cells=cl at *;go_enter Tryz.func72,Tryz.ntmps72;go_wp2_with (first|(refine aC rfl 26 _ rfl _ _ rfl R1.out ?_;clear R1)|(go_at_call 20;refine C.mono ?_;clear C;rintro e w1 ⟨rfl,a',q,d,rfl,c0,c1,HC,HB⟩))
  go_ret;exact⟨⟨_,rfl,HC.out⟩,HB.out⟩
theorem aFb {lo hi:Nat} {w:World} {sv nv lv:Value} {x:aU} (h:BkM lo hi w sv nv lv x) (hhi:hi<=w.heap.size) (s:ByteArray) (r c:Int):
  CR 22 #[.agg #[sv,nv,lv],.string s,.int .i64 r,.int .i64 c] w (.string (mG (fA x.aA s) r c)):=by
 have h0:=h;obtain⟨sa,sc,rfl,hs1,hs2⟩:=h.sh.slice;obtain⟨na,nc,rfl,_,_⟩:=h.nm.slice;obtain⟨la,lc,rfl,_,_⟩:=h.lk.slice;obtain⟨W,hW⟩:∃W,W=w.alloc (bkO (.slice sa x.aA.length sc) (.slice na x.names.length nc) (.slice la x.links.length lc)):=⟨_,rfl⟩
 have HB:Below w.heap.size w W:=by rw [hW];exact aD (Below.refl _ _) (Nat.le_refl _) _
 have HG:W.heap[w.heap.size]? =some (bkO (.slice sa x.aA.length sc) (.slice na x.names.length nc) (.slice la x.links.length lc)):=by rw [hW];exact heap_alloc_new w _
 have R1:Hid _:=ldB HG;generalize hL:fA x.aA s=L;have C:Calls Tryz.prog 72 _ _ fun e w'=>∃q d,e=.returned (.slice q L.length d)/\L.length<=9223372036854775807/\Hid (Cls lo hi w' (.slice q L.length d) L)/\Hid (Below w.heap.size w w'):=
  (vU (h.below hhi HB) (Nat.le_trans hhi HB.size) s).mono (by
   rintro e w' ⟨⟨v,rfl,hc⟩,hb⟩;rw [hL] at hc;obtain⟨q,d,rfl,h1,h2⟩:=hc.slice;exact⟨q,d,rfl,by unfold maxLen at h2;omega,hc,aF HB HB.size hb⟩)
 rw [hW] at C R1;generalize hG:mG L r c=gt;have HO:Hid (mG L r c=gt):=hG;clear h h0 HB HG hW hs1 hs2 hL hG;go_enter Tryz.func22,Tryz.ntmps22;go_wp2_with (first|(refine aC rfl 26 _ rfl _ _ rfl R1.out ?_;clear R1)|(go_at_call 72;refine C.mono ?_;clear C;rintro e w1 ⟨q,d,rfl,hlen,HC,HB⟩))
 go_loopw [15] (fun i wr=>∃(k:Nat),k<=L.length/\i=.int .i64 (k:Nat)/\Hid (∀j (hj:j < L.length),j < k->atB r c L[j]=false)/\Hid (Below w1.heap.size w1 wr)) (fun i _=>L.length - (intOf i).toNat)
 case atStart=>exact⟨0,Nat.zero_le _,rfl,fun j _ hj=>by omega,Below.refl _ _⟩
 case round=>
  obtain⟨k,hk,rfl,HA,HD⟩:=hrel;have hhi1:hi<=w1.heap.size:=Nat.le_trans hhi HB.out.size;by_cases hkL:k < L.length
  ·have hki:(k:Int) < L.length:=by omega
   obtain⟨a',ov,W',rfl,rfl,hW',R2,R3, -⟩:=(HC.out.below hhi1 HD.out).runs hkL;obtain⟨c0,c1,c2⟩:=bZ (show W'.heap[wr.heap.size]? =some (.cells (cellC L[k]).toArray 57) by rw [hW'];exact heap_alloc_new wr _);have HD2:Hid (Below w1.heap.size w1 W'):=by rw [hW'];exact aD HD.out (Nat.le_refl _) _
   have iJ:k < 9223372036854775807:=by omega
   have HX:Hid (atB r c L[k]=true->gt=L[k].text):=fun e=>by rw [<-HO.out];unfold mG;rw [aAw hkL (fun j hj=>HA.out j (by omega) hj) e]
   have HY:Hid (atB r c L[k]=false->∀j (hj:j < L.length),j < k+1->atB r c L[j]=false):=fun e j hj hlt=>by
    by_cases hjk:j=k
    ·subst hjk;exact e
    ·exact HA.out j hj (by omega)
   clear hW';have hat:atB r c L[k]=(L[k].row==r && L[k].col==c):=rfl;generalize L[k]=y at *;obtain⟨yr,yc,yt⟩:=y;dsimp only at *;by_cases e1:yr=r
   ·by_cases e2:yc=c
    ·obtain rfl:=HX.out (by rw [hat];simp [e1,e2]);subst e1 e2;clear HX HY hat HO;go_wp2_with (first|(refine aC rfl 57 _ rfl _ _ rfl R2.out ?_;clear R2)|(refine aB rfl 57 _ _ rfl _ _ _ rfl rfl R3.out ?_;clear R3))
     go_ret;exact⟨rfl,HB.out.trans (HD2.out.mono HB.out.size)⟩
    ·have HY2:Hid _:=HY.out (by rw [hat];simp [e2]);subst e1;clear HX HY hat HO;go_wp2_with (first|(refine aC rfl 57 _ rfl _ _ rfl R2.out ?_;clear R2)|(refine aB rfl 57 _ _ rfl _ _ _ rfl rfl R3.out ?_;clear R3))
     go_roundw
     case rel=>exact⟨k+1,by omega,by go_num,HY2,HD2⟩
     case measure=>simp [intOf];omega
   ·have HY2:Hid _:=HY.out (by rw [hat];simp [e1]);clear HX HY hat HO;go_wp2_with (first|(refine aC rfl 57 _ rfl _ _ rfl R2.out ?_;clear R2)|(refine aB rfl 57 _ _ rfl _ _ _ rfl rfl R3.out ?_;clear R3))
    go_roundw
    case rel=>exact⟨k+1,by omega,by go_num,HY2,HD2⟩
    case measure=>simp [intOf];omega
  ·have hki:¬(k:Int) < L.length:=by omega
   obtain rfl:gt=⟨#[]⟩:=by rw [<-HO.out];unfold mG;rw [aAv fun j hj=>HA.out j hj (by omega)]
   go_wp2;go_ret;exact⟨rfl,HB.out.trans (HD.out.mono HB.out.size)⟩
theorem yI {L:List aO} {k:Nat} (hk:k < L.length):bK (L.take (k+1))=bK (L.take k)+L[k].cells.length:=by unfold bK;rw [List.take_succ_eq_append_getElem hk,List.map_append,List.sum_append];simp
theorem aD2 {L:List aO} (k:Nat):bK (L.take k)<=bK L:=by
 unfold bK
 conv=>rhs;rw [<-List.take_append_drop k L,List.map_append,List.sum_append]
 omega
theorem lZ {lo hi:Nat} {w:World} {sv nv lv:Value} {x:aU} (h:BkM lo hi w sv nv lv x) (hhi:hi<=w.heap.size) (hz:bK x.aA<=4611686018427387904):
  CR 24 #[.agg #[sv,nv,lv]] w (.int .i64 (bK x.aA:Nat)):=by
 obtain⟨sa,sc,rfl,hs1,hs2⟩:=h.sh.slice;obtain⟨na,nc,rfl,_,_⟩:=h.nm.slice;obtain⟨la,lc,rfl,_,_⟩:=h.lk.slice;have HB:Hid (Below w.heap.size w (w.alloc (bkO (.slice sa x.aA.length sc) (.slice na x.names.length nc) (.slice la x.links.length lc)))):=aD (Below.refl _ _) (Nat.le_refl _) _;have c0:=aH (heap_alloc_new w (bkO (.slice sa x.aA.length sc) (.slice na x.names.length nc) (.slice la x.links.length lc))) (j:=0) rfl;have HS:Hid (Shs lo hi w (.slice sa x.aA.length sc) x.aA):=h.sh;have hlen:x.aA.length<=9223372036854775807:=by unfold maxLen at hs2;omega
 generalize hT:bK x.aA=tot at *;have HT:Hid (bK x.aA=tot):=hT;clear h hs1 hs2 hT;go_enter Tryz.func24,Tryz.ntmps24;go_wp2;go_loopw [3,9] (fun m i wr=>∃(k q:Nat),k<=x.aA.length/\i=.int .i64 (k:Nat)/\m=.int .i64 (q:Nat)/\q=bK (x.aA.take k)/\Hid (Below w.heap.size w wr)) (fun _ i _=>x.aA.length - (intOf i).toNat)
 case atStart=>exact⟨0,0,Nat.zero_le _,rfl,rfl,rfl,HB⟩
 case round=>
  obtain⟨k,q,hk,rfl,rfl,hq,HD⟩:=hrel;clear HB;by_cases hkL:k < x.aA.length
  ·have hki:(k:Int) < x.aA.length:=by omega
   obtain⟨a',cv,ov,W,rfl,rfl,hcl,hW,R1,R2, -⟩:=(HS.out.below hhi HD.out).runs hkL;obtain⟨ca,cc,rfl,_,_⟩:=hcl.slice;have c1:=aH (show W.heap[wr.heap.size]? =some (.cells #[.string x.aA[k].name,.slice ca x.aA[k].cells.length cc] 78) by rw [hW];exact heap_alloc_new wr _) (j:=1) rfl;have HD2:Hid (Below w.heap.size w W):=by rw [hW];exact aD HD.out (Nat.le_refl _) _
   have iJ:k < 9223372036854775807:=by omega
   have hs:=yI hkL;have hle:=aD2 (L:=x.aA) (k+1);rw [HT.out] at hle;clear hcl hW;generalize x.aA[k]=y at *;obtain⟨yn,yc⟩:=y;dsimp only at *;have hw:(q:Int)+(yc.length:Nat)=((q+yc.length:Nat):Int):=by omega
   have hm:IntKind.i64.wrap ((q+yc.length:Nat):Int)=((q+yc.length:Nat):Int):=by rw [IntKind.wrap_i64];omega
   generalize hqq:q+yc.length=q2 at *;go_wp2_with (first|(refine aC rfl 78 _ rfl _ _ rfl R1.out ?_;clear R1)|(refine aB rfl 78 _ _ rfl _ _ _ rfl rfl R2.out ?_;clear R2))
   go_roundw
   case rel=>exact⟨k+1,q2,by omega,by go_num,by go_num,by omega,HD2⟩
   case measure=>simp [intOf];omega
  ·have hki:¬(k:Int) < x.aA.length:=by omega
   obtain rfl:q=tot:=by rw [hq,List.take_of_length_le (by omega)];exact HT.out
   go_wp2;go_ret;exact⟨rfl,HD.out⟩
theorem yJ (x:Int) (w:World):CW 209 #[.int .i64 x] w (.bool false):=by go_enter Tryz.func209,Tryz.ntmps209;go_wp2;go_ret;exact⟨by simp,rfl⟩
theorem aFc (x y:Int) (w:World):CW 162 #[.int .i64 x,.int .i64 y] w (.int .i64 (cpI x y)):=by
 rcases yG x y with ⟨h1,h2⟩ | ⟨h1,h2⟩ | ⟨h1,h2⟩
 ·rw [h1];go_enter Tryz.func162,Tryz.ntmps162;go_wp2_with (go_at_call 209;refine mw (yJ _ _) ?_)
  go_ret;exact⟨rfl,rfl⟩
 ·rw [h1];subst h2;go_enter Tryz.func162,Tryz.ntmps162;go_wp2_with (go_at_call 209;refine mw (yJ _ _) ?_)
  go_ret;exact⟨rfl,rfl⟩
 ·rw [h1];have h3:¬x < y:=by omega
  go_enter Tryz.func162,Tryz.ntmps162;go_wp2_with (go_at_call 209;refine mw (yJ _ _) ?_)
  go_ret;exact⟨rfl,rfl⟩
def or2 (a b:Int):Int:=if a ≠ 0 then a else b
theorem aGe (a b:Int):((a !=0)=true/\or2 a b=a)\/(a=0/\(b !=0)=true/\or2 a b=b)\/(a=0/\b=0/\or2 a b=0):=by
 unfold or2;by_cases ha:a=0
 ·by_cases hb:b=0 <;> simp [ha,hb]
 ·simp [ha]
theorem aK2 {w:World} {g:Nat} {a b:Int} (h0:w.cell? ⟨g,0,none⟩=some (.int .i64 a)) (h1:w.cell? ⟨g,1,none⟩=some (.int .i64 b)):
  CW 161 #[.slice (some ⟨g,0,none⟩) 2 2] w (.int .i64 (or2 a b)):=by
 rcases aGe a b with ⟨t1,e⟩ | ⟨t1,t2,e⟩ | ⟨t1,t2,e⟩;all_goals
  rw [e];clear e;try subst t1
  try subst t2
  go_enter Tryz.func161,Tryz.ntmps161;go_wp2;refine wp_loop_rounds 6 ?_;rw [rounds_succ];go_wp2;try (rw [rounds_succ];go_wp2)
  try (rw [rounds_succ];go_wp2)
  go_ret;exact⟨rfl,rfl⟩
theorem aK3 (u:World) (x y:Int):Calls Tryz.prog 161 #[.slice (some ⟨u.heap.size,0,none⟩) 2 2] (u.alloc (.cells #[.int .i64 x,.int .i64 y] 3)).drew fun e w'=>e=.returned (.int .i64 (or2 x y))/\w'=(u.alloc (.cells #[.int .i64 x,.int .i64 y] 3)).drew:=by have hz:(u.alloc (.cells #[.int .i64 x,.int .i64 y] 3)).drew.heap[u.heap.size]? =some (.cells #[.int .i64 x,.int .i64 y] 3 (0,0)):=heap_alloc_new u _;have c:=fun j=>cell_of_row _ u.heap.size j _ 3 _ hz;exact aK2 ((c 0).trans rfl) ((c 1).trans rfl)
abbrev ceO (y:aK):Obj:=.cells (cellC y).toArray 57
theorem uQ (a b:aK) (w:World):CR 113 #[cellV a,cellV b] w (.int .i64 (jU a b)):=by
 obtain⟨r1,c1,t1⟩:=a;obtain⟨r2,c2,t2⟩:=b;have C1:=fun u=>aFc r1 r2 u;have C2:=fun u=>aFc c1 c2 u;have HK:Hid (jU ⟨r1,c1,t1⟩ ⟨r2,c2,t2⟩=or2 (cpI r1 r2) (cpI c1 c2)):=rfl;generalize jU ⟨r1,c1,t1⟩ ⟨r2,c2,t2⟩=R at *;generalize cpI r1 r2=x1 at *;generalize cpI c1 c2=x2 at *;obtain⟨V,hV⟩:∃V,V=(w.alloc (ceO ⟨r1,c1,t1⟩)).alloc (ceO ⟨r2,c2,t2⟩):=⟨_,rfl⟩
 have HC:Hid (∀u:World,Below V.heap.size V u->(u.cell? ⟨w.heap.size,0,none⟩=some (.int .i64 r1)/\u.cell? ⟨w.heap.size,1,none⟩=some (.int .i64 c1))/\(u.cell? ⟨w.heap.size+1,0,none⟩=some (.int .i64 r2)/\u.cell? ⟨w.heap.size+1,1,none⟩=some (.int .i64 c2))):=by intro u hu;rw [hV] at hu;obtain⟨q1,q2,_⟩:=bZ (new2 hu).1;obtain⟨q3,q4,_⟩:=bZ (new2 hu).2;exact⟨⟨q1,q2⟩,q3,q4⟩
 have HB:Hid (Below V.heap.size V V.drew):=(Below.refl _ _).drew;have HO:Hid (Below V.heap.size V (V.alloc (.cells #[.int .i64 x1,.int .i64 x2] 3)).drew):=(Sh.aD (Below.refl _ _) (Nat.le_refl _) _).drew;have OR:=aK3 V x1 x2;rw [show V.heap.size=w.heap.size+2 by rw [hV];simp] at OR;rw [hV] at HC HB HO OR;simp only [ceO,cellC] at HC HB HO OR;clear hV;go_enter Tryz.func113,Tryz.ntmps113;go_wp2;go_region_held_law (fun u=>(u.cell? ⟨w.heap.size,0,none⟩=some (.int .i64 r1)/\u.cell? ⟨w.heap.size,1,none⟩=some (.int .i64 c1))/\(u.cell? ⟨w.heap.size+1,0,none⟩=some (.int .i64 r2)/\u.cell? ⟨w.heap.size+1,1,none⟩=some (.int .i64 c2)))
  (first | exact HC.out _ HB.out | exact HC.out _ HO.out) (first|(go_at_call_of 162 r1;refine mw (C1 _) ?_)|(go_at_call_of 162 c1;refine mw (C2 _) ?_)|(go_at_call 161;refine mw OR ?_))
 go_wp2;go_ret;exact⟨by rw [HK.out];rfl,rU HO.out⟩
theorem iC (r c:Int) (w:World):CW 56 #[.int .i64 r,.int .i64 c] w (.bool (iZ r c)):=by
 unfold iZ;by_cases h1:1<=r
 ·by_cases h2:r<=64
  ·by_cases h3:1<=c
   ·by_cases h4:c<=26;all_goals
     go_enter Tryz.func56,Tryz.ntmps56;go_wp2;go_ret;exact⟨by congr 2;simp;omega,rfl⟩
   ·go_enter Tryz.func56,Tryz.ntmps56;go_wp2;go_ret;exact⟨by congr 2;simp;omega,rfl⟩
  ·go_enter Tryz.func56,Tryz.ntmps56;go_wp2;go_ret;exact⟨by congr 2;simp;omega,rfl⟩
 ·go_enter Tryz.func56,Tryz.ntmps56;go_wp2;go_ret;exact⟨by congr 2;simp;omega,rfl⟩
end Go.Proofs.YtlhoklhjbpkgpaaGreatDoor.Sh
namespace Go
section
variable {P:Program} {ops:Array Oper} {Q:Exit->Act->World->Prop} {md:Region.Mode} {S S2:World->Prop} {D:Nat->Bool}
def dH (P:Program) (md:Region.Mode) (ops:Array Oper) (Q:Exit->Act->World->Prop) (S:World->Prop) (D:Nat->Bool):Nat->Array Bool->Act->World->Prop
 | 0,listed,a,w=>Region.ready md ops listed=[]/\Q .normal a w
 | fuel+1,listed,a,w=>
  (Region.ready md ops listed=[]->Q .normal a w)/\
  ∀i ∈ Region.ready md ops listed,wpOp P ops Q i (fun a' w'=>(D i=true\/(S w->S w'))/\dH P md ops Q S D fuel (listed.setIfInBounds i true) a' w') a w
theorem yK:∀(fuel:Nat) (listed:Array Bool) (a:Act) (w:World),dH P md ops Q S D fuel listed a w->wpAny P md ops Q fuel listed a w
 | 0,_,_,_,h=>h
 | fuel+1,_,_,_,h=>⟨h.1,fun i hi=>wpOp_mono (fun a' w' h'=>yK fuel _ a' w' h'.2) (h.2 i hi)⟩
theorem nC {i:Nat} {oi:Oper} {v:Value} (hi:ops[i]? =some oi) (hsel:∀(j:Nat) (o:Oper) cs b,ops[j]? =some o->o.op ≠ .select cs b)
  (hQ:∀c a w,Q (.panic c) (a.put oi.dst v) w->Q (.panic c) a w)
  (hk:∀(j:Nat) (oj:Oper),ops[j]? =some oj->(∀e ∈ oj.after,Region.binds md e=true->e.on ≠ i)->∀w w',S2 w->(D j=true\/(S w->S w'))->S2 w'):
  ∀(fuel:Nat) (listed:Array Bool) (a:Act) (w:World),
   (∀j oj,ops[j]? =some oj->j ≠ i->listed.getD j true=false->(∀e ∈ oj.after,Region.binds md e=true->e.on ≠ i)->oi.apart ops oj=true)->
   i ∈ Region.ready md ops listed->YieldsIf P ops S2 oi v a->S2 w->
   dH P md ops Q S D fuel (listed.setIfInBounds i true) (a.put oi.dst v) w->dH P md ops Q S D (fuel+1) listed a w:=by
 intro fuel;induction fuel with
 | zero=>
  intro listed a w _ hr hy hS H;refine ⟨fun h=>(by rw [h] at hr;cases hr),fun j hj=> ?_⟩;by_cases hji:j=i
  ·subst hji;exact hy.wpOp hi hS ⟨.inr id,H⟩
  ·have:=ready_mono hj hji;rw [H.1] at this;cases this
 | succ fuel ih=>
  intro listed a w hfree hr hy hS H;refine ⟨fun h=>(by rw [h] at hr;cases hr),fun j hj=> ?_⟩;by_cases hji:j=i
  ·subst hji;exact hy.wpOp hi hS ⟨.inr id,H⟩
  ·have h1:=H.2 j (ready_mono hj hji);obtain⟨hjun,oj,hoj,hall⟩:=mem_ready.1 hj;have hnot:∀e ∈ oj.after,Region.binds md e=true->e.on ≠ i:=fun e he hb heq=>by
    have h1:=hall e he hb;have h0:=(mem_ready.1 hr).1;rw [heq] at h1;rcases Nat.lt_or_ge i listed.size with h' | h'
    ·simp [h'] at h0 h1;rw [h0] at h1;cases h1
    ·simp [Array.getElem?_eq_none h'] at h1
   have h2:=wpOp_putIf hoj (hfree j oj hoj hji hjun hnot) (fun cs b=>hsel i oi cs b hi) (fun cs b=>hsel j oj cs b hoj) hQ hy h1;have hfree':∀k ok,ops[k]? =some ok->k ≠ i->(listed.setIfInBounds j true).getD k true=false->
     (∀e ∈ ok.after,Region.binds md e=true->e.on ≠ i)->oi.apart ops ok=true:=fun k ok hk hki hun hno=>by
    refine hfree k ok hk hki ?_ hno;by_cases hjk:j=k
    ·subst hjk;exact hjun
    ·rw [getD_set_ne true hjk] at hun;exact hun
   refine wpOp_mono (fun a' w' h3=>⟨h3.2.1,ih (listed.setIfInBounds j true) a' w' hfree' (ready_mono hr (Ne.symm hji)) h3.1 (hk j oj hoj hnot w w' hS h3.2.1) ?_⟩) h2;rw [Array.setIfInBounds_comm _ _ hji];exact h3.2.2
theorem aCy {i:Nat} {oi:Oper} {v:Value} {fuel:Nat} {listed:Array Bool} {a:Act} {w:World} (hi:ops[i]? =some oi)
  (hs:Region.noSelect ops=true) (hf:Region.free md ops listed i=true) (hr:(Region.ready md ops listed).contains i=true)
  (hQ:∀c a w,Q (.panic c) (a.put oi.dst v) w->Q (.panic c) a w) (hg:Region.wanted oi (yielded ops a.tmps)=true) (hy:∀w,(execOp a.eval oi).run P w=.ok (.value v) w)
  (h:dH P md ops Q S D fuel (listed.setIfInBounds i true) (a.put oi.dst v) w):dH P md ops Q S D (fuel+1) listed a w:=
 nC (S2:=fun _=>True) hi (Region.noSelect_spec hs) hQ (fun _ _ _ _ _ _ _ _=>trivial) fuel listed a w (Region.free_spec hi hf) (by simpa using hr) (.inl ⟨hg,fun w _=>hy w⟩) trivial h
theorem aCz {i:Nat} {oi:Oper} {v:Value} {fuel:Nat} {listed:Array Bool} {a:Act} {w:World} (hi:ops[i]? =some oi)
  (hs:Region.noSelect ops=true) (hf:Region.free md ops listed i=true) (hr:(Region.ready md ops listed).contains i=true)
  (hD:((List.range ops.size).all fun j=> !D j || ((ops[j]?.map fun o=>o.after.any fun e=>Region.binds md e && e.on==i).getD false))=true)
  (hQ:∀c a w,Q (.panic c) (a.put oi.dst v) w->Q (.panic c) a w) (hg:Region.wanted oi (yielded ops a.tmps)=true) (hy:∀w,S w->(execOp a.eval oi).run P w=.ok (.value v) w) (hS:S w)
  (h:dH P md ops Q S D fuel (listed.setIfInBounds i true) (a.put oi.dst v) w):dH P md ops Q S D (fuel+1) listed a w:=by
 refine nC (S2:=S) hi (Region.noSelect_spec hs) hQ (fun j oj hj hno w w' hS hc=> ?_) fuel listed a w (Region.free_spec hi hf) (by simpa using hr) (.inl ⟨hg,hy⟩) hS h;rcases hc with hc | hc
 ·exfalso
  rw [List.all_eq_true] at hD;have hlt:j < ops.size:=(Array.getElem?_eq_some_iff.1 hj).1;have:=hD j (by simpa using hlt);rw [hc,hj] at this;simp only [Bool.not_true,Bool.false_or,Option.map_some,Option.getD_some,Array.any_eq_true] at this;obtain⟨q,hq,hb⟩:=this;simp only [Bool.and_eq_true,beq_iff_eq] at hb;exact hno _ (Array.getElem_mem hq) hb.1 hb.2
 ·exact hc hS
theorem aCA {i:Nat} {oi:Oper} {fuel:Nat} {listed:Array Bool} {a:Act} {w:World} (hi:ops[i]? =some oi)
  (hs:Region.noSelect ops=true) (hf:Region.free md ops listed i=true) (hr:(Region.ready md ops listed).contains i=true)
  (hQ:∀c a w,Q (.panic c) (a.put oi.dst undef) w->Q (.panic c) a w) (hg:Region.wanted oi (yielded ops a.tmps)=false)
  (h:dH P md ops Q S D fuel (listed.setIfInBounds i true) (a.put oi.dst undef) w):dH P md ops Q S D (fuel+1) listed a w:=
 nC (S2:=fun _=>True) hi (Region.noSelect_spec hs) hQ (fun _ _ _ _ _ _ _ _=>trivial) fuel listed a w (Region.free_spec hi hf) (by simpa using hr) (.inr ⟨hg,rfl⟩) trivial h
theorem aJ {i:Nat} {o:Oper} {fuel:Nat} {listed:Array Bool} {a:Act} {w:World} (hr:Region.ready md ops listed=[i]) (ho:ops[i]? =some o)
  (h:∀K':Act->World->Prop,(∀a' w',(D i=true\/(S w->S w'))->dH P md ops Q S D fuel (listed.setIfInBounds i true) a' w'->K' a' w')->if Region.wanted o (yielded ops a.tmps)=true then Oper.wp P o a w K' Q else K' (a.put o.dst undef) w):
  dH P md ops Q S D (fuel+1) listed a w:=by
 refine ⟨fun h0=>(by rw [hr] at h0;cases h0),fun j hj=> ?_⟩;rw [hr] at hj;obtain rfl:j=i:=by simpa using hj
 exact wpOp_step ho fun K' hK=>h K' fun a' w' h1 h2=>hK a' w' ⟨h1,h2⟩
theorem aR {listed:Array Bool} {a:Act} {w:World} (hr:Region.ready md ops listed=[]) (h:Q .normal a w):
  ∀fuel,dH P md ops Q S D fuel listed a w
 | 0=>⟨hr,h⟩
 | _+1=>⟨fun _=>h,by rw [hr];simp⟩
theorem aP {id:Nat} {a:Act} {w:World} (S:World->Prop) (D:Nat->Bool) (hm:P.follows .mixedOrders=true)
  (h:dH P .any ops Q S D ops.size (Array.replicate ops.size false) a w.drew):(Code.region id ops true).wp P Q a w:=
 wp_region_any hm (yK _ _ _ _ h)
theorem aBf {i d:Nat} {oi:Oper} {v:Value} {fuel:Nat} {listed:Array Bool} {a:Act} {w:World} (hi:ops[i]? =some oi)
  (hd:oi.dst=some d) (hs:Region.noSelect ops=true) (hf:Region.free md ops listed i=true) (hr:(Region.ready md ops listed).contains i=true)
  (hQ:∀c a w,Q (.panic c) (a.put (some d) v) w->Q (.panic c) a w) (hg:Region.wanted oi (yielded ops a.tmps)=true) (hy:∀w,(execOp a.eval oi).run P w=.ok (.value v) w)
  (h:dH P md ops Q S D fuel (listed.setIfInBounds i true) (a.put (some d) v) w):dH P md ops Q S D (fuel+1) listed a w:=
 aCy hi hs hf hr (hd ▸ hQ) hg hy (hd ▸ h)
theorem aBg {i d:Nat} {oi:Oper} {v:Value} {fuel:Nat} {listed:Array Bool} {a:Act} {w:World} (hi:ops[i]? =some oi)
  (hd:oi.dst=some d) (hs:Region.noSelect ops=true) (hf:Region.free md ops listed i=true) (hr:(Region.ready md ops listed).contains i=true)
  (hD:((List.range ops.size).all fun j=> !D j || ((ops[j]?.map fun o=>o.after.any fun e=>Region.binds md e && e.on==i).getD false))=true)
  (hQ:∀c a w,Q (.panic c) (a.put (some d) v) w->Q (.panic c) a w) (hg:Region.wanted oi (yielded ops a.tmps)=true) (hy:∀w,S w->(execOp a.eval oi).run P w=.ok (.value v) w) (hS:S w)
  (h:dH P md ops Q S D fuel (listed.setIfInBounds i true) (a.put (some d) v) w):dH P md ops Q S D (fuel+1) listed a w:=
 aCz hi hs hf hr hD (hd ▸ hQ) hg hy hS (hd ▸ h)
theorem aBh {i d:Nat} {oi:Oper} {fuel:Nat} {listed:Array Bool} {a:Act} {w:World} (hi:ops[i]? =some oi)
  (hd:oi.dst=some d) (hs:Region.noSelect ops=true) (hf:Region.free md ops listed i=true) (hr:(Region.ready md ops listed).contains i=true)
  (hQ:∀c a w,Q (.panic c) (a.put (some d) undef) w->Q (.panic c) a w) (hg:Region.wanted oi (yielded ops a.tmps)=false)
  (h:dH P md ops Q S D fuel (listed.setIfInBounds i true) (a.put (some d) undef) w):dH P md ops Q S D (fuel+1) listed a w:=
 aCA hi hs hf hr (hd ▸ hQ) hg (hd ▸ h)
theorem dwp (i:Nat) (v:Value) {d:Nat} {oi:Oper} {fuel:Nat} {listed:Array Bool} {a a':Act} {w:World} (h:dH P md ops Q S D fuel (listed.setIfInBounds i true) a' w) (hi:ops[i]? =some oi:=by exact rfl)
  (hd:oi.dst=some d:=by exact rfl) (hs:Region.noSelect ops=true:=by kernel_rfl) (hf:Region.free md ops listed i=true:=by kernel_rfl) (hr:(Region.ready md ops listed).contains i=true:=by kernel_rfl)
  (hQ:∀c a w,Q (.panic c) (a.put (some d) v) w->Q (.panic c) a w:=by exact fun _ _ _ h=>h) (hg:Region.wanted oi (yielded ops a.tmps)=true:=by go_simp) (hy:∀w,(execOp a.eval oi).run P w=.ok (.value v) w:=by (intro u;go_simp))
  (ha:a.put (some d) v=a':=by (simp only [Act.put,List.setIfInBounds_toArray,List.set_cons_zero,List.set_cons_succ];rfl)):dH P md ops Q S D (fuel+1) listed a w:=
 aBf hi hd hs hf hr hQ hg hy (ha ▸ h)
theorem dws (i:Nat) {d:Nat} {oi:Oper} {fuel:Nat} {listed:Array Bool} {a a':Act} {w:World} (h:dH P md ops Q S D fuel (listed.setIfInBounds i true) a' w) (hi:ops[i]? =some oi:=by exact rfl)
  (hd:oi.dst=some d:=by exact rfl) (hs:Region.noSelect ops=true:=by kernel_rfl) (hf:Region.free md ops listed i=true:=by kernel_rfl) (hr:(Region.ready md ops listed).contains i=true:=by kernel_rfl)
  (hQ:∀c a w,Q (.panic c) (a.put (some d) undef) w->Q (.panic c) a w:=by exact fun _ _ _ h=>h) (hg:Region.wanted oi (yielded ops a.tmps)=false:=by (go_simp <;> simp [undef]))
  (ha:a.put (some d) undef=a':=by (simp only [Act.put,List.setIfInBounds_toArray,List.set_cons_zero,List.set_cons_succ];rfl)):dH P md ops Q S D (fuel+1) listed a w:=
 aBh hi hd hs hf hr hQ hg (ha ▸ h)
theorem dwl (i:Nat) (v:Value) {d:Nat} {oi:Oper} {fuel:Nat} {listed:Array Bool} {a a':Act} {w:World} (h:dH P md ops Q S D fuel (listed.setIfInBounds i true) a' w) (hi:ops[i]? =some oi:=by exact rfl)
  (hd:oi.dst=some d:=by exact rfl) (hs:Region.noSelect ops=true:=by kernel_rfl) (hf:Region.free md ops listed i=true:=by kernel_rfl) (hr:(Region.ready md ops listed).contains i=true:=by kernel_rfl)
  (hD:((List.range ops.size).all fun j=> !D j || ((ops[j]?.map fun o=>o.after.any fun e=>Region.binds md e && e.on==i).getD false))=true:=by kernel_rfl)
  (hQ:∀c a w,Q (.panic c) (a.put (some d) v) w->Q (.panic c) a w:=by exact fun _ _ _ h=>h) (hg:Region.wanted oi (yielded ops a.tmps)=true:=by go_simp) (hS:S w) (hy:∀w,S w->(execOp a.eval oi).run P w=.ok (.value v) w)
  (ha:a.put (some d) v=a':=by (simp only [Act.put,List.setIfInBounds_toArray,List.set_cons_zero,List.set_cons_succ];rfl)):dH P md ops Q S D (fuel+1) listed a w:=
 aBg hi hd hs hf hr hD hQ hg hy hS (ha ▸ h)
end
end Go
namespace Go.Proofs.YtlhoklhjbpkgpaaGreatDoor.Sh
open Go.RowKit
theorem aG {P:Program} {ev:Operand->Value} {o:Oper} {ty:TypeId} {x:Operand} {p v:Value} {u:World} (ho:o.op=.load ty x) (hx:ev x=p) (hrun:(Instr.loadAt ty p).run P u=.ok v u):(execOp ev o).run P u=.ok (.value v) u:=by unfold execOp;simp only [ho,hx,Sem.run_bind,Sem.run_pure,hrun,Result.andThen_ok]
theorem ldC {u:World} {g:Nat} {y:aK} {z:Nat × Nat} (h:u.heap[g]? =some (.cells (cellC y).toArray 57 z)):(Instr.loadAt 57 (pt g)).run Tryz.prog u=.ok (cellV y) u:=by
 have hi:(Tryz.prog.info? 57).map (·.size)=some (cellC y).toArray.size:=by show _=some 3;kernel_rfl
 simp only [Instr.loadAt,Instr.sureAddr,Sem.run_bind,Sem.run_pure,Result.andThen_ok,run_loadVar_row u g 57 57 _ z _ h Tryz.underlying57 rfl hi];rfl
def BsR (L:List aK) (t:aK) (i:Nat) (b:Bool):Prop:=
 i<=L.length/\(∀h:i - 1 < L.length,0 < i->jU L[i - 1] t < 0)/\(∀h:i < L.length,0<=jU L[i] t)/\(b=true↔∃h:i < L.length,jU L[i] t=0)
theorem aK4 {lo hi:Nat} {w:World} {a:Option Addr} {c:Nat} {L:List aK} (h:Cls lo hi w (.slice a L.length c) L) (hhi:hi<=w.heap.size) (hlen:L.length<=4611686018427387903) (t:aK):
  Calls Tryz.prog 117 #[.slice a L.length c,cellV t,.func (.func 113) #[] #[]] w fun e w'=>(∃(i:Nat) (b:Bool),e=.returned (.tuple #[.int .i64 (i:Nat),.bool b])/\BsR L t i b)/\Below w.heap.size w w':=by
 have HS:Hid (Cls lo hi w (.slice a L.length c) L):=h;have HB0:Hid (Below w.heap.size w (w.alloc (ceO t))):=Sh.aD (Below.refl _ _) (Nat.le_refl _) _;have HX0:Hid ((w.alloc (ceO t)).heap[w.heap.size]? =some (ceO t)):=heap_alloc_new w _;simp only [ceO,cellC] at HB0 HX0;clear h;go_enter Tryz.func117,Tryz.ntmps117;go_wp2;go_loopw [9,10] (fun i j wr=>∃(p q:Nat),p<=q/\q<=L.length/\i=.int .i64 (p:Nat)/\j=.int .i64 (q:Nat)/\Hid (∀h:p - 1 < L.length,0 < p->jU L[p - 1] t < 0)/\Hid (∀h:q < L.length,0<=jU L[q] t)/\Hid (Below w.heap.size w wr)/\Hid (wr.heap[w.heap.size]? =some (ceO t))) (fun i j _=>(intOf j).toNat - (intOf i).toNat)
 case atStart=>exact⟨0,L.length,Nat.zero_le _,Nat.le_refl _,rfl,rfl,fun _ h=>by omega,fun h=>by omega,HB0,HX0⟩
 case round=>
  obtain⟨p,q,hpq,hqL,rfl,rfl,HP,HQ,HB,HX⟩:=hrel;clear HB0 HX0;have HBd:Hid (Below w.heap.size w wr.drew):=HB.out.drew;have HXd:Hid (wr.drew.heap[w.heap.size]? =some (ceO t)):=HX.out;have hLX:=ldC HXd.out;by_cases hlt:p < q
  ·have hpi:(p:Int) < q:=by omega
   obtain⟨m,hm⟩:∃m,m=(p+q) / 2:=⟨_,rfl⟩
   have hmL:m < L.length:=by omega
   obtain⟨a',_,_,rfl,rfl,_,R2, -, -⟩:=(HS.out.below hhi HBd.out).runs hmL;have s1:(p:Int)+(q:Int)=((p+q:Nat):Int):=by omega
   have s2:IntKind.i64.wrap ((p+q:Nat):Int)=((p+q:Nat):Int):=by rw [IntKind.wrap_i64];omega
   have s3:IntKind.u64.wrap ((p+q:Nat):Int)=((p+q:Nat):Int):=by rw [IntKind.wrap_u64];omega
   have s4:((p+q:Nat):Int) / 2=(m:Int):=by omega
   have s5:IntKind.i64.wrap (m:Int)=(m:Int):=by rw [IntKind.wrap_i64];omega
   have s6:IntKind.u64.wrap (m:Int)=(m:Int):=by rw [IntKind.wrap_u64];omega
   have s7:(m:Int) < L.length:=by omega
   have hm1:p<=m:=by omega
   have hm2:m < q:=by omega
   have HS:Hid ((Instr.loadAt 57 (.pointer (some (a'.add (m * 3))))).run Tryz.prog wr.drew=.ok (cellV L[m]) wr.drew/\(Instr.loadAt 57 (pt w.heap.size)).run Tryz.prog wr.drew=.ok (cellV t) wr.drew):=⟨R2.out,hLX⟩
   have C:=uQ L[m] t wr.drew;have HLs:Hid (jU L[m] t < 0->∀h:m+1 - 1 < L.length,0 < m+1->jU L[m+1 - 1] t < 0):=fun e _ _=>e;have HGe:Hid (0<=jU L[m] t->∀h:m < L.length,0<=jU L[m] t):=fun e _=>e;generalize aO6:p+q=pq at *;clear R2 hLX hm aO6;generalize L[m]=y at *;generalize jU y t=cv at *;by_cases hc:cv < 0
   ·have aO7:Hid _:=HLs.out hc;clear HLs HGe;go_wp2;refine aP (fun u=>(Instr.loadAt 57 (.pointer (some (a'.add (m * 3))))).run Tryz.prog u=.ok (cellV y) u/\(Instr.loadAt 57 (pt w.heap.size)).run Tryz.prog u=.ok (cellV t) u) (fun j=>j==6) (by kernel_rfl) ?_;refine dwp 0 ((.func (.func 113) #[] #[])) ?_;refine dwp 1 ((.slice (some a') L.length c)) ?_;refine dwp 2 ((.int .i64 (m:Int))) ?_;refine dwp 3 ((.pointer (some (a'.add (m * 3))))) ?_;refine dwl 4 ((cellV y)) ?_ (hS:=HS.out) (hy:=(fun u hSu=>aG rfl rfl hSu.1));refine dwl 5 ((cellV t)) ?_ (hS:=HS.out) (hy:=(fun u hSu=>aG rfl rfl hSu.2));refine aJ (i:=6) (by kernel_rfl) rfl ?_;intro K' hK';go_simp;refine C.mono ?_;rintro e w1 ⟨rfl,hb1⟩;have HB1:Hid (Below w.heap.size w w1):=Sh.aF HBd.out HBd.out.size hb1;have HX1:Hid (w1.heap[w.heap.size]? =some (ceO t)):=(hb1.block _ (aN HXd.out)).trans HXd.out;clear hb1;refine hK' _ _ (.inl rfl) ?_;clear hK';try simp only [Act.put,List.setIfInBounds_toArray,List.set_cons_zero,List.set_cons_succ]
    refine dwp 7 ((.bool true)) ?_;refine aR (by kernel_rfl) ?_ _;go_wp2;go_roundw
    case rel=>exact⟨m+1,q,by omega,hqL,by go_num,rfl,aO7,HQ,HB1,HX1⟩
    case measure=>simp [intOf];omega
   ·have aO8:Hid _:=HGe.out (by omega);clear HLs HGe;go_wp2;refine aP (fun u=>(Instr.loadAt 57 (.pointer (some (a'.add (m * 3))))).run Tryz.prog u=.ok (cellV y) u/\(Instr.loadAt 57 (pt w.heap.size)).run Tryz.prog u=.ok (cellV t) u) (fun j=>j==6) (by kernel_rfl) ?_;refine dwp 0 ((.func (.func 113) #[] #[])) ?_;refine dwp 1 ((.slice (some a') L.length c)) ?_;refine dwp 2 ((.int .i64 (m:Int))) ?_;refine dwp 3 ((.pointer (some (a'.add (m * 3))))) ?_;refine dwl 4 ((cellV y)) ?_ (hS:=HS.out) (hy:=(fun u hSu=>aG rfl rfl hSu.1));refine dwl 5 ((cellV t)) ?_ (hS:=HS.out) (hy:=(fun u hSu=>aG rfl rfl hSu.2));refine aJ (i:=6) (by kernel_rfl) rfl ?_;intro K' hK';go_simp;refine C.mono ?_;rintro e w1 ⟨rfl,hb1⟩;have HB1:Hid (Below w.heap.size w w1):=Sh.aF HBd.out HBd.out.size hb1;have HX1:Hid (w1.heap[w.heap.size]? =some (ceO t)):=(hb1.block _ (aN HXd.out)).trans HXd.out;clear hb1;refine hK' _ _ (.inl rfl) ?_;clear hK';try simp only [Act.put,List.setIfInBounds_toArray,List.set_cons_zero,List.set_cons_succ]
    refine dwp 7 ((.bool false)) ?_;refine aR (by kernel_rfl) ?_ _;go_wp2;go_roundw
    case rel=>exact⟨p,m,by omega,by omega,rfl,by go_num,HP,aO8,HB1,HX1⟩
    case measure=>simp [intOf];omega
  ·obtain rfl:p=q:=by omega
   have hpi:¬(p:Int) < p:=by omega
   by_cases hpL:p < L.length
   ·have hpn:(p:Int) < L.length:=by omega
    obtain⟨a',_,_,rfl,rfl,_,R2, -, -⟩:=(HS.out.below hhi HBd.out).runs hpL;have HS:Hid ((Instr.loadAt 57 (.pointer (some (a'.add (p * 3))))).run Tryz.prog wr.drew=.ok (cellV L[p]) wr.drew/\(Instr.loadAt 57 (pt w.heap.size)).run Tryz.prog wr.drew=.ok (cellV t) wr.drew):=⟨R2.out,hLX⟩
    have C:=uQ L[p] t wr.drew;have HE:Hid (∀b:Bool,(b=true↔jU L[p] t=0)->BsR L t p b):=fun b hb=>⟨hqL,HP.out,HQ.out,hb.trans ⟨fun e=>⟨hpL,e⟩,fun e=>e.2⟩⟩
    clear R2 hLX;generalize L[p]=y at *;generalize jU y t=cv at *;by_cases hc:cv=0
    ·subst hc;have HE2:Hid (BsR L t p true):=HE.out true (by simp);clear HE;go_wp2;refine aP (fun u=>(Instr.loadAt 57 (.pointer (some (a'.add (p * 3))))).run Tryz.prog u=.ok (cellV y) u/\(Instr.loadAt 57 (pt w.heap.size)).run Tryz.prog u=.ok (cellV t) u) (fun j=>j==11) (by kernel_rfl) ?_;refine dwp 0 ((.int .i64 (p:Int))) ?_;refine dwp 1 ((.int .i64 (p:Int))) ?_;refine dwp 2 ((.int .i64 (L.length:Int))) ?_;refine dwp 3 ((.bool true)) ?_;refine dwp 4 ((.bool true)) ?_;refine dwp 5 ((.func (.func 113) #[] #[])) ?_;refine dwp 6 ((.slice (some a') L.length c)) ?_;refine dwp 7 ((.int .i64 (p:Int))) ?_;refine dwp 8 ((.pointer (some (a'.add (p * 3))))) ?_;refine dwl 9 ((cellV y)) ?_ (hS:=HS.out) (hy:=(fun u hSu=>aG rfl rfl hSu.1));refine dwl 10 ((cellV t)) ?_ (hS:=HS.out) (hy:=(fun u hSu=>aG rfl rfl hSu.2));refine aJ (i:=11) (by kernel_rfl) rfl ?_;intro K' hK';go_simp;refine C.mono ?_;rintro e w1 ⟨rfl,hb1⟩;have HB1:Hid (Below w.heap.size w w1):=Sh.aF HBd.out HBd.out.size hb1;have HX1:Hid (w1.heap[w.heap.size]? =some (ceO t)):=(hb1.block _ (aN HXd.out)).trans HXd.out;clear hb1;refine hK' _ _ (.inl rfl) ?_;clear hK';try simp only [Act.put,List.setIfInBounds_toArray,List.set_cons_zero,List.set_cons_succ]
     refine dwp 14 ((.int .i64 (p:Int))) ?_;refine dwp 12 ((.bool true)) ?_;refine dwp 13 ((.bool true)) ?_;refine dwp 15 ((.bool true)) ?_;refine aR (by kernel_rfl) ?_ _;go_wp2;go_ret2;exact⟨⟨p,true,rfl,HE2.out⟩,HB1.out⟩
    ·have HE2:Hid (BsR L t p false):=HE.out false (by simp [hc]);clear HE;go_wp2;refine aP (fun u=>(Instr.loadAt 57 (.pointer (some (a'.add (p * 3))))).run Tryz.prog u=.ok (cellV y) u/\(Instr.loadAt 57 (pt w.heap.size)).run Tryz.prog u=.ok (cellV t) u) (fun j=>j==11) (by kernel_rfl) ?_;refine dwp 0 ((.int .i64 (p:Int))) ?_;refine dwp 1 ((.int .i64 (p:Int))) ?_;refine dwp 2 ((.int .i64 (L.length:Int))) ?_;refine dwp 3 ((.bool true)) ?_;refine dwp 4 ((.bool true)) ?_;refine dwp 5 ((.func (.func 113) #[] #[])) ?_;refine dwp 6 ((.slice (some a') L.length c)) ?_;refine dwp 7 ((.int .i64 (p:Int))) ?_;refine dwp 8 ((.pointer (some (a'.add (p * 3))))) ?_;refine dwl 9 ((cellV y)) ?_ (hS:=HS.out) (hy:=(fun u hSu=>aG rfl rfl hSu.1));refine dwl 10 ((cellV t)) ?_ (hS:=HS.out) (hy:=(fun u hSu=>aG rfl rfl hSu.2));refine aJ (i:=11) (by kernel_rfl) rfl ?_;intro K' hK';go_simp;refine C.mono ?_;rintro e w1 ⟨rfl,hb1⟩;have HB1:Hid (Below w.heap.size w w1):=Sh.aF HBd.out HBd.out.size hb1;have HX1:Hid (w1.heap[w.heap.size]? =some (ceO t)):=(hb1.block _ (aN HXd.out)).trans HXd.out;clear hb1;refine hK' _ _ (.inl rfl) ?_;clear hK';try simp only [Act.put,List.setIfInBounds_toArray,List.set_cons_zero,List.set_cons_succ]
     refine dwp 14 ((.int .i64 (p:Int))) ?_;refine dwp 12 ((.bool false)) ?_;refine dwp 13 ((.bool false)) ?_;refine dwp 15 ((.bool false)) ?_;refine aR (by kernel_rfl) ?_ _;go_wp2;go_ret2;exact⟨⟨p,false,rfl,HE2.out⟩,HB1.out⟩
   ·have hpn:¬(p:Int) < L.length:=by omega
    have HE2:Hid (BsR L t p false):=⟨hqL,HP.out,HQ.out,⟨fun e=>(by cases e),fun e=>absurd e.1 hpL⟩⟩
    go_wp2;refine aP (fun u=>True) (fun j=>false) (by kernel_rfl) ?_;refine dwp 0 ((.int .i64 (p:Int))) ?_;refine dwp 1 ((.int .i64 (p:Int))) ?_;refine dwp 2 ((.int .i64 (L.length:Int))) ?_;refine dwp 3 ((.bool false)) ?_;refine dwp 4 ((.bool false)) ?_;refine dws 5 ?_ (hg:=(by go_simp));refine dws 6 ?_ (hg:=(by go_simp));refine dws 7 ?_ (hg:=(by go_simp));refine dws 8 ?_ (hg:=(by go_simp));refine dws 9 ?_ (hg:=(by go_simp));refine dws 10 ?_ (hg:=(by go_simp));refine dws 11 ?_ (hg:=(by go_simp));refine dwp 14 ((.int .i64 (p:Int))) ?_;refine dws 12 ?_ (hg:=(by go_simp));refine dwp 13 ((.bool false)) ?_;refine dwp 15 ((.bool false)) ?_;refine aR (by kernel_rfl) ?_ _;go_wp2;go_ret2;exact⟨⟨p,false,rfl,HE2.out⟩,HBd.out⟩
def ltB (a b:aK):Bool:=decide (a.row < b.row\/a.row=b.row/\a.col < b.col)
theorem gK {a b:aK}:ltB a b=true↔Lt a b:=by unfold ltB Lt;simp
def dU (L:List aK) (t:aK):List aK:=L.filter (fun d=>ltB d t)++((if t.text.toList==[] then [] else [t])++L.filter (fun d=>ltB t d))
theorem yL {L:List aK} {t:aK} {i:Nat} {b:Bool} (hR:iB L) (h:BsR L t i b):
  (∀d ∈ L.take i,Lt d t)/\(∀d ∈ L.drop (i+1),Lt t d)/\(∀hi:i < L.length,(b=true->L[i].row=t.row/\L[i].col=t.col)/\(b=false->Lt t L[i])):=by
 obtain⟨h1,h2,h3,h4⟩:=h;unfold iB at hR;rw [List.pairwise_iff_getElem] at hR;refine ⟨fun d hd=> ?_,fun d hd=> ?_,fun hi=>⟨fun hb=> ?_,fun hb=> ?_⟩⟩
 ·obtain ⟨j,hj,rfl⟩:=List.mem_iff_getElem.1 hd;rw [List.length_take] at hj;rw [List.getElem_take];have hlt:=pE.1 (h2 (by omega) (by omega));by_cases e:j=i - 1
  ·subst e;exact hlt
  ·exact (hR j (i - 1) (by omega) (by omega) (by omega)).trans hlt
 ·obtain ⟨j,hj,rfl⟩:=List.mem_iff_getElem.1 hd;rw [List.length_drop] at hj;rw [List.getElem_drop];have hge:=h3 (by omega);have hlt:=hR i (i+1+j) (by omega) (by omega) (by omega);rcases mH L[i] t with ⟨e,_⟩ | ⟨_,e1,e2⟩ | ⟨_,e⟩
  ·omega
  ·unfold Lt at *;omega
  ·exact e.trans hlt
 ·obtain ⟨_,e⟩:=h4.1 hb;exact aIz.1 e
 ·rcases mH L[i] t with ⟨e,_⟩ | ⟨e,_⟩ | ⟨_,e⟩
  ·have:=h3 hi;omega
  ·have:=h4.2 ⟨hi,e⟩;rw [hb] at this;cases this
  ·exact e
theorem filter_all {α:Type} {p:α->Bool} {L:List α} (h:∀d ∈ L,p d=true):L.filter p=L:=List.filter_eq_self.2 h
theorem jG {α:Type} {p:α->Bool} {L:List α} (h:∀d ∈ L,p d=false):L.filter p=[]:=by rw [List.filter_eq_nil_iff];intro d hd;simp [h d hd]
theorem iT {a b:aK} (h:¬Lt a b):ltB a b=false:=by
 cases e:ltB a b with
 | false=>rfl
 | true=>exact absurd (gK.1 e) h
theorem Lt.ne {a b:aK} (h:Lt a b):¬Lt b a:=h.irrefl
theorem aGf {L:List aK} {t:aK} {i:Nat} (hR:iB L) (h:BsR L t i true):i < L.length/\dU L t=L.take i++((if t.text.toList==[] then [] else [t])++L.drop (i+1)):=by
 obtain⟨p1,p2,p3⟩:=yL hR h;obtain⟨hi,_⟩:=h.2.2.2.1 rfl;obtain⟨e1,_⟩:=p3 hi;obtain⟨er,ec⟩:=e1 rfl;have e:L=L.take i++L[i]:: L.drop (i+1):=by rw [<-List.drop_eq_getElem_cons hi,List.take_append_drop]
 have f1:L.filter (fun d=>ltB d t)=L.take i:=by
  conv=>lhs;rw [e]
  rw [List.filter_append,filter_all fun d hd=>gK.2 (p1 d hd),jG fun d hd=> ?_,List.append_nil];refine iT ?_;rcases List.mem_cons.1 hd with rfl | hd
  ·unfold Lt;omega
  ·exact (p2 d hd).ne
 have f2:L.filter (fun d=>ltB t d)=L.drop (i+1):=by
  conv=>lhs;rw [e]
  rw [List.filter_append,jG fun d hd=>iT (p1 d hd).ne,List.nil_append,List.filter_cons,if_neg,filter_all fun d hd=>gK.2 (p2 d hd)];rw [iT (by unfold Lt;omega)];decide
 refine ⟨hi, ?_⟩;unfold dU;rw [f1,f2]
theorem aIA {L:List aK} {t:aK} {i:Nat} (hR:iB L) (h:BsR L t i false):i<=L.length/\dU L t=L.take i++((if t.text.toList==[] then [] else [t])++L.drop i):=by
 obtain⟨p1,p2,p3⟩:=yL hR h;have hd':∀d ∈ L.drop i,Lt t d:=by
  intro d hd;by_cases hi:i < L.length
  ·rw [List.drop_eq_getElem_cons hi] at hd;rcases List.mem_cons.1 hd with rfl | hd
   ·exact (p3 hi).2 rfl
   ·exact p2 d hd
  ·rw [List.drop_of_length_le (by omega)] at hd;cases hd
 have f1:L.filter (fun d=>ltB d t)=L.take i:=by
  conv=>lhs;rw [<-List.take_append_drop i L]
  rw [List.filter_append,filter_all fun d hd=>gK.2 (p1 d hd),jG fun d hd=>iT (hd' d hd).ne,List.append_nil]
 have f2:L.filter (fun d=>ltB t d)=L.drop i:=by
  conv=>lhs;rw [<-List.take_append_drop i L]
  rw [List.filter_append,jG fun d hd=>iT (p1 d hd).ne,filter_all fun d hd=>gK.2 (hd' d hd),List.nil_append]
 refine ⟨h.1, ?_⟩;unfold dU;rw [f1,f2]
theorem aM2 {L:List aK} {t:aK} {i:Nat} {b:Bool} (hR:iB L) (h:BsR L t i b):b=L.any (atB t.row t.col):=by
 obtain⟨p1,p2,p3⟩:=yL hR h;cases b with
 | true=>
  obtain⟨hi,_⟩:=h.2.2.2.1 rfl;obtain⟨e1,_⟩:=p3 hi;obtain⟨er,ec⟩:=e1 rfl
  symm
  rw [List.any_eq_true];exact⟨_,List.getElem_mem hi,by simp [atB,er,ec]⟩
 | false=>
  symm
  rw [List.any_eq_false];intro d hd;rw [<-List.take_append_drop i L,List.mem_append] at hd;rcases hd with hd | hd
  ·have:=p1 d hd;unfold Lt at this;simp [atB];omega
  ·by_cases hi:i < L.length
   ·rw [List.drop_eq_getElem_cons hi] at hd;have hl:Lt t d:=by
     rcases List.mem_cons.1 hd with rfl | hd
     ·exact (p3 hi).2 rfl
     ·exact p2 d hd
    unfold Lt at hl;simp [atB];omega
   ·rw [List.drop_of_length_le (by omega)] at hd;cases hd
theorem aIB {L:List aK} {t:aK} (hR:iB L):iB (dU L t):=by
 unfold dU iB at *;rw [List.pairwise_append];refine ⟨hR.filter _, ?_, ?_⟩
 ·split
  ·simpa using hR.filter _
  ·rw [List.singleton_append,List.pairwise_cons];refine ⟨fun d hd=> ?_,hR.filter _⟩;exact gK.1 (List.mem_filter.1 hd).2
 ·intro a ha b hb;have h1:=gK.1 (List.mem_filter.1 ha).2;rw [List.mem_append] at hb;rcases hb with hb | hb
  ·split at hb
   ·cases hb
   ·rw [List.mem_singleton.1 hb];exact h1
  ·exact h1.trans (gK.1 (List.mem_filter.1 hb).2)
end Go.Proofs.YtlhoklhjbpkgpaaGreatDoor.Sh
