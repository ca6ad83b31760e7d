/- SBin, SCopy, SDel, SIns, SCm, SPut, SWith, FPure, FMem, FDepth, TSign. -/
import Derived.Deep.Trees
import Derived.Laws.OwnMore
import Derived.Lib.AppendZeros
import Derived.Lib.AppendZerosOnto
import Derived.Lib.BufferWrite
import Derived.Test.YtfedoljlipfhdaaGreatDoorVDrawPw
set_option linter.unusedVariables false
set_option linter.unusedSimpArgs false
set_option maxHeartbeats 16000000
set_option maxRecDepth 100000
open Go.Proofs.Tryz renaming prog->Z,underlying67->v6,underlying3->v7,isAgg3->v9
open Go.RowKit renaming Hid->V,Below->ε
open Go renaming World->U,Value->J,setRow_other->μ,heap_alloc_new->ο,Operand->Δ,Addr->Ξ,TypeId->Ω,setRow_heap->z0,cell_of_row->z1,maxLen->z9,execOp->y0,Calls->y4,Program->x2,Oper->x3,wpList_plain->v3,wpList->v4
open List renaming length_append->H,setIfInBounds_toArray->B,length_take->I,toList_toArray->N,set_cons_zero->β,set_cons_succ->γ,eq_nil_of_length_eq_zero->ζ,length_drop->θ,size_toArray->κ,length_cons->ρ,take_append_drop->σ,getElem?_eq_getElem->υ,take_of_length_le->χ,drop_of_length_le->z3,flatMap_append->z5,drop_eq_getElem_cons->z7,flatMap_cons->y2,append_assoc->y3,nil_append->y8,append_nil->y9,not_mem_nil->x5,singleton_append->x9,mem_of_mem_drop->v1,mem_cons->v2,getElem?_drop->v5,getElem_mem->v8
open Nat renaming le_refl->A,zero_add->π,add_mul->z2,le_trans->x4,zero_le->x8,mul_le_mul_right->v0
open Go.Instr renaming loadAt->M,sliceAt->δ,storeAt->Φ,sureAddr->y1,build->x0,buildSlice->x6
open Bool renaming false->O,true->η
open Go.Result renaming andThen_ok->ι,andThen->z4
open Go.Sem renaming run_bind->ν,run_pure->ω
open Go.IntKind renaming wrap_i64->ξ
open Go.World renaming cell?_of_block->τ,block_lt_of_cell?->φ
open Go.RowKit.Below renaming refl->ψ,heap_alloc->x7
open Option renaming map_some->Γ,bind_some->Θ
open Go.Act renaming put->Ψ
open Array renaming length_toList->z6,getElem?_setIfInBounds_ne->y7
open Go.Builtin renaming append_->z8,copy_->y5
open Go.Oper renaming wp->y6
open Int renaming toNat_natCast->x1
namespace Go.Proofs.YtfedoljlipfhdaaGreatDoor.Sh
open Go.RowKit
theorem aJ {P:x2} {ev:Δ->J} {o:x3} {ty:Ω} {x:Δ} {p v:J} {u:U} (ho:o.op=.load ty x) (hx:ev x=p) (hrun:(M ty p).run P u=.ok v u):(y0 ev o).run P u=.ok (.value v) u:=by unfold y0;simp only [ho,hx,ν,ω,hrun,ι]
theorem ldC {u:U} {g:Nat} {y:aN} {z:Nat × Nat} (h:u.heap[g]? =some (.cells (cellC y).toArray 57 z)):(M 57 (pt g)).run Z u=.ok (cellV y) u:=by
 have hi:(Tryz.prog.info? 57).map (·.size)=some (cellC y).toArray.size:=by show _=some 3;kernel_rfl
 simp only [M,y1,ν,ω,ι,run_loadVar_row u g 57 57 _ z _ h Tryz.underlying57 rfl hi];rfl
def BsR (L:List aN) (t:aN) (i:Nat) (b:Bool):Prop:=
 i<=L.length/\(∀h:i - 1 < L.length,0 < i->jT L[i - 1] t < 0)/\(∀h:i < L.length,0<=jT L[i] t)/\(b=η↔∃h:i < L.length,jT L[i] t=0)
theorem aLo {lo hi:Nat} {w:U} {a:Option Ξ} {c:Nat} {L:List aN} (h:Cls lo hi w (.slice a L.length c) L) (hhi:hi<=w.heap.size) (hlen:L.length<=4611686018427387903) (t:aN):
  y4 Z 117 #[.slice a L.length c,cellV t,.func (.func 113) #[] #[]] w fun e w'=>(∃(i:Nat) (b:Bool),e=.returned (.tuple #[.int .i64 (i:Nat),.bool b])/\BsR L t i b)/\ε w.heap.size w w':=by
 have HS:V (Cls lo hi w (.slice a L.length c) L):=h;have HB0:V (ε w.heap.size w (w.alloc (ceO t))):=Sh.aC (ψ _ _) (A _) _;have HX0:V ((w.alloc (ceO t)).heap[w.heap.size]? =some (ceO t)):=ο w _;simp only [ceO,cellC] at HB0 HX0;clear h;go_enter Tryz.func117,Tryz.ntmps117;go_wp2;go_loopw [9,10] (fun i j wr=>∃(p q:Nat),p<=q/\q<=L.length/\i=.int .i64 (p:Nat)/\j=.int .i64 (q:Nat)/\V (∀h:p - 1 < L.length,0 < p->jT L[p - 1] t < 0)/\V (∀h:q < L.length,0<=jT L[q] t)/\V (ε w.heap.size w wr)/\V (wr.heap[w.heap.size]? =some (ceO t))) (fun i j _=>(intOf j).toNat - (intOf i).toNat)
 case atStart=>exact⟨0,L.length,x8 _,A _,rfl,rfl,fun _ h=>by omega,fun h=>by omega,HB0,HX0⟩
 case round=>
  obtain⟨p,q,hpq,hqL,rfl,rfl,HP,HQ,HB,HX⟩:=hrel;clear HB0 HX0;have HBd:V (ε w.heap.size w wr.drew):=HB.out.drew;have HXd:V (wr.drew.heap[w.heap.size]? =some (ceO t)):=HX.out;have hLX:=ldC HXd.out;by_cases hlt:p < q
  ·have hpi:(p:Int) < q:=by omega
   obtain⟨m,hm⟩:∃m,m=(p+q) / 2:=⟨_,rfl⟩
   have hmL:m < L.length:=by omega
   obtain⟨a',_,_,rfl,rfl,_,R2, -, -⟩:=(HS.out.below hhi HBd.out).runs hmL;have s1:(p:Int)+(q:Int)=((p+q:Nat):Int):=by omega
   have s2:IntKind.i64.wrap ((p+q:Nat):Int)=((p+q:Nat):Int):=by rw [ξ];omega
   have s3:IntKind.u64.wrap ((p+q:Nat):Int)=((p+q:Nat):Int):=by rw [IntKind.wrap_u64];omega
   have s4:((p+q:Nat):Int) / 2=(m:Int):=by omega
   have s5:IntKind.i64.wrap (m:Int)=(m:Int):=by rw [ξ];omega
   have s6:IntKind.u64.wrap (m:Int)=(m:Int):=by rw [IntKind.wrap_u64];omega
   have s7:(m:Int) < L.length:=by omega
   have hm1:p<=m:=by omega
   have hm2:m < q:=by omega
   have HS:V ((M 57 (.pointer (some (a'.add (m * 3))))).run Z wr.drew=.ok (cellV L[m]) wr.drew/\(M 57 (pt w.heap.size)).run Z wr.drew=.ok (cellV t) wr.drew):=⟨R2.out,hLX⟩
   have C:=uN L[m] t wr.drew;have HLs:V (jT L[m] t < 0->∀h:m+1 - 1 < L.length,0 < m+1->jT L[m+1 - 1] t < 0):=fun e _ _=>e;have HGe:V (0<=jT L[m] t->∀h:m < L.length,0<=jT L[m] t):=fun e _=>e;generalize aPp:p+q=pq at *;clear R2 hLX hm aPp;generalize L[m]=y at *;generalize jT y t=cv at *;by_cases hc:cv < 0
   ·have aPq:V _:=HLs.out hc;clear HLs HGe;go_wp2;refine aO (fun u=>(M 57 (.pointer (some (a'.add (m * 3))))).run Z u=.ok (cellV y) u/\(M 57 (pt w.heap.size)).run Z u=.ok (cellV t) u) (fun j=>j==6) (by kernel_rfl) ?_;refine dwp 0 ((.func (.func 113) #[] #[])) ?_;refine dwp 1 ((.slice (some a') L.length c)) ?_;refine dwp 2 ((.int .i64 (m:Int))) ?_;refine dwp 3 ((.pointer (some (a'.add (m * 3))))) ?_;refine dwl 4 ((cellV y)) ?_ (hS:=HS.out) (hy:=(fun u hSu=>aJ rfl rfl hSu.1));refine dwl 5 ((cellV t)) ?_ (hS:=HS.out) (hy:=(fun u hSu=>aJ rfl rfl hSu.2));refine aH (i:=6) (by kernel_rfl) rfl ?_;intro K' hK';go_simp;refine C.mono ?_;rintro e w1 ⟨rfl,hb1⟩;have HB1:V (ε w.heap.size w w1):=Sh.aD HBd.out HBd.out.size hb1;have HX1:V (w1.heap[w.heap.size]? =some (ceO t)):=(hb1.block _ (aF HXd.out)).trans HXd.out;clear hb1;refine hK' _ _ (.inl rfl) ?_;clear hK';try simp only [Ψ,B,β,γ]
    refine dwp 7 ((.bool η)) ?_;refine aM (by kernel_rfl) ?_ _;go_wp2;go_roundw
    case rel=>exact⟨m+1,q,by omega,hqL,by go_num,rfl,aPq,HQ,HB1,HX1⟩
    case measure=>simp [intOf];omega
   ·have aPr:V _:=HGe.out (by omega);clear HLs HGe;go_wp2;refine aO (fun u=>(M 57 (.pointer (some (a'.add (m * 3))))).run Z u=.ok (cellV y) u/\(M 57 (pt w.heap.size)).run Z u=.ok (cellV t) u) (fun j=>j==6) (by kernel_rfl) ?_;refine dwp 0 ((.func (.func 113) #[] #[])) ?_;refine dwp 1 ((.slice (some a') L.length c)) ?_;refine dwp 2 ((.int .i64 (m:Int))) ?_;refine dwp 3 ((.pointer (some (a'.add (m * 3))))) ?_;refine dwl 4 ((cellV y)) ?_ (hS:=HS.out) (hy:=(fun u hSu=>aJ rfl rfl hSu.1));refine dwl 5 ((cellV t)) ?_ (hS:=HS.out) (hy:=(fun u hSu=>aJ rfl rfl hSu.2));refine aH (i:=6) (by kernel_rfl) rfl ?_;intro K' hK';go_simp;refine C.mono ?_;rintro e w1 ⟨rfl,hb1⟩;have HB1:V (ε w.heap.size w w1):=Sh.aD HBd.out HBd.out.size hb1;have HX1:V (w1.heap[w.heap.size]? =some (ceO t)):=(hb1.block _ (aF HXd.out)).trans HXd.out;clear hb1;refine hK' _ _ (.inl rfl) ?_;clear hK';try simp only [Ψ,B,β,γ]
    refine dwp 7 ((.bool O)) ?_;refine aM (by kernel_rfl) ?_ _;go_wp2;go_roundw
    case rel=>exact⟨p,m,by omega,by omega,rfl,by go_num,HP,aPr,HB1,HX1⟩
    case measure=>simp [intOf];omega
  ·obtain rfl:p=q:=by omega
   have hpi:¬(p:Int) < p:=by omega
   by_cases hpL:p < L.length
   ·have hpn:(p:Int) < L.length:=by omega
    obtain⟨a',_,_,rfl,rfl,_,R2, -, -⟩:=(HS.out.below hhi HBd.out).runs hpL;have HS:V ((M 57 (.pointer (some (a'.add (p * 3))))).run Z wr.drew=.ok (cellV L[p]) wr.drew/\(M 57 (pt w.heap.size)).run Z wr.drew=.ok (cellV t) wr.drew):=⟨R2.out,hLX⟩
    have C:=uN L[p] t wr.drew;have HE:V (∀b:Bool,(b=η↔jT L[p] t=0)->BsR L t p b):=fun b hb=>⟨hqL,HP.out,HQ.out,hb.trans ⟨fun e=>⟨hpL,e⟩,fun e=>e.2⟩⟩
    clear R2 hLX;generalize L[p]=y at *;generalize jT y t=cv at *;by_cases hc:cv=0
    ·subst hc;have HE2:V (BsR L t p η):=HE.out η (by simp);clear HE;go_wp2;refine aO (fun u=>(M 57 (.pointer (some (a'.add (p * 3))))).run Z u=.ok (cellV y) u/\(M 57 (pt w.heap.size)).run Z u=.ok (cellV t) u) (fun j=>j==11) (by kernel_rfl) ?_;refine dwp 0 ((.int .i64 (p:Int))) ?_;refine dwp 1 ((.int .i64 (p:Int))) ?_;refine dwp 2 ((.int .i64 (L.length:Int))) ?_;refine dwp 3 ((.bool η)) ?_;refine dwp 4 ((.bool η)) ?_;refine dwp 5 ((.func (.func 113) #[] #[])) ?_;refine dwp 6 ((.slice (some a') L.length c)) ?_;refine dwp 7 ((.int .i64 (p:Int))) ?_;refine dwp 8 ((.pointer (some (a'.add (p * 3))))) ?_;refine dwl 9 ((cellV y)) ?_ (hS:=HS.out) (hy:=(fun u hSu=>aJ rfl rfl hSu.1));refine dwl 10 ((cellV t)) ?_ (hS:=HS.out) (hy:=(fun u hSu=>aJ rfl rfl hSu.2));refine aH (i:=11) (by kernel_rfl) rfl ?_;intro K' hK';go_simp;refine C.mono ?_;rintro e w1 ⟨rfl,hb1⟩;have HB1:V (ε w.heap.size w w1):=Sh.aD HBd.out HBd.out.size hb1;have HX1:V (w1.heap[w.heap.size]? =some (ceO t)):=(hb1.block _ (aF HXd.out)).trans HXd.out;clear hb1;refine hK' _ _ (.inl rfl) ?_;clear hK';try simp only [Ψ,B,β,γ]
     refine dwp 14 ((.int .i64 (p:Int))) ?_;refine dwp 12 ((.bool η)) ?_;refine dwp 13 ((.bool η)) ?_;refine dwp 15 ((.bool η)) ?_;refine aM (by kernel_rfl) ?_ _;go_wp2;go_ret2;exact⟨⟨p,η,rfl,HE2.out⟩,HB1.out⟩
    ·have HE2:V (BsR L t p O):=HE.out O (by simp [hc]);clear HE;go_wp2;refine aO (fun u=>(M 57 (.pointer (some (a'.add (p * 3))))).run Z u=.ok (cellV y) u/\(M 57 (pt w.heap.size)).run Z u=.ok (cellV t) u) (fun j=>j==11) (by kernel_rfl) ?_;refine dwp 0 ((.int .i64 (p:Int))) ?_;refine dwp 1 ((.int .i64 (p:Int))) ?_;refine dwp 2 ((.int .i64 (L.length:Int))) ?_;refine dwp 3 ((.bool η)) ?_;refine dwp 4 ((.bool η)) ?_;refine dwp 5 ((.func (.func 113) #[] #[])) ?_;refine dwp 6 ((.slice (some a') L.length c)) ?_;refine dwp 7 ((.int .i64 (p:Int))) ?_;refine dwp 8 ((.pointer (some (a'.add (p * 3))))) ?_;refine dwl 9 ((cellV y)) ?_ (hS:=HS.out) (hy:=(fun u hSu=>aJ rfl rfl hSu.1));refine dwl 10 ((cellV t)) ?_ (hS:=HS.out) (hy:=(fun u hSu=>aJ rfl rfl hSu.2));refine aH (i:=11) (by kernel_rfl) rfl ?_;intro K' hK';go_simp;refine C.mono ?_;rintro e w1 ⟨rfl,hb1⟩;have HB1:V (ε w.heap.size w w1):=Sh.aD HBd.out HBd.out.size hb1;have HX1:V (w1.heap[w.heap.size]? =some (ceO t)):=(hb1.block _ (aF HXd.out)).trans HXd.out;clear hb1;refine hK' _ _ (.inl rfl) ?_;clear hK';try simp only [Ψ,B,β,γ]
     refine dwp 14 ((.int .i64 (p:Int))) ?_;refine dwp 12 ((.bool O)) ?_;refine dwp 13 ((.bool O)) ?_;refine dwp 15 ((.bool O)) ?_;refine aM (by kernel_rfl) ?_ _;go_wp2;go_ret2;exact⟨⟨p,O,rfl,HE2.out⟩,HB1.out⟩
   ·have hpn:¬(p:Int) < L.length:=by omega
    have HE2:V (BsR L t p O):=⟨hqL,HP.out,HQ.out,⟨fun e=>(by cases e),fun e=>absurd e.1 hpL⟩⟩
    go_wp2;refine aO (fun u=>True) (fun j=>O) (by kernel_rfl) ?_;refine dwp 0 ((.int .i64 (p:Int))) ?_;refine dwp 1 ((.int .i64 (p:Int))) ?_;refine dwp 2 ((.int .i64 (L.length:Int))) ?_;refine dwp 3 ((.bool O)) ?_;refine dwp 4 ((.bool O)) ?_;refine dws 5 ?_ (hg:=(by go_simp));refine dws 6 ?_ (hg:=(by go_simp));refine dws 7 ?_ (hg:=(by go_simp));refine dws 8 ?_ (hg:=(by go_simp));refine dws 9 ?_ (hg:=(by go_simp));refine dws 10 ?_ (hg:=(by go_simp));refine dws 11 ?_ (hg:=(by go_simp));refine dwp 14 ((.int .i64 (p:Int))) ?_;refine dws 12 ?_ (hg:=(by go_simp));refine dwp 13 ((.bool O)) ?_;refine dwp 15 ((.bool O)) ?_;refine aM (by kernel_rfl) ?_ _;go_wp2;go_ret2;exact⟨⟨p,O,rfl,HE2.out⟩,HBd.out⟩
structure Small (x:aP):Prop where
 sh:x.sheets.length<=1000
 cl:∀s ∈ x.sheets,s.cells.length<=1000
 nm:x.names.length<=1000
 lk:x.links.length<=1000
abbrev newS (g n:Nat):J:=.slice (some ⟨g,0,none⟩) n n
structure CpB (base:Nat) (w:U) (gs gn gl:Nat) (x:aP):Prop where
 row:∃cur,w.heap[gs]? =some (.cells cur 78)/\cur.size=x.sheets.length * 2/\∀j (hj:j < x.sheets.length),cur[j * 2]? =some (.string x.sheets[j].name)/\cur[j * 2+1]? =some (newS (gs+1+j) x.sheets[j].cells.length)
 cls:∀j (hj:j < x.sheets.length),w.heap[gs+1+j]? =some (.cells (x.sheets[j].cells.flatMap cellC).toArray 57)
 nms:w.heap[gn]? =some (.cells (x.names.flatMap kE).toArray 89)
 lks:w.heap[gl]? =some (.cells (x.links.flatMap kF).toArray 91)
 b1:base<=gs
 b2:gs+1+x.sheets.length<=gn
 b3:gs+1+x.sheets.length<=gl
theorem aNg {w:U} {g:Nat} {cap:Nat} {cur:Array J} {z:Nat × Nat} {L:List aN} (hg:w.heap[g]? =some (.cells cur 57 z)) (hc:cur.toList.take (L.length * 3)=L.flatMap cellC) (hn:L.length<=cap) (hm:cap<=z9):Cls g (g+1) w (.slice (some ⟨g,0,none⟩) L.length cap) L:=aIX bK hg hc hn hm
theorem aGE {w:U} {g:Nat} {z:Nat × Nat} {L:List aN} (hg:w.heap[g]? =some (.cells (L.flatMap cellC).toArray 57 z)) (hm:L.length<=z9):Cls g (g+1) w (newS g L.length) L:=
 aNg hg (by rw [N];exact χ (by rw [bL bK];omega)) (A _) hm
theorem bG {n:Nat} (h:n<=1000):n<=z9:=by unfold z9;omega
theorem aLp {w:U} {gs cap:Nat} {cur:Array J} {z:Nat × Nat} {L:List aT} {cv:Nat->J} (hg:w.heap[gs]? =some (.cells cur 78 z)) (hc:∀j (hj:j < L.length),cur[j * 2]? =some (.string L[j].name)/\cur[j * 2+1]? =some (cv j)) (hn:L.length<=cap) (hm:cap<=z9):
  Rws gs (gs+1) 2 w (.slice (some ⟨gs,0,none⟩) L.length cap) L.length (iG L cv):=by
 refine .inr ⟨_,_,rfl,hn,hm,fun _=>⟨A _,Nat.lt_succ_self _⟩,fun j i u hj hu=> ?_⟩;have hadd:(⟨gs,0,none⟩:Ξ).add (j * 2+i)=⟨gs,j * 2+i,none⟩:=by unfold Addr.add;split <;> simp_all
 rw [hadd,z1 w gs _ _ _ _ hg];simp only [iG,υ hj,Γ,Option.getD_some,bY] at hu
 match i,hu with
 | 0,hu=>simp at hu;rw [<-hu];exact(hc j hj).1
 | 1,hu=>simp at hu;rw [<-hu];exact(hc j hj).2
theorem aBi {α:Type} {enc:α->List J} {sz lo hi:Nat} {w:U} {a:Option Ξ} {c:Nat} {L:List α} (he:∀x,(enc x).length=sz) (hsz:0 < sz) (h:Rws lo hi sz w (.slice a L.length c) L.length fun j=>(L[j]?.map enc).getD []):Src w a L.length c (L.flatMap enc):=by
 rcases a with _ | ad
 ·left;rcases h with ⟨e,h0⟩ | ⟨_,_,e,_⟩
  ·simp only [Value.slice.injEq] at e;refine ⟨rfl,h0,e.2.2, ?_⟩;rw [ζ h0];rfl
  ·cases e
 ·exact .inr ⟨ad,rfl,Rws.flat he hsz h⟩
theorem Cls.src {lo hi:Nat} {w:U} {a:Option Ξ} {c:Nat} {L:List aN} (h:Cls lo hi w (.slice a L.length c) L):Src w a L.length c (L.flatMap cellC):=aBi bK (by decide) h
theorem Nms.src {lo hi:Nat} {w:U} {a:Option Ξ} {c:Nat} {L:List fD} (h:Nms lo hi w (.slice a L.length c) L):Src w a L.length c (L.flatMap kE):=aBi gV (by decide) h
theorem Lks.src {lo hi:Nat} {w:U} {a:Option Ξ} {c:Nat} {L:List eO} (h:Lks lo hi w (.slice a L.length c) L):Src w a L.length c (L.flatMap kF):=aBi gW (by decide) h
theorem aNh {L:List (aT × J)} {j:Nat} (hj:j < L.length):(L.flatMap fun p=>bY p.1 p.2).toArray[j * 2]? =some (.string L[j].1.name)/\(L.flatMap fun p=>bY p.1 p.2).toArray[j * 2+1]? =some L[j].2:=by have h0:=xR (enc:=fun p:aT × J=>bY p.1 p.2) bD L j 0 hj (by decide);have h1:=xR (enc:=fun p:aT × J=>bY p.1 p.2) bD L j 1 hj (by decide);simp only [List.getElem?_toArray];exact⟨h0,h1⟩
theorem uO {w:U} {g i:Nat} {cur:Array J} {t:Ω} {v:J} (hg:w.heap[g]? =some (.cells cur t (0,0))):w.setCell ⟨g,i,none⟩ v=w.setRow g (cur.setIfInBounds i v):=setCell_eq_setRow w g i cur t (0,0) v hg
theorem ld1 {u:U} {p:Ξ} {v:J} {t:Ω} (h:u.cell? p=some v) (ht:(isAgg t).run Z u=.ok O u):(M t (.pointer (some p))).run Z u=.ok v u:=by simp [M,y1,loadVar,ν,ht,run_load,h]
theorem aNi (u:U) (a1 a2 a3:Option Ξ) (n1 c1 n2 c2 n3 c3:Nat):(x0 26 #[(0,.slice a1 n1 c1),(1,.slice a2 n2 c2),(2,.slice a3 n3 c3)]).run Z u=.ok (.agg #[.slice a1 n1 c1,.slice a2 n2 c2,.slice a3 n3 c3]) u:=by kernel_rfl
theorem qP {P:x2} {ev:Δ->J} {o:x3} {ty:Ω} {xs:Array (Nat × Δ)} {ps:Array (Nat × J)} {v:J} {u:U} (ho:o.op=.build ty xs) (hx:(xs.map fun (i,x)=>(i,ev x))=ps) (hrun:(x0 ty ps).run P u=.ok v u):(y0 ev o).run P u=.ok (.value v) u:=by unfold y0;simp only [ho,hx,ν,ω,hrun,ι]
theorem nZ {P:x2} {o:x3} {a:Act} {w w':U} {K:Act->U->Prop} {Q:Exit->Act->U->Prop} {ty:Ω} {x y:Δ} {p v:J} (ho:o.op=.store ty x y) (hx:a.eval x=p) (hy:a.eval y=v) (hrun:(Φ ty p v).run P w=.ok () w') (h:K (a.put o.dst undef) w'):y6 P o a w K Q:=by unfold y6 y0;simp only [ho,hx,hy,ν,ω,hrun,ι];exact h
theorem xX {u:U} {g:Nat} {x y:Array J} (hg:u.heap[g]? =some (.cells x 26)) (hx:x.size=3) (hy:y.size=3) (h1:y.all (·.oneCell')=η):(Φ 26 (pt g) (.agg y)).run Z u=.ok () (u.setRow g y):=by
 have hi:(Tryz.prog.info? 26).map (·.size)=some y.size:=by rw [hy];kernel_rfl
 have hr:=run_storeVar_row (P:=Z) u g 26 26 x y hg hi (by omega) h1;simp only [Φ,y1,ν,ω,ι,hr]
theorem aMG {fn:Func} {p:Tmp} (h:fn.results=#[.cell p 26]) {tmps:Array J} {w:U} {g:Nat} {y:Array J} (hp:tmps.getD p undef=pt g) (hg:w.heap[g]? =some (.cells y 26)) (hy:y.size=3:=by rfl):(results fn tmps).run Z w=.ok (.agg y) w:=by
 have hi:(Tryz.prog.info? 26).map (·.size)=some y.size:=by rw [hy];kernel_rfl
 exact results_cell_row h tmps w g 26 y (0,0) _ hp hg Tryz.underlying26 rfl hi
theorem sQ {lo hi:Nat} {w:U} {sv nv lv:J} {x:aP} (h:BkM lo hi w sv nv lv x) (hhi:hi<=w.heap.size) (hz:Small x):
  y4 Z 17 #[.agg #[sv,nv,lv]] w fun e w'=>(∃gs gn gl,e=.returned (.agg #[newS gs x.sheets.length,newS gn x.names.length,newS gl x.links.length])/\CpB w.heap.size w' gs gn gl x)/\ε w.heap.size w w':=by
 obtain⟨sa,sc,rfl,hs1,hs2⟩:=h.sh.slice;obtain⟨na,nc,rfl,_,_⟩:=h.nm.slice;obtain⟨la,lc,rfl,_,_⟩:=h.lk.slice;have HZ:V (Small x):=hz;have HH:V (BkM lo hi w (.slice sa x.sheets.length sc) (.slice na x.names.length nc) (.slice la x.links.length lc) x):=h;obtain⟨W,hW⟩:∃W,W=(w.alloc (bkO (.slice sa x.sheets.length sc) (.slice na x.names.length nc) (.slice la x.links.length lc))).alloc (.cells #[.slice none 0 0,.slice none 0 0,.slice none 0 0] 26):=⟨_,rfl⟩
 have hWs:W.heap.size=w.heap.size+2:=by rw [hW];simp
 have HB:ε w.heap.size w W:=by rw [hW];exact Sh.aC (Sh.aC (ψ _ _) (A _) _) (A _) _
 have hG0:W.heap[w.heap.size]? =some (bkO (.slice sa x.sheets.length sc) (.slice na x.names.length nc) (.slice la x.links.length lc)):=by rw [hW,x7 _ _ _ (by simp)];exact ο w _
 have hG1:W.heap[w.heap.size+1]? =some (.cells #[.slice none 0 0,.slice none 0 0,.slice none 0 0] 26):=by rw [hW];simpa using ο (w.alloc (bkO (.slice sa x.sheets.length sc) (.slice na x.names.length nc) (.slice la x.links.length lc))) (.cells #[.slice none 0 0,.slice none 0 0,.slice none 0 0] 26)
 obtain⟨cv,hr0,aNj⟩:=h.sh;have hr:=hr0.kept (w':=W) fun i _ hi=>HB.block i (by omega);have hcc:∀u,ε w.heap.size w u->∀j o,x.sheets[j]? =some o->Cls lo hi u (cv j) o.cells:=fun u hu j o hj=>(aNj j o hj).below hhi hu;have hPl:(x.sheets.mapIdx fun j s=>(s,cv j)).length=x.sheets.length:=by simp
 have hsrc:Src W sa x.sheets.length sc ((x.sheets.mapIdx fun j s=>(s,cv j)).flatMap fun p=>bY p.1 p.2):=by
  have:=aBi (enc:=fun p:aT × J=>bY p.1 p.2) (lo:=lo) (hi:=hi) (w:=W) (a:=sa) (c:=sc) (L:=x.sheets.mapIdx fun j s=>(s,cv j)) bD (by decide) (by
   rw [hPl];refine hr.congr fun j hj=> ?_;simp [iG,υ hj])
  rwa [hPl] at this
 have hone:∀u ∈ (x.sheets.mapIdx fun j s=>(s,cv j)).flatMap fun p=>bY p.1 p.2,u.oneCell'=η:=by intro u hu;obtain⟨p,hp,hu⟩:=List.mem_flatMap.1 hu;obtain⟨j,hj,rfl⟩:=List.mem_mapIdx.1 hp;obtain⟨q,d,e,_,_⟩:=(aNj j _ (υ hj)).slice;simp only [bY,e,v2,x5,or_false] at hu;rcases hu with rfl | rfl <;> rfl
 have C1:y4 Z 61 _ _ fun e w1=>e=.returned (newS (w.heap.size+2) x.sheets.length)/\V (∃cur,w1.heap[w.heap.size+2]? =some (.cells cur 78)/\cur.size=x.sheets.length * 2/\∀j (hj:j < x.sheets.length),cur[j * 2]? =some (.string x.sheets[j].name)/\cur[j * 2+1]? =some (cv j))/\V (w1.heap.size=w.heap.size+3)/\V (ε w.heap.size w w1)/\V (w1.heap[w.heap.size]? =some (bkO (.slice sa x.sheets.length sc) (.slice na x.names.length nc) (.slice la x.links.length lc)))/\V (w1.heap[w.heap.size+1]? =some (.cells #[.slice none 0 0,.slice none 0 0,.slice none 0 0] 26)):=
  (aGx hsrc (by rw [bL (enc:=fun p:aT × J=>bY p.1 p.2) bD,hPl]) hone (by have:=hz.sh;omega)).mono (by
   rintro e w1 ⟨rfl,h1,h2,h3⟩;rw [hWs] at h1 h2;refine ⟨by rw [hWs],⟨_,h1, ?_,fun j hj=> ?_⟩,by show _=_;omega,Sh.aD HB HB.size h3,(h3.block _ (aF hG0)).trans hG0,(h3.block _ (aF hG1)).trans hG1⟩
   ·rw [κ,bL (enc:=fun p:aT × J=>bY p.1 p.2) bD,hPl]
   ·have:=aNh (L:=x.sheets.mapIdx fun j s=>(s,cv j)) (j:=j) (by rw [hPl];exact hj);simpa using this)
 rw [hW] at C1;have HCC:V (∀u,ε w.heap.size w u->∀j o,x.sheets[j]? =some o->Cls lo hi u (cv j) o.cells):=hcc;have hc0:=aI hG0 (j:=0) rfl;rw [hW] at hc0;have hlen:x.sheets.length<=9223372036854775807:=by unfold z9 at hs2;omega
 clear h hz hs1 hs2 hr hcc hPl hsrc hone HB hG0 hG1 hWs hr0 aNj;go_enter Tryz.func17,Tryz.ntmps17;go_wp2_with (go_at_call 61;refine C1.mono ?_;clear C1;rintro e w1 ⟨rfl,HR,HSZ,HB,HG0,HG1⟩)
 go_loopw [10] (fun i wr=>∃(k:Nat),k<=x.sheets.length/\i=.int .i64 (k:Nat)/\V (∃cur,wr.heap[w.heap.size+2]? =some (.cells cur 78)/\cur.size=x.sheets.length * 2/\∀j (hj:j < x.sheets.length),cur[j * 2]? =some (.string x.sheets[j].name)/\cur[j * 2+1]? =some (if j < k then newS (w.heap.size+3+j) x.sheets[j].cells.length else cv j))/\V (∀j (hj:j < x.sheets.length),j < k->wr.heap[w.heap.size+3+j]? =some (.cells (x.sheets[j].cells.flatMap cellC).toArray 57))/\V (wr.heap.size=w.heap.size+3+k)/\V (ε w.heap.size w wr)/\V (wr.heap[w.heap.size]? =some (bkO (.slice sa x.sheets.length sc) (.slice na x.names.length nc) (.slice la x.links.length lc)))/\V (wr.heap[w.heap.size+1]? =some (.cells #[.slice none 0 0,.slice none 0 0,.slice none 0 0] 26))) (fun i _=>x.sheets.length - (intOf i).toNat)
 case atStart=> refine ⟨0,x8 _,rfl, ?_,fun j _ h=>by omega,HSZ,HB,HG0,HG1⟩;obtain⟨cur,h1,h2,h3⟩:=HR.out;exact⟨cur,h1,h2,fun j hj=>by simpa using h3 j hj⟩
 case round=>
  obtain⟨k,hk,rfl,HR,HCL,HSZ,HB,HG0,HG1⟩:=hrel;by_cases hkL:k < x.sheets.length
  ·have hki:(k:Int) < x.sheets.length:=by omega
   have mF:k < 9223372036854775807:=by omega
   obtain⟨cur,hcur,hcs,hcp⟩:=HR.out;have hcl:=HCC.out wr HB.out k _ (υ hkL);obtain⟨q,d,hcv,_,_⟩:=hcl.slice;have ck:wr.cell? ⟨w.heap.size+2,k * 2+1,none⟩=some (.slice q x.sheets[k].cells.length d):=by refine aI hcur ?_;rw [(hcp k hkL).2,if_neg (by omega),hcv]
   rw [hcv] at hcl;have C2:=aAw hcl.src (by rw [bL bK]) (lS iN _) (by have:=HZ.out.cl _ (v8 hkL);omega);have C:y4 Z 62 _ _ fun e w2=>e=.returned (newS (w.heap.size+3+k) x.sheets[k].cells.length)/\w2.cell? ⟨w.heap.size+2,k * 2+1,none⟩=some (.slice q x.sheets[k].cells.length d)/\w2.frozen? ⟨w.heap.size+2,k * 2+1,none⟩=O/\V (w2.heap[w.heap.size+2]? =some (.cells cur 78))/\V (∀j (hj:j < x.sheets.length),j < k+1->w2.heap[w.heap.size+3+j]? =some (.cells (x.sheets[j].cells.flatMap cellC).toArray 57))/\V (w2.heap.size=w.heap.size+3+(k+1))/\V (ε w.heap.size w w2)/\V (w2.heap[w.heap.size]? =some (bkO (.slice sa x.sheets.length sc) (.slice na x.names.length nc) (.slice la x.links.length lc)))/\V (w2.heap[w.heap.size+1]? =some (.cells #[.slice none 0 0,.slice none 0 0,.slice none 0 0] 26)):=C2.mono (by
    rintro e w2 ⟨rfl,h1,h2,h3⟩;have hg2:w2.heap[w.heap.size+2]? =some (.cells cur 78):=(h3.block _ (aF hcur)).trans hcur;have hsz:wr.heap.size=w.heap.size+3+k:=HSZ.out;refine ⟨by rw [hsz],(τ (h3.block _ (aF hcur))).trans ck,by simp [World.frozen?,hg2],hg2,fun j hj hjk=> ?_,by show _=_;omega,Sh.aD HB.out HB.out.size h3,(h3.block _ (aF HG0.out)).trans HG0.out,(h3.block _ (aF HG1.out)).trans HG1.out⟩;by_cases e:j=k
    ·subst e;rw [hsz] at h1;exact h1
    ·have:=HCL.out j hj (by omega);exact(h3.block _ (aF this)).trans this)
   have Hcs:V (cur.size=x.sheets.length * 2):=hcs;have Hcp:V _:=hcp;clear hcl hcur hcs hcp C2 HR HCL HSZ HB HG0 HG1 hcv;go_wp2_with (go_at_call 62;refine C.mono ?_;clear C;rintro e w2 ⟨rfl,g1,g2,HCU,HCL,HSZ,HB,HG0,HG1⟩)
   go_roundw
   case rel=>
    have hsame:(w2.setCell ⟨w.heap.size+2,k * 2+1,none⟩ (newS (w.heap.size+3+k) x.sheets[k].cells.length))=w2.setRow (w.heap.size+2) (cur.setIfInBounds (k * 2+1) (newS (w.heap.size+3+k) x.sheets[k].cells.length)):=uO HCU.out;rw [hsame];have hcsz:=Hcs.out;refine ⟨k+1,by omega,by go_num,⟨_,z0 _ _ _ _ _ _ HCU.out,by simpa using hcsz,fun j hj=> ?_⟩,fun j hj hjk=> ?_,by show _=_;rw [setRow_size];exact HSZ.out,below_setRow HB.out (by omega) _, ?_, ?_⟩
    ·have h0:=Hcp.out j hj;rw [y7 (by omega)];refine ⟨h0.1, ?_⟩;by_cases e:j=k
     ·subst e;rw [Array.getElem?_setIfInBounds_self_of_lt (by omega),if_pos (by omega)]
     ·rw [y7 (by omega),h0.2];by_cases e2:j < k
      ·rw [if_pos e2,if_pos (by omega)]
      ·rw [if_neg e2,if_neg (by omega)]
    ·rw [μ _ _ _ _ (by omega)];exact HCL.out j hj hjk
    ·show _=_;rw [μ _ _ _ _ (by omega)];exact HG0.out
    ·show _=_;rw [μ _ _ _ _ (by omega)];exact HG1.out
   case measure=>simp [intOf];omega
  ·have hki:¬(k:Int) < x.sheets.length:=by omega
   obtain rfl:k=x.sheets.length:=by omega
   have Hd:V (ε w.heap.size w wr.drew):=HB.out.drew;have HS:V (wr.drew.cell? ⟨w.heap.size,1,none⟩=some (.slice na x.names.length nc)/\wr.drew.cell? ⟨w.heap.size,2,none⟩=some (.slice la x.links.length lc)):=⟨aI HG0.out rfl,aI HG0.out rfl⟩
   obtain⟨cur,hcur,hcs,hcp⟩:=HR.out;have CN:=aGy (HH.out.nm.below hhi Hd.out).src (by rw [bL gV]) (lS aAu _) (by have:=HZ.out.nm;omega);have CL:∀u,ε w.heap.size w u->_:=fun u hu=>aGz (HH.out.lk.below hhi hu).src (by rw [bL gW]) (lS aAv _) (by have:=HZ.out.lk;omega);have jU:V (∀u,ε wr.heap.size wr u->(∃cur,u.heap[w.heap.size+2]? =some (.cells cur 78)/\cur.size=x.sheets.length * 2/\∀j (hj:j < x.sheets.length),cur[j * 2]? =some (.string x.sheets[j].name)/\cur[j * 2+1]? =some (newS (w.heap.size+2+1+j) x.sheets[j].cells.length))/\(∀j (hj:j < x.sheets.length),u.heap[w.heap.size+2+1+j]? =some (.cells (x.sheets[j].cells.flatMap cellC).toArray 57))/\u.heap[w.heap.size+1]? =some (.cells #[.slice none 0 0,.slice none 0 0,.slice none 0 0] 26)):=by
    intro u hu;refine ⟨⟨cur,(hu.block _ (aF hcur)).trans hcur,hcs,fun j hj=> ?_⟩,fun j hj=> ?_,(hu.block _ (aF HG1.out)).trans HG1.out⟩
    ·have:=hcp j hj;rw [if_pos hj] at this;exact this
    ·have:=HCL.out j hj hj;exact(hu.block _ (aF this)).trans this
   have aPs:V _:=CL;have HDD:V (ε wr.heap.size wr wr.drew):=(ψ _ _).drew;clear hcur hcs hcp HR HCL HCC CL HG0 HG1;go_wp2;refine aO (fun u=>u.cell? ⟨w.heap.size,1,none⟩=some (.slice na x.names.length nc)/\u.cell? ⟨w.heap.size,2,none⟩=some (.slice la x.links.length lc)) (fun j=>j==8) (by kernel_rfl) ?_;refine dwp 0 ((newS (w.heap.size+2) x.sheets.length)) ?_;refine dwp 1 ((.pointer (some ⟨w.heap.size,1,none⟩))) ?_;refine dwl 2 ((.slice na x.names.length nc)) ?_ (hS:=HS.out) (hy:=(fun u hSu=>aJ rfl rfl (ld1 hSu.1 (Tryz.isAgg23 _))));refine dwp 4 ((.pointer (some ⟨w.heap.size,2,none⟩))) ?_;refine dwl 5 ((.slice la x.links.length lc)) ?_ (hS:=HS.out) (hy:=(fun u hSu=>aJ rfl rfl (ld1 hSu.2 (Tryz.isAgg24 _))));refine aH (i:=3) (by kernel_rfl) rfl ?_;intro K' hK';go_simp;refine CN.mono ?_;clear CN;rintro e w2 ⟨rfl,N1,N2,N3⟩;have HN1:V _:=N1;have HN2:V _:=N2;have HB2:V (ε w.heap.size w w2):=Sh.aD Hd.out Hd.out.size N3;have HD2:V (ε wr.heap.size wr w2):=Sh.aD HDD.out HDD.out.size N3;have CL:=aPs.out w2 HB2.out;have HS2:w2.cell? ⟨w.heap.size,1,none⟩=some (.slice na x.names.length nc)/\w2.cell? ⟨w.heap.size,2,none⟩=some (.slice la x.links.length lc):=⟨(τ (N3.block _ (φ _ _ HS.out.1))).trans HS.out.1,(τ (N3.block _ (φ _ _ HS.out.2))).trans HS.out.2⟩
   clear N1 N2 N3;refine hK' _ _ (.inr fun _=>HS2) ?_;clear hK';try simp only [Ψ,B,β,γ]
   refine aH (i:=6) (by kernel_rfl) rfl ?_;intro K' hK';go_simp;refine CL.mono ?_;clear CL;rintro e w3 ⟨rfl,L1,L2,L3⟩;have HL1:V _:=L1;have HN3:V _:=(L3.block _ (aF HN1.out)).trans HN1.out;have HB3:V (ε w.heap.size w w3):=Sh.aD HB2.out HB2.out.size L3;have HD3:V (ε wr.heap.size wr w3):=Sh.aD HD2.out HD2.out.size L3;have HS3:w3.cell? ⟨w.heap.size,1,none⟩=some (.slice na x.names.length nc)/\w3.cell? ⟨w.heap.size,2,none⟩=some (.slice la x.links.length lc):=⟨(τ (L3.block _ (φ _ _ HS2.1))).trans HS2.1,(τ (L3.block _ (φ _ _ HS2.2))).trans HS2.2⟩
   clear L1 L2 L3;refine hK' _ _ (.inr fun _=>HS3) ?_;clear hK';try simp only [Ψ,B,β,γ]
   refine dwp 7 ((.agg #[newS (w.heap.size+2) x.sheets.length,newS wr.drew.heap.size x.names.length,newS w2.heap.size x.links.length])) ?_ (hy:=(fun u=>qP rfl (by go_simp) (aNi u _ _ _ _ _ _ _ _ _)));refine aH (i:=8) (by kernel_rfl) rfl ?_;intro K' hK';rw [if_pos (by rfl)];have KP:=jU.out w3 HD3.out;have RS:=xX (y:=#[newS (w.heap.size+2) x.sheets.length,newS wr.drew.heap.size x.names.length,newS w2.heap.size x.links.length]) KP.2.2 rfl rfl (by simp [Value.oneCell']);refine nZ rfl rfl rfl RS ?_;refine hK' _ _ (.inl rfl) ?_;clear hK';try simp only [Ψ,B,β,γ]
   refine aM (by kernel_rfl) ?_ _;go_wp2;refine bodyPost_ret (aMG rfl rfl (z0 _ _ _ _ _ _ KP.2.2)) rfl ?_;have hw2:w2.heap.size=wr.drew.heap.size+1:=HN2.out;have hwr:wr.drew.heap.size=w.heap.size+3+x.sheets.length:=HSZ.out;refine ⟨⟨w.heap.size+2,wr.drew.heap.size,w2.heap.size,rfl,⟨?_,fun j hj=> ?_, ?_, ?_,by omega,by omega,by omega⟩⟩,below_setRow HB3.out (by omega) _⟩
   ·obtain ⟨cur,k1,k2,k3⟩:=KP.1;exact⟨cur,by rw [μ _ _ _ _ (by omega)];exact k1,k2,k3⟩
   ·rw [μ _ _ _ _ (by omega)];exact KP.2.1 j hj
   ·rw [μ _ _ _ _ (by omega)];exact HN3.out
   ·rw [μ _ _ _ _ (by omega)];exact HL1.out
section
variable {P:x2} {ops:Array x3} {rest:List x3} {o:x3} {a:Act} {w w':U} {Q:Exit->Act->U->Prop} {K:Act->U->Prop}
theorem cB (hgd:o.guard=none) (ty:Ω) (x:Δ) (lo hi mx:Option Δ) (ho:o.op=.slice ty x lo hi mx) (vx:J) (vl vh vm:Option J) (v:J)
  (hx:a.eval x=vx) (hl:lo.map a.eval=vl) (hh:hi.map a.eval=vh) (hm:mx.map a.eval=vm) (hrun:(δ ty vx vl vh vm).run P w=.ok v w) (h:v4 P ops Q rest (a.put o.dst v) w):v4 P ops Q (o:: rest) a w:=by
 refine v3 hgd fun K hK=> ?_;unfold y6 y0;simp only [ho,hx,hl,hh,hm,ν,ω,hrun,ι];exact hK _ _ h
theorem dH {ev:Δ->J} {ty:Ω} {x:Δ} {lo hi mx:Option Δ} {vx v:J} {vl vh vm:Option J} {u:U} (ho:o.op=.slice ty x lo hi mx) (hx:ev x=vx) (hl:lo.map ev=vl) (hh:hi.map ev=vh) (hm:mx.map ev=vm)
  (hrun:(δ ty vx vl vh vm).run P u=.ok v u):(y0 ev o).run P u=.ok (.value v) u:=by
 unfold y0;simp only [ho,hx,hl,hh,hm,ν,ω,hrun,ι]
theorem dI {s x:Δ} {t t2:Ω} (ho:o.op=.call { callee:=.builtin .append,args:=#[s,x],argTypes:=#[t,t2] }) {v bv v':J} (hs:a.eval s=v) (hx:a.eval x=bv) (hrun:(z8 #[t,t2] o.type #[v,bv]).run P w=.ok v' w')
  (h:K (a.put o.dst v') w'):y6 P o a w K Q:=by
 unfold y6;simp [y0,ho,resolve,invoke,builtin,hs,hx,hrun,z4];exact h
theorem aBj {s x:Δ} {t t2:Ω} (ho:o.op=.call { callee:=.builtin .copy,args:=#[s,x],argTypes:=#[t,t2] }) {v bv v':J} (hs:a.eval s=v) (hx:a.eval x=bv) (hrun:(y5 #[t,t2] o.type #[v,bv]).run P w=.ok v' w')
  (h:K (a.put o.dst v') w'):y6 P o a w K Q:=by
 unfold y6;simp [y0,ho,resolve,invoke,builtin,hs,hx,hrun,z4];exact h
end
section
variable {S t:Ω} {sz bytes:Nat} {zv:J}
theorem RT.elem (R:RT S t sz bytes zv):Tryz.prog.elem S=t:=by unfold Program.elem;rw [R.st]
theorem RT.so (R:RT S t sz bytes zv) (w:U):(sizeOf t).run Z w=.ok sz w:=by obtain⟨i,hi,_,hs,_⟩:=R.size;simp [sizeOf,typeInfo,hi,hs]
theorem jX (g o k:Nat):(⟨g,o,none⟩:Ξ).add k=⟨g,o+k,none⟩:=by unfold Addr.add;split <;> simp_all
def iB (g o c k sz:Nat):Ξ:=if c=k then ⟨g,o,none⟩ else ⟨g,o+k * sz,none⟩
theorem qQ (R:RT S t sz bytes zv) (g o n c k:Nat) (hk:k<=c) (u:U):(δ S (.slice (some ⟨g,o,none⟩) n c) none (some (.int .i64 (k:Nat))) none).run Z u=.ok (.slice (some ⟨g,o,none⟩) k c) u:=by
 have h2:Tryz.prog.underlying S=some (.slice (Tryz.prog.elem S)):=by rw [R.elem];exact R.st
 rw [run_sliceAt_slice u S _ _ _ _ h2,run_slice_h u S _ n c h2 .i64 (k:Nat) (by omega) (by omega),R.elem,R.so u];simp [sliced,z4,jX]
theorem iK (R:RT S t sz bytes zv) (g o n c k:Nat) (hk:k<=n) (u:U):(δ S (.slice (some ⟨g,o,none⟩) n c) (some (.int .i64 (k:Nat))) none none).run Z u=.ok (.slice (some (iB g o c k sz)) (n - k) (c - k)) u:=by
 have h2:Tryz.prog.underlying S=some (.slice (Tryz.prog.elem S)):=by rw [R.elem];exact R.st
 rw [run_sliceAt_slice u S _ _ _ _ h2,run_slice_l u S _ n c h2 .i64 (k:Nat) (by omega) (by omega),R.elem,R.so u];simp only [sliced,z4,x1,Γ,jX,iB];split <;> rfl
theorem aMH (R:RT S t sz bytes zv) (g o n c l h:Nat) (hl:l<=h) (hh:h<=c) (u:U):(δ S (.slice (some ⟨g,o,none⟩) n c) (some (.int .i64 (l:Nat))) (some (.int .i64 (h:Nat))) none).run Z u=.ok (.slice (some (iB g o c l sz)) (h - l) (c - l)) u:=by
 have h2:Tryz.prog.underlying S=some (.slice (Tryz.prog.elem S)):=by rw [R.elem];exact R.st
 rw [run_sliceAt_slice u S _ _ _ _ h2,run_slice_lh u S _ n c h2 .i64 .i64 (l:Nat) (h:Nat) (by omega) (by omega) (by omega),R.elem,R.so u];simp only [sliced,z4,x1,Γ,jX,iB];split <;> rfl
theorem aIZ (R:RT S t sz bytes zv) (g o n c l h m:Nat) (hl:l<=h) (hh:h<=m) (hm:m<=c) (u:U):(δ S (.slice (some ⟨g,o,none⟩) n c) (some (.int .i64 (l:Nat))) (some (.int .i64 (h:Nat))) (some (.int .i64 (m:Nat)))).run Z u=.ok (.slice (some (iB g o m l sz)) (h - l) (m - l)) u:=by
 have h2:Tryz.prog.underlying S=some (.slice (Tryz.prog.elem S)):=by rw [R.elem];exact R.st
 rw [run_sliceAt_slice u S _ _ _ _ h2,run_slice_lhm u S _ n c h2 .i64 .i64 .i64 (l:Nat) (h:Nat) (m:Nat) (by omega) (by omega) (by omega) (by omega),R.elem,R.so u];simp only [sliced,z4,x1,Γ,jX,iB];split <;> rfl
theorem aCP (R:RT S t sz bytes zv) {w:U} {g n i:Nat} {cur:Array J} (hg:w.heap[g]? =some (.cells cur t (0,0))) (hs:cur.size=n * sz) (hi:i < n) (h1:∀u ∈ cur.toList,u.oneCell'=η):
  ∃w1 w2,(z8 #[S,S] S #[.slice (some ⟨g,0,none⟩) i n,.slice (some (iB g 0 n (i+1) sz)) (n - (i+1)) (n - (i+1))]).run Z w=.ok (.slice (some ⟨g,0,none⟩) (n - 1) n) w1/\
   (∀ty,(Builtin.clear_ #[S] ty #[.slice (some (iB g 0 n (n - 1) sz)) 1 1]).run Z w1=.ok (.tuple #[]) w2)/\
   (∃cur',w2.heap[g]? =some (.cells cur' t (0,0))/\cur'.size=n * sz/\cur'.toList.take ((n - 1) * sz)=cur.toList.take (i * sz)++cur.toList.drop ((i+1) * sz))/\w2.heap.size=w.heap.size/\w.grownBy w2 (some g):=by
 obtain⟨ti,hti,_,hsz,_⟩:=R.size;have hp:=R.pos;have e1:(i+1) * sz=i * sz+sz:=by rw [z2];omega
 have e2:(i+1) * sz+(n - (i+1)) * sz=n * sz:=by rw [<-z2];congr 1;omega
 have e3:(n - 1) * sz+sz=n * sz:=by
  have:(n - 1) * sz+1 * sz=n * sz:=by rw [<-z2];congr 1;omega
  omega
 have hdl:(cur.toList.drop ((i+1) * sz)).length=(n - (i+1)) * sz:=by rw [θ,z6,hs];omega
 have hr:=run_append_room (P:=Z) w S S t ti R.st hti g i n cur hg (iB g 0 n (i+1) sz) (n - (i+1)) (n - (i+1)) (cur.toList.drop ((i+1) * sz)) (by rw [hdl,hsz])
  (fun j u hj=>by
   have hlt:=(List.getElem?_eq_some_iff.1 hj).1;rw [hdl] at hlt;have hne:¬n=i+1:=fun e=>by rw [<-e,Nat.sub_self,Nat.zero_mul] at hlt;omega
   unfold iB;rw [if_neg hne,jX,z1 w g _ _ _ _ hg];rw [v5] at hj;simpa using hj)
  (fun u hu=>h1 u (v1 hu)) (by omega) (by rw [hdl,hsz,hs];omega)
 rw [hsz,show i+(n - (i+1))=n - 1 by omega] at hr;obtain⟨X,hX⟩:∃X,X=cur.toList.take (i * sz)++cur.toList.drop ((i+1) * sz)++cur.toList.drop (i * sz+(cur.toList.drop ((i+1) * sz)).length):=⟨_,rfl⟩
 rw [<-hX] at hr;have hXl:X.length=n * sz:=by rw [hX,H,H,I,hdl,θ,z6,hs];omega
 have hXt:X.take ((n - 1) * sz)=cur.toList.take (i * sz)++cur.toList.drop ((i+1) * sz):=by rw [hX];refine List.take_left' ?_;rw [H,I,hdl,z6,hs];omega
 obtain⟨zs,hzl,hcl⟩:=aGw R (w.setRow g X.toArray) 0 g ((n - 1) * sz) 1 1 X.toArray t (z0 w g cur X.toArray t (0,0) hg) (by decide) (by rw [κ,hXl];omega);have hca:(n - 1) * sz=0+(n - 1) * sz:=by omega
 obtain⟨Y,hY⟩:∃Y,Y=(X.toArray.toList.take ((n - 1) * sz)++zs++X.toArray.toList.drop ((n - 1) * sz+zs.length)).toArray:=⟨_,rfl⟩
 rw [<-hY] at hcl;refine ⟨w.setRow g X.toArray,(w.setRow g X.toArray).setRow g Y,hr,fun ty=> ?_,⟨Y,z0 _ _ _ _ _ _ (z0 w g cur X.toArray t (0,0) hg), ?_, ?_⟩,by rw [setRow_size,setRow_size], ?_⟩
 ·unfold iB;rw [if_neg (by omega),<-hca];exact hcl
 ·rw [hY,κ,H,H,I,θ,N,hXl,hzl];omega
 ·rw [hY,N,N,y3,List.take_append_of_le_length (by rw [I,hXl];omega),List.take_take,Nat.min_self,hXt]
 ·refine ⟨rfl,rfl,rfl,by rw [setRow_size,setRow_size];exact A _,fun k _ hk=> ?_⟩;rw [μ _ _ _ _ (fun e=>hk (by rw [e])),μ _ _ _ _ (fun e=>hk (by rw [e]))]
end
theorem aGF {w:U} {g n i:Nat} {cur:Array J} (hg:w.heap[g]? =some (.cells cur 57 (0,0))) (hs:cur.size=n * 3) (hi:i < n) (hn:n<=1000000) (h1:∀u ∈ cur.toList,u.oneCell'=η):
  y4 Z 95 #[.slice (some ⟨g,0,none⟩) n n,.int .i64 (i:Nat),.int .i64 ((i+1:Nat):Int)] w fun e w'=>e=.returned (.slice (some ⟨g,0,none⟩) (n - 1) n)/\
   (∃cur',w'.heap[g]? =some (.cells cur' 57 (0,0))/\cur'.size=n * 3/\cur'.toList.take ((n - 1) * 3)=cur.toList.take (i * 3)++cur.toList.drop ((i+1) * 3))/\w'.heap.size=w.heap.size/\w.grownBy w' (some g):=by
 obtain⟨w1,w2,hr,hc,HE⟩:=aCP rtC (w:=w.drew) hg hs hi h1;have HEh:V _:=HE;have hc:=hc 0;have RA:V _:=hr;obtain⟨ca,hca⟩:∃ca,ca=iB g 0 n (i+1) 3:=⟨_,rfl⟩
 obtain⟨cb,hcb⟩:∃cb,cb=iB g 0 n (n - 1) 3:=⟨_,rfl⟩
 have HSF:V (∀u,(δ 27 (.slice (some ⟨g,0,none⟩) n n) (some (.int .i64 ((i+1:Nat):Int))) none none).run Z u=.ok (.slice (some ca) (n - (i+1)) (n - (i+1))) u):=fun u=>by rw [hca];exact iK rtC g 0 n n (i+1) (by omega) u
 have HSL:V (∀u,(δ 27 (.slice (some ⟨g,0,none⟩) (n - 1) n) (some (.int .i64 ((n - 1:Nat):Int))) (some (.int .i64 (n:Nat))) none).run Z u=.ok (.slice (some cb) 1 1) u):=fun u=>by have:=aMH rtC g 0 (n - 1) n (n - 1) n (by omega) (by omega) u;rw [show n - (n - 1)=1 by omega,<-hcb] at this;exact this
 have HSM:V (∀u,∃v,(δ 27 (.slice (some ⟨g,0,none⟩) n n) (some (.int .i64 (i:Nat))) (some (.int .i64 ((i+1:Nat):Int))) (some (.int .i64 (n:Nat)))).run Z u=.ok v u):=fun u=>⟨_,aIZ rtC g 0 n n i (i+1) n (by omega) (by omega) (by omega) u⟩
 obtain⟨vm,RM⟩:=HSM.out w;have RMh:V _:=RM;rw [<-hca] at RA;rw [<-hcb] at hc;obtain⟨m,hm⟩:∃m,m=i+1:=⟨_,rfl⟩
 rw [<-hm] at RA HSF RMh HEh ⊢;have hne:¬(i:Int)=(m:Int):=by omega
 obtain⟨n1,hn1⟩:∃n1,n1=n - 1:=⟨_,rfl⟩
 rw [<-hn1] at RA HSL HEh ⊢;have hmn:m<=n:=by omega
 have hin:i<=n:=by omega
 clear hg hs hr HE RM HSM hca hcb hn1 h1;go_enter Tryz.func95,Tryz.ntmps95;go_wp2_with (refine cB rfl 27 _ _ _ _ rfl _ _ _ _ _ rfl rfl rfl rfl RMh.out ?_;clear RMh)
 refine aO (fun u=>True) (fun j=>O) (by kernel_rfl) ?_;refine dwp 0 ((.slice (some ⟨g,0,none⟩) n n)) ?_;refine dwp 1 ((.int .i64 (i:Int))) ?_;refine dwp 2 ((.slice (some ⟨g,0,none⟩) i n)) ?_ (hy:=(fun u=>dH rfl rfl rfl rfl rfl (qQ rtC g 0 n n i (by omega) u)));refine dwp 3 ((.slice (some ⟨g,0,none⟩) n n)) ?_;refine dwp 4 ((.int .i64 (m:Int))) ?_;refine dwp 5 ((.slice (some ca) (n - m) (n - m))) ?_ (hy:=(fun u=>dH rfl rfl rfl rfl rfl (HSF.out u)));refine aH (i:=6) (by kernel_rfl) rfl ?_;intro K' hK';rw [if_pos (by rfl)];refine dI rfl rfl rfl RA.out ?_;refine hK' _ _ (.inr id) ?_;clear hK';try simp only [Ψ,B,β,γ]
 refine dwp 7 ((.slice (some ⟨g,0,none⟩) n1 n)) ?_;refine aM (by kernel_rfl) ?_ _;go_wp2_with (refine cB rfl 27 _ _ _ _ rfl _ _ _ _ _ rfl rfl rfl rfl (HSL.out _) ?_)
 go_ret;exact⟨rfl,HEh.out.1,HEh.out.2.1,⟨HEh.out.2.2.os,HEh.out.2.2.tape,HEh.out.2.2.output,HEh.out.2.2.size,HEh.out.2.2.block⟩⟩
theorem aAx {w:U} {g n i:Nat} {cur:Array J} (hg:w.heap[g]? =some (.cells cur 78 (0,0))) (hs:cur.size=n * 2) (hi:i < n) (hn:n<=1000000) (h1:∀u ∈ cur.toList,u.oneCell'=η):
  y4 Z 79 #[.slice (some ⟨g,0,none⟩) n n,.int .i64 (i:Nat),.int .i64 ((i+1:Nat):Int)] w fun e w'=>e=.returned (.slice (some ⟨g,0,none⟩) (n - 1) n)/\
   (∃cur',w'.heap[g]? =some (.cells cur' 78 (0,0))/\cur'.size=n * 2/\cur'.toList.take ((n - 1) * 2)=cur.toList.take (i * 2)++cur.toList.drop ((i+1) * 2))/\w'.heap.size=w.heap.size/\w.grownBy w' (some g):=by
 obtain⟨w1,w2,hr,hc,HE⟩:=aCP rtS (w:=w.drew) hg hs hi h1;have HEh:V _:=HE;have hc:=hc 0;have RA:V _:=hr;obtain⟨ca,hca⟩:∃ca,ca=iB g 0 n (i+1) 2:=⟨_,rfl⟩
 obtain⟨cb,hcb⟩:∃cb,cb=iB g 0 n (n - 1) 2:=⟨_,rfl⟩
 have HSF:V (∀u,(δ 22 (.slice (some ⟨g,0,none⟩) n n) (some (.int .i64 ((i+1:Nat):Int))) none none).run Z u=.ok (.slice (some ca) (n - (i+1)) (n - (i+1))) u):=fun u=>by rw [hca];exact iK rtS g 0 n n (i+1) (by omega) u
 have HSL:V (∀u,(δ 22 (.slice (some ⟨g,0,none⟩) (n - 1) n) (some (.int .i64 ((n - 1:Nat):Int))) (some (.int .i64 (n:Nat))) none).run Z u=.ok (.slice (some cb) 1 1) u):=fun u=>by have:=aMH rtS g 0 (n - 1) n (n - 1) n (by omega) (by omega) u;rw [show n - (n - 1)=1 by omega,<-hcb] at this;exact this
 have HSM:V (∀u,∃v,(δ 22 (.slice (some ⟨g,0,none⟩) n n) (some (.int .i64 (i:Nat))) (some (.int .i64 ((i+1:Nat):Int))) (some (.int .i64 (n:Nat)))).run Z u=.ok v u):=fun u=>⟨_,aIZ rtS g 0 n n i (i+1) n (by omega) (by omega) (by omega) u⟩
 obtain⟨vm,RM⟩:=HSM.out w;have RMh:V _:=RM;rw [<-hca] at RA;rw [<-hcb] at hc;obtain⟨m,hm⟩:∃m,m=i+1:=⟨_,rfl⟩
 rw [<-hm] at RA HSF RMh HEh ⊢;have hne:¬(i:Int)=(m:Int):=by omega
 obtain⟨n1,hn1⟩:∃n1,n1=n - 1:=⟨_,rfl⟩
 rw [<-hn1] at RA HSL HEh ⊢;have hmn:m<=n:=by omega
 have hin:i<=n:=by omega
 clear hg hs hr HE RM HSM hca hcb hn1 h1;go_enter Tryz.func79,Tryz.ntmps79;go_wp2_with (refine cB rfl 22 _ _ _ _ rfl _ _ _ _ _ rfl rfl rfl rfl RMh.out ?_;clear RMh)
 refine aO (fun u=>True) (fun j=>O) (by kernel_rfl) ?_;refine dwp 0 ((.slice (some ⟨g,0,none⟩) n n)) ?_;refine dwp 1 ((.int .i64 (i:Int))) ?_;refine dwp 2 ((.slice (some ⟨g,0,none⟩) i n)) ?_ (hy:=(fun u=>dH rfl rfl rfl rfl rfl (qQ rtS g 0 n n i (by omega) u)));refine dwp 3 ((.slice (some ⟨g,0,none⟩) n n)) ?_;refine dwp 4 ((.int .i64 (m:Int))) ?_;refine dwp 5 ((.slice (some ca) (n - m) (n - m))) ?_ (hy:=(fun u=>dH rfl rfl rfl rfl rfl (HSF.out u)));refine aH (i:=6) (by kernel_rfl) rfl ?_;intro K' hK';rw [if_pos (by rfl)];refine dI rfl rfl rfl RA.out ?_;refine hK' _ _ (.inr id) ?_;clear hK';try simp only [Ψ,B,β,γ]
 refine dwp 7 ((.slice (some ⟨g,0,none⟩) n1 n)) ?_;refine aM (by kernel_rfl) ?_ _;go_wp2_with (refine cB rfl 22 _ _ _ _ rfl _ _ _ _ _ rfl rfl rfl rfl (HSL.out _) ?_)
 go_ret;exact⟨rfl,HEh.out.1,HEh.out.2.1,⟨HEh.out.2.2.os,HEh.out.2.2.tape,HEh.out.2.2.output,HEh.out.2.2.size,HEh.out.2.2.block⟩⟩
section
variable {S t:Ω} {sz bytes:Nat} {zv:J}
theorem bS {w:U} {base g n:Nat} {xs:List J} (hg:w.heap[g]? =some (.cells xs.toArray t (0,0))) (hl:xs.length=n * sz) (hb:base<=g) (hn:n<=z9):w.ownsRow base t sz (newS g n) n xs:=
 ⟨hl,.inr ⟨g,n,xs.toArray,rfl,hb,hg,A _,hn,by rw [κ];exact hl,by rw [N];exact χ (by omega)⟩⟩
theorem aFu (R:RT S t sz bytes zv) {w:U} {base g h n:Nat} {xs es:List J} {z:Nat × Nat} (hg:w.heap[g]? =some (.cells xs.toArray t (0,0))) (hl:xs.length=n * sz) (hb:base<=g) (hn:n<=1000) (hby:bytes<=100) (hh:w.heap[h]? =some (.cells es.toArray t z)) (hel:es.length=sz) (h1:∀u ∈ es,u.oneCell'=η):
  ∃v' w',(z8 #[S,S] S #[newS g n,.slice (some ⟨h,0,none⟩) 1 1]).run Z w=.ok v' w'/\w'.ownsRow base t sz v' (n+1) (xs++es)/\w.grownBy w' (some g):=by
 obtain⟨ti,hti,hz,hsz,hbb⟩:=R.size;obtain⟨v',w',r1,o1,g1,_,_⟩:=run_append_own_at w base S S t ti zv sz bytes R.st hti hz hsz hbb R.zs R.pos (newS g n) n xs (bS hg hl hb (bG hn)) ⟨h,0,none⟩ 1 1 es (by omega)
  (fun j u hj=>by rw [jX,z1 w h _ _ _ _ hh,π,<-hj];simp) h1 (by unfold z9;omega) (by have:(n+1) * bytes<=1001 * 100:=Nat.mul_le_mul (by omega) hby;omega) (x4 hb (Nat.le_of_lt (aF hg)))
 exact⟨v',w',r1,o1,g1⟩
theorem aFv (R:RT S t sz bytes zv) (h3:Tryz.prog.underlying 3=some (.int .i64)) {w:U} {base g h n i:Nat} {xs es:List J} {z:Nat × Nat} (hg:w.heap[g]? =some (.cells xs.toArray t (0,0))) (hl:xs.length=n * sz) (hb:base<=g) (hn:n<=1000) (hby:bytes<=100) (hi:i < n) (hh:w.heap[h]? =some (.cells es.toArray t z)) (hel:es.length=sz) (h1:∀u ∈ es,u.oneCell'=η) (h1x:∀u ∈ xs,u.oneCell'=η):
  ∃(G:Nat) (W1 W2 W3:U),n+1<=G/\G<=9223372036854775807/\
   (∀ty,(z8 #[S,3] ty #[.slice (some ⟨g,0,none⟩) i n,.int .i64 ((n+1 - i:Nat):Int)]).run Z w=.ok (.slice (some ⟨w.heap.size,0,none⟩) (n+1) G) W1)/\
   (∀ty dc,(y5 #[S,S] ty #[.slice (some ⟨w.heap.size,i * sz,none⟩) (n+1 - i) dc,.slice (some ⟨h,0,none⟩) 1 1]).run Z W1=.ok (goInt 1) W2)/\
   (∀ty dc sc,(y5 #[S,S] ty #[.slice (some ⟨w.heap.size,(i+1) * sz,none⟩) (n - i) dc,.slice (some ⟨g,i * sz,none⟩) (n - i) sc]).run Z W2.drew=.ok (goInt (n - i:Nat)) W3)/\
   W3.ownsRow base t sz (.slice (some ⟨w.heap.size,0,none⟩) (n+1) G) (n+1) (xs.take (i * sz)++es++xs.drop (i * sz))/\w.grownBy W3 (some g):=by
 obtain⟨ti,hti,hz,hsz,hbb⟩:=R.size;have hp:=R.pos;have hgl:=aF hg;have hhl:=aF hh;have hbig:(n+1) * bytes<=140737488355328:=by have:(n+1) * bytes<=1001 * 100:=Nat.mul_le_mul (by omega) hby;omega
 have e1:(i+1) * sz=i * sz+sz:=by rw [z2];omega
 have e2:i * sz+(n - i) * sz=n * sz:=by rw [<-z2];congr 1;omega
 have e3:(n+1) * sz=n * sz+sz:=by rw [z2];omega
 have e4:(n+1 - i) * sz+i * sz=(n+1) * sz:=by rw [<-z2];congr 1;omega
 have hold:(Builtin.firstCells ti.size i (.slice (some ⟨g,0,none⟩) i n)).run Z w.drew=.ok (xs.take (i * sz)).toArray w.drew:=by
  refine run_firstCells_some w.drew ti.size i ⟨g,0,none⟩ i n (xs.take (i * sz)) (by rw [hsz,I];omega) fun j v hj=> ?_;rw [jX,z1 w.drew g _ _ _ _ hg,π];rw [List.getElem?_take] at hj;split at hj
  ·simpa using hj
  ·cases hj
 have hbq:(n+1 - i) * ti.bytes<=281474976710656:=by rw [hbb];have:(n+1 - i) * bytes<=(n+1) * bytes:=v0 _ (by omega);omega
 have hra:∀ty,_:=fun ty=>Lib.run_append_grow_zeros (P:=Z) w S 3 ty t ti zv .i64 .i64 R.st h3 hti hz (some ⟨g,0,none⟩) i n (xs.take (i * sz)) hold (n+1 - i) (by omega) (by omega) (by omega) (by omega) hbq (by rw [hbb,show i+(n+1 - i)=n+1 by omega];exact growslice_fits (by omega) hbig);rw [show i+(n+1 - i)=n+1 by omega] at hra;obtain⟨G,hG⟩:∃G,G=grownCap w (n+1) n t:=⟨_,rfl⟩
 rw [<-hG] at hra;have hGn:n+1<=G:=by rw [hG];exact grownCap_ge w _ _ _
 have hGm:G<=z9:=by rw [hG];exact grownCap_le_maxLen w (n+1) n t (by unfold z9;omega)
 obtain⟨ROW,hROW⟩:∃ROW:Array J,ROW=(xs.take (i * sz)).toArray++Builtin.zeroCells zv.cells (n+1 - i)++Builtin.zeroCells zv.cells (G - (n+1)):=⟨_,rfl⟩
 rw [<-hROW] at hra;have hRl:ROW.size=G * sz:=by
  rw [hROW,Array.size_append,Array.size_append,size_zeroCells,size_zeroCells,R.zs,κ,I];have e5:(G - (n+1)) * sz+(n+1) * sz=G * sz:=by rw [<-z2];congr 1;omega
  omega
 have hRt:ROW.toList.take (i * sz)=xs.take (i * sz):=by rw [hROW,Array.toList_append,Array.toList_append,y3,List.take_append_of_le_length (by rw [N,I];omega),N,List.take_take,Nat.min_self]
 have hGs:(n+1) * sz<=G * sz:=v0 _ hGn;obtain⟨W1,hW1⟩:∃W1,W1=w.drew.alloc (.cells ROW t):=⟨_,rfl⟩
 rw [<-hW1] at hra;have g1:W1.heap[w.heap.size]? =some (.cells ROW t (0,0)):=by rw [hW1];exact ο w.drew _
 have aOh:∀k,k < w.heap.size->W1.heap[k]? =w.heap[k]? :=fun k hk=>by rw [hW1];exact x7 w.drew _ k hk
 obtain⟨Y1,hY1⟩:∃Y1:List J,Y1=ROW.toList.take (i * sz)++es++ROW.toList.drop (i * sz+es.length):=⟨_,rfl⟩
 have aI0:Y1.length=G * sz:=by rw [hY1,H,H,I,θ,z6,hRl];omega
 have hc1:∀ty dc,(y5 #[S,S] ty #[.slice (some ⟨w.heap.size,i * sz,none⟩) (n+1 - i) dc,.slice (some ⟨h,0,none⟩) 1 1]).run Z W1=.ok (goInt 1) (W1.setRow w.heap.size Y1.toArray):=fun ty dc=>by have hmin:Nat.min 1 (n+1 - i)=1:=Nat.min_eq_left (by omega);have:=nW R W1 ty w.heap.size (i * sz) (n+1 - i) dc ⟨h,0,none⟩ 1 1 ROW t es g1 (by rw [hmin];omega) (fun j v hj=>by rw [jX,z1 W1 h _ _ _ _ ((aOh h hhl).trans hh),π,<-hj];simp) (by rw [hRl];omega) h1;rw [hmin,<-hY1] at this;exact this
 have g2:(W1.setRow w.heap.size Y1.toArray).drew.heap[w.heap.size]? =some (.cells Y1.toArray t (0,0)):=z0 _ _ _ _ _ _ g1;have aOi:∀k,k < w.heap.size->(W1.setRow w.heap.size Y1.toArray).drew.heap[k]? =w.heap[k]? :=fun k hk=>(μ _ _ _ _ (by omega)).trans (aOh k hk);obtain⟨Y2,hY2⟩:∃Y2:List J,Y2=Y1.toArray.toList.take ((i+1) * sz)++xs.drop (i * sz)++Y1.toArray.toList.drop ((i+1) * sz+(xs.drop (i * sz)).length):=⟨_,rfl⟩
 have hdl:(xs.drop (i * sz)).length=(n - i) * sz:=by rw [θ,hl];omega
 have aPt:Y2.length=G * sz:=by rw [hY2,H,H,I,hdl,θ,N,aI0];omega
 have hc2:∀ty dc sc,(y5 #[S,S] ty #[.slice (some ⟨w.heap.size,(i+1) * sz,none⟩) (n - i) dc,.slice (some ⟨g,i * sz,none⟩) (n - i) sc]).run Z (W1.setRow w.heap.size Y1.toArray).drew=.ok (goInt (n - i:Nat)) ((W1.setRow w.heap.size Y1.toArray).drew.setRow w.heap.size Y2.toArray):=fun ty dc sc=>by
  have hmin:Nat.min (n - i) (n - i)=n - i:=Nat.min_self _;have:=nW R (W1.setRow w.heap.size Y1.toArray).drew ty w.heap.size ((i+1) * sz) (n - i) dc ⟨g,i * sz,none⟩ (n - i) sc Y1.toArray t (xs.drop (i * sz)) g2 (by rw [hmin,hdl]) (fun j v hj=>by
   rw [jX,z1 _ g _ _ _ _ ((aOi g hgl).trans hg)];rw [v5] at hj;simpa using hj) (by rw [κ,aI0,hdl];omega) (fun u hu=>h1x u (v1 hu))
  rw [hmin,<-hY2] at this;exact this
 refine ⟨G,W1,_,_,hGn,by unfold z9 at hGm;omega,hra,hc1,hc2,⟨?_,.inr ⟨w.heap.size,G,Y2.toArray,rfl,by omega,z0 _ _ _ _ _ _ g2,hGn,hGm,by rw [κ,aPt], ?_⟩⟩,⟨by rw [hW1];rfl,by rw [hW1];rfl,by rw [hW1];rfl, ?_,fun k hk hne=> ?_⟩⟩
 ·rw [H,H,I,hdl,hel];omega
 ·have hA:Y1.take ((i+1) * sz)=xs.take (i * sz)++es:=by rw [hY1,hRt];refine List.take_left' ?_;rw [H,I];omega
  rw [N,hY2,N,hA];refine List.take_left' ?_;rw [H,H,I,hdl];omega
 ·rw [setRow_size];show _<=(W1.setRow w.heap.size Y1.toArray).heap.size;rw [setRow_size,hW1];show _<=(w.drew.alloc _).heap.size;simp
 ·rw [μ _ _ _ _ (by omega)];exact aOi k hk
end
theorem aGG {w:U} {base g h n i:Nat} {xs es:List J} {z:Nat × Nat} (hg:w.heap[g]? =some (.cells xs.toArray 57 (0,0))) (hl:xs.length=n * 3) (hb:base<=g) (hn:n<=1000) (hi:i<=n) (hh:w.heap[h]? =some (.cells es.toArray 57 z)) (hel:es.length=3) (h1:∀u ∈ es,u.oneCell'=η) (h1x:∀u ∈ xs,u.oneCell'=η):
  y4 Z 96 #[.slice (some ⟨g,0,none⟩) n n,.int .i64 (i:Nat),.slice (some ⟨h,0,none⟩) 1 1] w fun e w'=>(∃v',e=.returned v'/\w'.ownsRow base 57 3 v' (n+1) (xs.take (i * 3)++es++xs.drop (i * 3)))/\w.grownBy w' (some g):=by
 have RS1:V _:=iK rtC g 0 n n i hi w;obtain⟨ca,hca⟩:∃ca,ca=iB g 0 n i 3:=⟨_,rfl⟩
 rw [<-hca] at RS1;by_cases he:i=n
 ·subst he;obtain⟨v',w',RA,HO,HG⟩:=aFu rtC hg hl hb hn (by decide) hh hel h1;rw [show xs.take (i * 3)=xs from χ (by omega),show xs.drop (i * 3)=[] from z3 (by omega),y9];have RAh:V _:=RA;have HOh:V _:=HO;have HGh:V _:=HG;clear hg hl hh hel h1 h1x RA HO HG hca;go_enter Tryz.func96,Tryz.ntmps96;go_wp2_with (first|(refine cB rfl 27 _ _ _ _ rfl _ _ _ _ _ rfl rfl rfl rfl RS1.out ?_;clear RS1)|(at_builtin;refine eF rfl _ _ 27 27 rfl _ _ _ _ rfl rfl RAh.out ?_;clear RAh))
  go_ret;exact⟨⟨_,rfl,HOh.out⟩,HGh.out⟩
 ·have hlt:i < n:=by omega
  obtain⟨G,W1,W2,W3,hGn,hG63,RA,RC1,RC2,HO,HG⟩:=aFv rtC v7 hg hl hb hn (by decide) hlt hh hel h1 h1x;have RA:=RA 27;have HOh:V _:=HO;have HGh:V _:=HG;obtain⟨gN,hgN⟩:∃gN,gN=w.heap.size:=⟨_,rfl⟩
  rw [<-hgN] at RA RC1 RC2 HOh;obtain⟨n1,hn1⟩:∃n1,n1=n+1:=⟨_,rfl⟩
  obtain⟨i1,hi1⟩:∃i1,i1=i+1:=⟨_,rfl⟩
  have HS2:V (∀u,(δ 27 (.slice (some ⟨gN,0,none⟩) n1 G) (some (.int .i64 (i1:Nat))) none none).run Z u=.ok (.slice (some ⟨gN,i1 * 3,none⟩) (n - i) (G - i1)) u):=fun u=>by have:=iK rtC gN 0 n1 G i1 (by omega) u;unfold iB at this;rw [if_neg (by omega),π,show n1 - i1=n - i by omega] at this;exact this
  have HS3:V (∀u,(δ 27 (.slice (some ⟨g,0,none⟩) n n) (some (.int .i64 (i:Nat))) none none).run Z u=.ok (.slice (some ⟨g,i * 3,none⟩) (n - i) (n - i)) u):=fun u=>by have:=iK rtC g 0 n n i (by omega) u;unfold iB at this;rw [if_neg (by omega),π] at this;exact this
  have HS4:V (∀u,(δ 27 (.slice (some ⟨gN,0,none⟩) n1 G) (some (.int .i64 (i:Nat))) none none).run Z u=.ok (.slice (some ⟨gN,i * 3,none⟩) (n1 - i) (G - i)) u):=fun u=>by have:=iK rtC gN 0 n1 G i (by omega) u;unfold iB at this;rw [if_neg (by omega),π] at this;exact this
  have RP:V _:=qQ rtC g 0 n n i hi w;have e1:(n:Int)+1=(n1:Int):=by omega
  have e2:IntKind.i64.wrap (n1:Int)=(n1:Int):=by rw [ξ];omega
  have e3:(n1:Int) - (i:Int)=((n1 - i:Nat):Int):=by omega
  have e4:IntKind.i64.wrap ((n1 - i:Nat):Int)=((n1 - i:Nat):Int):=by rw [ξ];omega
  have e5:(i:Int)+1=(i1:Int):=by omega
  have e6:IntKind.i64.wrap (i1:Int)=(i1:Int):=by rw [ξ];omega
  have e7:(n:Int) < (n1:Int):=by omega
  have e8:¬(i:Int)=(n:Int):=by omega
  rw [<-hn1] at RA RC1 HOh hGn ⊢;rw [<-hi1] at RC2;obtain⟨q,hq⟩:∃q,q=n1 - i:=⟨_,rfl⟩
  rw [<-hq] at RA RC1 e3 e4 HS4;have RAh:V _:=RA;have aPu:=RC1 3 (G - i);have RC2:V _:=RC2;clear hg hl hh hel h1 h1x RA RC1 HO HG hca he hn1 hi1 hq hgN;go_enter Tryz.func96,Tryz.ntmps96;go_wp2_with (first|(refine cB rfl 27 _ _ _ _ rfl _ _ _ _ _ rfl rfl rfl rfl RS1.out ?_;clear RS1)|(refine cB rfl 27 _ _ _ _ rfl _ _ _ _ _ rfl rfl rfl rfl RP.out ?_;clear RP)|(at_builtin;refine eF rfl _ _ 27 3 rfl _ _ _ _ rfl rfl RAh.out ?_;clear RAh)|(refine cB rfl 27 _ _ _ _ rfl _ _ _ _ _ rfl rfl rfl rfl (HS4.out _) ?_;clear HS4))
  refine aO (fun u=>True) (fun j=>O) (by kernel_rfl) ?_;refine dwp 0 ((.slice (some ⟨gN,0,none⟩) n1 G)) ?_;refine dwp 1 ((.int .i64 (i:Int))) ?_;refine dwp 2 ((.int .i64 1)) ?_;refine dwp 3 ((.int .i64 (i1:Int))) ?_;refine dwp 4 ((.slice (some ⟨gN,i1 * 3,none⟩) (n - i) (G - i1))) ?_ (hy:=(fun u=>dH rfl rfl rfl rfl rfl (HS2.out u)));refine dwp 5 ((.slice (some ⟨g,0,none⟩) n n)) ?_;refine dwp 6 ((.int .i64 (i:Int))) ?_;refine dwp 7 ((.slice (some ⟨g,i * 3,none⟩) (n - i) (n - i))) ?_ (hy:=(fun u=>dH rfl rfl rfl rfl rfl (HS3.out u)));refine aH (i:=8) (by kernel_rfl) rfl ?_;intro K' hK';rw [if_pos (by rfl)];refine aBj rfl rfl rfl (RC2.out _ _ _) ?_;refine hK' _ _ (.inr id) ?_;clear hK';try simp only [Ψ,B,β,γ]
  refine aM (by kernel_rfl) ?_ _;go_wp2;go_ret;exact⟨⟨_,rfl,HOh.out⟩,HGh.out⟩
theorem aGH {w:U} {base g h n i:Nat} {xs es:List J} {z:Nat × Nat} (hg:w.heap[g]? =some (.cells xs.toArray 78 (0,0))) (hl:xs.length=n * 2) (hb:base<=g) (hn:n<=1000) (hi:i<=n) (hh:w.heap[h]? =some (.cells es.toArray 78 z)) (hel:es.length=2) (h1:∀u ∈ es,u.oneCell'=η) (h1x:∀u ∈ xs,u.oneCell'=η):
  y4 Z 78 #[.slice (some ⟨g,0,none⟩) n n,.int .i64 (i:Nat),.slice (some ⟨h,0,none⟩) 1 1] w fun e w'=>(∃v',e=.returned v'/\w'.ownsRow base 78 2 v' (n+1) (xs.take (i * 2)++es++xs.drop (i * 2)))/\w.grownBy w' (some g):=by
 have RS1:V _:=iK rtS g 0 n n i hi w;obtain⟨ca,hca⟩:∃ca,ca=iB g 0 n i 2:=⟨_,rfl⟩
 rw [<-hca] at RS1;by_cases he:i=n
 ·subst he;obtain⟨v',w',RA,HO,HG⟩:=aFu rtS hg hl hb hn (by decide) hh hel h1;rw [show xs.take (i * 2)=xs from χ (by omega),show xs.drop (i * 2)=[] from z3 (by omega),y9];have RAh:V _:=RA;have HOh:V _:=HO;have HGh:V _:=HG;clear hg hl hh hel h1 h1x RA HO HG hca;go_enter Tryz.func78,Tryz.ntmps78;go_wp2_with (first|(refine cB rfl 22 _ _ _ _ rfl _ _ _ _ _ rfl rfl rfl rfl RS1.out ?_;clear RS1)|(at_builtin;refine eF rfl _ _ 22 22 rfl _ _ _ _ rfl rfl RAh.out ?_;clear RAh))
  go_ret;exact⟨⟨_,rfl,HOh.out⟩,HGh.out⟩
 ·have hlt:i < n:=by omega
  obtain⟨G,W1,W2,W3,hGn,hG63,RA,RC1,RC2,HO,HG⟩:=aFv rtS v7 hg hl hb hn (by decide) hlt hh hel h1 h1x;have RA:=RA 22;have HOh:V _:=HO;have HGh:V _:=HG;obtain⟨gN,hgN⟩:∃gN,gN=w.heap.size:=⟨_,rfl⟩
  rw [<-hgN] at RA RC1 RC2 HOh;obtain⟨n1,hn1⟩:∃n1,n1=n+1:=⟨_,rfl⟩
  obtain⟨i1,hi1⟩:∃i1,i1=i+1:=⟨_,rfl⟩
  have HS2:V (∀u,(δ 22 (.slice (some ⟨gN,0,none⟩) n1 G) (some (.int .i64 (i1:Nat))) none none).run Z u=.ok (.slice (some ⟨gN,i1 * 2,none⟩) (n - i) (G - i1)) u):=fun u=>by have:=iK rtS gN 0 n1 G i1 (by omega) u;unfold iB at this;rw [if_neg (by omega),π,show n1 - i1=n - i by omega] at this;exact this
  have HS3:V (∀u,(δ 22 (.slice (some ⟨g,0,none⟩) n n) (some (.int .i64 (i:Nat))) none none).run Z u=.ok (.slice (some ⟨g,i * 2,none⟩) (n - i) (n - i)) u):=fun u=>by have:=iK rtS g 0 n n i (by omega) u;unfold iB at this;rw [if_neg (by omega),π] at this;exact this
  have HS4:V (∀u,(δ 22 (.slice (some ⟨gN,0,none⟩) n1 G) (some (.int .i64 (i:Nat))) none none).run Z u=.ok (.slice (some ⟨gN,i * 2,none⟩) (n1 - i) (G - i)) u):=fun u=>by have:=iK rtS gN 0 n1 G i (by omega) u;unfold iB at this;rw [if_neg (by omega),π] at this;exact this
  have RP:V _:=qQ rtS g 0 n n i hi w;have e1:(n:Int)+1=(n1:Int):=by omega
  have e2:IntKind.i64.wrap (n1:Int)=(n1:Int):=by rw [ξ];omega
  have e3:(n1:Int) - (i:Int)=((n1 - i:Nat):Int):=by omega
  have e4:IntKind.i64.wrap ((n1 - i:Nat):Int)=((n1 - i:Nat):Int):=by rw [ξ];omega
  have e5:(i:Int)+1=(i1:Int):=by omega
  have e6:IntKind.i64.wrap (i1:Int)=(i1:Int):=by rw [ξ];omega
  have e7:(n:Int) < (n1:Int):=by omega
  have e8:¬(i:Int)=(n:Int):=by omega
  rw [<-hn1] at RA RC1 HOh hGn ⊢;rw [<-hi1] at RC2;obtain⟨q,hq⟩:∃q,q=n1 - i:=⟨_,rfl⟩
  rw [<-hq] at RA RC1 e3 e4 HS4;have RAh:V _:=RA;have aPu:=RC1 3 (G - i);have RC2:V _:=RC2;clear hg hl hh hel h1 h1x RA RC1 HO HG hca he hn1 hi1 hq hgN;go_enter Tryz.func78,Tryz.ntmps78;go_wp2_with (first|(refine cB rfl 22 _ _ _ _ rfl _ _ _ _ _ rfl rfl rfl rfl RS1.out ?_;clear RS1)|(refine cB rfl 22 _ _ _ _ rfl _ _ _ _ _ rfl rfl rfl rfl RP.out ?_;clear RP)|(at_builtin;refine eF rfl _ _ 22 3 rfl _ _ _ _ rfl rfl RAh.out ?_;clear RAh)|(refine cB rfl 22 _ _ _ _ rfl _ _ _ _ _ rfl rfl rfl rfl (HS4.out _) ?_;clear HS4))
  refine aO (fun u=>True) (fun j=>O) (by kernel_rfl) ?_;refine dwp 0 ((.slice (some ⟨gN,0,none⟩) n1 G)) ?_;refine dwp 1 ((.int .i64 (i:Int))) ?_;refine dwp 2 ((.int .i64 1)) ?_;refine dwp 3 ((.int .i64 (i1:Int))) ?_;refine dwp 4 ((.slice (some ⟨gN,i1 * 2,none⟩) (n - i) (G - i1))) ?_ (hy:=(fun u=>dH rfl rfl rfl rfl rfl (HS2.out u)));refine dwp 5 ((.slice (some ⟨g,0,none⟩) n n)) ?_;refine dwp 6 ((.int .i64 (i:Int))) ?_;refine dwp 7 ((.slice (some ⟨g,i * 2,none⟩) (n - i) (n - i))) ?_ (hy:=(fun u=>dH rfl rfl rfl rfl rfl (HS3.out u)));refine aH (i:=8) (by kernel_rfl) rfl ?_;intro K' hK';rw [if_pos (by rfl)];refine aBj rfl rfl rfl (RC2.out _ _ _) ?_;refine hK' _ _ (.inr id) ?_;clear hK';try simp only [Ψ,B,β,γ]
  refine aM (by kernel_rfl) ?_ _;go_wp2;go_ret;exact⟨⟨_,rfl,HOh.out⟩,HGh.out⟩
end Go.Proofs.YtfedoljlipfhdaaGreatDoor.Sh
namespace Go.Proofs.YtfedoljlipfhdaaGreatDoor.Sh.Cm
open Go.RowKit
abbrev ncs (x:aN):Array J:=#[.int .i64 x.row,.int .i64 x.col,.string x.text]
abbrev ncl (x:aN):List J:=[.int .i64 x.row,.int .i64 x.col,.string x.text]
abbrev nmV (x:aN):J:=.agg (ncs x)
abbrev nmO (x:aN):Obj:=.cells (ncs x) 57
abbrev nm0:aN:=⟨0,0,⟨#[]⟩⟩
theorem aMI:(Tryz.prog.info? 57).map (fun i=>(i.zero,i.size,i.bytes))=some (some (nmV nm0),3,32):=by kernel_rfl
theorem sU {u:U} {g:Nat} {t:Ω} {a b c:J} {z:Nat × Nat} (h:u.heap[g]? =some (.cells #[a,b,c] t z)):u.cell? ⟨g,0,none⟩=some a/\u.cell? ⟨g,1,none⟩=some b/\u.cell? ⟨g,2,none⟩=some c:=by simp [World.cell?,h]
theorem uP {w w':U} (hb:ε w.heap.size w w') {a:Ξ} {v:J} (h:w.cell? a=some v):w'.cell? a=some v:=
 (τ (hb.block _ (φ w a h))).trans h
def xY (base:Nat) (w:U) (v:J) (L:List aN):Prop:=w.ownsRow base 57 3 v L.length (L.flatMap ncl)
theorem aOj:∃i z,Tryz.prog.info? 57=some i/\i.zero=some z/\i.size=3/\i.bytes=32/\z.cells.size=3/\z=nmV nm0:=by
 cases h:Tryz.prog.info? 57 with
 | none=>have:=aMI;rw [h] at this;cases this
 | some i=>
  have:=aMI;rw [h] at this;simp only [Γ,Option.some.injEq,Prod.mk.injEq] at this;exact⟨i,_,rfl,this.1,this.2.1,this.2.2,rfl,rfl⟩
theorem aEg (w:U) (x:aN):(x6 27 1 #[(0,nmV x)]).run Z w=.ok (.slice (some ⟨w.heap.size,0,none⟩) 1 1) (w.alloc (nmO x)):=by kernel_rfl
theorem aGI {base:Nat} {w:U} {v:J} {L:List aN} {y:aN} {b:Nat} (h:xY base w v L) (hg:w.heap[b]? =some (nmO y)) (hn:L.length+1<=4398046511104) (hbase:base<=w.heap.size):
  ∃v' w',V ((z8 #[27,27] 27 #[v,.slice (some ⟨b,0,none⟩) 1 1]).run Z w=.ok v' w')/\xY base w' v' (L++ [y])/\w.grownBy w' v.ownBlock/\ε base w w'/\(v'.ownBlock=v.ownBlock\/v'.ownBlock=some w.heap.size):=by
 obtain⟨i,z,hi,hz,hz1,hz2,hz3,_⟩:=aOj;have hrow:=fun k hk=>(World.ownsRow.lt h k hk).1;obtain⟨v',w',r1,o1,g1,_,l1⟩:=run_append_own_at w base 27 27 57 i z 3 32 Tryz.underlying27 hi hz hz1 hz2 hz3 (by decide) v _ _ h ⟨b,0,none⟩ 1 1 (ncl y) rfl (fun j u hj=>by
  rw [Addr.add_mid,z1 w b (0+j) _ _ _ hg,π,<-hj];simp) (fun u hu=>by
  simp only [ncl,v2,x5,or_false] at hu;rcases hu with rfl | rfl | rfl <;> rfl) (by simp only [z9];omega) (by omega) hbase
 refine ⟨v',w',r1, ?_,g1,(ψ base w).grown g1 hbase hrow,l1⟩;unfold xY;rw [H,z5];simpa using o1
end Go.Proofs.YtfedoljlipfhdaaGreatDoor.Sh.Cm
namespace Go.Proofs.YtfedoljlipfhdaaGreatDoor.Sh
open Go.RowKit
def ltB (a b:aN):Bool:=decide (a.row < b.row\/a.row=b.row/\a.col < b.col)
theorem oW {a b:aN}:ltB a b=η↔Lt a b:=by unfold ltB Lt;simp
def kT (L:List aN) (t:aN):List aN:=L.filter (fun d=>ltB d t)++((if t.text.toList==[] then [] else [t])++L.filter (fun d=>ltB t d))
theorem xZ {L:List aN} {t:aN} {i:Nat} {b:Bool} (hR:qO L) (h:BsR L t i b):
  (∀d ∈ L.take i,Lt d t)/\(∀d ∈ L.drop (i+1),Lt t d)/\(∀hi:i < L.length,(b=η->L[i].row=t.row/\L[i].col=t.col)/\(b=O->Lt t L[i])):=by
 obtain⟨h1,h2,h3,h4⟩:=h;unfold qO at hR;rw [List.pairwise_iff_getElem] at hR;refine ⟨fun d hd=> ?_,fun d hd=> ?_,fun hi=>⟨fun hb=> ?_,fun hb=> ?_⟩⟩
 ·obtain ⟨j,hj,rfl⟩:=List.mem_iff_getElem.1 hd;rw [I] at hj;rw [List.getElem_take];have hlt:=wE.1 (h2 (by omega) (by omega));by_cases e:j=i - 1
  ·subst e;exact hlt
  ·exact (hR j (i - 1) (by omega) (by omega) (by omega)).trans hlt
 ·obtain ⟨j,hj,rfl⟩:=List.mem_iff_getElem.1 hd;rw [θ] at hj;rw [List.getElem_drop];have hge:=h3 (by omega);have hlt:=hR i (i+1+j) (by omega) (by omega) (by omega);rcases oV L[i] t with ⟨e,_⟩ | ⟨_,e1,e2⟩ | ⟨_,e⟩
  ·omega
  ·unfold Lt at *;omega
  ·exact e.trans hlt
 ·obtain ⟨_,e⟩:=h4.1 hb;exact aIY.1 e
 ·rcases oV L[i] t with ⟨e,_⟩ | ⟨e,_⟩ | ⟨_,e⟩
  ·have:=h3 hi;omega
  ·have:=h4.2 ⟨hi,e⟩;rw [hb] at this;cases this
  ·exact e
theorem filter_all {α:Type} {p:α->Bool} {L:List α} (h:∀d ∈ L,p d=η):L.filter p=L:=List.filter_eq_self.2 h
theorem kP {α:Type} {p:α->Bool} {L:List α} (h:∀d ∈ L,p d=O):L.filter p=[]:=by rw [List.filter_eq_nil_iff];intro d hd;simp [h d hd]
theorem yB {a b:aN} (h:¬Lt a b):ltB a b=O:=by
 cases e:ltB a b with
 | false=>rfl
 | true=>exact absurd (oW.1 e) h
theorem Lt.ne {a b:aN} (h:Lt a b):¬Lt b a:=h.irrefl
theorem aGJ {L:List aN} {t:aN} {i:Nat} (hR:qO L) (h:BsR L t i η):i < L.length/\kT L t=L.take i++((if t.text.toList==[] then [] else [t])++L.drop (i+1)):=by
 obtain⟨p1,p2,p3⟩:=xZ hR h;obtain⟨hi,_⟩:=h.2.2.2.1 rfl;obtain⟨e1,_⟩:=p3 hi;obtain⟨er,ec⟩:=e1 rfl;have e:L=L.take i++L[i]:: L.drop (i+1):=by rw [<-z7 hi,σ]
 have f1:L.filter (fun d=>ltB d t)=L.take i:=by
  conv=>lhs;rw [e]
  rw [List.filter_append,filter_all fun d hd=>oW.2 (p1 d hd),kP fun d hd=> ?_,y9];refine yB ?_;rcases List.mem_cons.1 hd with rfl | hd
  ·unfold Lt;omega
  ·exact (p2 d hd).ne
 have f2:L.filter (fun d=>ltB t d)=L.drop (i+1):=by
  conv=>lhs;rw [e]
  rw [List.filter_append,kP fun d hd=>yB (p1 d hd).ne,y8,List.filter_cons,if_neg,filter_all fun d hd=>oW.2 (p2 d hd)];rw [yB (by unfold Lt;omega)];decide
 refine ⟨hi, ?_⟩;unfold kT;rw [f1,f2]
theorem aI1 {L:List aN} {t:aN} {i:Nat} (hR:qO L) (h:BsR L t i O):i<=L.length/\kT L t=L.take i++((if t.text.toList==[] then [] else [t])++L.drop i):=by
 obtain⟨p1,p2,p3⟩:=xZ hR h;have hd':∀d ∈ L.drop i,Lt t d:=by
  intro d hd;by_cases hi:i < L.length
  ·rw [z7 hi] at hd;rcases List.mem_cons.1 hd with rfl | hd
   ·exact (p3 hi).2 rfl
   ·exact p2 d hd
  ·rw [z3 (by omega)] at hd;cases hd
 have f1:L.filter (fun d=>ltB d t)=L.take i:=by
  conv=>lhs;rw [<-σ i L]
  rw [List.filter_append,filter_all fun d hd=>oW.2 (p1 d hd),kP fun d hd=>yB (hd' d hd).ne,y9]
 have f2:L.filter (fun d=>ltB t d)=L.drop i:=by
  conv=>lhs;rw [<-σ i L]
  rw [List.filter_append,kP fun d hd=>yB (p1 d hd).ne,filter_all fun d hd=>oW.2 (hd' d hd),y8]
 refine ⟨h.1, ?_⟩;unfold kT;rw [f1,f2]
theorem aNk {L:List aN} {t:aN} {i:Nat} {b:Bool} (hR:qO L) (h:BsR L t i b):b=L.any (atB t.row t.col):=by
 obtain⟨p1,p2,p3⟩:=xZ hR h;cases b with
 | true=>
  obtain⟨hi,_⟩:=h.2.2.2.1 rfl;obtain⟨e1,_⟩:=p3 hi;obtain⟨er,ec⟩:=e1 rfl
  symm
  rw [List.any_eq_true];exact⟨_,v8 hi,by simp [atB,er,ec]⟩
 | false=>
  symm
  rw [List.any_eq_false];intro d hd;rw [<-σ i L,List.mem_append] at hd;rcases hd with hd | hd
  ·have:=p1 d hd;unfold Lt at this;simp [atB];omega
  ·by_cases hi:i < L.length
   ·rw [z7 hi] at hd;have hl:Lt t d:=by
     rcases List.mem_cons.1 hd with rfl | hd
     ·exact (p3 hi).2 rfl
     ·exact p2 d hd
    unfold Lt at hl;simp [atB];omega
   ·rw [z3 (by omega)] at hd;cases hd
theorem aLq (u:U) (r c:Int):(x0 57 #[(0,.int .i64 r),(1,.int .i64 c)]).run Z u=.ok (cellV ⟨r,c,⟨#[]⟩⟩) u:=by kernel_rfl
theorem aLr (u:U) (r c:Int) (s:ByteArray):(x0 57 #[(0,.int .i64 r),(1,.int .i64 c),(2,.string s)]).run Z u=.ok (cellV ⟨r,c,s⟩) u:=by kernel_rfl
theorem aY {P:x2} {ops:Array x3} {rest:List x3} {o:x3} {a:Act} {w:U} {Q:Exit->Act->U->Prop} (hgd:o.guard=none) (ty:Ω) (xs:Array (Nat × Δ)) (ho:o.op=.build ty xs)
  (ps:Array (Nat × J)) (v:J) (hx:(xs.map fun (i,x)=>(i,a.eval x))=ps) (hrun:(x0 ty ps).run P w=.ok v w) (h:v4 P ops Q rest (a.put o.dst v) w):v4 P ops Q (o:: rest) a w:=by
 refine v3 hgd fun K hK=> ?_;unfold y6 y0;simp only [ho,hx,ν,ω,hrun,ι];exact hK _ _ h
theorem yC {P:x2} {ops:Array x3} {rest:List x3} {o:x3} {a:Act} {w:U} {Q:Exit->Act->U->Prop} (hgd:o.guard=none) (ty:Ω) (len:Nat) (xs:Array (Nat × Δ)) (ho:o.op=.buildSlice ty len xs)
  (ps:Array (Nat × J)) (v:J) (w':U) (hx:(xs.map fun (i,x)=>(i,a.eval x))=ps) (hrun:(x6 ty len ps).run P w=.ok v w') (h:v4 P ops Q rest (a.put o.dst v) w'):v4 P ops Q (o:: rest) a w:=by
 refine v3 hgd fun K hK=> ?_;unfold y6 y0;simp only [ho,hx,ν,ω,hrun,ι];exact hK _ _ h
theorem aAy {lo hi:Nat} {w:U} {a:Option Ξ} {c g:Nat} {L:List aN} (h:Cls lo hi w (.slice a L.length c) L) (hhi:hi<=w.heap.size) (hn:L.length<=1000) (hg:w.heap[g]? =some (.cells #[.slice a L.length c] 27)) (r k:Int):
  y4 Z 116 #[.int .i64 r,.int .i64 k,pt g] w fun e w'=>(∃(i:Nat) (b:Bool),e=.returned (.tuple #[.int .i64 (i:Nat),.bool b])/\BsR L ⟨r,k,⟨#[]⟩⟩ i b)/\ε w.heap.size w w':=by
 have C:=aLo h hhi (by omega) ⟨r,k,⟨#[]⟩⟩;have c0:=aI hg (j:=0) rfl;have RB:V _:=aLq w r k;clear h hg;go_enter Tryz.func116,Tryz.ntmps116;go_wp2_with (first|(refine aY rfl 57 _ rfl _ _ (by go_simp) RB.out ?_;clear RB)|(go_at_call 117;refine C.mono ?_;clear C;rintro e w1 ⟨⟨i,b,rfl,HR⟩,HB⟩;have HRh:V _:=HR;have HBh:V _:=HB;clear HR HB))
 go_ret2;exact⟨⟨i,b,rfl,HRh.out⟩,HBh.out⟩
abbrev findF (g:Nat):J:=.func (.func 116) #[] #[pt g]
theorem yE (v:J) (a:Option Ξ) (n c:Nat) (hv:v=.slice a n c) (w:U):y4 Z 81 #[v] w fun e w'=>e=.returned (findF w.heap.size)/\w'=w.alloc (.cells #[v] 27):=by subst hv;go_enter Tryz.func81,Tryz.ntmps81;go_wp2;go_ret;exact⟨rfl,rfl⟩
theorem aLs {lo hi:Nat} {w:U} {a:Option Ξ} {c:Nat} {L:List aN} (h:Cls lo hi w (.slice a L.length c) L) (hhi:hi<=w.heap.size) (hn:L.length<=1000) (hR:qO L) (r k:Int):
  CR 57 #[.slice a L.length c,.int .i64 r,.int .i64 k] w (.bool (L.any (atB r k))):=by
 have C1:=yE _ a L.length c rfl w;have HB:ε w.heap.size w (w.alloc (.cells #[.slice a L.length c] 27)):=Sh.aC (ψ _ _) (A _) _;have C2:y4 Z 116 #[.int .i64 r,.int .i64 k,pt w.heap.size] (w.alloc (.cells #[.slice a L.length c] 27)) fun e w'=>(∃(i:Nat) (b:Bool),e=.returned (.tuple #[.int .i64 (i:Nat),.bool b])/\V (b=L.any (atB r k)))/\V (ε w.heap.size w w'):=(aAy (h.below hhi HB) (x4 hhi HB.size) hn (ο w _) r k).mono (by
  rintro e w' ⟨⟨i,b,rfl,hb⟩,hbl⟩;exact⟨⟨i,b,rfl,aNk hR hb⟩,Sh.aD HB HB.size hbl⟩)
 clear h HB;go_enter Tryz.func57,Tryz.ntmps57;go_wp2_with (first|(go_at_call 81;refine C1.mono ?_;clear C1;rintro e w1 ⟨rfl,rfl⟩)|(go_at_call 116;refine C2.mono ?_;clear C2;rintro e w1 ⟨⟨i,b,rfl,Hb⟩,HB⟩))
 go_ret;exact⟨by rw [Hb.out];rfl,HB.out⟩
theorem aLt {w:U} {g n i:Nat} {xs:List J} (hg:w.heap[g]? =some (.cells xs.toArray 57)) (hl:xs.length=n * 3) (hi:i < n) (t:aN):
  ∃w',(Φ 57 (.pointer (some ⟨g,i * 3,none⟩)) (cellV t)).run Z w=.ok () w'/\w'.heap[g]? =some (.cells (xs.take (i * 3)++cellC t++xs.drop ((i+1) * 3)).toArray 57)/\w'.heap.size=w.heap.size/\w.grownBy w' (some g):=by
 have hst:=run_storeCells_at Z g (i * 3) 57 (cellC t) 0 xs.toArray w hg (by rw [κ,hl,bK];omega) (iN t);have aOk:(Tryz.prog.info? 57).map (·.size)=some 3:=by kernel_rfl
 refine ⟨_, ?_,z0 _ _ _ _ _ _ hg,setRow_size _ _ _,⟨rfl,rfl,rfl,by rw [setRow_size];exact A _,fun k _ hk=>μ _ _ _ _ (fun e=>hk (by rw [e]))⟩⟩;cases hq:Tryz.prog.info? 57 with
 | none=>simp [hq] at aOk
 | some j=>
  have hs:j.size=3:=by simpa [hq] using aOk
  simp only [Nat.add_zero,N,bK,show i * 3+3=(i+1) * 3 by omega] at hst;simp only [cellC] at hst ⊢;simp [Φ,y1,storeVar,sizeOf,typeInfo,hq,hs,Value.cells,cellV,hst]
theorem aEh (w:U) (x:aN):(x6 27 1 #[(0,cellV x)]).run Z w=.ok (.slice (some ⟨w.heap.size,0,none⟩) 1 1) (w.alloc (ceO x)):=by kernel_rfl
theorem bH {w w':U} {row:Option Nat} (h:ε w.heap.size w w'):w.grownBy w' row:=⟨h.os,h.tape,h.output,h.size,fun i hi _=>h.block i hi⟩
theorem uQ (L:List aN) (i:Nat):(L.flatMap cellC).take (i * 3)=(L.take i).flatMap cellC:=(lI bK L i).symm
theorem uR (L:List aN) (i:Nat):(L.flatMap cellC).drop (i * 3)=(L.drop i).flatMap cellC:=(lH bK L i).symm
def aOl (base:Nat) (w:U) (g:Nat) (L:List aN) (t:aN) (e:Ending) (w':U):Prop:=
 (∃v',e=.returned v'/\w'.ownsRow base 57 3 v' (kT L t).length ((kT L t).flatMap cellC))/\w.grownBy w' (some g)
theorem aI2 {w:U} {base g:Nat} {L:List aN} (hg:w.heap[g]? =some (.cells (L.flatMap cellC).toArray 57)) (hb:base<=g) (hn:L.length<=1000) (hR:qO L) (t:aN):
  y4 Z 58 #[newS g L.length,cellV t] w (aOl base w g L t):=by
 obtain⟨tr,tc,tt⟩:=t;obtain⟨W,hW⟩:∃W,W=w.alloc (ceO ⟨tr,tc,tt⟩):=⟨_,rfl⟩
 have hX:W.heap[w.heap.size]? =some (ceO ⟨tr,tc,tt⟩):=by rw [hW];exact ο w _
 have HB0:ε w.heap.size w W:=by rw [hW];exact Sh.aC (ψ _ _) (A _) _
 have hgW:W.heap[g]? =some (.cells (L.flatMap cellC).toArray 57):=(HB0.block _ (aF hg)).trans hg;have HKk:V (∀u,ε W.heap.size W u->u.cell? ⟨w.heap.size,0,none⟩=some (.int .i64 tr)/\u.cell? ⟨w.heap.size,1,none⟩=some (.int .i64 tc)):=fun u hu=>by obtain⟨c0,c1,_⟩:=fH ((hu.block _ (aF hX)).trans hX);exact⟨c0,c1⟩
 have HB1:V (ε W.heap.size W (W.drew.alloc (.cells #[newS g L.length] 27))):=Sh.aC (ψ _ _).drew (A _) _;have HS:V (W.drew.cell? ⟨w.heap.size,0,none⟩=some (.int .i64 tr)/\W.drew.cell? ⟨w.heap.size,1,none⟩=some (.int .i64 tc)):=HKk.out _ (ψ _ _).drew;have C1:=yE (newS g L.length) _ _ _ rfl W.drew;have hcl:Cls g (g+1) (W.drew.alloc (.cells #[newS g L.length] 27)) (newS g L.length) L:=aGE ((HB1.out.block _ (aF hgW)).trans hgW) (bG hn);have C2:y4 Z 116 #[.int .i64 tr,.int .i64 tc,pt W.drew.heap.size] (W.drew.alloc (.cells #[newS g L.length] 27)) fun e w'=>(∃(i:Nat) (b:Bool),e=.returned (.tuple #[.int .i64 (i:Nat),.bool b])/\V (BsR L ⟨tr,tc,tt⟩ i b))/\V (ε W.heap.size W w'):=(aAy hcl (x4 (aF hgW) HB1.out.size) hn (ο W.drew _) tr tc).mono (by
  rintro e w' ⟨⟨i,b,rfl,hb⟩,hbl⟩;exact⟨⟨i,b,rfl,hb⟩,Sh.aD HB1.out HB1.out.size hbl⟩)
 have aOm:V (∀u,ε W.heap.size W u->u.cell? ⟨w.heap.size,2,none⟩=some (.string tt)/\V ((M 57 (pt w.heap.size)).run Z u=.ok (cellV ⟨tr,tc,tt⟩) u)/\V (u.heap[g]? =some (.cells (L.flatMap cellC).toArray 57))/\V (ε w.heap.size w u)):=fun u hu=>by have hX2:=(hu.block _ (aF hX)).trans hX;exact⟨(fH hX2).2.2,ldC hX2,(hu.block _ (aF hgW)).trans hgW,Sh.aD HB0 HB0.size hu⟩
 have HR:V (qO L):=hR;have hWd:W.drew=(w.alloc (ceO ⟨tr,tc,tt⟩)).drew:=by rw [hW]
 simp only [ceO,cellC] at hW;clear hg hgW hX HB0 hcl hR hWd;go_enter Tryz.func58,Tryz.ntmps58;go_wp2;rw [<-hW];clear hW;refine aO (fun u=>u.cell? ⟨w.heap.size,0,none⟩=some (.int .i64 tr)/\u.cell? ⟨w.heap.size,1,none⟩=some (.int .i64 tc)) (fun j=>O) (by kernel_rfl) ?_;refine dwp 0 ((newS g L.length)) ?_;refine dwp 2 ((pt w.heap.size)) ?_;refine dwl 3 ((.int .i64 tr)) ?_ (hS:=HS.out) (hy:=(fun u hSu=>aJ rfl rfl (ld1 hSu.1 (v9 _))));refine dwp 4 ((.pointer (some ⟨w.heap.size,1,none⟩))) ?_;refine dwl 5 ((.int .i64 tc)) ?_ (hS:=HS.out) (hy:=(fun u hSu=>aJ rfl rfl (ld1 hSu.2 (v9 _))));refine aH (i:=1) (by kernel_rfl) rfl ?_;intro K' hK';go_simp;refine C1.mono ?_;clear C1;rintro e w1 ⟨rfl,hw1⟩;subst hw1;have HK1:=HKk.out _ HB1.out;refine hK' _ _ (.inr fun _=>HK1) ?_;clear hK';try simp only [Ψ,B,β,γ]
 refine aH (i:=6) (by kernel_rfl) rfl ?_;intro K' hK';go_simp;refine C2.mono ?_;clear C2;rintro e w2 ⟨⟨i,b,rfl,HW⟩,HD⟩;have HK2:=HKk.out _ HD.out;refine hK' _ _ (.inr fun _=>HK2) ?_;clear hK';try simp only [Ψ,B,β,γ]
 refine dwp 7 ((.tuple #[.int .i64 (i:Int),.bool b])) ?_;refine dwp 8 ((.int .i64 (i:Int))) ?_;refine dwp 9 ((.bool b)) ?_;refine dwp 10 ((.int .i64 (i:Int))) ?_;refine dwp 11 ((.bool b)) ?_;refine aM (by kernel_rfl) ?_ _;obtain⟨ct,RL,HG2,HBw⟩:=aOm.out w2 HD.out;have HGR:V (w.grownBy w2 (some g)):=bH HBw.out;clear HKk HK1 HK2 HS HB1 aOm HD;have hlen3:=bL bK L;cases b with
 | true=>
  obtain⟨hi,hput⟩:=aGJ HR.out HW.out;have hii:(i:Int) < L.length:=by omega
  cases ht:tt.toList==[] with
  | true=>
   rw [show (aN.mk tr tc tt).text=tt from rfl,ht,if_pos rfl,y8] at hput;have C:=aGF HG2.out (by rw [κ];exact hlen3) hi (by omega) (by rw [N];exact lS iN L);obtain⟨m,hm⟩:∃m,m=i+1:=⟨_,rfl⟩
   rw [<-hm] at C;have e5:(i:Int)+1=(m:Int):=by omega
   have e6:IntKind.i64.wrap (m:Int)=(m:Int):=by rw [ξ];omega
   have HP:V (kT L ⟨tr,tc,tt⟩=L.take i++L.drop (i+1)):=hput;have HM:V (m=i+1):=hm;clear hput hm hlen3;go_wp2_with (go_at_call 95;refine C.mono ?_;clear C;rintro e w3 ⟨rfl,h1,h2,h3⟩;have H1:V _:=h1;have H3:V _:=h3;clear h1 h2 h3)
   go_ret;refine ⟨⟨_,rfl, ?_⟩,HGR.out.trans H3.out⟩;obtain⟨cur',k1,k2,k3⟩:=H1.out;rw [HM.out,N,uQ,uR,<-z5,<-HP.out] at k3;have hpl:(kT L ⟨tr,tc,tt⟩).length=L.length - 1:=by rw [HP.out,H,I,θ];omega
   rw [hpl];exact⟨by rw [bL bK,hpl],.inr ⟨g,L.length,cur',rfl,hb,k1,by omega,bG hn,k2,k3⟩⟩
  | false=>
   rw [show (aN.mk tr tc tt).text=tt from rfl,ht,if_neg (by decide),x9] at hput;obtain⟨w3,RS,k1,_,k3⟩:=aLt HG2.out hlen3 hi ⟨tr,tc,tt⟩;have RSh:V _:=RS;have H1:V _:=k1;have H3:V _:=k3;have HP:V (kT L ⟨tr,tc,tt⟩=L.take i++⟨tr,tc,tt⟩:: L.drop (i+1)):=hput;clear hput hlen3 RS k1 k3;go_wp2_with (first|(refine aB rfl 57 _ rfl _ _ rfl RL.out ?_;clear RL)|(refine aA rfl 57 _ _ rfl _ _ _ rfl rfl RSh.out ?_;clear RSh))
   go_ret;refine ⟨⟨_,rfl, ?_⟩,HGR.out.trans H3.out⟩;have k1:=H1.out;have e:(L.flatMap cellC).take (i * 3)++cellC ⟨tr,tc,tt⟩++(L.flatMap cellC).drop ((i+1) * 3)=(kT L ⟨tr,tc,tt⟩).flatMap cellC:=by rw [HP.out,uQ,uR,z5,y2,y3]
   rw [e] at k1;have hpl:(kT L ⟨tr,tc,tt⟩).length=L.length:=by rw [HP.out,H,ρ,I,θ];omega
   rw [hpl];exact bS k1 (by rw [bL bK,hpl]) hb (bG hn)
 | false=>
  obtain⟨hi,hput⟩:=aI1 HR.out HW.out;cases ht:tt.toList==[] with
  | true=>
   rw [show (aN.mk tr tc tt).text=tt from rfl,ht,if_pos rfl,y8,σ] at hput;have HP:V (kT L ⟨tr,tc,tt⟩=L):=hput;clear hput;go_wp2;go_ret;refine ⟨⟨_,rfl, ?_⟩,HGR.out⟩;rw [HP.out];exact bS HG2.out hlen3 hb (bG hn)
  | false=>
   rw [show (aN.mk tr tc tt).text=tt from rfl,ht,if_neg (by decide),x9] at hput;have HP:V (kT L ⟨tr,tc,tt⟩=L.take i++⟨tr,tc,tt⟩:: L.drop i):=hput;have RB:V _:=aEh w2 ⟨tr,tc,tt⟩;have hGa:(w2.alloc (ceO ⟨tr,tc,tt⟩)).heap[g]? =some (.cells (L.flatMap cellC).toArray 57):=(x7 w2 _ g (aF HG2.out)).trans HG2.out;have C:=aGG (base:=base) hGa hlen3 hb hn hi (ο w2 _) (bK _) (iN _) (lS iN L);have HGA:V (w2.grownBy (w2.alloc (ceO ⟨tr,tc,tt⟩)) (some g)):=bH (Sh.aC (ψ _ _) (A _) _);clear hput hlen3 hGa;go_wp2_with (first|(refine aB rfl 57 _ rfl _ _ rfl RL.out ?_;clear RL)|(refine yC rfl 27 1 _ rfl _ _ _ (by go_simp) RB.out ?_;clear RB)|(go_at_call 96;refine C.mono ?_;clear C;rintro e w3 ⟨⟨v',rfl,h1⟩,h3⟩;have H1:V _:=h1;have H3:V _:=h3;clear h1 h3))
   go_ret;refine ⟨⟨_,rfl, ?_⟩,(HGR.out.trans HGA.out).trans H3.out⟩;have k1:=H1.out;have e:(L.flatMap cellC).take (i * 3)++cellC ⟨tr,tc,tt⟩++(L.flatMap cellC).drop (i * 3)=(kT L ⟨tr,tc,tt⟩).flatMap cellC:=by rw [HP.out,uQ,uR,z5,y2,y3]
   rw [e] at k1;have hpl:(kT L ⟨tr,tc,tt⟩).length=L.length+1:=by rw [HP.out,H,ρ,I,θ];omega
   rw [hpl];exact k1
end Go.Proofs.YtfedoljlipfhdaaGreatDoor.Sh
namespace Go.Fm
open Go.Ad Go.Tk
structure Lab where
  k:Int
  s:ByteArray
  vk:Int
  vn:Int
  vs:ByteArray
  b1:ByteArray
  h1:ByteArray
  r1:Int
  c1:Int
  fr1:Bool
  fc1:Bool
  b2:ByteArray
  h2:ByteArray
  r2:Int
  c2:Int
  fr2:Bool
  fc2:Bool
abbrev F:=Go.Deep.BT Lab
abbrev T:=Lab × F
def kids:F->List T
  | .nil=> []
  | .node _ _ a l r=>(a,l):: kids r
def mk:List T->F
  | []=> .nil
  | t:: r=> .node 0 0 t.1 t.2 (mk r)
theorem sV:∀l:List T,kids (mk l)=l
  | []=>rfl
  | (a,l):: r=>by rw [mk,kids,sV r]
theorem ind {P:T->Prop} (h:∀t,(∀s ∈ kids t.2,P s)->P t):∀t,P t:=by
  have key:∀f:F,∀s ∈ kids f,P s:=by
    intro f;induction f with
    | nil=>intro s hs;cases hs
    | node b o a l r ihl ihr=>
      intro s hs;rcases List.mem_cons.1 hs with rfl | hs
      · exact h _ ihl
      · exact ihr s hs
  exact fun t=>h t (key t.2)
def depth:F->Nat
  | .nil=>0
  | .node _ _ _ l r=>max (depth l+1) (depth r)
def size:F->Nat
  | .nil=>0
  | .node _ _ _ l r=>size l+1+size r
def pre:F->List T
  | .nil=> []
  | .node _ _ a l r=>(a,l):: (pre l++pre r)
def dT (t:T):Nat:=depth t.2+1
def zT (t:T):Nat:=size t.2+1
def aI3 (t:T):List T:=t:: pre t.2
theorem aFw:∀f:F,(pre f).length=size f:=by
  intro f;induction f with
  | nil=>rfl
  | node b o a l r ihl ihr=>simp only [pre,size,ρ,H,ihl,ihr];omega
theorem aCQ:∀f:F,pre f=(kids f).flatMap aI3:=by
  intro f;induction f with
  | nil=>rfl
  | node b o a l r ihl ihr=>rw [pre,kids,y2,ihr];rfl
theorem aAz:∀f:F,size f=((kids f).map zT).sum:=by
  intro f;induction f with
  | nil=>rfl
  | node b o a l r ihl ihr=>rw [size,kids,List.map_cons,List.sum_cons,ihr];rfl
theorem yF:∀f:F,depth f=(kids f).foldl (fun m t=>max m (dT t)) 0:=by
  have key:∀(f:F) (m:Nat),(kids f).foldl (fun m t=>max m (dT t)) m=max m (depth f):=by
    intro f;induction f with
    | nil=>intro m;simp [kids,depth]
    | node b o a l r ihl ihr=>
      intro m;rw [kids,List.foldl_cons,ihr,depth];show max (max m (depth l+1)) (depth r)=_;omega
  intro f;rw [key f 0];omega
theorem aEi:∀f:F,depth f<=size f:=by
  intro f;induction f with
  | nil=>exact A _
  | node b o a l r ihl ihr=>simp only [depth,size];omega
def same:F->F->Prop
  | .nil,.nil=>True
  | .node _ _ a l r,.node _ _ a' l' r'=>a=a'/\same l l'/\same r r'
  | _,_=>False
def nf:F->F
  | .nil=> .nil
  | .node _ _ a l r=> .node 0 0 a (nf l) (nf r)
def nT (t:T):T:=(t.1,nf t.2)
def aU:List Tok->List UInt8
  | .inr (.inr (.inr (.inr (.inl s)))):: _=>s
  | _=> []
def mH (s:List UInt8):Nat:=
  if s=[61]\/s=[60,62]\/s=[60]\/s=[60,61]\/s=[62]\/s=[62,61] then 1
  else if s=[38] then 2 else if s=[43]\/s=[45] then 3 else if s=[42]\/s=[47] then 4 else if s=[94] then 5 else 0
def bs (l:List UInt8):ByteArray:=⟨l.toArray⟩
abbrev nb:ByteArray:=⟨#[]⟩
def bN (k:Int) (s:ByteArray):Lab:=⟨k,s,0,0,nb,nb,nb,0,0,O,O,nb,nb,0,0,O,O⟩
def fQ (k n:Int) (s:ByteArray):Lab:=⟨1,nb,k,n,s,nb,nb,0,0,O,O,nb,nb,0,0,O,O⟩
def aOn (r:Ref):Lab:=⟨2,nb,0,0,nb,bs r.book,bs r.fA,r.cell.row,r.cell.col,r.cell.fr,r.cell.fc,nb,nb,0,0,O,O⟩
def aOo (r q:Ref):Lab:=⟨3,nb,0,0,nb,bs r.book,bs r.fA,r.cell.row,r.cell.col,r.cell.fr,r.cell.fc,bs q.book,bs q.fA,q.cell.row,q.cell.col,q.cell.fr,q.cell.fc⟩
def zP (b s:List UInt8):Lab:=⟨4,bs s,0,0,nb,bs b,nb,0,0,O,O,nb,nb,0,0,O,O⟩
def tree (a:Lab) (l:List T):T:=(a,mk l)
def unT (s:List UInt8) (n:T):T:=tree (bN 5 (bs s)) [n]
def yG (s:List UInt8) (n m:T):T:=tree (bN 6 (bs s)) [n,m]
abbrev Part:=List Tok->Option (T × List Tok)
def eG (part:Part) (lv:Nat):Nat->T->List Tok->Option (T × List Tok)
  | 0,n,ts=>some (n,ts)
  | k+1,n,ts=>if mH (aU ts)=lv then (part ts.tail).bind fun p=>eG part lv k (yG (aU ts) n p.1) p.2 else some (n,ts)
def gX:Nat->T->List Tok->T × List Tok
  | 0,n,ts=>(n,ts)
  | k+1,n,ts=>if aU ts=[37] then gX k (unT [37] n) ts.tail else (n,ts)
def dX (part:Part):Nat->List T->List Tok->Option (List T × List Tok)
  | 0,_,_=>none
  | k+1,acc,ts=>if aU ts=[41] then some (acc,ts.tail) else if aU ts=[44] then (part ts.tail).bind fun p=>dX part k (acc++ [p.1]) p.2 else none
section
variable (up:List UInt8->List UInt8) (tr:List UInt8->Option Int)
def qA (part:Part) (s:List UInt8) (ts:List Tok):Option (T × List Tok):=
  if aU ts=[41] then some (tree (bN 7 (bs (up s))) [],ts.tail)
  else (part ts).bind fun p=>(dX part (ts.length+1) [p.1] p.2).bind fun q=>if q.1.length<=16 then some (tree (bN 7 (bs (up s))) q.1,q.2) else none
def jB (part:Part):List Tok->Option (T × List Tok)
  | []=>none
  | .inl n:: r=>some (tree (fQ 1 n nb) [],r)
  | .inr (.inl s):: r=>some (tree (fQ 2 0 (bs s)) [],r)
  | .inr (.inr (.inl x)):: r=>if aU r=[58] then (match r.tail with
      | .inr (.inr (.inl y)):: q=>if y.fA=[] then some (tree (aOo x y) [],q) else none
      | _=>none) else some (tree (aOn x) [],r)
  | .inr (.inr (.inr (.inl (b,s)))):: r=>if b=[]/\aU r=[40] then qA up part s r.tail else (match tr s with
      | some n=>some (tree (fQ 3 n nb) [],r)
      | none=>some (tree (zP b s) [],r))
  | .inr (.inr (.inr (.inr (.inl s)))):: r=>if s=[40] then (part r).bind fun p=>if aU p.2=[41] then some (p.1,p.2.tail) else none else none
  | .inr (.inr (.inr (.inr (.inr n)))):: r=>some (tree (fQ 4 n nb) [],r)
def psN:Nat->Nat->List Tok->Option (T × List Tok)
  | 0,_,_=>none
  | f+1,lv,ts=>
    if lv<=5 then (psN f (lv+1) ts).bind fun p=>eG (psN f (lv+1)) lv ts.length p.1 p.2
    else if lv=6 then (if aU ts=[45] then (psN f 6 ts.tail).map fun p=>(unT [45] p.1,p.2) else psN f 7 ts)
    else if lv=7 then (psN f 8 ts).map fun p=>gX ts.length p.1 p.2
    else jB up tr (psN f 1) ts
def need (lv:Nat) (ts:List Tok):Nat:=9 * ts.length+(9 - lv)
def ps (lv:Nat) (ts:List Tok):Option (T × List Tok):=psN up tr (need lv ts) lv ts
def Less (part:Part):Prop:=∀ts n r,part ts=some (n,r)->r.length < ts.length
theorem bB {ts:List Tok} {s:List UInt8} (h:aU ts=s) (hs:s ≠ []):ts.tail.length+1=ts.length/\ts=Tok.op s:: ts.tail:=by
  cases ts with
  | nil=>exact absurd h.symm hs
  | cons t r=>
    refine ⟨rfl, ?_⟩;cases t using Tk.Tok.cs with
    | op x => have : x = s := h
              subst this;rfl
    | num n=>exact absurd h.symm hs
    | str n=>exact absurd h.symm hs
    | ref n=>exact absurd h.symm hs
    | word b n=>exact absurd h.symm hs
    | bad n=>exact absurd h.symm hs
theorem mY {s:List UInt8} (h:mH s ≠ 0):s ≠ []:=by rintro rfl;exact h (by decide)
theorem aFx {part:Part} (hp:Less part) {lv:Nat} (hlv:lv ≠ 0):∀(k:Nat) (n:T) (ts:List Tok) (m:T) (r:List Tok),eG part lv k n ts=some (m,r)->r.length<=ts.length
  | 0,n,ts,m,r,h=>by cases h;exact A _
  | k+1,n,ts,m,r,h=>by
    unfold eG at h;split at h
    · rename_i hs
      have h1:=(bB (ts:=ts) rfl (mY (by omega))).1;cases hq:part ts.tail with
      | none=>rw [hq] at h;cases h
      | some p=>
        rw [hq] at h;have h2:=hp _ p.1 p.2 hq;have h3:=aFx hp hlv k _ _ _ _ h;omega
    · cases h;exact A _
theorem aI4:∀(k:Nat) (n:T) (ts:List Tok),(gX k n ts).2.length<=ts.length
  | 0,n,ts=>A _
  | k+1,n,ts=>by
    unfold gX;split
    · have:=aI4 k (unT [37] n) ts.tail
      have h1:ts.tail.length<=ts.length:=by rw [List.length_tail];omega
      omega
    · exact A _
theorem aFy {part:Part} (hp:Less part):∀(k:Nat) (acc:List T) (ts:List Tok) (m:List T) (r:List Tok),dX part k acc ts=some (m,r)->r.length < ts.length
  | 0,acc,ts,m,r,h=>by cases h
  | k+1,acc,ts,m,r,h=>by
    unfold dX at h;split at h
    · rename_i hs
      have h1:=(bB (ts:=ts) hs (by decide)).1;cases h;omega
    · split at h
      · rename_i hs
        have h1:=(bB (ts:=ts) hs (by decide)).1;cases hq:part ts.tail with
        | none=>rw [hq] at h;cases h
        | some p=>
          rw [hq] at h;have h2:=hp _ p.1 p.2 hq;have h3:=aFy hp k _ _ _ _ h;omega
      · cases h
theorem aLu {part:Part} (hp:Less part) {s:List UInt8} {ts:List Tok} {m:T} {r:List Tok} (h:qA up part s ts=some (m,r)):r.length < ts.length:=by
  unfold qA at h;split at h
  · rename_i hs
    have h1:=(bB (ts:=ts) hs (by decide)).1;cases h;omega
  · cases hq:part ts with
    | none=>rw [hq] at h;cases h
    | some p=>
      rw [hq] at h;have h2:=hp _ p.1 p.2 hq;simp only [Θ] at h;cases ha:dX part (ts.length+1) [p.1] p.2 with
      | none=>rw [ha] at h;cases h
      | some q=>
        rw [ha] at h;simp only [Θ] at h;have h3:=aFy hp _ _ _ q.1 q.2 ha;split at h
        · cases h;omega
        · cases h
theorem aNl {part:Part} (hp:Less part):Less (jB up tr part):=by
  intro ts m r h;cases ts with
  | nil=>cases h
  | cons t q=>
    simp only [ρ];cases t using Tk.Tok.cs with
    | num n=>cases h;omega
    | str s=>cases h;omega
    | bad n=>cases h;omega
    | ref x=>
      simp only [jB] at h;split at h
      · rename_i hs
        have h1:=(bB (ts:=q) hs (by decide)).1;split at h
        · rename_i y q' he
          rw [he] at h1;simp only [ρ] at h1;split at h
          · cases h;omega
          · cases h
        · cases h
      · cases h;omega
    | word b s=>
      simp only [jB] at h;split at h
      · rename_i hs
        have h1:=(bB (ts:=q) hs.2 (by decide)).1;have:=aLu up hp h;omega
      · split at h
        · cases h;omega
        · cases h;omega
    | op s=>
      simp only [jB] at h;split at h
      · cases hq:part q with
        | none=>rw [hq] at h;cases h
        | some p=>
          rw [hq] at h;have h2:=hp _ p.1 p.2 hq;simp only [Θ] at h;split at h
          · cases h
            have:p.2.tail.length<=p.2.length:=by rw [List.length_tail];omega
            omega
          · cases h
      · cases h
theorem fI:∀(f lv:Nat),1<=lv->Less (psN up tr f lv)
  | 0,lv,_=>fun ts n r h=>by cases h
  | f+1,lv,hlv=>fun ts n r h=>by
    unfold psN at h;split at h
    · cases hq:psN up tr f (lv+1) ts with
      | none=>rw [hq] at h;cases h
      | some p=>
        rw [hq] at h;have h2:=fI f (lv+1) (by omega) _ p.1 p.2 hq;have h3:=aFx (fI f (lv+1) (by omega)) (by omega) _ _ _ _ _ h;omega
    · split at h
      · split at h
        · rename_i hs
          have h1:=(bB (ts:=ts) hs (by decide)).1;cases hq:psN up tr f 6 ts.tail with
          | none=>rw [hq] at h;cases h
          | some p=>
            rw [hq] at h;have h2:=fI f 6 (by omega) _ p.1 p.2 hq;cases h;omega
        · exact fI f 7 (by omega) _ n r h
      · split at h
        · cases hq:psN up tr f 8 ts with
          | none=>rw [hq] at h;cases h
          | some p=>
            rw [hq] at h;have h2:=fI f 8 (by omega) _ p.1 p.2 hq;have h3:=aI4 ts.length p.1 p.2;simp only [Γ,Option.some.injEq] at h;rw [h] at h3;exact Nat.lt_of_le_of_lt h3 h2
        · exact aNl up tr (fI f 1 (A _)) _ n r h
def Alike (p q:Part) (n:Nat):Prop:=∀ts:List Tok,ts.length<=n->p ts=q ts
theorem qR {p q:Part} {lv:Nat} (hlv:lv ≠ 0) (hp:Less p):∀(k:Nat) (n:T) (ts:List Tok),Alike p q (ts.length - 1)->eG p lv k n ts=eG q lv k n ts
  | 0,n,ts,h=>rfl
  | k+1,n,ts,h=>by
    unfold eG;split
    · rename_i hs
      have h1:=(bB (ts:=ts) rfl (mY (by omega))).1;rw [<-h ts.tail (by omega)];cases hq:p ts.tail with
      | none=>rfl
      | some x=>
        have h2:=hp _ x.1 x.2 hq;exact qR hlv hp k _ _ (fun us hu=>h us (by omega))
    · rfl
theorem uS {p:Part} {lv:Nat} (hlv:lv ≠ 0) (hp:Less p):∀(k:Nat) (n:T) (ts:List Tok) (k':Nat),ts.length<=k->ts.length<=k'->eG p lv k n ts=eG p lv k' n ts
  | 0,n,ts,0,h,h'=>rfl
  | 0,n,ts,k'+1,h,h'=>by have:ts=[]:=ζ (by omega);subst this;unfold eG;rw [if_neg (by show mH [] ≠ lv;intro e;exact hlv (by rw [<-e];decide))]
  | k+1,n,ts,0,h,h'=>by have:ts=[]:=ζ (by omega);subst this;unfold eG;rw [if_neg (by show mH [] ≠ lv;intro e;exact hlv (by rw [<-e];decide))]
  | k+1,n,ts,k'+1,h,h'=>by
    unfold eG;split
    · rename_i hs
      have h1:=(bB (ts:=ts) rfl (mY (by omega))).1;cases hq:p ts.tail with
      | none=>rfl
      | some x=>
        have h2:=hp _ x.1 x.2 hq;exact uS hlv hp k _ _ k' (by omega) (by omega)
    · rfl
theorem aCR:∀(k:Nat) (n:T) (ts:List Tok) (k':Nat),ts.length<=k->ts.length<=k'->gX k n ts=gX k' n ts
  | 0,n,ts,0,h,h'=>rfl
  | 0,n,ts,k'+1,h,h'=>by have:ts=[]:=ζ (by omega);subst this;rfl
  | k+1,n,ts,0,h,h'=>by have:ts=[]:=ζ (by omega);subst this;rfl
  | k+1,n,ts,k'+1,h,h'=>by
    unfold gX;split
    · rename_i hs
      have h1:=(bB (ts:=ts) hs (by decide)).1;exact aCR k _ _ k' (by omega) (by omega)
    · rfl
theorem yH {p q:Part} (hp:Less p):∀(k:Nat) (acc:List T) (ts:List Tok),Alike p q (ts.length - 1)->dX p k acc ts=dX q k acc ts
  | 0,acc,ts,h=>rfl
  | k+1,acc,ts,h=>by
    unfold dX;split
    · rfl
    · split
      · rename_i hs
        have h1:=(bB (ts:=ts) hs (by decide)).1;rw [<-h ts.tail (by omega)];cases hq:p ts.tail with
        | none=>rfl
        | some x=>
          have h2:=hp _ x.1 x.2 hq;exact yH hp k _ _ (fun us hu=>h us (by omega))
      · rfl
theorem uT {p:Part} (hp:Less p):∀(k:Nat) (acc:List T) (ts:List Tok) (k':Nat),ts.length < k->ts.length < k'->dX p k acc ts=dX p k' acc ts
  | 0,acc,ts,k',h,h'=>absurd h (Nat.not_lt_zero _)
  | k+1,acc,ts,0,h,h'=>absurd h' (Nat.not_lt_zero _)
  | k+1,acc,ts,k'+1,h,h'=>by
    unfold dX;split
    · rfl
    · split
      · rename_i hs
        have h1:=(bB (ts:=ts) hs (by decide)).1;cases hq:p ts.tail with
        | none=>rfl
        | some x=>
          have h2:=hp _ x.1 x.2 hq;exact uT hp k _ _ k' (by omega) (by omega)
      · rfl
theorem aEj {p q:Part} (hp:Less p) (s:List UInt8) (ts:List Tok) (h:Alike p q ts.length):qA up p s ts=qA up q s ts:=by
  unfold qA;split
  · rfl
  · rw [<-h ts (A _)]
    cases hq:p ts with
    | none=>rfl
    | some x=>
      have h2:=hp _ x.1 x.2 hq;simp only [Θ];rw [yH hp _ _ _ (fun us hu=>h us (by omega))]
theorem aAA {p q:Part} (hp:Less p) (ts:List Tok) (h:Alike p q (ts.length - 1)):jB up tr p ts=jB up tr q ts:=by
  cases ts with
  | nil=>rfl
  | cons t r=>
    simp only [ρ,Nat.add_sub_cancel] at h;cases t using Tk.Tok.cs with
    | num n=>rfl
    | str s=>rfl
    | bad n=>rfl
    | ref x=>rfl
    | word b s=>
      simp only [jB];split
      · rw [aEj up hp s r.tail (fun us hu=>h us (by rw [List.length_tail] at hu;omega))]
      · rfl
    | op s=>
      simp only [jB];rw [h r (A _)]
theorem mZ:∀(f g lv:Nat) (ts:List Tok),1<=lv->need lv ts<=f->need lv ts<=g->psN up tr f lv ts=psN up tr g lv ts
  | 0,g,lv,ts,hlv,h,h'=>by
    unfold need at h h';by_cases h8:lv<=8
    · omega
    · have h0:ts=[]:=ζ (by omega)
      subst h0;cases g with
      | zero=>rfl
      | succ g=>
        unfold psN;rw [if_neg (by omega),if_neg (by omega),if_neg (by omega)];rfl
  | f+1,0,lv,ts,hlv,h,h'=>by
    unfold need at h h';by_cases h8:lv<=8
    · omega
    · have h0:ts=[]:=ζ (by omega)
      subst h0;unfold psN;rw [if_neg (by omega),if_neg (by omega),if_neg (by omega)];rfl
  | f+1,g+1,lv,ts,hlv,h,h'=>by
    unfold need at h h';have al:∀m,1<=m->∀us:List Tok,us.length < ts.length->psN up tr f m us=psN up tr g m us:=fun m hm us hu=>
      mZ f g m us hm (by unfold need;omega) (by unfold need;omega)
    unfold psN;split
    · rw [mZ f g (lv+1) ts (by omega) (by unfold need;omega) (by unfold need;omega)]
      cases hq:psN up tr g (lv+1) ts with
      | none=>rfl
      | some x=>
        simp only [Θ];have h2:=fI up tr g (lv+1) (by omega) _ x.1 x.2 hq;exact qR (by omega) (fI up tr f (lv+1) (by omega)) _ _ _ (fun us hu=>al _ (by omega) us (by omega))
    · split
      · split
        · rename_i hs
          have h1:=(bB (ts:=ts) hs (by decide)).1;rw [al 6 (by omega) ts.tail (by omega)]
        · rename_i hl _
          exact mZ f g 7 ts (by omega) (by unfold need;omega) (by unfold need;omega)
      · split
        · rw [mZ f g 8 ts (by omega) (by unfold need;omega) (by unfold need;omega)]
        · cases ts with
          | nil=>rfl
          | cons t r=>exact aAA up tr (fI up tr f 1 (A _)) _ (fun us hu=>al 1 (A _) us (by simp at hu ⊢;omega))
theorem jC {lv:Nat} (hlv:1<=lv):Less (ps up tr lv):=fun ts n r h=>fI up tr _ lv hlv ts n r h
theorem aI5 {lv:Nat} (h1:1<=lv) (h5:lv<=5) (ts:List Tok):ps up tr lv ts=(ps up tr (lv+1) ts).bind fun p=>eG (ps up tr (lv+1)) lv p.2.length p.1 p.2:=by
  have e:need lv ts=need (lv+1) ts+1:=by unfold need;omega
  unfold ps;rw [e]
  conv=>lhs;unfold psN
  rw [if_pos h5];cases hq:psN up tr (need (lv+1) ts) (lv+1) ts with
  | none=>rfl
  | some x=>
    simp only [Θ];have h2:=fI up tr _ (lv+1) (by omega) _ x.1 x.2 hq;rw [uS (by omega) (fI up tr _ (lv+1) (by omega)) ts.length x.1 x.2 x.2.length (by omega) (A _)];exact qR (by omega) (fI up tr _ (lv+1) (by omega)) _ _ _ (fun us hu=>mZ up tr _ _ _ us (by omega) (by unfold need;omega) (A _))
theorem aI6 (ts:List Tok):ps up tr 6 ts=if aU ts=[45] then (ps up tr 6 ts.tail).map fun p=>(unT [45] p.1,p.2) else ps up tr 7 ts:=by
  have e:need 6 ts=need 7 ts+1:=by unfold need;omega
  conv=>lhs;unfold ps;rw [e];unfold psN
  rw [if_neg (by omega),if_pos rfl];split
  · rename_i hs
    have h1:=(bB (ts:=ts) hs (by decide)).1;rw [mZ up tr (need 7 ts) (need 6 ts.tail) 6 ts.tail (by omega) (by unfold need;omega) (A _)];rfl
  · rfl
theorem aI7 (ts:List Tok):ps up tr 7 ts=(ps up tr 8 ts).map fun p=>gX p.2.length p.1 p.2:=by
  have e:need 7 ts=need 8 ts+1:=by unfold need;omega
  conv=>lhs;unfold ps;rw [e];unfold psN
  rw [if_neg (by omega),if_neg (by omega),if_pos rfl];unfold ps;cases hq:psN up tr (need 8 ts) 8 ts with
  | none=>rfl
  | some x=>
    have h2:=fI up tr _ 8 (by omega) _ x.1 x.2 hq;simp only [Γ];rw [aCR ts.length x.1 x.2 x.2.length (by omega) (A _)]
theorem aI8 (ts:List Tok):ps up tr 8 ts=jB up tr (ps up tr 1) ts:=by
  have e:need 8 ts=9 * ts.length+1:=by unfold need;omega
  conv=>lhs;unfold ps;rw [e];unfold psN
  rw [if_neg (by omega),if_neg (by omega),if_neg (by omega)];cases ts with
  | nil=>rfl
  | cons t r=>exact aAA up tr (fI up tr _ 1 (A _)) _ (fun us hu=>mZ up tr _ _ _ us (by omega) (by unfold need;simp at hu ⊢;omega) (A _))
end
end Go.Fm
namespace Go.Proofs.YtfedoljlipfhdaaGreatDoor
open Go.RowKit Go.Fm
def lcl (a:Lab) (sl:J):List J:=[.int .i64 a.k,.string a.s,.int .i64 a.vk,.int .i64 a.vn,.string a.vs,.string a.b1,.string a.h1,.int .i64 a.r1,.int .i64 a.c1,.bool a.fr1,.bool a.fc1,.string a.b2,.string a.h2,.int .i64 a.r2,.int .i64 a.c2,.bool a.fr2,.bool a.fc2,sl]
def lcs (a:Lab) (sl:J):Array J:=(lcl a sl).toArray
theorem aLv (a:Lab) (sl:J):(lcl a sl).length=18:=rfl
theorem fE (a:Lab) (sl:J):(lcs a sl).size=18:=rfl
theorem aLw (a:Lab) (p:Option Ξ) (n c:Nat):∀u ∈ lcl a (.slice p n c),u.oneCell'=η:=by intro u hu;simp only [lcl,v2,x5,or_false] at hu;rcases hu with rfl | rfl | rfl | rfl | rfl | rfl | rfl | rfl | rfl | rfl | rfl | rfl | rfl | rfl | rfl | rfl | rfl | rfl <;> rfl
theorem nC (a:Lab) (p:Option Ξ) (n c:Nat):(lcs a (.slice p n c)).all (·.oneCell')=η:=by unfold lcs;rw [List.all_toArray,List.all_eq_true];exact aLw a p n c
def InF (w:U):Ξ->F->Prop
 | _,.nil=>True
 | a,.node _ _ l f r=>(∃p n c,(∀j v,(lcl l (.slice p n c))[j]? =some v->w.cell? (a.add j)=some v)/\n=(kids f).length/\(f=.nil\/∃a',p=some a'/\InF w a' f))/\InF w (a.add 18) r
def SF (w:U) (p:Option Ξ) (n:Nat) (f:F):Prop:=n=(kids f).length/\(f=.nil\/∃a,p=some a/\InF w a f)
def NT (w:U) (es:Array J) (t:T):Prop:=∃p n c,es=lcs t.1 (.slice p n c)/\SF w p n t.2
theorem InF.below:∀{f:F} {w w':U} {a:Ξ},InF w a f->ε w.heap.size w w'->InF w' a f:=by
 intro f;induction f with
 | nil=>intro w w' a _ _;trivial
 | node b o l f r ihf ihr=>
  intro w w' a h hb;obtain⟨⟨p,n,c,h1,h2,h3⟩,h4⟩:=h;exact⟨⟨p,n,c,fun j v hj=>iU hb (h1 j v hj),h2,h3.imp id fun ⟨a',e,hi⟩=>⟨a',e,ihf hi hb⟩⟩,ihr h4 hb⟩
theorem SF.below {w w':U} {p:Option Ξ} {n:Nat} {f:F} (h:SF w p n f) (hb:ε w.heap.size w w'):SF w' p n f:=
 ⟨h.1,h.2.imp id fun ⟨a,e,hi⟩=>⟨a,e,hi.below hb⟩⟩
theorem NT.below {w w':U} {es:Array J} {t:T} (h:NT w es t) (hb:ε w.heap.size w w'):NT w' es t:=by obtain⟨p,n,c,e,hs⟩:=h;exact⟨p,n,c,e,hs.below hb⟩
theorem iO:(Tryz.prog.info? 67).map (·.size)=some 18:=by kernel_rfl
abbrev nd0:Array J:=#[.int .i64 0,.string noB,.int .i64 0,.int .i64 0,.string noB,.string noB,.string noB,.int .i64 0,.int .i64 0,.bool O,.bool O,.string noB,.string noB,.int .i64 0,.int .i64 0,.bool O,.bool O,.slice none 0 0]
theorem aI9:(Tryz.prog.info? 67).map (fun i=>(i.zero,i.size,i.bytes))=some (some (.agg nd0),18,192):=by kernel_rfl
theorem fM {P:x2} (w:U) (x:Ξ) (ty:Ω) (cs:List J) (d:TypeDesc) (hc:∀j v,cs[j]? =some v->w.cell? (x.add j)=some v)
  (hu:P.underlying ty=some d) (hd:d.isRow=η) (hi:(P.info? ty).map (·.size)=some cs.length):
  (M ty (.pointer (some x))).run P w=.ok (.agg cs.toArray) w:=by
 have hl:(loadCells x cs.length).run P w=.ok cs.toArray w:=run_loadCells_list (P:=P) w x cs hc;cases hq:P.info? ty with
 | none=>simp [hq] at hi
 | some i=>
  have hs:i.size=cs.length:=by simpa [hq] using hi
  have hagg:(isAgg ty).run P w=.ok η w:=by unfold isAgg;rw [ν,run_underlying hu w];cases d <;> simp_all
  simp [M,y1,loadVar,ν,hagg,sizeOf,typeInfo,hq,hs,hl]
theorem InF.get:∀{f:F} {w:U} {a:Ξ},InF w a f->∀(k:Nat) (hk:k < (kids f).length),∃es,(M 67 (.pointer (some (a.add (k * 18))))).run Z w=.ok (.agg es) w/\NT w es (kids f)[k]:=by
 intro f;induction f with
 | nil=>intro w a _ k hk;simp [kids] at hk
 | node b o l f r ihf ihr=>
  intro w a h k hk;obtain⟨⟨p,n,c,h1,h2,h3⟩,h4⟩:=h;cases k with
  | zero=>
   refine ⟨lcs l (.slice p n c), ?_,p,n,c,rfl,h2,h3⟩;have:a.add (0 * 18)=a.add 0:=by simp
   rw [this];refine fM w (a.add 0) 67 (lcl l (.slice p n c)) _ (fun j v hj=> ?_) v6 rfl (by rw [aLv];exact iO);rw [Go.Deep.add_add,π];exact h1 j v hj
  | succ k=>
   obtain⟨es,e1,e2⟩:=ihr h4 k (by simpa [kids] using hk);refine ⟨es, ?_,e2⟩;rw [Go.Deep.add_add] at e1;rw [show (k+1) * 18=18+k * 18 by omega];exact e1
theorem SF.get {w:U} {p:Option Ξ} {n:Nat} {f:F} (h:SF w p n f) (k:Nat) (hk:k < n):∃a es t,p=some a/\(M 67 (.pointer (some (a.add (k * 18))))).run Z w=.ok (.agg es) w/\(kids f)[k]? =some t/\NT w es t:=by
 obtain⟨h1,h2⟩:=h;rcases h2 with rfl | ⟨a,rfl,hi⟩
 ·simp [kids] at h1;omega
 ·obtain ⟨es,e1,e2⟩:=hi.get k (by omega);exact⟨a,es,_,rfl,e1,υ (by omega),e2⟩
theorem aCS (w:U) {es:Array J} {t:T} (h:NT w es t):
  (Φ 67 (pt w.heap.size) (.agg es)).run Z (w.alloc (.cells nd0 67))=.ok () (w.alloc (.cells es 67))/\
  ∀u:U,u.heap[w.heap.size]? =some (.cells es 67)->(M 67 (pt w.heap.size)).run Z u=.ok (.agg es) u:=by
 obtain⟨p,n,c,rfl,hs⟩:=h;refine ⟨run_storeAt_new w 67 nd0 _ (by rw [fE];exact iO) rfl (nC _ _ _ _),fun u hu=> ?_⟩;exact lod (z:=(0,0)) hu rfl v6 (by rw [fE];exact iO)
theorem qU {u:U} {g:Nat} {a:Lab} {sl:J} {z:Nat × Nat} (h:u.heap[g]? =some (.cells (lcs a sl) 67 z)):u.cell? ⟨g,17,none⟩=some sl:=by rw [z1 u g 17 _ 67 z h];rfl
theorem aBk {t s:T} (h:s ∈ kids t.2):zT s < zT t:=by
 have key:∀f:F,∀s ∈ kids f,zT s<=size f:=by
  intro f;induction f with
  | nil=>intro s hs;cases hs
  | node b o a l r ihl ihr=>
   intro s hs;rcases List.mem_cons.1 hs with rfl | hs
   ·show size l+1<=_;simp only [size];omega
   ·have:=ihr s hs;simp only [size];omega
 have:=key t.2 s h;unfold zT at this ⊢;omega
theorem aFz (t:T):dT t<=zT t:=by have:=aEi t.2;unfold dT zT;omega
def dpK (f:F) (k:Nat):Nat:=((kids f).take k).foldl (fun m t=>max m (dT t)) 0
theorem aCT {f:F} {k:Nat} {t:T} (h:(kids f)[k]? =some t):dpK f (k+1)=max (dpK f k) (dT t):=by unfold dpK;rw [List.take_add_one,h];simp
theorem aFA (f:F) {k:Nat} (h:(kids f).length<=k):dpK f k=depth f:=by unfold dpK;rw [χ h,yF]
theorem aFB:∀(l:List T) (m:Nat),m<=l.foldl (fun m t=>max m (dT t)) m
 | [],m=>A _
 | t:: l,m=>by rw [List.foldl_cons];exact x4 (Nat.le_max_left _ _) (aFB l _)
theorem aJa (f:F) (k:Nat):dpK f k<=depth f:=by
 rw [yF]
 conv=>rhs;rw [<-σ k (kids f)]
 rw [List.foldl_append];exact aFB _ _
theorem SF.step {w u:U} {p:Option Ξ} {n k:Nat} {f:F} (h:SF w p n f) (hb:ε w.heap.size w u) (hk:k < n):
  ∃a es t,p=some a/\V ((M 67 (.pointer (some (a.add (k * 18))))).run Z u=.ok (.agg es) u)/\V ((kids f)[k]? =some t)/\
   V ((Φ 67 (pt u.heap.size) (.agg es)).run Z (u.alloc (.cells nd0 67))=.ok () (u.alloc (.cells es 67)))/\
   V ((M 67 (pt u.heap.size)).run Z (u.alloc (.cells es 67))=.ok (.agg es) (u.alloc (.cells es 67)))/\V (NT (u.alloc (.cells es 67)) es t)/\V (t ∈ kids f):=by
 obtain⟨a,es,t,e1,e2,e3,e4⟩:=(h.below hb).get k hk;obtain⟨b1,b2⟩:=aCS u e4;exact⟨a,es,t,e1,e2,e3,b1,b2 _ (ο u _),e4.below (aC (ψ _ _) _),List.mem_of_getElem? e3⟩
theorem aAB:∀t:T,zT t<=1000000->∀(w:U) (es:Array J),NT w es t->CR 44 #[.agg es] w (.int .i64 (dT t:Nat)):=by
 refine ind ?_;intro t ih hz w es h;obtain⟨p,n,c,rfl,hs⟩:=h;have HK:V (∀s ∈ kids t.2,∀(w:U) (es:Array J),NT w es s->CR 44 #[.agg es] w (.int .i64 (dT s:Nat))):=
  fun s hs=>ih s hs (by have:=aBk hs;omega)
 clear ih;have HD:V (∀s ∈ kids t.2,dT s<=1000000):=fun s hs=>by have:=aBk hs;have:=aFz s;omega
 have hd1:dT t<=1000000:=by have:=aFz t;omega
 have hdd:dT t=depth t.2+1:=rfl;have h17:=qU (u:=w.alloc (.cells (lcs t.1 (.slice p n c)) 67)) (ο w _);have HB0:V (ε w.heap.size w (w.alloc (.cells (lcs t.1 (.slice p n c)) 67))):=aC (ψ _ _) _;have HS:V (SF w p n t.2):=hs;have hn:n<=1000000:=by
  have e:=hs.1;have e2:=aAz t.2;have:(kids t.2).length<=size t.2:=by
   rw [<-aFw,aCQ];have:∀l:List T,l.length<=(l.flatMap aI3).length:=by
    intro l;induction l with
    | nil=>exact x8 _
    | cons a l ih=>rw [y2,H,ρ,aI3,ρ];omega
   exact this _
  unfold zT at hz;omega
 have HN:V (n=(kids t.2).length):=hs.1;clear hs hz;generalize lcs t.1 (.slice p n c)=bx at *;go_enter Tryz.func44,Tryz.ntmps44;go_wp2;have hu0:V (dpK t.2 0=0):=rfl;go_loopw [3,9] (fun d i wr=>∃k:Nat,k<=n/\i=.int .i64 (k:Nat)/\d=.int .i64 (dpK t.2 k:Nat)/\V (ε w.heap.size w wr)) (fun _ i _=>n - (intOf i).toNat)
 case atStart=>exact⟨0,x8 _,rfl,rfl,HB0⟩
 case round=>
  obtain⟨k,hk,rfl,rfl,HB⟩:=hrel;have hle:=aJa t.2 k;by_cases hlt:k < n
  ·have hki:(k:Int) < n:=by omega
   obtain⟨a',es,s,rfl,RL,HI,RS,RL2,HNT,HM⟩:=HS.out.step HB.out hlt;have C:=HK.out s HM.out _ _ HNT.out;have HDP:V (dpK t.2 (k+1)=max (dpK t.2 k) (dT s)):=aCT HI.out;have hds:=HD.out s HM.out;generalize dpK t.2 k=D at *;generalize dT s=E at *;go_wp2_with (first|(refine aB rfl 67 _ rfl _ _ rfl RL.out ?_)|(refine aA rfl 67 _ _ rfl _ _ _ rfl rfl RS.out ?_)|(refine aB rfl 67 _ rfl _ _ rfl RL2.out ?_)|(go_at_call 44;refine C.mono ?_;rintro e w2 ⟨rfl,hs⟩;have HU2:V (ε w.heap.size w w2):=aD (aC HB.out _) hs;clear hs))
   go_roundw
   case rel=>exact⟨k+1,by omega,by go_num,by rw [HDP.out];go_num,HU2⟩
   case measure=>simp [intOf];omega
  ·have hki:¬(k:Int) < n:=by omega
   have HE:V (dpK t.2 k=depth t.2):=aFA _ (by have:=HN.out;omega);go_wp2;go_ret;exact⟨by rw [HE.out];rfl,HB.out⟩
end Go.Proofs.YtfedoljlipfhdaaGreatDoor
namespace Go.Proofs.YtfedoljlipfhdaaGreatDoor
open Go.RowKit
def aCU (c:UInt8):Nat:=if Ad.isD c=η then 188 else if c=34 then 189 else if c=35 then 190 else if c=91\/c=36\/Ad.isL c=η then 192 else 193
theorem aFC {c d:UInt8} (h:¬c=d):¬(c.toNat:Int)=(d.toNat:Int):=fun e=>h (UInt8.toNat_inj.1 (by omega))
theorem aPv (c:UInt8) (u:U):CW 187 #[.int .i32 (c.toNat:Nat)] u (.bool (Ad.isD c)):=qN c.toNat u
theorem aPw (c:UInt8) (u:U):CW 191 #[.int .i32 (c.toNat:Nat)] u (.bool (Ad.isL c)):=by have:=vO c.toNat u;rw [Bool.or_comm] at this;exact this
theorem aJb (c:UInt8) (w:U):CW 149 #[.int .i32 (c.toNat:Nat)] w (.func (.func (aCU c)) #[] #[]):=by
 have D:=fun u=>aPv c u;have L:=fun u=>aPw c u;generalize hk:aCU c=k;unfold aCU at hk;cases hd:Ad.isD c
 ·rw [hd] at D hk;rw [if_neg (by decide)] at hk;by_cases h34:c=34
  ·subst h34;obtain rfl:189=k:=hk;clear L;go_enter Tryz.func149,Tryz.ntmps149;go_wp2_with (go_at_call 187;refine mw (D _) ?_)
   go_ret;exact⟨rfl,rfl⟩
  rw [if_neg h34] at hk;have n34:¬(c.toNat:Int)=34:=aFC h34;by_cases h35:c=35
  ·subst h35;obtain rfl:190=k:=hk;clear L;go_enter Tryz.func149,Tryz.ntmps149;go_wp2_with (go_at_call 187;refine mw (D _) ?_)
   go_ret;exact⟨rfl,rfl⟩
  rw [if_neg h35] at hk;have n35:¬(c.toNat:Int)=35:=aFC h35;by_cases h91:c=91
  ·subst h91;obtain rfl:192=k:=hk;clear L;go_enter Tryz.func149,Tryz.ntmps149;go_wp2_with (go_at_call 187;refine mw (D _) ?_)
   go_ret;exact⟨rfl,rfl⟩
  have n91:¬(c.toNat:Int)=91:=aFC h91;by_cases h36:c=36
  ·subst h36;obtain rfl:192=k:=hk;clear L;go_enter Tryz.func149,Tryz.ntmps149;go_wp2_with (go_at_call 187;refine mw (D _) ?_)
   go_ret;exact⟨rfl,rfl⟩
  have n36:¬(c.toNat:Int)=36:=aFC h36;cases hl:Ad.isL c
  ·rw [hl] at L hk;rw [if_neg (by rintro (h | h | h);exact h91 h;exact h36 h;cases h)] at hk;subst hk;generalize c.toNat=n at *;go_enter Tryz.func149,Tryz.ntmps149;go_wp2_with (first|(go_at_call 187;refine mw (D _) ?_) | (go_at_call 191;refine mw (L _) ?_))
   go_ret;exact⟨rfl,rfl⟩
  ·rw [hl] at L hk;rw [if_pos (.inr (.inr rfl))] at hk;subst hk;generalize c.toNat=n at *;go_enter Tryz.func149,Tryz.ntmps149;go_wp2_with (first|(go_at_call 187;refine mw (D _) ?_) | (go_at_call 191;refine mw (L _) ?_))
   go_ret;exact⟨rfl,rfl⟩
 ·rw [hd] at D hk;rw [if_pos rfl] at hk;subst hk;clear L;generalize c.toNat=n at *;go_enter Tryz.func149,Tryz.ntmps149;go_wp2_with (go_at_call 187;refine mw (D _) ?_)
  go_ret;exact⟨rfl,rfl⟩
end Go.Proofs.YtfedoljlipfhdaaGreatDoor
