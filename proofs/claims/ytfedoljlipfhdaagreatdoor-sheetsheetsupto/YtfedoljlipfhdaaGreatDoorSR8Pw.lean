/- SBy0, SBy, SEq, SEqual, SSm, SR6, SR7, SR8. -/
import Derived.Deep.RegionWith
import Derived.Lib.AppendStr
import Derived.Lib.Zigzag
import Derived.Test.YtfedoljlipfhdaaGreatDoorSR12Pw
set_option linter.unusedVariables false
set_option linter.unusedSimpArgs false
set_option maxHeartbeats 16000000
set_option maxRecDepth 100000
open List renaming length_append->Z,append_assoc->G,getElem?_eq_getElem->D,length_cons->σ,take_of_length_le->τ,eq_nil_of_length_eq_zero->φ,flatMap_cons->ω,getElem_mem->Ξ,flatMap_append->z1
open Go.Proofs.Tryz renaming prog->V,underlying9->ν,underlying96->ρ,underlying3->Δ,sizeOf9->Θ,isAgg9->Φ,isAgg3->z2
open Go.RowKit renaming Hid->U,Below->θ
open Nat renaming le_trans->J,le_refl->ε,zero_le->Ψ,mul_le_mul_right->Ω
open Bool renaming false->I,true->κ,and_eq_true->π
open Go renaming World->O,heap_alloc_new->γ,Value->δ,Calls->ι,maxLen->ψ,TypeId->Γ,Addr->z0,wpList->z5
open Go.Instr renaming loadAt->β
open Go.RowKit.Below renaming refl->ζ,heap_alloc->υ
open Go.Builtin renaming append_->η
open UInt8 renaming ofNat->μ
open Option renaming bind_some->ξ
open Go.Value renaming ownBlock->ο
open Go.Op renaming load->χ,store->z4
namespace Go.Proofs.YtfedoljlipfhdaaGreatDoor.Sh.Bt
open Go.RowKit
def fT (l:List UInt8):List δ:=l.map fun b=>Value.int .u8 b.toNat
theorem qF (l:List UInt8):(fT l).length=l.length:=by simp [fT]
theorem qG (l m:List UInt8):fT (l++m)=fT l++fT m:=by simp [fT]
theorem aEV {l:List UInt8} {j:Nat} (h:j < l.length):(fT l)[j]? =some (.int .u8 (l[j].toNat)):=by simp [fT,h]
theorem jG (a:z0) (n:Nat):(a.add n).block=a.block:=by unfold Addr.add;split <;> rfl
def Bts (w:O) (v:δ) (l:List UInt8):Prop:=
 (v=.slice none 0 0/\l=[])\/∃a cap,v=.slice (some a) l.length cap/\l.length<=cap/\cap<=ψ/\∀j u,(fT l)[j]? =some u->w.cell? (a.add j)=some u
theorem info5:(Tryz.prog.info? 5).map (fun i=>(i.zero,i.size,i.bytes))=some (some (.int .u8 0),1,1):=by kernel_rfl
def Own (base:Nat) (w:O) (v:δ) (l:List UInt8):Prop:=w.ownsRow base 5 1 v l.length (fT l)
theorem bT {w w':O} {base:Nat} {e:Γ} {size:Nat} {v:δ} {n:Nat} {xs:List δ} (h:w.ownsRow base e size v n xs)
  (hk:∀g,v.ownBlock=some g->w'.heap[g]? =w.heap[g]?):w'.ownsRow base e size v n xs:=by
 refine ⟨h.1, ?_⟩;rcases h.2 with hn | ⟨g,cap,cur,rfl,hb,hgg,rest⟩
 ·exact .inl hn
 ·exact .inr ⟨g,cap,cur,rfl,hb,by rw [hk g rfl];exact hgg,rest⟩
theorem Own.of_block {w w':O} {base:Nat} {v:δ} {l:List UInt8} (h:Own base w v l) (hk:∀g,v.ownBlock=some g->w'.heap[g]? =w.heap[g]?):Own base w' v l:=bT h hk
theorem Own.lt {w:O} {base:Nat} {v:δ} {l:List UInt8} (h:Own base w v l) {g:Nat} (hg:v.ownBlock=some g):base<=g/\g < w.heap.size:=World.ownsRow.lt h g hg
theorem Own.kept {w w':O} {base:Nat} {v:δ} {l:List UInt8} (h:Own base w v l) (hk:∀i,i < w.heap.size->w'.heap[i]? =w.heap[i]?):Own base w' v l:=h.of_block fun _ hg=>hk _ (h.lt hg).2
theorem Own.alloc {w:O} {base:Nat} {v:δ} {l:List UInt8} (h:Own base w v l) (o:Obj):Own base (w.alloc o) v l:=h.kept fun i hi=>υ w o i hi
theorem Own.nil (w:O) (base:Nat):Own base w (.slice none 0 0) []:=World.ownsRow_nil w base 5 1
structure Apd (base:Nat) (w:O) (v:δ) (w':O) (v':δ) (l:List UInt8):Prop where
 own:Own base w' v' l
 gr:w.grownBy w' v.ownBlock
 loc:∀g,v'.ownBlock=some g->v.ownBlock=some g\/w.heap.size<=g
theorem Apd.refl {base:Nat} {w:O} {v:δ} {l:List UInt8} (h:Own base w v l):Apd base w v w v l:=⟨h,⟨rfl,rfl,rfl,ε _,fun _ _ _=>rfl⟩,fun _ hg=> .inl hg⟩
theorem Apd.trans {base:Nat} {w w1 w2:O} {v v1 v2:δ} {l1 l2:List UInt8} (h:Apd base w v w1 v1 l1) (k:Apd base w1 v1 w2 v2 l2):Apd base w v w2 v2 l2:=by
 refine ⟨k.own,⟨k.gr.os.trans h.gr.os,k.gr.tape.trans h.gr.tape,k.gr.output.trans h.gr.output,J h.gr.size k.gr.size,fun i hi hne=> ?_⟩,fun g hg=> ?_⟩
 ·refine (k.gr.block i (Nat.lt_of_lt_of_le hi h.gr.size) fun e=> ?_).trans (h.gr.block i hi hne);rcases h.loc i e.symm with h1 | h1
  ·exact hne h1.symm
  ·omega
 ·rcases k.loc g hg with h1 | h1
  ·exact h.loc g h1
  ·exact .inr (J h.gr.size h1)
theorem Apd.jV {base:Nat} {w w':O} {v v':δ} {l:List UInt8} {o:Obj} (h:Apd base (w.alloc o) v w' v' l):Apd base w v w' v' l:=by
 refine ⟨h.own,⟨h.gr.os,h.gr.tape,h.gr.output,by have:=h.gr.size;simp at this;omega,fun i hi hne=> ?_⟩,fun g hg=> ?_⟩
 ·exact (h.gr.block i (by simp;omega) hne).trans (υ w o i hi)
 ·rcases h.loc g hg with h1 | h1
  ·exact .inl h1
  ·right;simp at h1;omega
theorem Apd.below {base:Nat} {w w':O} {v v':δ} {l0 l:List UInt8} (h:Apd base w v w' v' l) (h0:Own base w v l0) (hb:base<=w.heap.size):θ base w w':=
 (ζ base w).grown h.gr hb fun _ hk=>(h0.lt hk).1
theorem aMq {base:Nat} {w:O} {v:δ} {l:List UInt8} (ty:Γ) (h:Own base w v l) {bv:δ} {m:List UInt8} (hs:Bts w bv m) (hn:l.length+m.length<=140737488355328) (hbase:base<=w.heap.size):
  ∃v' w',(η #[96,96] ty #[v,bv]).run V w=.ok v' w'/\Apd base w v w' v' (l++m):=by
 obtain⟨i0,hi,hz0,hz1,hz2⟩:=info_parts info5;rcases hs with ⟨rfl,rfl⟩ | ⟨a,cap,rfl,_,_,hc⟩
 ·exact ⟨v,w,run_append_owned_none w base 96 ty 5 i0 1 ρ hi v _ _ h,Apd.refl (by simpa using h)⟩
 ·obtain ⟨v',w',h1,h2,h3,_,h5⟩:=run_append_own_at w base 96 ty 5 i0 (.int .u8 0) 1 1 ρ hi hz0 hz1 hz2 rfl (by decide) v _ _ h a m.length cap (fT m) (by rw [qF,Nat.mul_one]) hc
   (by intro u hu;simp [fT] at hu;obtain⟨x,_,rfl⟩:=hu;rfl) (by simp only [ψ];omega) (by omega) hbase
  refine ⟨v',w',h1, ?_,h3,fun g hg=> ?_⟩
  ·unfold Own;rw [Z,qG];exact h2
  ·rcases h5 with e | e
   ·left;rw [<-e];exact hg
   ·right;rw [e] at hg;cases hg;exact ε _
theorem wpList_append_run {P:Program} {ops:Array Oper} {rest:List Oper} {o:Oper} {a:Act} {w:O} {Q:Exit->Act->O->Prop} (hgd:o.guard=none) (s x:Operand) (t:Γ)
  (ho:o.op=Op.call { callee:=Callee.builtin Builtin.append,args:=#[s,x],argTypes:=#[t,t] }) (v bv v':δ) (w':O) (hs:a.eval s=v) (hx:a.eval x=bv)
  (hrun:(η #[t,t] o.type #[v,bv]).run P w=.ok v' w') (h:z5 P ops Q rest (a.put o.dst v') w'):z5 P ops Q (o:: rest) a w:=by
 refine wpList_plain hgd fun K hK=> ?_;unfold Oper.wp;simp [execOp,ho,resolve,invoke,builtin,hs,hx,hrun,Result.andThen];exact hK _ _ h
theorem aMr (w:O) (l:List UInt8) (z:Nat × Nat) (hl:l.length<=ψ):Bts (w.alloc (.cells (fT l).toArray 5 z)) (.slice (some ⟨w.heap.size,0,none⟩) l.length l.length) l:=by
 refine .inr ⟨⟨w.heap.size,0,none⟩,l.length,rfl,ε _,hl, ?_⟩;intro j u hj;have:(w.alloc (.cells (fT l).toArray 5 z)).cell? ((⟨w.heap.size,0,none⟩:z0).add j)=(fT l).toArray[j]? :=by
  have hp:(⟨w.heap.size,0,none⟩:z0).add j=⟨w.heap.size,j,none⟩:=by unfold Addr.add;split <;> simp_all
  rw [hp];simp only [World.cell?,γ];rfl
 rw [this];simpa using hj
def lM (n:Int):Nat:=if n < 0 then (-2 * n - 1).toNat else (2 * n).toNat
def digits (u:Nat):List UInt8:=if u < 128 then [μ u] else μ (u % 128+128):: digits (u / 128)
def bO (n:Int):List UInt8:=digits (lM n)
theorem zA {n:Int} (h:In64 n):lM n < 18446744073709551616:=by unfold lM;unfold In64 at h;split <;> omega
theorem digits_length (u:Nat):∀k,u < 128 ^ (k+1)->(digits u).length<=k+1:=by
 intro k;induction k generalizing u with
 | zero=>intro h;unfold digits;rw [if_pos (by omega)];simp
 | succ k ih=>
  intro h;unfold digits;split
  ·simp
  ·have:=ih (u / 128) (by rw [Nat.pow_succ] at h;omega);simp;omega
theorem gU {n:Int} (h:In64 n):(bO n).length<=10:=digits_length _ 9 (by have:=zA h;omega)
theorem rE {u:Nat} (h:128<=u):digits u=μ (u % 128+128):: digits (u / 128):=by rw [digits,if_neg (by omega)]
theorem nJ {u:Nat} (h:u < 128):digits u=[μ u]:=by rw [digits,if_pos h]
theorem tX {base:Nat} {w:O} {v:δ} {l:List UInt8} (h:Own base w v l) (hb:base<=w.heap.size) (x:Nat) (hx:x < 256) (hl:l.length+1<=140737488355328):
  ∃v' w',(η #[96,96] 96 #[v,.slice (some ⟨w.heap.size,0,none⟩) 1 1]).run V (w.alloc (.cells #[.int .u8 x] 5))=.ok v' w'/\Apd base w v w' v' (l++ [μ x]):=by
 have bt:=aMr w [μ x] (0,0) (by simp [ψ]);have e:fT [μ x]=[.int .u8 x]:=by simp [fT];omega
 rw [e] at bt;obtain⟨v',w',h1,h2⟩:=aMq 96 (h.alloc _) bt (by simpa using hl) (by simp;omega);exact⟨v',w',h1,h2.jV⟩
def lV:Nat->Nat->List UInt8->Option (Nat × List UInt8)
 | _,_,[]=>none
 | i,u,d:: r=>if i=9/\1 < d.toNat then none else
   if 128<=d.toNat then lV (i+1) (u+d.toNat % 128 * 128 ^ i) r else if d.toNat=0/\0 < i then none else some (u+d.toNat % 128 * 128 ^ i,r)
def pO (u:Nat):Int:=if u % 2=1 then -((u / 2:Nat):Int) - 1 else ((u / 2:Nat):Int)
theorem aEW {i u:Nat} {d:UInt8} {r:List UInt8} (h9:¬(i=9/\1 < d.toNat)) (h:d.toNat < 128) (h0:¬(d.toNat=0/\0 < i)):lV i u (d:: r)=some (u+d.toNat % 128 * 128 ^ i,r):=by rw [lV,if_neg h9,if_neg (by omega),if_neg h0]
def aBE (l:List UInt8):Option (Nat × List UInt8):=
 match lV 0 0 l with
 | none=>none
 | some (u,r)=>if pO u < 0\/(r.length:Int) < pO u then none else some ((pO u).toNat,r)
theorem zV (r:List UInt8):∀(u i acc:Nat),i<=9->u * 128 ^ i < 18446744073709551616->(0 < i->0 < u)->lV i acc (digits u++r)=some (acc+u * 128 ^ i,r):=by
 intro u;induction u using Nat.strongRecOn with
 | _ u ih=>
  intro i acc hi hu h0;have e9:(128:Nat) ^ 9=9223372036854775808:=by decide
  by_cases hs:u < 128
  ·rw [nJ hs];have ht:(μ u).toNat=u:=by simp;omega
   have h9:¬(i=9/\1 < u):=by rintro ⟨rfl,h⟩;have:2 * 128 ^ 9<=u * 128 ^ 9:=Ω _ h;omega
   show lV i acc (μ u:: r)=_;rw [aEW (by rw [ht];exact h9) (by rw [ht];exact hs) (by rw [ht];omega),ht,Nat.mod_eq_of_lt hs]
  ·rw [rE (by omega)];have ht:(μ (u % 128+128)).toNat=u % 128+128:=by simp;omega
   have h9:i < 9:=by
    rcases Nat.lt_or_ge i 9 with h | h
    ·exact h
    ·have:i=9:=by omega
     subst this;have:128 * 128 ^ 9<=u * 128 ^ 9:=Ω _ (by omega);omega
   have hp:u=128 * (u / 128)+u % 128:=by omega
   have hm:u * 128 ^ i=u % 128 * 128 ^ i+u / 128 * 128 ^ (i+1):=by
    rw [Nat.pow_succ];generalize 128 ^ i=p
    conv=>lhs;rw [hp,Nat.add_mul]
    rw [Nat.add_comm,Nat.mul_comm p 128,Nat.mul_comm 128 (u / 128),Nat.mul_assoc]
   show lV i acc (μ (u % 128+128):: (digits (u / 128)++r))=_;rw [lV,ht,if_neg (by omega),if_pos (by omega),ih (u / 128) (by omega) (i+1) _ (by omega) (by omega) (by omega),hm];congr 2;have:(u % 128+128) % 128=u % 128:=by omega
   rw [this];omega
theorem vU {n:Int} (h:In64 n) (r:List UInt8):lV 0 0 (bO n++r)=some (lM n,r):=by have:=zV r (lM n) 0 0 (by omega) (by have:=zA h;simpa using this) (by omega);simpa [bO] using this
theorem vV (n:Int):pO (lM n)=n:=by unfold pO lM;split <;> split <;> omega
theorem aEX (u:Nat):1<=(digits u).length:=by rw [digits];split <;> simp
def bR (s:ByteArray):List UInt8:=bO s.size++s.data.toList
def bV (c:aN):List UInt8:=bO c.row++(bO c.col++bR c.text)
def fB (x:fD):List UInt8:=bR x.scope++(bR x.name++bR x.text)
def zB (v:sK):List UInt8:=bO v.kind++(bO v.n++bR v.s)
def gG (x:eO):List UInt8:=bR x.book++(bR x.fA++(bO x.row++(bO x.col++zB x.value)))
def cO {α:Type} (B:α->List UInt8) (l:List α):List UInt8:=bO l.length++l.flatMap B
theorem oJ (n:Int):1<=(bO n).length:=aEX _
theorem kL (s:ByteArray):(bR s).length=(bO s.size).length+s.size:=by simp [bR]
theorem vF (c:aN):1<=(bV c).length:=by have:=oJ c.row;simp [bV];omega
theorem vG (c:fD):1<=(fB c).length:=by have:=oJ c.scope.size;simp [fB,bR];omega
theorem vH (c:eO):1<=(gG c).length:=by have:=oJ c.row;simp [gG];omega
theorem kX {α:Type} {B:α->List UInt8} (hB:∀x,1<=(B x).length) (l:List α):l.length<=(l.flatMap B).length:=by
 induction l with
 | nil=>simp
 | cons x r ih=>have:=hB x;simp only [ω,Z,σ];omega
theorem iX {α:Type} (B:α->List UInt8) (l:List α) (k:Nat) (h:k < l.length):(l.take (k+1)).flatMap B=(l.take k).flatMap B++B l[k]:=by rw [List.take_add_one,D h,z1];simp
theorem zW {α:Type} (B:α->List UInt8) (l:List α) (k:Nat) (h:k < l.length):l.flatMap B=(l.take k).flatMap B++(B l[k]++(l.drop (k+1)).flatMap B):=by
 conv=>lhs;rw [<-List.take_append_drop (k+1) l,z1,iX B l k h,G]
theorem kM {α:Type} (B:α->List UInt8) (l:List α) (k:Nat) (h:k < l.length):((l.take k).flatMap B).length+(B l[k]).length<=(l.flatMap B).length:=by rw [zW B l k h];simp only [Z];omega
abbrev Rdr (α:Type):=List UInt8->Option (α × List UInt8)
def aDu:Rdr Int:=fun l=>(lV 0 0 l).map fun p=>(pO p.1,p.2)
def qH:Rdr ByteArray:=fun l=>(aBE l).map fun p=>(⟨(p.2.take p.1).toArray⟩,p.2.drop p.1)
def nQ:Rdr aN:=fun l=>(aDu l).bind fun a=>(aDu a.2).bind fun b=>(qH b.2).bind fun t=>some (⟨a.1,b.1,t.1⟩,t.2)
def aFS:Rdr fD:=fun l=>(qH l).bind fun a=>(qH a.2).bind fun b=>(qH b.2).bind fun t=>some (⟨a.1,b.1,t.1⟩,t.2)
def aNT:Rdr sK:=fun l=>(aDu l).bind fun a=>(aDu a.2).bind fun b=>(qH b.2).bind fun t=>some (⟨a.1,b.1,t.1⟩,t.2)
def aFT:Rdr eO:=fun l=>(qH l).bind fun a=>(qH a.2).bind fun b=>(aDu b.2).bind fun c=>(aDu c.2).bind fun d=>(aNT d.2).bind fun v=>some (⟨a.1,b.1,c.1,d.1,v.1⟩,v.2)
def aBF {α:Type} (R:Rdr α):Nat->Rdr (List α)
 | 0,l=>some ([],l)
 | n+1,l=>(R l).bind fun p=>(aBF R n p.2).bind fun q=>some (p.1:: q.1,q.2)
def zX {α:Type} (R:Rdr α):Rdr (List α):=fun l=>(aBE l).bind fun p=>aBF R p.1 p.2
theorem vI {n:Int} (h:In64 n) (r:List UInt8):aDu (bO n++r)=some (n,r):=by unfold aDu;rw [vU h];simp [vV]
theorem aDv {n:Nat} (h:n<=9223372036854775807) {r:List UInt8} (hr:n<=r.length):aBE (bO n++r)=some (n,r):=by unfold aBE;rw [vU (by constructor <;> omega)];dsimp only;rw [vV,if_neg (by omega)];simp
theorem lN {s:ByteArray} (h:(bR s).length<=9223372036854775807) (r:List UInt8):qH (bR s++r)=some (s,r):=by
 rw [kL] at h;unfold qH bR;rw [G,aDv (by omega) (by simp)];have e:s.size=s.data.toList.length:=by simp
 simp only [Option.map_some,e,List.take_left,List.drop_left]
theorem aMs {c:aN} (h:c.Ok) (hl:(bV c).length<=9223372036854775807) (r:List UInt8):nQ (bV c++r)=some (c,r):=by simp only [bV,Z] at hl;simp only [nQ,bV,G,vI h.1,vI h.2,ξ,lN (s:=c.text) (by omega)]
theorem aMt {c:fD} (hl:(fB c).length<=9223372036854775807) (r:List UInt8):aFS (fB c++r)=some (c,r):=by simp only [fB,Z] at hl;simp only [aFS,fB,G,ξ,lN (s:=c.scope) (by omega),lN (s:=c.name) (by omega),lN (s:=c.text) (by omega)]
theorem aNU {c:sK} (h:c.Ok) (hl:(zB c).length<=9223372036854775807) (r:List UInt8):aNT (zB c++r)=some (c,r):=by simp only [zB,Z] at hl;simp only [aNT,zB,G,vI h.1,vI h.2,ξ,lN (s:=c.s) (by omega)]
theorem aMu {c:eO} (h:c.Ok) (hl:(gG c).length<=9223372036854775807) (r:List UInt8):aFT (gG c++r)=some (c,r):=by simp only [gG,Z] at hl;simp only [aFT,gG,G,vI h.1,vI h.2.1,ξ,lN (s:=c.book) (by omega),lN (s:=c.fA) (by omega),aNU (c:=c.value) h.2.2 (by omega)]
theorem aKv {α:Type} {R:Rdr α} {B:α->List UInt8} (l:List α) (h:∀x ∈ l,∀r,R (B x++r)=some (x,r)) (r:List UInt8):aBF R l.length (l.flatMap B++r)=some (l,r):=by
 induction l with
 | nil=>rfl
 | cons x t ih=>
  have h1:=ih fun y hy=>h y (by simp [hy]);rw [ω,G,σ,aBF,h x (by simp)];simp only [ξ];rw [h1];rfl
theorem aBG {α:Type} {R:Rdr α} {B:α->List UInt8} (hB:∀x,1<=(B x).length) (l:List α) (h:∀x ∈ l,∀r,R (B x++r)=some (x,r)) (hl:(cO B l).length<=9223372036854775807) (r:List UInt8):zX R (cO B l++r)=some (l,r):=by have hg:=kX hB l;simp only [cO,Z] at hl;unfold zX cO;rw [G,aDv (by omega) (by rw [Z];omega)];simp only [ξ];exact aKv l h r
theorem wH {α:Type} {B:α->List UInt8} {l:List α} {x:α} (h:x ∈ l):(B x).length<=(l.flatMap B).length:=by
 induction l with
 | nil=>cases h
 | cons y t ih=>
  simp only [ω,Z];rcases List.mem_cons.1 h with rfl | h
  ·omega
  ·have:=ih h;omega
def bC (s:aT):List UInt8:=bR s.name++cO bV s.cells
def dA (x:aP):List UInt8:=cO bC x.sheets++(cO fB x.names++cO gG x.links)
theorem zC (c:aT):1<=(bC c).length:=by have:=oJ c.name.size;simp [bC,bR];omega
def aBH:Rdr aT:=fun l=>(qH l).bind fun a=>(zX nQ a.2).bind fun b=>some (⟨a.1,b.1⟩,b.2)
def aKw:Rdr aP:=fun l=>(zX aBH l).bind fun a=>(zX aFS a.2).bind fun b=>(zX aFT b.2).bind fun c=>some (⟨a.1,b.1,c.1⟩,c.2)
def aMQ (l:List UInt8):Option aP:=
 match aKw l with
 | some (x,[])=>some x
 | _=>none
theorem aKx {l:List aN} (h:∀c ∈ l,c.Ok) (hl:(cO bV l).length<=9223372036854775807) (r:List UInt8):zX nQ (cO bV l++r)=some (l,r):=
 aBG vF l (fun o ho r=>aMs (h o ho) (by
  have:=wH (B:=bV) ho;simp only [cO,Z] at hl;omega) r) hl r
theorem aKy {c:aT} (h:c.Ok) (hl:(bC c).length<=9223372036854775807) (r:List UInt8):aBH (bC c++r)=some (c,r):=by simp only [bC,Z] at hl;simp only [aBH,bC,G,ξ,lN (s:=c.name) (by omega),aKx h (by omega)]
theorem aHg {l:List aT} (h:∀c ∈ l,c.Ok) (hl:(cO bC l).length<=9223372036854775807) (r:List UInt8):zX aBH (cO bC l++r)=some (l,r):=
 aBG zC l (fun o ho r=>aKy (h o ho) (by
  have:=wH (B:=bC) ho;simp only [cO,Z] at hl;omega) r) hl r
theorem aKz {l:List fD} (hl:(cO fB l).length<=9223372036854775807) (r:List UInt8):zX aFS (cO fB l++r)=some (l,r):=
 aBG vG l (fun o ho r=>aMt (by
  have:=wH (B:=fB) ho;simp only [cO,Z] at hl;omega) r) hl r
theorem aKA {l:List eO} (h:∀c ∈ l,c.Ok) (hl:(cO gG l).length<=9223372036854775807) (r:List UInt8):zX aFT (cO gG l++r)=some (l,r):=
 aBG vH l (fun o ho r=>aMu (h o ho) (by
  have:=wH (B:=gG) ho;simp only [cO,Z] at hl;omega) r) hl r
theorem aMv {x:aP} (h:x.Ok) (hl:(dA x).length<=9223372036854775807) (r:List UInt8):aKw (dA x++r)=some (x,r):=by simp only [dA,Z] at hl;simp only [aKw,dA,G,ξ,aHg h.1 (by omega),aKz (l:=x.names) (by omega),aKA h.2 (by omega)]
theorem wI {x:aP} (h:x.Ok) (hl:(dA x).length<=9223372036854775807):aMQ (dA x)=some x:=by have:=aMv h hl [];rw [List.append_nil] at this;unfold aMQ;rw [this]
end Go.Proofs.YtfedoljlipfhdaaGreatDoor.Sh.Bt
namespace Go.Proofs.YtfedoljlipfhdaaGreatDoor.Sh
open Go.RowKit
theorem Cls.at {lo hi:Nat} {w:O} {a:Option z0} {c:Nat} {L:List aN} (h:Cls lo hi w (.slice a L.length c) L) {k:Nat} (hk:k < L.length):
  ∃a',a=some a'/\w.cell? (a'.add (k * 3))=some (.int .i64 L[k].row)/\w.cell? ⟨(a'.add (k * 3)).block,(a'.add (k * 3)).off+1,none⟩=some (.int .i64 L[k].col)/\w.cell? ⟨(a'.add (k * 3)).block,(a'.add (k * 3)).off+2,none⟩=some (.string L[k].text):=by
 obtain⟨a',h1,h2,h3⟩:=Rws.at h hk;refine ⟨a',h1,h2 _ ?_,h3 1 _ (by decide) ?_,h3 2 _ (by decide) ?_⟩ <;> simp [D hk,cellC]
end Go.Proofs.YtfedoljlipfhdaaGreatDoor.Sh
namespace Go.Proofs.YtfedoljlipfhdaaGreatDoor.Sh.Bt
open Go.RowKit
theorem aFU {base:Nat} {w:O} {v:δ} {l:List UInt8} (ty:Γ) (h:Own base w v l) (s:ByteArray) (hn:l.length+s.size<=140737488355328) (hbase:base<=w.heap.size):
  ∃v' w',(η #[96,9] ty #[v,.string s]).run V w=.ok v' w'/\Own base w' v' (l++s.data.toList)/\w.grownBy w' v.ownBlock:=by
 obtain⟨i0,hi,hz0,hz1,hz2⟩:=info_parts info5;obtain⟨v',w',h1,h2,h3,_⟩:=Go.Lib.run_append_own_string (P:=V) w base 96 9 ty 5 i0 ρ ν hi hz0 hz1 hz2 v _ _ h s (by simp only [ψ];omega) hn hbase;refine ⟨v',w',h1, ?_,h3⟩;unfold Own;rw [Z,qG];exact h2
theorem Own.aNV {base:Nat} {w:O} {v:δ} {l:List UInt8} (h:Own base w v l) {b:Nat} {C:Array δ} {z:Nat × Nat} {t:Γ} (ht:t ≠ 5) (hb:w.heap[b]? =some (.cells C t z)):some b ≠ v.ownBlock:=by
 rcases h.2 with ⟨rfl,_⟩ | ⟨g,cap,cur,rfl,_,hh,_⟩
 ·simp [ο]
 ·simp only [ο];intro e;simp at e;subst e;rw [hb] at hh;simp at hh;exact ht hh.2.1
theorem rF {P:Program} {ops:Array Oper} {rest:List Oper} {o:Oper} {a:Act} {w:O} {Q:Exit->Act->O->Prop} (hgd:o.guard=none) (s x:Operand) (t u:Γ)
  (ho:o.op=Op.call { callee:=Callee.builtin Builtin.append,args:=#[s,x],argTypes:=#[t,u] }) (v bv v':δ) (w':O) (hs:a.eval s=v) (hx:a.eval x=bv)
  (hrun:(η #[t,u] o.type #[v,bv]).run P w=.ok v' w') (h:z5 P ops Q rest (a.put o.dst v') w'):z5 P ops Q (o:: rest) a w:=by
 refine wpList_plain hgd fun K hK=> ?_;unfold Oper.wp;simp [execOp,ho,resolve,invoke,builtin,hs,hx,hrun,Result.andThen];exact hK _ _ h
theorem aKB {base:Nat} {w:O} {v:δ} {l:List UInt8} (ty:Γ) (h:Own base w v l) (s:ByteArray) (hn:l.length+s.size<=140737488355328) (hbase:base<=w.heap.size):
  ∃v' w',(η #[96,9] ty #[v,.string s]).run V w=.ok v' w'/\Own base w' v' (l++s.data.toList)/\w.grownBy w' v.ownBlock/\∀g,v'.ownBlock=some g->v.ownBlock=some g\/w.heap.size<=g:=by
 obtain⟨i0,hi,hz0,hz1,hz2⟩:=info_parts info5;obtain⟨v',w',h1,h2,h3⟩:=aFU ty h s hn hbase;refine ⟨v',w',h1,h2,h3,fun g hg=> ?_⟩;rcases h.2 with ⟨rfl,hl0⟩ | ⟨g',cap,cur,rfl,hb,hh,hc1,hc2,hcs,htk⟩
 ·obtain rfl:=φ hl0;obtain⟨v2,w2,k1,k2,_⟩:=aFU ty (Own.nil w w.heap.size) s hn (ε _);rw [h1] at k1;injection k1 with e1 e2;subst e1;exact .inr (k2.lt hg).1
 ·by_cases hroom:l.length+s.size<=cap
  ·have hr:=Lib.run_append_room_string (P:=V) w 96 9 ty 5 i0 ρ ν hi hz1 g' l.length cap cur hh s hroom (by rw [hcs];omega);rw [h1] at hr;injection hr with e1 e2;subst e1;exact .inl hg
  ·have hr:=Lib.run_append_grow_string (P:=V) w 96 9 ty 5 i0 (.int .u8 0) ρ ν hi hz0 ⟨g',0,none⟩ l.length cap (fT l) (by rw [qF,hz1,Nat.mul_one]) (World.ownsRow.cells h (g:=g') rfl) s (by omega) (by omega) (growslice_fits (by omega) (by rw [hz2];omega));rw [h1] at hr;injection hr with e1 e2;subst e1;simp [ο] at hg;subst hg;exact .inr (ε _)
theorem aKC {base:Nat} {w:O} {v:δ} {l:List UInt8} (h:Own base w v l) (hb:base<=w.heap.size) (s:ByteArray) (hl:l.length+s.size<=140737488355328):
  ∃v' w',(η #[96,9] 96 #[v,.string s]).run V w=.ok v' w'/\Apd base w v w' v' (l++s.data.toList):=by
 obtain⟨v',w',h1,h2,h3,h4⟩:=aKB 96 h s hl hb;exact⟨v',w',h1,h2,h3,h4⟩
theorem Apd.box {base:Nat} {w w':O} {v v':δ} {l m:List UInt8} (a:Apd base w v w' v' m) (h:Own base w v l) {b:Nat} {C:Array δ} {z:Nat × Nat} {t:Γ} (ht:t ≠ 5) (hb:w.heap[b]? =some (.cells C t z)):w'.heap[b]? =some (.cells C t z):=by
 rw [a.gr.block b ?_ (h.aNV ht hb)]
 ·exact hb
 ·rcases Nat.lt_or_ge b w.heap.size with h | h
  ·exact h
  ·rw [Array.getElem?_eq_none h] at hb;cases hb
theorem aKD {n:Int} (h:In64 n) (h0:n < 0):bits .xor .u64 (IntKind.u64.wrap (IntKind.u64.wrap n * 2)) 18446744073709551615=(lM n:Int):=by
 unfold In64 at h;have e1:IntKind.u64.wrap (IntKind.u64.wrap n * 2)=(((2 * n+18446744073709551616).toNat:Nat):Int):=by rw [IntKind.wrap_u64,IntKind.wrap_u64];omega
 have e2:(18446744073709551615:Int)=((2 ^ 64 - 1:Nat):Int):=by decide
 rw [e1,e2,bits_xor_u64_nat _ _ (by omega) (by decide),Nat.xor_comm,Lib.xor_ones64 _ (by omega)];unfold lM;rw [if_pos h0];omega
theorem iY {base:Nat} {w:O} {v:δ} {l:List UInt8} (h:Own base w v l) (hb:base<=w.heap.size) (n:Int) (hn:In64 n) (hl:l.length+10<=140737488355328):
  ι V 98 #[v,.int .i64 n] w fun e w'=>∃v',e=.returned v'/\Apd base w v w' v' (l++bO n):=by
 have hlt:=zA hn;have HL:U ((bO n).length<=10):=gU hn;have HN:U (bO n=digits (lM n)):=rfl;have H:U (Own base w v l):=h;by_cases h0:n < 0
 ·have FX:=aKD hn h0;unfold In64 at hn;clear h;go_enter Tryz.func98,Tryz.ntmps98;go_wp2_with fail
  go_loopw [0,5] (fun v5 u5 wr=>∃m:Nat,u5=.int .u64 m/\m < 18446744073709551616/\U (∃done,bO n=done++digits m/\Apd base w v wr v5 (l++done))) (fun _ u5 _=>(intOf u5).toNat)
  case atStart=>exact⟨lM n,by rfl,hlt,[],HN.out,by simpa using Apd.refl H.out⟩
  case round=>
   obtain⟨m,rfl,hm,HD⟩:=hrel;clear HN hlt hn h0 FX;have fo:bits .or .u8 ((m:Int) % 256) 128=(m:Int) % 128+128:=by rw [Lib.u8_or128_any _ (by omega) (by omega)];omega
   by_cases hbig:128<=m
   ·have E:U (∃v' w',(η #[96,96] 96 #[u0,.slice (some ⟨wr.heap.size,0,none⟩) 1 1]).run V (wr.alloc (.cells #[.int .u8 ((m:Int) % 128+128)] 5))=.ok v' w'/\∃done,bO n=done++digits (m / 128)/\Apd base w v w' v' (l++done)):=by obtain⟨done,hd,ap⟩:=HD.out;rw [rE hbig] at hd;have hlen:=HL.out;rw [hd] at hlen;simp only [Z,σ] at hlen;obtain⟨v',w',h1,h2⟩:=tX ap.own (J hb ap.gr.size) (m % 128+128) (by omega) (by simp only [Z];omega);refine ⟨v',w',by exact h1,done++ [μ (m % 128+128)],by rw [hd];simp, ?_⟩;have:=ap.trans h2;rw [G] at this;exact this
    obtain⟨v',w',run,E2⟩:=E.out;have R:U _:=run;have E3:U _:=E2;clear E run E2 HD;go_wp2_with (at_builtin;refine wpList_append_run rfl _ _ 96 rfl _ _ _ _ rfl rfl R.out ?_)
    go_roundw
    case rel=>exact⟨m / 128,by go_num,by omega,E3.out⟩
    case measure=>simp [intOf];omega
   ·have E:U (∃v' w',(η #[96,96] 96 #[u0,.slice (some ⟨wr.heap.size,0,none⟩) 1 1]).run V (wr.alloc (.cells #[.int .u8 (m:Int)] 5))=.ok v' w'/\Apd base w v w' v' (l++bO n)):=by obtain⟨done,hd,ap⟩:=HD.out;rw [nJ (by omega)] at hd;have hlen:=HL.out;rw [hd] at hlen;simp only [Z,σ] at hlen;obtain⟨v',w',h1,h2⟩:=tX ap.own (J hb ap.gr.size) m (by omega) (by simp only [Z];omega);refine ⟨v',w',h1, ?_⟩;have:=ap.trans h2;rw [G,<-hd] at this;exact this
    obtain⟨v',w',run,E2⟩:=E.out;have R:U _:=run;have E3:U _:=E2;clear E run E2 HD fo;go_wp2_with (at_builtin;refine wpList_append_run rfl _ _ 96 rfl _ _ _ _ rfl rfl R.out ?_)
    go_ret;exact⟨v',rfl,E3.out⟩
 ·have FX:U (n * 2=(lM n:Int)):=by show _=_;unfold lM;rw [if_neg h0];omega
  unfold In64 at hn;clear h;go_enter Tryz.func98,Tryz.ntmps98;go_wp2_with fail
  go_loopw [0,5] (fun v5 u5 wr=>∃m:Nat,u5=.int .u64 m/\m < 18446744073709551616/\U (∃done,bO n=done++digits m/\Apd base w v wr v5 (l++done))) (fun _ u5 _=>(intOf u5).toNat)
  case atStart=>exact⟨lM n,by rw [<-FX.out],hlt,[],HN.out,by simpa using Apd.refl H.out⟩
  case round=>
   obtain⟨m,rfl,hm,HD⟩:=hrel;clear HN hlt hn h0 FX;have fo:bits .or .u8 ((m:Int) % 256) 128=(m:Int) % 128+128:=by rw [Lib.u8_or128_any _ (by omega) (by omega)];omega
   by_cases hbig:128<=m
   ·have E:U (∃v' w',(η #[96,96] 96 #[u0,.slice (some ⟨wr.heap.size,0,none⟩) 1 1]).run V (wr.alloc (.cells #[.int .u8 ((m:Int) % 128+128)] 5))=.ok v' w'/\∃done,bO n=done++digits (m / 128)/\Apd base w v w' v' (l++done)):=by obtain⟨done,hd,ap⟩:=HD.out;rw [rE hbig] at hd;have hlen:=HL.out;rw [hd] at hlen;simp only [Z,σ] at hlen;obtain⟨v',w',h1,h2⟩:=tX ap.own (J hb ap.gr.size) (m % 128+128) (by omega) (by simp only [Z];omega);refine ⟨v',w',by exact h1,done++ [μ (m % 128+128)],by rw [hd];simp, ?_⟩;have:=ap.trans h2;rw [G] at this;exact this
    obtain⟨v',w',run,E2⟩:=E.out;have R:U _:=run;have E3:U _:=E2;clear E run E2 HD;go_wp2_with (at_builtin;refine wpList_append_run rfl _ _ 96 rfl _ _ _ _ rfl rfl R.out ?_)
    go_roundw
    case rel=>exact⟨m / 128,by go_num,by omega,E3.out⟩
    case measure=>simp [intOf];omega
   ·have E:U (∃v' w',(η #[96,96] 96 #[u0,.slice (some ⟨wr.heap.size,0,none⟩) 1 1]).run V (wr.alloc (.cells #[.int .u8 (m:Int)] 5))=.ok v' w'/\Apd base w v w' v' (l++bO n)):=by obtain⟨done,hd,ap⟩:=HD.out;rw [nJ (by omega)] at hd;have hlen:=HL.out;rw [hd] at hlen;simp only [Z,σ] at hlen;obtain⟨v',w',h1,h2⟩:=tX ap.own (J hb ap.gr.size) m (by omega) (by simp only [Z];omega);refine ⟨v',w',h1, ?_⟩;have:=ap.trans h2;rw [G,<-hd] at this;exact this
    obtain⟨v',w',run,E2⟩:=E.out;have R:U _:=run;have E3:U _:=E2;clear E run E2 HD fo;go_wp2_with (at_builtin;refine wpList_append_run rfl _ _ 96 rfl _ _ _ _ rfl rfl R.out ?_)
    go_ret;exact⟨v',rfl,E3.out⟩
theorem Own.drew {base:Nat} {w:O} {v:δ} {l:List UInt8} (h:Own base w v l):Own base w.drew v l:=h
theorem Apd.tY {base:Nat} {w w':O} {v v':δ} {l:List UInt8} (h:Apd base w.drew v w' v' l):Apd base w v w' v' l:=⟨h.own,⟨h.gr.os,h.gr.tape,h.gr.output,h.gr.size,h.gr.block⟩,h.loc⟩
theorem fF {base:Nat} {w:O} {v:δ} {l:List UInt8} (h:Own base w v l) (hb:base<=w.heap.size) (s:ByteArray) (hl:l.length+(bR s).length+10<=140737488355328):
  ι V 100 #[v,.string s] w fun e w'=>∃v',e=.returned v'/\Apd base w v w' v' (l++bR s):=by
 have hz:=kL s;have C:ι V 98 #[v,.int .i64 s.size] w fun e w'=>∃v1,e=.returned v1/\∃v' w2,U ((η #[96,9] 96 #[v1,.string s]).run V w'=.ok v' w2)/\U (Apd base w v w2 v' (l++bR s)):=by refine (iY h hb s.size (by constructor <;> omega) (by omega)).mono ?_;rintro e w' ⟨v1,rfl,ap⟩;obtain⟨v',w2,hr,ap2⟩:=aKC ap.own (J hb ap.gr.size) s (by rw [Z];omega);refine ⟨v1,rfl,v',w2,hr, ?_⟩;have:=ap.trans ap2;rw [G] at this;exact this
 have hs:s.size<=140737488355328:=by omega
 clear h hl hz hb;go_enter Tryz.func100,Tryz.ntmps100;go_wp2_with (first|(go_at_call 98;refine C.mono ?_;rintro e w1 ⟨v1,rfl,v2,w2,R,A⟩)|(at_builtin;refine rF rfl _ _ 96 9 rfl _ _ _ _ rfl rfl R.out ?_))
 go_ret;exact⟨v2,rfl,A.out⟩
theorem aDw {base:Nat} {w:O} {v:δ} {l:List UInt8} (h:Own base w v l) (hb:base<=w.heap.size) (x:fD) (hl:l.length+(fB x).length+10<=140737488355328):
  ι V 101 #[v,kC x] w fun e w'=>∃v',e=.returned v'/\Apd base w v w' v' (l++fB x):=by
 obtain⟨sc,nm,tx⟩:=x;simp only [fB,Z] at *;try dsimp only at *
 have HL:U _:=hl;have O0:U (Own base (w.alloc (.cells #[.string sc,.string nm,.string tx] 89)) v l):=h.alloc _;have HK:U ((w.alloc (.cells #[.string sc,.string nm,.string tx] 89)).heap[w.heap.size]? =some (.cells #[.string sc,.string nm,.string tx] 89)):=γ w _;have HB:U (base<=(w.alloc (.cells #[.string sc,.string nm,.string tx] 89)).heap.size):=by show _<=_;simp;omega
 have T1:U (ι V 100 #[v,.string sc] (w.alloc (.cells #[.string sc,.string nm,.string tx] 89)).drew fun e w'=>∃v',e=.returned v'/\U (w'.heap[w.heap.size]? =some (.cells #[.string sc,.string nm,.string tx] 89))/\U (Apd base (w.alloc (.cells #[.string sc,.string nm,.string tx] 89)) v w' v' (l++bR sc))):=by refine (fF (O0.out.drew) HB.out sc (by have:=HL.out;(try simp only [Z]);omega)).mono ?_;rintro e w' ⟨v',rfl,ap⟩;exact⟨v',rfl,Apd.box (w:=(w.alloc (.cells #[.string sc,.string nm,.string tx] 89)).drew) ap O0.out.drew (by decide) HK.out,ap.tY⟩
 have T2:U (∀w1 v1,U (w1.heap[w.heap.size]? =some (.cells #[.string sc,.string nm,.string tx] 89))->U (Apd base (w.alloc (.cells #[.string sc,.string nm,.string tx] 89)) v w1 v1 (l++bR sc))->ι V 100 #[v1,.string nm] w1 fun e w'=>∃v',e=.returned v'/\U (w'.heap[w.heap.size]? =some (.cells #[.string sc,.string nm,.string tx] 89))/\U (Apd base (w.alloc (.cells #[.string sc,.string nm,.string tx] 89)) v w' v' (l++bR sc++bR nm))):=by intro w1 v1 hk ap1;refine (fF (ap1.out.own) (J HB.out ap1.out.gr.size) nm (by have:=HL.out;(try simp only [Z]);omega)).mono ?_;rintro e w' ⟨v',rfl,ap⟩;exact⟨v',rfl,Apd.box ap ap1.out.own (by decide) hk.out,ap1.out.trans ap⟩
 have T3:U (∀w1 v1,U (w1.heap[w.heap.size]? =some (.cells #[.string sc,.string nm,.string tx] 89))->U (Apd base (w.alloc (.cells #[.string sc,.string nm,.string tx] 89)) v w1 v1 (l++bR sc++bR nm))->ι V 100 #[v1,.string tx] w1 fun e w'=>∃v',e=.returned v'/\U (w'.heap[w.heap.size]? =some (.cells #[.string sc,.string nm,.string tx] 89))/\U (Apd base (w.alloc (.cells #[.string sc,.string nm,.string tx] 89)) v w' v' (l++bR sc++bR nm++bR tx))):=by intro w1 v1 hk ap1;refine (fF (ap1.out.own) (J HB.out ap1.out.gr.size) tx (by have:=HL.out;(try simp only [Z]);omega)).mono ?_;rintro e w' ⟨v',rfl,ap⟩;exact⟨v',rfl,Apd.box ap ap1.out.own (by decide) hk.out,ap1.out.trans ap⟩
 clear h hl hb O0 HB HL;go_enter Tryz.func101,Tryz.ntmps101;go_wp2_with fail
 go_region_held_law (fun u=>u.cell? ⟨w.heap.size,0,none⟩=some (.string sc)/\u.cell? ⟨w.heap.size,1,none⟩=some (.string nm)/\u.cell? ⟨w.heap.size,2,none⟩=some (.string tx)) (exact ⟨aI HK.out rfl,aI HK.out rfl,aI HK.out rfl⟩) (first|(go_at_call_of 100 sc;refine T1.out.mono ?_;rintro e w1 ⟨v1,rfl,HK,HA⟩)|(go_at_call_of 100 nm;refine (T2.out _ _ HK HA).mono ?_;rintro e w1 ⟨v1,rfl,HK,HA⟩)|(go_at_call_of 100 tx;refine (T3.out _ _ HK HA).mono ?_;rintro e w1 ⟨v1,rfl,HK,HA⟩))
 go_wp2_with fail
 go_ret;exact⟨_,rfl,by have:=HA.out.jV;simp only [G] at this;exact this⟩
theorem aBI {base:Nat} {w:O} {v:δ} {l:List UInt8} (h:Own base w v l) (hb:base<=w.heap.size) (x:sK) (ok:x.Ok) (hl:l.length+(zB x).length+10<=140737488355328):
  ι V 147 #[v,aLi x] w fun e w'=>∃v',e=.returned v'/\Apd base w v w' v' (l++zB x):=by
 obtain⟨kd,nn,ss⟩:=x;obtain⟨i1,i2⟩:=ok;simp only [zB,Z] at *;try dsimp only at *
 have HL:U _:=hl;have O0:U (Own base (w.alloc (.cells #[.int .i64 kd,.int .i64 nn,.string ss] 62)) v l):=h.alloc _;have HK:U ((w.alloc (.cells #[.int .i64 kd,.int .i64 nn,.string ss] 62)).heap[w.heap.size]? =some (.cells #[.int .i64 kd,.int .i64 nn,.string ss] 62)):=γ w _;have HB:U (base<=(w.alloc (.cells #[.int .i64 kd,.int .i64 nn,.string ss] 62)).heap.size):=by show _<=_;simp;omega
 have T1:U (ι V 98 #[v,.int .i64 kd] (w.alloc (.cells #[.int .i64 kd,.int .i64 nn,.string ss] 62)).drew fun e w'=>∃v',e=.returned v'/\U (w'.heap[w.heap.size]? =some (.cells #[.int .i64 kd,.int .i64 nn,.string ss] 62))/\U (Apd base (w.alloc (.cells #[.int .i64 kd,.int .i64 nn,.string ss] 62)) v w' v' (l++bO kd))):=by refine (iY (O0.out.drew) HB.out kd i1 (by have:=HL.out;(try simp only [Z]);omega)).mono ?_;rintro e w' ⟨v',rfl,ap⟩;exact⟨v',rfl,Apd.box (w:=(w.alloc (.cells #[.int .i64 kd,.int .i64 nn,.string ss] 62)).drew) ap O0.out.drew (by decide) HK.out,ap.tY⟩
 have T2:U (∀w1 v1,U (w1.heap[w.heap.size]? =some (.cells #[.int .i64 kd,.int .i64 nn,.string ss] 62))->U (Apd base (w.alloc (.cells #[.int .i64 kd,.int .i64 nn,.string ss] 62)) v w1 v1 (l++bO kd))->ι V 98 #[v1,.int .i64 nn] w1 fun e w'=>∃v',e=.returned v'/\U (w'.heap[w.heap.size]? =some (.cells #[.int .i64 kd,.int .i64 nn,.string ss] 62))/\U (Apd base (w.alloc (.cells #[.int .i64 kd,.int .i64 nn,.string ss] 62)) v w' v' (l++bO kd++bO nn))):=by intro w1 v1 hk ap1;refine (iY (ap1.out.own) (J HB.out ap1.out.gr.size) nn i2 (by have:=HL.out;(try simp only [Z]);omega)).mono ?_;rintro e w' ⟨v',rfl,ap⟩;exact⟨v',rfl,Apd.box ap ap1.out.own (by decide) hk.out,ap1.out.trans ap⟩
 have T3:U (∀w1 v1,U (w1.heap[w.heap.size]? =some (.cells #[.int .i64 kd,.int .i64 nn,.string ss] 62))->U (Apd base (w.alloc (.cells #[.int .i64 kd,.int .i64 nn,.string ss] 62)) v w1 v1 (l++bO kd++bO nn))->ι V 100 #[v1,.string ss] w1 fun e w'=>∃v',e=.returned v'/\U (w'.heap[w.heap.size]? =some (.cells #[.int .i64 kd,.int .i64 nn,.string ss] 62))/\U (Apd base (w.alloc (.cells #[.int .i64 kd,.int .i64 nn,.string ss] 62)) v w' v' (l++bO kd++bO nn++bR ss))):=by intro w1 v1 hk ap1;refine (fF (ap1.out.own) (J HB.out ap1.out.gr.size) ss (by have:=HL.out;(try simp only [Z]);omega)).mono ?_;rintro e w' ⟨v',rfl,ap⟩;exact⟨v',rfl,Apd.box ap ap1.out.own (by decide) hk.out,ap1.out.trans ap⟩
 clear h hl hb O0 HB HL;go_enter Tryz.func147,Tryz.ntmps147;go_wp2_with fail
 go_region_held_law (fun u=>u.cell? ⟨w.heap.size,0,none⟩=some (.int .i64 kd)/\u.cell? ⟨w.heap.size,1,none⟩=some (.int .i64 nn)/\u.cell? ⟨w.heap.size,2,none⟩=some (.string ss)) (exact ⟨aI HK.out rfl,aI HK.out rfl,aI HK.out rfl⟩) (first|(go_at_call_of 98 kd;refine T1.out.mono ?_;rintro e w1 ⟨v1,rfl,HK,HA⟩)|(go_at_call_of 98 nn;refine (T2.out _ _ HK HA).mono ?_;rintro e w1 ⟨v1,rfl,HK,HA⟩)|(go_at_call_of 100 ss;refine (T3.out _ _ HK HA).mono ?_;rintro e w1 ⟨v1,rfl,HK,HA⟩))
 go_wp2_with fail
 go_ret;exact⟨_,rfl,by have:=HA.out.jV;simp only [G] at this;exact this⟩
theorem aDx {base:Nat} {w:O} {v:δ} {l:List UInt8} (h:Own base w v l) (hb:base<=w.heap.size) (x:eO) (ok:x.Ok) (hl:l.length+(gG x).length+10<=140737488355328):
  ι V 102 #[v,kD x] w fun e w'=>∃v',e=.returned v'/\Apd base w v w' v' (l++gG x):=by
 obtain⟨bk,sh,rw,cl,va⟩:=x;obtain⟨i1,i2,i3⟩:=ok;simp only [gG,Z] at *;try dsimp only at *
 have HL:U _:=hl;have O0:U (Own base (w.alloc (.cells #[.string bk,.string sh,.int .i64 rw,.int .i64 cl,.int .i64 va.kind,.int .i64 va.n,.string va.s] 91)) v l):=h.alloc _;have HK:U ((w.alloc (.cells #[.string bk,.string sh,.int .i64 rw,.int .i64 cl,.int .i64 va.kind,.int .i64 va.n,.string va.s] 91)).heap[w.heap.size]? =some (.cells #[.string bk,.string sh,.int .i64 rw,.int .i64 cl,.int .i64 va.kind,.int .i64 va.n,.string va.s] 91)):=γ w _;have HB:U (base<=(w.alloc (.cells #[.string bk,.string sh,.int .i64 rw,.int .i64 cl,.int .i64 va.kind,.int .i64 va.n,.string va.s] 91)).heap.size):=by show _<=_;simp;omega
 have T1:U (ι V 100 #[v,.string bk] (w.alloc (.cells #[.string bk,.string sh,.int .i64 rw,.int .i64 cl,.int .i64 va.kind,.int .i64 va.n,.string va.s] 91)).drew fun e w'=>∃v',e=.returned v'/\U (w'.heap[w.heap.size]? =some (.cells #[.string bk,.string sh,.int .i64 rw,.int .i64 cl,.int .i64 va.kind,.int .i64 va.n,.string va.s] 91))/\U (Apd base (w.alloc (.cells #[.string bk,.string sh,.int .i64 rw,.int .i64 cl,.int .i64 va.kind,.int .i64 va.n,.string va.s] 91)) v w' v' (l++bR bk))):=by refine (fF (O0.out.drew) HB.out bk (by have:=HL.out;(try simp only [Z]);omega)).mono ?_;rintro e w' ⟨v',rfl,ap⟩;exact⟨v',rfl,Apd.box (w:=(w.alloc (.cells #[.string bk,.string sh,.int .i64 rw,.int .i64 cl,.int .i64 va.kind,.int .i64 va.n,.string va.s] 91)).drew) ap O0.out.drew (by decide) HK.out,ap.tY⟩
 have T2:U (∀w1 v1,U (w1.heap[w.heap.size]? =some (.cells #[.string bk,.string sh,.int .i64 rw,.int .i64 cl,.int .i64 va.kind,.int .i64 va.n,.string va.s] 91))->U (Apd base (w.alloc (.cells #[.string bk,.string sh,.int .i64 rw,.int .i64 cl,.int .i64 va.kind,.int .i64 va.n,.string va.s] 91)) v w1 v1 (l++bR bk))->ι V 100 #[v1,.string sh] w1 fun e w'=>∃v',e=.returned v'/\U (w'.heap[w.heap.size]? =some (.cells #[.string bk,.string sh,.int .i64 rw,.int .i64 cl,.int .i64 va.kind,.int .i64 va.n,.string va.s] 91))/\U (Apd base (w.alloc (.cells #[.string bk,.string sh,.int .i64 rw,.int .i64 cl,.int .i64 va.kind,.int .i64 va.n,.string va.s] 91)) v w' v' (l++bR bk++bR sh))):=by intro w1 v1 hk ap1;refine (fF (ap1.out.own) (J HB.out ap1.out.gr.size) sh (by have:=HL.out;(try simp only [Z]);omega)).mono ?_;rintro e w' ⟨v',rfl,ap⟩;exact⟨v',rfl,Apd.box ap ap1.out.own (by decide) hk.out,ap1.out.trans ap⟩
 have T3:U (∀w1 v1,U (w1.heap[w.heap.size]? =some (.cells #[.string bk,.string sh,.int .i64 rw,.int .i64 cl,.int .i64 va.kind,.int .i64 va.n,.string va.s] 91))->U (Apd base (w.alloc (.cells #[.string bk,.string sh,.int .i64 rw,.int .i64 cl,.int .i64 va.kind,.int .i64 va.n,.string va.s] 91)) v w1 v1 (l++bR bk++bR sh))->ι V 98 #[v1,.int .i64 rw] w1 fun e w'=>∃v',e=.returned v'/\U (w'.heap[w.heap.size]? =some (.cells #[.string bk,.string sh,.int .i64 rw,.int .i64 cl,.int .i64 va.kind,.int .i64 va.n,.string va.s] 91))/\U (Apd base (w.alloc (.cells #[.string bk,.string sh,.int .i64 rw,.int .i64 cl,.int .i64 va.kind,.int .i64 va.n,.string va.s] 91)) v w' v' (l++bR bk++bR sh++bO rw))):=by intro w1 v1 hk ap1;refine (iY (ap1.out.own) (J HB.out ap1.out.gr.size) rw i1 (by have:=HL.out;(try simp only [Z]);omega)).mono ?_;rintro e w' ⟨v',rfl,ap⟩;exact⟨v',rfl,Apd.box ap ap1.out.own (by decide) hk.out,ap1.out.trans ap⟩
 have T4:U (∀w1 v1,U (w1.heap[w.heap.size]? =some (.cells #[.string bk,.string sh,.int .i64 rw,.int .i64 cl,.int .i64 va.kind,.int .i64 va.n,.string va.s] 91))->U (Apd base (w.alloc (.cells #[.string bk,.string sh,.int .i64 rw,.int .i64 cl,.int .i64 va.kind,.int .i64 va.n,.string va.s] 91)) v w1 v1 (l++bR bk++bR sh++bO rw))->ι V 98 #[v1,.int .i64 cl] w1 fun e w'=>∃v',e=.returned v'/\U (w'.heap[w.heap.size]? =some (.cells #[.string bk,.string sh,.int .i64 rw,.int .i64 cl,.int .i64 va.kind,.int .i64 va.n,.string va.s] 91))/\U (Apd base (w.alloc (.cells #[.string bk,.string sh,.int .i64 rw,.int .i64 cl,.int .i64 va.kind,.int .i64 va.n,.string va.s] 91)) v w' v' (l++bR bk++bR sh++bO rw++bO cl))):=by intro w1 v1 hk ap1;refine (iY (ap1.out.own) (J HB.out ap1.out.gr.size) cl i2 (by have:=HL.out;(try simp only [Z]);omega)).mono ?_;rintro e w' ⟨v',rfl,ap⟩;exact⟨v',rfl,Apd.box ap ap1.out.own (by decide) hk.out,ap1.out.trans ap⟩
 have T5:U (∀w1 v1,U (w1.heap[w.heap.size]? =some (.cells #[.string bk,.string sh,.int .i64 rw,.int .i64 cl,.int .i64 va.kind,.int .i64 va.n,.string va.s] 91))->U (Apd base (w.alloc (.cells #[.string bk,.string sh,.int .i64 rw,.int .i64 cl,.int .i64 va.kind,.int .i64 va.n,.string va.s] 91)) v w1 v1 (l++bR bk++bR sh++bO rw++bO cl))->ι V 147 #[v1,aLi va] w1 fun e w'=>∃v',e=.returned v'/\U (w'.heap[w.heap.size]? =some (.cells #[.string bk,.string sh,.int .i64 rw,.int .i64 cl,.int .i64 va.kind,.int .i64 va.n,.string va.s] 91))/\U (Apd base (w.alloc (.cells #[.string bk,.string sh,.int .i64 rw,.int .i64 cl,.int .i64 va.kind,.int .i64 va.n,.string va.s] 91)) v w' v' (l++bR bk++bR sh++bO rw++bO cl++zB va))):=by intro w1 v1 hk ap1;refine (aBI (ap1.out.own) (J HB.out ap1.out.gr.size) va i3 (by have:=HL.out;(try simp only [Z]);omega)).mono ?_;rintro e w' ⟨v',rfl,ap⟩;exact⟨v',rfl,Apd.box ap ap1.out.own (by decide) hk.out,ap1.out.trans ap⟩
 clear h hl hb O0 HB HL;go_enter Tryz.func102,Tryz.ntmps102;go_wp2_with fail
 go_region_held_law (fun u=>u.cell? ⟨w.heap.size,0,none⟩=some (.string bk)/\u.cell? ⟨w.heap.size,1,none⟩=some (.string sh)/\u.cell? ⟨w.heap.size,2,none⟩=some (.int .i64 rw)/\u.cell? ⟨w.heap.size,3,none⟩=some (.int .i64 cl)/\u.cell? ⟨w.heap.size,4,none⟩=some (.int .i64 va.kind)/\u.cell? ⟨w.heap.size,5,none⟩=some (.int .i64 va.n)/\u.cell? ⟨w.heap.size,6,none⟩=some (.string va.s)) (exact ⟨aI HK.out rfl,aI HK.out rfl,aI HK.out rfl,aI HK.out rfl,aI HK.out rfl,aI HK.out rfl,aI HK.out rfl⟩) (first|(go_at_call_of 100 bk;refine T1.out.mono ?_;rintro e w1 ⟨v1,rfl,HK,HA⟩)|(go_at_call_of 100 sh;refine (T2.out _ _ HK HA).mono ?_;rintro e w1 ⟨v1,rfl,HK,HA⟩)|(go_at_call_of 98 rw;refine (T3.out _ _ HK HA).mono ?_;rintro e w1 ⟨v1,rfl,HK,HA⟩)|(go_at_call_of 98 cl;refine (T4.out _ _ HK HA).mono ?_;rintro e w1 ⟨v1,rfl,HK,HA⟩)|(go_at_call 147;refine (T5.out _ _ HK HA).mono ?_;rintro e w1 ⟨v1,rfl,HK,HA⟩))
 go_wp2_with fail
 go_ret;exact⟨_,rfl,by have:=HA.out.jV;simp only [G] at this;exact this⟩
theorem aBJ {base lo hi:Nat} {w:O} {v:δ} {l:List UInt8} (h:Own base w v l) (hb:base<=w.heap.size) {iv:δ} {L:List aN} (hs:Cls lo hi w iv L) (hhi:hi<=base) (hn:∀c ∈ L,c.Ok) (hl:l.length+(cO bV L).length+10<=140737488355328):
  ι V 99 #[v,iv] w fun e w'=>∃v',e=.returned v'/\Apd base w v w' v' (l++cO bV L):=by
 have H:U (Own base w v l):=h;have HS:U (∀w',θ base w w'->Cls lo hi w' iv L):=fun w' hw=>hs.below hhi hw;have hg:=kX vF L;simp only [cO,Z] at hl;have P1:=iY h hb L.length (by constructor <;> omega) (by omega);obtain⟨a,c,rfl,_,_⟩:=hs.slice;have HL0:U (l.length+((bO L.length).length+(L.flatMap bV).length)+10<=140737488355328):=hl;have hlen:L.length<=140737488355328:=by omega
 clear h hs hl hg;go_enter Tryz.func99,Tryz.ntmps99;go_wp2_with (go_at_call 98;refine P1.mono ?_;rintro e w1 ⟨v1,rfl,ap1⟩)
 have HP:U (Apd base w v w1 v1 (l++bO L.length)):=ap1;clear P1 ap1;go_loopw [0,13] (fun u0 u13 wr=>∃k:Nat,u13=.int .i64 k/\k<=L.length/\U (Apd base w v wr u0 (l++(bO L.length++(L.take k).flatMap bV)))) (fun _ u13 _=>L.length - (intOf u13).toNat)
 case atStart=>exact⟨0,rfl,by omega,by show Apd _ _ _ _ _ _;simpa using HP.out⟩
 case round=>
  obtain⟨k,rfl,hk,HD⟩:=hrel;clear HP;by_cases hlt:k < L.length
  ·obtain ⟨a',rfl,c0,c1,c2⟩:=(HS.out wr (HD.out.below H.out hb)).at hlt;have hw:base<=wr.heap.size:=J hb HD.out.gr.size;have ok:=hn _ (Ξ hlt);have HL1:((L.take k).flatMap bV).length+(bV L[k]).length<=(L.flatMap bV).length:=kM bV L k hlt;have HF:U (((L.take k).flatMap bV++bV L[k])=(L.take (k+1)).flatMap bV):=(iX bV L k hlt).symm;generalize L[k]=x at *;obtain⟨rw,cl,tx⟩:=x;obtain⟨i1,i2⟩:=ok;dsimp only at *;simp only [bV,Z] at HL1;have HL:U (l.length+((bO L.length).length+(((L.take k).flatMap bV).length+((bO rw).length+((bO cl).length+(bR tx).length))))+10<=140737488355328):=by have:=HL0.out;show _<=_;omega
   have O0:U (Own base (wr.alloc (.cells #[.int .i64 rw,.int .i64 cl,.string tx] 57)) u0 (l++(bO L.length++(L.take k).flatMap bV))):=HD.out.own.alloc _;have HK:U ((wr.alloc (.cells #[.int .i64 rw,.int .i64 cl,.string tx] 57)).heap[wr.heap.size]? =some (.cells #[.int .i64 rw,.int .i64 cl,.string tx] 57)):=γ wr _;have HB:U (base<=(wr.alloc (.cells #[.int .i64 rw,.int .i64 cl,.string tx] 57)).heap.size):=by show _<=_;simp;omega
   have T1:U (ι V 98 #[u0,.int .i64 rw] (wr.alloc (.cells #[.int .i64 rw,.int .i64 cl,.string tx] 57)).drew fun e w'=>∃v',e=.returned v'/\U (w'.heap[wr.heap.size]? =some (.cells #[.int .i64 rw,.int .i64 cl,.string tx] 57))/\U (Apd base (wr.alloc (.cells #[.int .i64 rw,.int .i64 cl,.string tx] 57)) u0 w' v' (l++(bO L.length++(L.take k).flatMap bV)++bO rw))):=by refine (iY (O0.out.drew) HB.out rw i1 (by have:=HL.out;(try simp only [Z]);omega)).mono ?_;rintro e w' ⟨v',rfl,ap⟩;exact⟨v',rfl,Apd.box (w:=(wr.alloc (.cells #[.int .i64 rw,.int .i64 cl,.string tx] 57)).drew) ap O0.out.drew (by decide) HK.out,ap.tY⟩
   have T2:U (∀w1 v1,U (w1.heap[wr.heap.size]? =some (.cells #[.int .i64 rw,.int .i64 cl,.string tx] 57))->U (Apd base (wr.alloc (.cells #[.int .i64 rw,.int .i64 cl,.string tx] 57)) u0 w1 v1 (l++(bO L.length++(L.take k).flatMap bV)++bO rw))->ι V 98 #[v1,.int .i64 cl] w1 fun e w'=>∃v',e=.returned v'/\U (w'.heap[wr.heap.size]? =some (.cells #[.int .i64 rw,.int .i64 cl,.string tx] 57))/\U (Apd base (wr.alloc (.cells #[.int .i64 rw,.int .i64 cl,.string tx] 57)) u0 w' v' (l++(bO L.length++(L.take k).flatMap bV)++bO rw++bO cl))):=by intro w1 v1 hk ap1;refine (iY (ap1.out.own) (J HB.out ap1.out.gr.size) cl i2 (by have:=HL.out;(try simp only [Z]);omega)).mono ?_;rintro e w' ⟨v',rfl,ap⟩;exact⟨v',rfl,Apd.box ap ap1.out.own (by decide) hk.out,ap1.out.trans ap⟩
   have T3:U (∀w1 v1,U (w1.heap[wr.heap.size]? =some (.cells #[.int .i64 rw,.int .i64 cl,.string tx] 57))->U (Apd base (wr.alloc (.cells #[.int .i64 rw,.int .i64 cl,.string tx] 57)) u0 w1 v1 (l++(bO L.length++(L.take k).flatMap bV)++bO rw++bO cl))->ι V 100 #[v1,.string tx] w1 fun e w'=>∃v',e=.returned v'/\U (w'.heap[wr.heap.size]? =some (.cells #[.int .i64 rw,.int .i64 cl,.string tx] 57))/\U (Apd base (wr.alloc (.cells #[.int .i64 rw,.int .i64 cl,.string tx] 57)) u0 w' v' (l++(bO L.length++(L.take k).flatMap bV)++bO rw++bO cl++bR tx))):=by intro w1 v1 hk ap1;refine (fF (ap1.out.own) (J HB.out ap1.out.gr.size) tx (by have:=HL.out;(try simp only [Z]);omega)).mono ?_;rintro e w' ⟨v',rfl,ap⟩;exact⟨v',rfl,Apd.box ap ap1.out.own (by decide) hk.out,ap1.out.trans ap⟩
   have mF:k < 9223372036854775807:=by omega
   clear hw O0 HB HL HL1 i1 i2;go_wp2_with fail
   go_region_held_law (fun u=>u.cell? ⟨wr.heap.size,0,none⟩=some (.int .i64 rw)/\u.cell? ⟨wr.heap.size,1,none⟩=some (.int .i64 cl)/\u.cell? ⟨wr.heap.size,2,none⟩=some (.string tx)) (exact ⟨aI HK.out rfl,aI HK.out rfl,aI HK.out rfl⟩) (first|(go_at_call_of 98 rw;refine T1.out.mono ?_;rintro e w1 ⟨v1,rfl,HK,HA⟩)|(go_at_call_of 98 cl;refine (T2.out _ _ HK HA).mono ?_;rintro e w1 ⟨v1,rfl,HK,HA⟩)|(go_at_call_of 100 tx;refine (T3.out _ _ HK HA).mono ?_;rintro e w1 ⟨v1,rfl,HK,HA⟩))
   have HD2:U (Apd base w v w1 v1 (l++(bO L.length++(L.take (k+1)).flatMap bV))):=by have:=HD.out.trans HA.out.jV;rw [<-HF.out];simp only [bV,G] at this ⊢;exact this
   clear HA HK HD HF T1 T2 T3;go_wp2_with fail
   go_roundw
   case rel=>exact⟨k+1,by go_num,by omega,HD2⟩
   case measure=>simp [intOf];omega
  ·have HD2:U (Apd base w v wr u0 (l++cO bV L)):=by have:=HD.out;rw [τ (by omega)] at this;exact this
   clear HD;go_wp2_with fail
   go_ret;exact⟨u0,rfl,HD2.out⟩
theorem vW {lo hi:Nat} {w:O} {sv nv lv:δ} {x:aP} (hs:BkM lo hi w sv nv lv x) (hhi:hi<=w.heap.size) (ok:x.Ok) (hl:(dA x).length+10<=140737488355328):
  ι V 65 #[.agg #[sv,nv,lv]] w fun e w'=>∃v',e=.returned v'/\Own w.heap.size w' v' (dA x)/\θ w.heap.size w w':=by
 obtain⟨sa,sc,rfl,_,_⟩:=hs.sh.slice;obtain⟨na,nc,rfl,_,_⟩:=hs.nm.slice;obtain⟨la,lc,rfl,_,_⟩:=hs.lk.slice;obtain⟨W0,hW0⟩:∃W0,W0=(w.alloc (.cells #[.slice sa x.sheets.length sc,.slice na x.names.length nc,.slice la x.links.length lc] 26)):=⟨_,rfl⟩
 have HF:U (θ w.heap.size w W0):=by rw [hW0];exact(ζ _ _).alloc (ε _) _
 have HS:U (∀w',θ w.heap.size W0 w'->BkM lo hi w' (.slice sa x.sheets.length sc) (.slice na x.names.length nc) (.slice la x.links.length lc) x):=fun w' hw=>hs.below hhi (HF.out.trans hw);have b0:U (W0.heap[w.heap.size]? =some (.cells #[.slice sa x.sheets.length sc,.slice na x.names.length nc,.slice la x.links.length lc] 26)):=by rw [hW0];exact γ w _
 have HB1:U (w.heap.size < W0.heap.size):=by show _ < _;rw [hW0];simp
 have HB0:U (w.heap.size<=W0.heap.size):=Nat.le_of_lt HB1.out;have hg1:=kX zC x.sheets;have hg2:=kX vG x.names;have hg3:=kX vH x.links;simp only [dA,cO,Z] at hl;have HL0:U (((bO x.sheets.length).length+(x.sheets.flatMap bC).length)+(((bO x.names.length).length+(x.names.flatMap fB).length)+((bO x.links.length).length+(x.links.flatMap gG).length))+10<=140737488355328):=hl;have hlen1:x.sheets.length<=140737488355328:=by omega
 have aMJ:x.names.length<=140737488355328:=by omega
 have hlen3:x.links.length<=140737488355328:=by omega
 have P1:=iY (Own.nil W0 w.heap.size) HB0.out x.sheets.length (by constructor <;> omega) (by simp);rw [hW0] at P1;have HW0:U (W0=(w.alloc (.cells #[.slice sa x.sheets.length sc,.slice na x.names.length nc,.slice la x.links.length lc] 26))):=hW0;clear hs hl hg1 hg2 hg3 hW0;go_enter Tryz.func65,Tryz.ntmps65;go_wp2_with fail
 refine P1.mono ?_;rintro e w1 ⟨v1,rfl,ap1⟩;rw [<-HW0.out] at ap1;have HP:U (Apd w.heap.size W0 (.slice none 0 0) w1 v1 (bO x.sheets.length)):=by show Apd _ _ _ _ _ _;simpa using ap1
 have X1:=(ap1.gr.block _ HB1.out (by simp [ο])).trans b0.out;have c1:=aI X1 (j:=0) rfl;clear P1 ap1 X1;go_wp2_with fail
 go_loopw [3,17] (fun u3 u17 wr=>∃k:Nat,u17=.int .i64 k/\k<=x.sheets.length/\U (Apd w.heap.size W0 (.slice none 0 0) wr u3 (bO x.sheets.length++(x.sheets.take k).flatMap bC))) (fun _ u17 _=>x.sheets.length - (intOf u17).toNat)
 case atStart=>exact⟨0,rfl,by omega,by show Apd _ _ _ _ _ _;simpa using HP.out⟩
 case round=>
  obtain⟨k,rfl,hk,HD⟩:=hrel;clear HP;by_cases hlt:k < x.sheets.length
  ·obtain ⟨a',cv,ov,W,rfl,ho,hcl,hW,R1,R2, -⟩:=(HS.out wr (HD.out.below (Own.nil _ _) HB0.out)).sh.runs hlt;have hw:w.heap.size<=wr.heap.size:=J HB0.out HD.out.gr.size;have okk:=ok.1 _ (Ξ hlt);have HL1:((x.sheets.take k).flatMap bC).length+(bC x.sheets[k]).length<=(x.sheets.flatMap bC).length:=kM bC x.sheets k hlt;have HFm:U (((x.sheets.take k).flatMap bC++bC x.sheets[k])=(x.sheets.take (k+1)).flatMap bC):=(iX bC x.sheets k hlt).symm;obtain⟨ca,cc,rfl,_,_⟩:=hcl.slice;generalize x.sheets[k]=y at *;obtain⟨sn,cs⟩:=y;dsimp only at *;simp only [bC,Z] at HL1;have HL:U ((bO x.sheets.length).length+(((x.sheets.take k).flatMap bC).length+((bR sn).length+(cO bV cs).length))+10<=140737488355328):=by have:=HL0.out;show _<=_;omega
   have O0:U (Own w.heap.size W u3 (bO x.sheets.length++(x.sheets.take k).flatMap bC)):=by rw [hW];exact HD.out.own.alloc _
   have HK:U (W.heap[wr.heap.size]? =some (.cells #[.string sn,.slice ca cs.length cc] 78)):=by rw [hW];exact γ wr _
   have HB:U (w.heap.size<=W.heap.size):=by show _<=_;rw [hW];simp;omega
   have HC:U (∀w',θ w.heap.size W w'->Cls lo hi w' (.slice ca cs.length cc) cs):=fun w' hb=>by rw [hW] at hb;exact hcl.below hhi (((ζ _ wr).alloc hw _).trans hb)
   have HW:U (∀w1 v1 m,Apd w.heap.size W u3 w1 v1 m->Apd w.heap.size wr u3 w1 v1 m):=fun w1 v1 m hm=>by rw [hW] at hm;exact hm.jV
   clear hW hcl ho;have T1:U (ι V 100 #[u3,.string sn] (W).drew fun e w'=>∃v',e=.returned v'/\U (w'.heap[wr.heap.size]? =some (.cells #[.string sn,.slice ca cs.length cc] 78))/\U (Apd w.heap.size (W) u3 w' v' (bO x.sheets.length++(x.sheets.take k).flatMap bC++bR sn))):=by refine (fF (O0.out.drew) HB.out sn (by have:=HL.out;(try simp only [Z]);omega)).mono ?_;rintro e w' ⟨v',rfl,ap⟩;exact⟨v',rfl,Apd.box (w:=(W).drew) ap O0.out.drew (by decide) HK.out,ap.tY⟩
   have T2:U (∀w1 v1,U (w1.heap[wr.heap.size]? =some (.cells #[.string sn,.slice ca cs.length cc] 78))->U (Apd w.heap.size (W) u3 w1 v1 (bO x.sheets.length++(x.sheets.take k).flatMap bC++bR sn))->ι V 99 #[v1,.slice ca cs.length cc] w1 fun e w'=>∃v',e=.returned v'/\U (w'.heap[wr.heap.size]? =some (.cells #[.string sn,.slice ca cs.length cc] 78))/\U (Apd w.heap.size (W) u3 w' v' (bO x.sheets.length++(x.sheets.take k).flatMap bC++bR sn++cO bV cs))):=by intro w1 v1 hk ap1;refine (aBJ (ap1.out.own) (J HB.out ap1.out.gr.size) (HC.out _ (ap1.out.below O0.out HB.out)) hhi okk (by have:=HL.out;(try simp only [Z]);omega)).mono ?_;rintro e w' ⟨v',rfl,ap⟩;exact⟨v',rfl,Apd.box ap ap1.out.own (by decide) hk.out,ap1.out.trans ap⟩
   have mF:k < 9223372036854775807:=by omega
   clear hw O0 HB HL HL1 okk HC;go_wp2_with (first|(refine aB rfl 78 _ rfl _ _ rfl R1.out ?_)|(refine aA rfl 78 _ _ rfl _ _ _ rfl rfl R2.out ?_))
   clear R1 R2;go_region_held_law (fun u=>u.cell? ⟨wr.heap.size,0,none⟩=some (.string sn)/\u.cell? ⟨wr.heap.size,1,none⟩=some (.slice ca cs.length cc)) (exact ⟨aI HK.out rfl,aI HK.out rfl⟩) (first|(go_at_call 100;refine T1.out.mono ?_;rintro e w1 ⟨v1,rfl,HK,HA⟩)|(go_at_call 99;refine (T2.out _ _ HK HA).mono ?_;rintro e w1 ⟨v1,rfl,HK,HA⟩))
   have HD2:U (Apd w.heap.size W0 (.slice none 0 0) w1 v1 (bO x.sheets.length++(x.sheets.take (k+1)).flatMap bC)):=by have:=HD.out.trans (HW.out _ _ _ HA.out);rw [<-HFm.out];simp only [bC,G] at this ⊢;exact this
   clear HA HK HD HFm HW T1 T2;go_wp2_with fail
   go_roundw
   case rel=>exact⟨k+1,by go_num,by omega,HD2⟩
   case measure=>simp [intOf];omega
  ·have HD2:U (Apd w.heap.size W0 (.slice none 0 0) wr u3 (cO bC x.sheets)):=by have:=HD.out;rw [τ (by omega)] at this;exact this
   clear HD;have X1:U _:=(HD2.out.gr.block _ HB1.out (by simp [ο])).trans b0.out;have c1:=aI X1.out (j:=1) rfl;have P2:=iY HD2.out.own (J HB0.out HD2.out.gr.size) x.names.length (by constructor <;> omega) (by have:=HL0.out;simp only [cO,Z] at *;omega);go_wp2_with fail
   refine P2.mono ?_;rintro e w2 ⟨v2,rfl,ap2⟩;have HP:U (Apd w.heap.size W0 (.slice none 0 0) w2 v2 (cO bC x.sheets++bO x.names.length)):=HD2.out.trans ap2;have X2:=(HP.out.gr.block _ HB1.out (by simp [ο])).trans b0.out;have c2:=aI X2 (j:=1) rfl;clear P2 ap2 HD2 X1 X2 c1;go_wp2_with fail
   go_loopw [3,37] (fun u3 u37 wr=>∃k:Nat,u37=.int .i64 k/\k<=x.names.length/\U (Apd w.heap.size W0 (.slice none 0 0) wr u3 (cO bC x.sheets++(bO x.names.length++(x.names.take k).flatMap fB)))) (fun _ u37 _=>x.names.length - (intOf u37).toNat)
   case atStart=>exact⟨0,rfl,by omega,by show Apd _ _ _ _ _ _;simpa using HP.out⟩
   case round=>
    obtain⟨k,rfl,hk,HD⟩:=hrel;clear HP;by_cases hlt:k < x.names.length
    ·obtain ⟨a',ov,W,rfl,ho,hW,R1,R2,R3⟩:=(HS.out wr (HD.out.below (Own.nil _ _) HB0.out)).nm.runs hlt;have hw:w.heap.size<=wr.heap.size:=J HB0.out HD.out.gr.size;have PN:ι V 101 #[u3,ov] W fun e w'=>∃v',e=.returned v'/\U (Apd w.heap.size W0 (.slice none 0 0) w' v' (cO bC x.sheets++(bO x.names.length++(x.names.take (k+1)).flatMap fB))):=by
      rw [ho,hW];refine (aDw (HD.out.own.alloc (.cells (kE x.names[k]).toArray 89)) (by simp;omega) x.names[k] (by
       have h1:=kM fB x.names k hlt;have h2:=HL0.out;simp only [cO,Z];omega)).mono ?_
      rintro e w2 ⟨v2,rfl,ap2⟩;refine ⟨v2,rfl, ?_⟩;have:=HD.out.trans ap2.jV;rw [iX fB x.names k hlt];simp only [G] at this ⊢;exact this
     have mF:k < 9223372036854775807:=by omega
     clear hw ho hW HD;go_wp2_with (first|(refine aB rfl 89 _ rfl _ _ rfl R1.out ?_)|(refine aA rfl 89 _ _ rfl _ _ _ rfl rfl R2.out ?_)|(refine aB rfl 89 _ rfl _ _ rfl R3.out ?_)|(go_at_call 101;refine PN.mono ?_;rintro e w2 ⟨v2,rfl,HD2⟩))
     clear PN R1 R2 R3;go_roundw
     case rel=>exact⟨k+1,by go_num,by omega,HD2⟩
     case measure=>simp [intOf];omega
    ·have HD2:U (Apd w.heap.size W0 (.slice none 0 0) wr u3 (cO bC x.sheets++cO fB x.names)):=by have:=HD.out;rw [τ (by omega)] at this;exact this
     clear HD;have X2:U _:=(HD2.out.gr.block _ HB1.out (by simp [ο])).trans b0.out;have c2:=aI X2.out (j:=2) rfl;have P3:=iY HD2.out.own (J HB0.out HD2.out.gr.size) x.links.length (by constructor <;> omega) (by have:=HL0.out;simp only [cO,Z] at *;omega);go_wp2_with fail
     refine P3.mono ?_;rintro e w3 ⟨v3,rfl,ap3⟩;have HP:U (Apd w.heap.size W0 (.slice none 0 0) w3 v3 (cO bC x.sheets++cO fB x.names++bO x.links.length)):=HD2.out.trans ap3;have X3:=(HP.out.gr.block _ HB1.out (by simp [ο])).trans b0.out;have c3:=aI X3 (j:=2) rfl;clear P3 ap3 HD2 X2 X3 c2;go_wp2_with fail
     go_loopw [3,53] (fun u3 u53 wr=>∃k:Nat,u53=.int .i64 k/\k<=x.links.length/\U (Apd w.heap.size W0 (.slice none 0 0) wr u3 (cO bC x.sheets++cO fB x.names++(bO x.links.length++(x.links.take k).flatMap gG)))) (fun _ u53 _=>x.links.length - (intOf u53).toNat)
     case atStart=>exact⟨0,rfl,by omega,by show Apd _ _ _ _ _ _;simpa using HP.out⟩
     case round=>
      obtain⟨k,rfl,hk,HD⟩:=hrel;clear HP;by_cases hlt:k < x.links.length
      ·obtain ⟨a',ov,W,rfl,ho,hW,R1,R2,R3⟩:=(HS.out wr (HD.out.below (Own.nil _ _) HB0.out)).lk.runs hlt;have hw:w.heap.size<=wr.heap.size:=J HB0.out HD.out.gr.size;have PN:ι V 102 #[u3,ov] W fun e w'=>∃v',e=.returned v'/\U (Apd w.heap.size W0 (.slice none 0 0) w' v' (cO bC x.sheets++cO fB x.names++(bO x.links.length++(x.links.take (k+1)).flatMap gG))):=by
        rw [ho,hW];refine (aDx (HD.out.own.alloc (.cells (kF x.links[k]).toArray 91)) (by simp;omega) x.links[k] (ok.2 _ (Ξ _)) (by
         have h1:=kM gG x.links k hlt;have h2:=HL0.out;simp only [cO,Z];omega)).mono ?_
        rintro e w2 ⟨v2,rfl,ap2⟩;refine ⟨v2,rfl, ?_⟩;have:=HD.out.trans ap2.jV;rw [iX gG x.links k hlt];simp only [G] at this ⊢;exact this
       have mF:k < 9223372036854775807:=by omega
       clear hw ho hW HD;go_wp2_with (first|(refine aB rfl 91 _ rfl _ _ rfl R1.out ?_)|(refine aA rfl 91 _ _ rfl _ _ _ rfl rfl R2.out ?_)|(refine aB rfl 91 _ rfl _ _ rfl R3.out ?_)|(go_at_call 102;refine PN.mono ?_;rintro e w2 ⟨v2,rfl,HD2⟩))
       clear PN R1 R2 R3;go_roundw
       case rel=>exact⟨k+1,by go_num,by omega,HD2⟩
       case measure=>simp [intOf];omega
      ·have HD2:U (Apd w.heap.size W0 (.slice none 0 0) wr u3 (cO bC x.sheets++cO fB x.names++cO gG x.links)):=by have:=HD.out;rw [τ (by omega)] at this;exact this
       clear HD;go_wp2_with fail
       go_ret;exact⟨u3,rfl,by have:=HD2.out.own;simp only [G] at this;exact this,HF.out.trans (HD2.out.below (Own.nil _ _) HB0.out)⟩
end Go.Proofs.YtfedoljlipfhdaaGreatDoor.Sh.Bt
namespace Go.Proofs.YtfedoljlipfhdaaGreatDoor.Sh
open Go.RowKit
theorem aPR:Tryz.prog.underlying 57=some (.struct (Tryz.prog.fieldsOf 57)):=by kernel_rfl
theorem aOL:Tryz.prog.stoodInHeld 57=I:=by kernel_rfl
theorem aMw:(Tryz.prog.fieldsOf 57).toList=[{ name:= "Row",type:=3,offset:=0,embedded:=I,tag:= "",pkgPath:= "",byteOffset:=0 },{ name:= "Col",type:=3,offset:=1,embedded:=I,tag:= "",pkgPath:= "",byteOffset:=8 },{ name:= "Text",type:=9,offset:=2,embedded:=I,tag:= "",pkgPath:= "",byteOffset:=16 }]:=by kernel_rfl
theorem aPS:Tryz.prog.underlying 89=some (.struct (Tryz.prog.fieldsOf 89)):=by kernel_rfl
theorem aOM:Tryz.prog.stoodInHeld 89=I:=by kernel_rfl
theorem nfields:(Tryz.prog.fieldsOf 89).toList=[{ name:= "Scope",type:=9,offset:=0,embedded:=I,tag:= "",pkgPath:= "",byteOffset:=0 },{ name:= "Name",type:=9,offset:=1,embedded:=I,tag:= "",pkgPath:= "",byteOffset:=16 },{ name:= "Text",type:=9,offset:=2,embedded:=I,tag:= "",pkgPath:= "",byteOffset:=32 }]:=by kernel_rfl
theorem aPT:Tryz.prog.underlying 62=some (.struct (Tryz.prog.fieldsOf 62)):=by kernel_rfl
theorem aON:Tryz.prog.stoodInHeld 62=I:=by kernel_rfl
theorem aMx:(Tryz.prog.fieldsOf 62).toList=[{ name:= "Kind",type:=3,offset:=0,embedded:=I,tag:= "",pkgPath:= "",byteOffset:=0 },{ name:= "N",type:=3,offset:=1,embedded:=I,tag:= "",pkgPath:= "",byteOffset:=8 },{ name:= "S",type:=9,offset:=2,embedded:=I,tag:= "",pkgPath:= "",byteOffset:=16 }]:=by kernel_rfl
theorem aPU:Tryz.prog.underlying 91=some (.struct (Tryz.prog.fieldsOf 91)):=by kernel_rfl
theorem aOO:Tryz.prog.stoodInHeld 91=I:=by kernel_rfl
theorem aMy:(Tryz.prog.fieldsOf 91).toList=[{ name:= "Book",type:=9,offset:=0,embedded:=I,tag:= "",pkgPath:= "",byteOffset:=0 },{ name:= "Sheet",type:=9,offset:=1,embedded:=I,tag:= "",pkgPath:= "",byteOffset:=16 },{ name:= "Row",type:=3,offset:=2,embedded:=I,tag:= "",pkgPath:= "",byteOffset:=32 },{ name:= "Col",type:=3,offset:=3,embedded:=I,tag:= "",pkgPath:= "",byteOffset:=40 },{ name:= "Value",type:=62,offset:=4,embedded:=I,tag:= "",pkgPath:= "",byteOffset:=48 }]:=by kernel_rfl
def fU (a b:aN):Bool:=a.row==b.row && (a.col==b.col && a.text.toList==b.text.toList)
def fV (a b:fD):Bool:=a.scope.toList==b.scope.toList && (a.name.toList==b.name.toList && a.text.toList==b.text.toList)
def zD (a b:sK):Bool:=a.kind==b.kind && (a.n==b.n && a.s.toList==b.s.toList)
def fZ (a b:eO):Bool:=a.book.toList==b.book.toList && (a.fA.toList==b.fA.toList && (a.row==b.row && (a.col==b.col && zD a.value b.value)))
theorem aPV (a b:aN) (W:O):(Op.equalIn 10000 57 (cellV a) (cellV b)).run V W=.ok (fU a b) W:=by
 rw [run_equalIn_struct W 9999 57 _ _ aPR aOL,aMw];have h9:=ν;have a9:=Φ;have z9:=Θ;have h3:=Δ;have a3:=z2;have z3:=Tryz.sizeOf3;obtain⟨r1,c1,t1⟩:=a;obtain⟨r2,c2,t2⟩:=b;unfold fU;simp only [Op.eqFields];cases e1:r1==r2
 ·go_simp
 ·cases e2:c1==c2
  ·go_simp
  ·cases e3:t1.toList==t2.toList
   ·go_simp
   ·go_simp
theorem cne (a b:aN) (W:O):(binOp .neq 57 (cellV a) (cellV b)).run V W=.ok (.bool (!fU a b)) W:=by rw [run_neq_struct,aPV];rfl
theorem aPW (a b:fD) (W:O):(Op.equalIn 10000 89 (kC a) (kC b)).run V W=.ok (fV a b) W:=by
 rw [run_equalIn_struct W 9999 89 _ _ aPS aOM,nfields];have h9:=ν;have a9:=Φ;have z9:=Θ;obtain⟨r1,c1,t1⟩:=a;obtain⟨r2,c2,t2⟩:=b;unfold fV;simp only [Op.eqFields];cases e1:r1.toList==r2.toList
 ·go_simp
 ·cases e2:c1.toList==c2.toList
  ·go_simp
  ·cases e3:t1.toList==t2.toList
   ·go_simp
   ·go_simp
theorem nne (a b:fD) (W:O):(binOp .neq 89 (kC a) (kC b)).run V W=.ok (.bool (!fV a b)) W:=by rw [run_neq_struct,aPW];rfl
theorem aPX (k:Nat) (a b:sK) (W:O):(Op.equalIn (k+1+1) 62 (aLi a) (aLi b)).run V W=.ok (zD a b) W:=by
 rw [run_equalIn_struct W (k+1) 62 _ _ aPT aON,aMx];have h9:=ν;have a9:=Φ;have z9:=Θ;have h3:=Δ;have a3:=z2;have z3:=Tryz.sizeOf3;obtain⟨r1,c1,t1⟩:=a;obtain⟨r2,c2,t2⟩:=b;unfold zD;simp only [Op.eqFields];cases e1:r1==r2
 ·go_simp
 ·cases e2:c1==c2
  ·go_simp
  ·cases e3:t1.toList==t2.toList
   ·go_simp
   ·go_simp
theorem aPY (a b:eO) (W:O):(Op.equalIn 10000 91 (kD a) (kD b)).run V W=.ok (fZ a b) W:=by
 rw [run_equalIn_struct W 9999 91 _ _ aPU aOO,aMy];have h9:=ν;have a9:=Φ;have z9:=Θ;have h3:=Δ;have a3:=z2;have z3:=Tryz.sizeOf3;have a62:=Tryz.isAgg62;have z62:=Tryz.sizeOf62;obtain⟨b1,s1,r1,c1,v1⟩:=a;obtain⟨b2,s2,r2,c2,v2⟩:=b;have hv:∀W,(Op.equalIn 9999 62 (.agg #[.int .i64 v1.kind,.int .i64 v1.n,.string v1.s]) (.agg #[.int .i64 v2.kind,.int .i64 v2.n,.string v2.s])).run V W=.ok (zD v1 v2) W:=fun W=>aPX 9997 v1 v2 W;unfold fZ;simp only [Op.eqFields];cases e1:b1.toList==b2.toList
 ·go_simp
 ·cases e2:s1.toList==s2.toList
  ·go_simp
  ·cases e3:r1==r2
   ·go_simp
   ·cases e4:c1==c2
    ·go_simp
    ·generalize zD v1 v2=ve at *;cases ve <;> go_simp
theorem lne (a b:eO) (W:O):(binOp .neq 91 (kD a) (kD b)).run V W=.ok (.bool (!fZ a b)) W:=by rw [run_neq_struct,aPY];rfl
def lW {α:Type} (eq:α->α->Bool) (L M:List α) (i:Nat):Bool:=match L[i]?,M[i]? with
 | some x,some y=>eq x y
 | _,_=>κ
def eqL {α:Type} (eq:α->α->Bool) (L M:List α):Bool:=decide (L.length=M.length) && (List.range L.length).all (lW eq L M)
theorem wJ {α:Type} {eq:α->α->Bool} {L M:List α} (h:L.length ≠ M.length):eqL eq L M=I:=by unfold eqL;simp [h]
theorem wK {α:Type} {eq:α->α->Bool} {L M:List α} (h:L.length=M.length) (k:∀i,i < L.length->lW eq L M i=κ):eqL eq L M=κ:=by unfold eqL;simp only [h,decide_true,Bool.true_and];rw [List.all_eq_true];intro i hi;exact k i (by rw [h];exact List.mem_range.1 hi)
theorem aBK {α:Type} {eq:α->α->Bool} {L M:List α} {i:Nat} (hi:i < L.length) (k:lW eq L M i=I):eqL eq L M=I:=by unfold eqL;rw [Bool.and_eq_false_iff];right;rw [List.all_eq_false];exact⟨i,List.mem_range.2 hi,by simp [k]⟩
theorem aHh {lo hi lo2 hi2:Nat} {w:O} {a b:Option z0} {c d:Nat} {L M:List aN} (h:Cls lo hi w (.slice a L.length c) L) (hhi:hi<=w.heap.size) (h2:Cls lo2 hi2 w (.slice b M.length d) M) (hhi2:hi2<=w.heap.size):
  CR 103 #[.slice a L.length c,.slice b M.length d] w (.bool (eqL fU L M)):=by
 obtain⟨_,_,he,hz1,hz2⟩:=h.slice;cases he
 have hlen:L.length<=9223372036854775807:=by unfold ψ at hz2;omega
 have H1:U (Cls lo hi w (.slice a L.length c) L):=h;have H2:U (Cls lo2 hi2 w (.slice b M.length d) M):=h2;have HEA:U (∀k (hk:k < L.length) (hm:k < M.length),lW fU L M k=fU L[k] M[k]):=fun k hk hm=>by unfold lW;simp only [D hk,D hm]
 generalize hO:eqL fU L M=eb;have HO:U (eqL fU L M=eb):=hO;have hgd:Tryz.prog.eqGuardType Tryz.prog.depth 57=I:=by kernel_rfl
 clear h h2 hz1 hz2 hO;by_cases hlm:L.length=M.length
 ·have hne:((L.length:Int) !=(M.length:Int))=I:=by simp [hlm]
  have HLM:U (L.length=M.length):=hlm;clear hlm;go_enter Tryz.func103,Tryz.ntmps103;go_wp2;go_loopw [13] (fun i wr=>∃(k:Nat),k<=L.length/\i=.int .i64 (k:Nat)/\U (∀j,j < k->lW fU L M j=κ)/\U (θ w.heap.size w wr)) (fun i _=>L.length - (intOf i).toNat)
  case atStart=>exact⟨0,Ψ _,rfl,fun j hj=>by omega,ζ _ _⟩
  case round=>
   obtain⟨k,hk,rfl,HA,HD⟩:=hrel;by_cases hkL:k < L.length
   ·have hki:(k:Int) < L.length:=by omega
    have hkM:k < M.length:=by rw [<-HLM.out];exact hkL
    have hkm:(k:Int) < M.length:=by omega
    have mF:k < 9223372036854775807:=by omega
    have HDd:U (θ w.heap.size w wr.drew):=HD.out.drew;obtain⟨a',_,_,rfl,rfl,_,R1, -, -⟩:=(H1.out.below hhi HDd.out).runs hkL;obtain⟨b',_,_,rfl,rfl,_,R2, -, -⟩:=(H2.out.below hhi2 HDd.out).runs hkM;have HX:U (fU L[k] M[k]=κ->∀j,j < k+1->lW fU L M j=κ):=fun e j hj=>by
     by_cases hjk:j=k
     ·subst hjk;rw [HEA.out j hkL hkM];exact e
     ·exact HA.out j (by omega)
    have HY:U (fU L[k] M[k]=I->eb=I):=fun e=>by rw [<-HO.out];exact aBK hkL (by rw [HEA.out k hkL hkM];exact e)
    have NE:=fun W=>cne L[k] M[k] W;have HS:U ((β 57 (.pointer (some (a'.add (k * 3))))).run V wr.drew=.ok (cellV L[k]) wr.drew/\(β 57 (.pointer (some (b'.add (k * 3))))).run V wr.drew=.ok (cellV M[k]) wr.drew):=⟨R1.out,R2.out⟩
    clear R1 R2;generalize L[k]=x at *;generalize M[k]=y at *;cases hq:fU x y with
    | true=>
     rw [hq] at NE;have HX2:U _:=HX.out hq;clear HX HY;go_wp2;refine aO (fun u=>(β 57 (.pointer (some (a'.add (k * 3))))).run V u=.ok (cellV x) u/\(β 57 (.pointer (some (b'.add (k * 3))))).run V u=.ok (cellV y) u) (fun j=>I) (by kernel_rfl) ?_;refine dwp 0 ((.slice (some a') L.length c)) ?_;refine dwp 1 ((.int .i64 (k:Int))) ?_;refine dwp 2 ((.pointer (some (a'.add (k * 3))))) ?_;refine dwl 3 ((cellV x)) ?_ (hS:=HS.out) (hy:=(fun u hSu=>aJ rfl rfl hSu.1));refine dwp 4 ((.slice (some b') M.length d)) ?_;refine dwp 5 ((.int .i64 (k:Int))) ?_;refine dwp 6 ((.pointer (some (b'.add (k * 3))))) ?_;refine dwl 7 ((cellV y)) ?_ (hS:=HS.out) (hy:=(fun u hSu=>aJ rfl rfl hSu.2));refine dwp 8 ((.bool I)) ?_;refine aM (by kernel_rfl) ?_ _;go_wp2;go_roundw
     case rel=>exact⟨k+1,by omega,by go_num,HX2,HDd⟩
     case measure=>simp [intOf];omega
    | false=>
     rw [hq] at NE;obtain rfl:=HY.out hq;clear HX HY;go_wp2;refine aO (fun u=>(β 57 (.pointer (some (a'.add (k * 3))))).run V u=.ok (cellV x) u/\(β 57 (.pointer (some (b'.add (k * 3))))).run V u=.ok (cellV y) u) (fun j=>I) (by kernel_rfl) ?_;refine dwp 0 ((.slice (some a') L.length c)) ?_;refine dwp 1 ((.int .i64 (k:Int))) ?_;refine dwp 2 ((.pointer (some (a'.add (k * 3))))) ?_;refine dwl 3 ((cellV x)) ?_ (hS:=HS.out) (hy:=(fun u hSu=>aJ rfl rfl hSu.1));refine dwp 4 ((.slice (some b') M.length d)) ?_;refine dwp 5 ((.int .i64 (k:Int))) ?_;refine dwp 6 ((.pointer (some (b'.add (k * 3))))) ?_;refine dwl 7 ((cellV y)) ?_ (hS:=HS.out) (hy:=(fun u hSu=>aJ rfl rfl hSu.2));refine dwp 8 ((.bool κ)) ?_;refine aM (by kernel_rfl) ?_ _;go_wp2;go_ret;exact⟨rfl,HDd.out⟩
   ·have hki:¬(k:Int) < L.length:=by omega
    obtain rfl:eb=κ:=by rw [<-HO.out];exact wK HLM.out fun i hi=>HA.out i (by omega)
    go_wp2;go_ret;exact⟨rfl,HD.out⟩
 ·have hne:((L.length:Int) !=(M.length:Int))=κ:=by simp only [bne_iff_ne];omega
  obtain rfl:eb=I:=by rw [<-HO.out];exact wJ hlm
  clear hlm HEA HO;go_enter Tryz.func103,Tryz.ntmps103;go_wp2;go_ret;exact⟨rfl,ζ _ _⟩
theorem aKE {lo hi lo2 hi2:Nat} {w:O} {a b:Option z0} {c d:Nat} {L M:List fD} (h:Nms lo hi w (.slice a L.length c) L) (hhi:hi<=w.heap.size) (h2:Nms lo2 hi2 w (.slice b M.length d) M) (hhi2:hi2<=w.heap.size):
  CR 68 #[.slice a L.length c,.slice b M.length d] w (.bool (eqL fV L M)):=by
 obtain⟨_,_,he,hz1,hz2⟩:=h.slice;cases he
 have hlen:L.length<=9223372036854775807:=by unfold ψ at hz2;omega
 have H1:U (Nms lo hi w (.slice a L.length c) L):=h;have H2:U (Nms lo2 hi2 w (.slice b M.length d) M):=h2;have HEA:U (∀k (hk:k < L.length) (hm:k < M.length),lW fV L M k=fV L[k] M[k]):=fun k hk hm=>by unfold lW;simp only [D hk,D hm]
 generalize hO:eqL fV L M=eb;have HO:U (eqL fV L M=eb):=hO;have hgd:Tryz.prog.eqGuardType Tryz.prog.depth 89=I:=by kernel_rfl
 clear h h2 hz1 hz2 hO;by_cases hlm:L.length=M.length
 ·have hne:((L.length:Int) !=(M.length:Int))=I:=by simp [hlm]
  have HLM:U (L.length=M.length):=hlm;clear hlm;go_enter Tryz.func68,Tryz.ntmps68;go_wp2;go_loopw [13] (fun i wr=>∃(k:Nat),k<=L.length/\i=.int .i64 (k:Nat)/\U (∀j,j < k->lW fV L M j=κ)/\U (θ w.heap.size w wr)) (fun i _=>L.length - (intOf i).toNat)
  case atStart=>exact⟨0,Ψ _,rfl,fun j hj=>by omega,ζ _ _⟩
  case round=>
   obtain⟨k,hk,rfl,HA,HD⟩:=hrel;by_cases hkL:k < L.length
   ·have hki:(k:Int) < L.length:=by omega
    have hkM:k < M.length:=by rw [<-HLM.out];exact hkL
    have hkm:(k:Int) < M.length:=by omega
    have mF:k < 9223372036854775807:=by omega
    have HDd:U (θ w.heap.size w wr.drew):=HD.out.drew;obtain⟨a',_,_,rfl,rfl,_,R1, -, -⟩:=(H1.out.below hhi HDd.out).runs hkL;obtain⟨b',_,_,rfl,rfl,_,R2, -, -⟩:=(H2.out.below hhi2 HDd.out).runs hkM;have HX:U (fV L[k] M[k]=κ->∀j,j < k+1->lW fV L M j=κ):=fun e j hj=>by
     by_cases hjk:j=k
     ·subst hjk;rw [HEA.out j hkL hkM];exact e
     ·exact HA.out j (by omega)
    have HY:U (fV L[k] M[k]=I->eb=I):=fun e=>by rw [<-HO.out];exact aBK hkL (by rw [HEA.out k hkL hkM];exact e)
    have NE:=fun W=>nne L[k] M[k] W;have HS:U ((β 89 (.pointer (some (a'.add (k * 3))))).run V wr.drew=.ok (kC L[k]) wr.drew/\(β 89 (.pointer (some (b'.add (k * 3))))).run V wr.drew=.ok (kC M[k]) wr.drew):=⟨R1.out,R2.out⟩
    clear R1 R2;generalize L[k]=x at *;generalize M[k]=y at *;cases hq:fV x y with
    | true=>
     rw [hq] at NE;have HX2:U _:=HX.out hq;clear HX HY;go_wp2;refine aO (fun u=>(β 89 (.pointer (some (a'.add (k * 3))))).run V u=.ok (kC x) u/\(β 89 (.pointer (some (b'.add (k * 3))))).run V u=.ok (kC y) u) (fun j=>I) (by kernel_rfl) ?_;refine dwp 0 ((.slice (some a') L.length c)) ?_;refine dwp 1 ((.int .i64 (k:Int))) ?_;refine dwp 2 ((.pointer (some (a'.add (k * 3))))) ?_;refine dwl 3 ((kC x)) ?_ (hS:=HS.out) (hy:=(fun u hSu=>aJ rfl rfl hSu.1));refine dwp 4 ((.slice (some b') M.length d)) ?_;refine dwp 5 ((.int .i64 (k:Int))) ?_;refine dwp 6 ((.pointer (some (b'.add (k * 3))))) ?_;refine dwl 7 ((kC y)) ?_ (hS:=HS.out) (hy:=(fun u hSu=>aJ rfl rfl hSu.2));refine dwp 8 ((.bool I)) ?_;refine aM (by kernel_rfl) ?_ _;go_wp2;go_roundw
     case rel=>exact⟨k+1,by omega,by go_num,HX2,HDd⟩
     case measure=>simp [intOf];omega
    | false=>
     rw [hq] at NE;obtain rfl:=HY.out hq;clear HX HY;go_wp2;refine aO (fun u=>(β 89 (.pointer (some (a'.add (k * 3))))).run V u=.ok (kC x) u/\(β 89 (.pointer (some (b'.add (k * 3))))).run V u=.ok (kC y) u) (fun j=>I) (by kernel_rfl) ?_;refine dwp 0 ((.slice (some a') L.length c)) ?_;refine dwp 1 ((.int .i64 (k:Int))) ?_;refine dwp 2 ((.pointer (some (a'.add (k * 3))))) ?_;refine dwl 3 ((kC x)) ?_ (hS:=HS.out) (hy:=(fun u hSu=>aJ rfl rfl hSu.1));refine dwp 4 ((.slice (some b') M.length d)) ?_;refine dwp 5 ((.int .i64 (k:Int))) ?_;refine dwp 6 ((.pointer (some (b'.add (k * 3))))) ?_;refine dwl 7 ((kC y)) ?_ (hS:=HS.out) (hy:=(fun u hSu=>aJ rfl rfl hSu.2));refine dwp 8 ((.bool κ)) ?_;refine aM (by kernel_rfl) ?_ _;go_wp2;go_ret;exact⟨rfl,HDd.out⟩
   ·have hki:¬(k:Int) < L.length:=by omega
    obtain rfl:eb=κ:=by rw [<-HO.out];exact wK HLM.out fun i hi=>HA.out i (by omega)
    go_wp2;go_ret;exact⟨rfl,HD.out⟩
 ·have hne:((L.length:Int) !=(M.length:Int))=κ:=by simp only [bne_iff_ne];omega
  obtain rfl:eb=I:=by rw [<-HO.out];exact wJ hlm
  clear hlm HEA HO;go_enter Tryz.func68,Tryz.ntmps68;go_wp2;go_ret;exact⟨rfl,ζ _ _⟩
theorem aKF {lo hi lo2 hi2:Nat} {w:O} {a b:Option z0} {c d:Nat} {L M:List eO} (h:Lks lo hi w (.slice a L.length c) L) (hhi:hi<=w.heap.size) (h2:Lks lo2 hi2 w (.slice b M.length d) M) (hhi2:hi2<=w.heap.size):
  CR 69 #[.slice a L.length c,.slice b M.length d] w (.bool (eqL fZ L M)):=by
 obtain⟨_,_,he,hz1,hz2⟩:=h.slice;cases he
 have hlen:L.length<=9223372036854775807:=by unfold ψ at hz2;omega
 have H1:U (Lks lo hi w (.slice a L.length c) L):=h;have H2:U (Lks lo2 hi2 w (.slice b M.length d) M):=h2;have HEA:U (∀k (hk:k < L.length) (hm:k < M.length),lW fZ L M k=fZ L[k] M[k]):=fun k hk hm=>by unfold lW;simp only [D hk,D hm]
 generalize hO:eqL fZ L M=eb;have HO:U (eqL fZ L M=eb):=hO;have hgd:Tryz.prog.eqGuardType Tryz.prog.depth 91=I:=by kernel_rfl
 clear h h2 hz1 hz2 hO;by_cases hlm:L.length=M.length
 ·have hne:((L.length:Int) !=(M.length:Int))=I:=by simp [hlm]
  have HLM:U (L.length=M.length):=hlm;clear hlm;go_enter Tryz.func69,Tryz.ntmps69;go_wp2;go_loopw [13] (fun i wr=>∃(k:Nat),k<=L.length/\i=.int .i64 (k:Nat)/\U (∀j,j < k->lW fZ L M j=κ)/\U (θ w.heap.size w wr)) (fun i _=>L.length - (intOf i).toNat)
  case atStart=>exact⟨0,Ψ _,rfl,fun j hj=>by omega,ζ _ _⟩
  case round=>
   obtain⟨k,hk,rfl,HA,HD⟩:=hrel;by_cases hkL:k < L.length
   ·have hki:(k:Int) < L.length:=by omega
    have hkM:k < M.length:=by rw [<-HLM.out];exact hkL
    have hkm:(k:Int) < M.length:=by omega
    have mF:k < 9223372036854775807:=by omega
    have HDd:U (θ w.heap.size w wr.drew):=HD.out.drew;obtain⟨a',_,_,rfl,rfl,_,R1, -, -⟩:=(H1.out.below hhi HDd.out).runs hkL;obtain⟨b',_,_,rfl,rfl,_,R2, -, -⟩:=(H2.out.below hhi2 HDd.out).runs hkM;have HX:U (fZ L[k] M[k]=κ->∀j,j < k+1->lW fZ L M j=κ):=fun e j hj=>by
     by_cases hjk:j=k
     ·subst hjk;rw [HEA.out j hkL hkM];exact e
     ·exact HA.out j (by omega)
    have HY:U (fZ L[k] M[k]=I->eb=I):=fun e=>by rw [<-HO.out];exact aBK hkL (by rw [HEA.out k hkL hkM];exact e)
    have NE:=fun W=>lne L[k] M[k] W;have HS:U ((β 91 (.pointer (some (a'.add (k * 7))))).run V wr.drew=.ok (kD L[k]) wr.drew/\(β 91 (.pointer (some (b'.add (k * 7))))).run V wr.drew=.ok (kD M[k]) wr.drew):=⟨R1.out,R2.out⟩
    clear R1 R2;generalize L[k]=x at *;generalize M[k]=y at *;cases hq:fZ x y with
    | true=>
     rw [hq] at NE;have HX2:U _:=HX.out hq;clear HX HY;go_wp2;refine aO (fun u=>(β 91 (.pointer (some (a'.add (k * 7))))).run V u=.ok (kD x) u/\(β 91 (.pointer (some (b'.add (k * 7))))).run V u=.ok (kD y) u) (fun j=>I) (by kernel_rfl) ?_;refine dwp 0 ((.slice (some a') L.length c)) ?_;refine dwp 1 ((.int .i64 (k:Int))) ?_;refine dwp 2 ((.pointer (some (a'.add (k * 7))))) ?_;refine dwl 3 ((kD x)) ?_ (hS:=HS.out) (hy:=(fun u hSu=>aJ rfl rfl hSu.1));refine dwp 4 ((.slice (some b') M.length d)) ?_;refine dwp 5 ((.int .i64 (k:Int))) ?_;refine dwp 6 ((.pointer (some (b'.add (k * 7))))) ?_;refine dwl 7 ((kD y)) ?_ (hS:=HS.out) (hy:=(fun u hSu=>aJ rfl rfl hSu.2));refine dwp 8 ((.bool I)) ?_;refine aM (by kernel_rfl) ?_ _;go_wp2;go_roundw
     case rel=>exact⟨k+1,by omega,by go_num,HX2,HDd⟩
     case measure=>simp [intOf];omega
    | false=>
     rw [hq] at NE;obtain rfl:=HY.out hq;clear HX HY;go_wp2;refine aO (fun u=>(β 91 (.pointer (some (a'.add (k * 7))))).run V u=.ok (kD x) u/\(β 91 (.pointer (some (b'.add (k * 7))))).run V u=.ok (kD y) u) (fun j=>I) (by kernel_rfl) ?_;refine dwp 0 ((.slice (some a') L.length c)) ?_;refine dwp 1 ((.int .i64 (k:Int))) ?_;refine dwp 2 ((.pointer (some (a'.add (k * 7))))) ?_;refine dwl 3 ((kD x)) ?_ (hS:=HS.out) (hy:=(fun u hSu=>aJ rfl rfl hSu.1));refine dwp 4 ((.slice (some b') M.length d)) ?_;refine dwp 5 ((.int .i64 (k:Int))) ?_;refine dwp 6 ((.pointer (some (b'.add (k * 7))))) ?_;refine dwl 7 ((kD y)) ?_ (hS:=HS.out) (hy:=(fun u hSu=>aJ rfl rfl hSu.2));refine dwp 8 ((.bool κ)) ?_;refine aM (by kernel_rfl) ?_ _;go_wp2;go_ret;exact⟨rfl,HDd.out⟩
   ·have hki:¬(k:Int) < L.length:=by omega
    obtain rfl:eb=κ:=by rw [<-HO.out];exact wK HLM.out fun i hi=>HA.out i (by omega)
    go_wp2;go_ret;exact⟨rfl,HD.out⟩
 ·have hne:((L.length:Int) !=(M.length:Int))=κ:=by simp only [bne_iff_ne];omega
  obtain rfl:eb=I:=by rw [<-HO.out];exact wJ hlm
  clear hlm HEA HO;go_enter Tryz.func69,Tryz.ntmps69;go_wp2;go_ret;exact⟨rfl,ζ _ _⟩
def fC (a b:aT):Bool:=a.name.toList==b.name.toList && eqL fU a.cells b.cells
def jY (x y:aP):Bool:=eqL fC x.sheets y.sheets && (eqL fV x.names y.names && eqL fZ x.links y.links)
abbrev shO (n:ByteArray) (a:Option z0) (l c:Nat):Obj:=.cells #[.string n,.slice a l c] 78
theorem ldS {u:O} {g:Nat} {y:aT} {v:δ} {z:Nat × Nat} (h:u.heap[g]? =some (.cells (bY y v).toArray 78 z)):(β 78 (pt g)).run V u=.ok (aEe y v) u:=by
 have hi:(Tryz.prog.info? 78).map (·.size)=some (bY y v).toArray.size:=by show _=some 2;kernel_rfl
 simp only [β,Instr.sureAddr,Sem.run_bind,Sem.run_pure,Result.andThen_ok,run_loadVar_row u g 78 78 _ z _ h Tryz.underlying78 rfl hi];rfl
theorem aHi {lo hi lo2 hi2:Nat} {w:O} {n m:ByteArray} {a b:Option z0} {c d:Nat} {L M:List aN} (h:Cls lo hi w (.slice a L.length c) L) (hhi:hi<=w.heap.size) (h2:Cls lo2 hi2 w (.slice b M.length d) M) (hhi2:hi2<=w.heap.size):
  CR 67 #[.agg #[.string n,.slice a L.length c],.agg #[.string m,.slice b M.length d]] w (.bool (n.toList==m.toList && eqL fU L M)):=by
 obtain⟨W,hW⟩:∃W,W=(w.alloc (shO n a L.length c)).alloc (shO m b M.length d):=⟨_,rfl⟩
 have HB:θ w.heap.size w W:=by rw [hW];exact Sh.aC (Sh.aC (ζ _ _) (ε _) _) (ε _) _
 have hX0:W.heap[w.heap.size]? =some (shO n a L.length c):=by rw [hW,υ _ _ _ (by simp)];exact γ w _
 have hX1:W.heap[w.heap.size+1]? =some (shO m b M.length d):=by rw [hW];simpa using γ (w.alloc (shO n a L.length c)) (shO m b M.length d)
 have C:=aHh (h.below hhi HB) (J hhi HB.size) (h2.below hhi2 HB) (J hhi2 HB.size);have c00:=aI hX0 (j:=0) rfl;have c01:=aI hX0 (j:=1) rfl;have c10:=aI hX1 (j:=0) rfl;have c11:=aI hX1 (j:=1) rfl;have HBh:U _:=HB;rw [hW] at c00 c01 c10 c11;have HW:U ((w.alloc (shO n a L.length c)).alloc (shO m b M.length d)=W):=hW.symm;generalize eqL fU L M=eb at *;clear h h2 HB hX0 hX1 hW;cases hn:n.toList==m.toList with
 | false=>
  go_enter Tryz.func67,Tryz.ntmps67;go_wp2;go_ret;exact⟨rfl,by rw [HW.out];exact HBh.out⟩
 | true=>
  go_enter Tryz.func67,Tryz.ntmps67;go_wp2_with (go_at_call 103;rw [HW.out];refine C.mono ?_;clear C;rintro e w1 ⟨rfl,hb⟩;have HB1:U _:=Sh.aD HBh.out HBh.out.size hb;clear hb)
  go_ret;exact⟨rfl,HB1.out⟩
theorem zY {lo hi lo2 hi2:Nat} {w:O} {a b:Option z0} {c d:Nat} {L M:List aT} (h:Shs lo hi w (.slice a L.length c) L) (hhi:hi<=w.heap.size) (h2:Shs lo2 hi2 w (.slice b M.length d) M) (hhi2:hi2<=w.heap.size):
  CR 66 #[.slice a L.length c,.slice b M.length d,.func (.func 67) #[] #[]] w (.bool (eqL fC L M)):=by
 obtain⟨_,_,he,hz1,hz2⟩:=h.slice;cases he
 have hlen:L.length<=9223372036854775807:=by unfold ψ at hz2;omega
 have H1:U (Shs lo hi w (.slice a L.length c) L):=h;have H2:U (Shs lo2 hi2 w (.slice b M.length d) M):=h2;have HEA:U (∀k (hk:k < L.length) (hm:k < M.length),lW fC L M k=fC L[k] M[k]):=fun k hk hm=>by unfold lW;simp only [D hk,D hm]
 generalize hO:eqL fC L M=eb;have HO:U (eqL fC L M=eb):=hO;clear h h2 hz1 hz2 hO;by_cases hlm:L.length=M.length
 ·have hne:((L.length:Int) !=(M.length:Int))=I:=by simp [hlm]
  have HLM:U (L.length=M.length):=hlm;clear hlm;go_enter Tryz.func66,Tryz.ntmps66;go_wp2;go_loopw [17] (fun i wr=>∃(k:Nat),k<=L.length/\i=.int .i64 (k:Nat)/\U (∀j,j < k->lW fC L M j=κ)/\U (θ w.heap.size w wr)) (fun i _=>L.length - (intOf i).toNat)
  case atStart=>exact⟨0,Ψ _,rfl,fun j hj=>by omega,ζ _ _⟩
  case round=>
   obtain⟨k,hk,rfl,HA,HD⟩:=hrel;by_cases hkL:k < L.length
   ·have hki:(k:Int) < L.length:=by omega
    have hkM:k < M.length:=by rw [<-HLM.out];exact hkL
    have hkm:(k:Int) < M.length:=by omega
    have mF:k < 9223372036854775807:=by omega
    obtain⟨a',cv,_,W,rfl,rfl,hcl,hW,R1,R2, -⟩:=(H1.out.below hhi HD.out).runs hkL;obtain⟨q,e0,rfl,_,_⟩:=hcl.slice;have hbW:θ wr.heap.size wr W:=by rw [hW];exact Sh.aC (ζ _ _) (ε _) _
    have HDW:θ w.heap.size w W:=Sh.aD HD.out HD.out.size hbW;obtain⟨b',cv2,_,W2,rfl,rfl,aNW,hW2,R3,R4, -⟩:=(H2.out.below hhi2 HDW).runs hkM;obtain⟨q2,e2,rfl,_,_⟩:=aNW.slice;have hbW2:θ W.heap.size W W2:=by rw [hW2];exact Sh.aC (ζ _ _) (ε _) _
    have HD2:U (θ w.heap.size w W2):=Sh.aD HDW HDW.size hbW2;have hs1:W.heap.size=wr.heap.size+1:=by rw [hW];simp
    have hx1:W2.heap[wr.heap.size]? =some (.cells (bY L[k] (.slice q L[k].cells.length e0)).toArray 78):=by rw [hbW2.block _ (by omega),hW];exact γ wr _
    have hx2:W2.heap[W.heap.size]? =some (.cells (bY M[k] (.slice q2 M[k].cells.length e2)).toArray 78):=by rw [hW2];exact γ W _
    have R5:U _:=ldS hx1;have R6:U _:=ldS hx2;have hw1:=J hhi HD.out.size;have hw2:=J hhi2 HDW.size;have C:=aHi (n:=L[k].name) (m:=M[k].name) ((hcl.below hw1 hbW).below (J hw1 hbW.size) hbW2) (J (J hw1 hbW.size) hbW2.size) (aNW.below hw2 hbW2) (J hw2 hbW2.size);have HX:U (fC L[k] M[k]=κ->∀j,j < k+1->lW fC L M j=κ):=fun e j hj=>by
     by_cases hjk:j=k
     ·subst hjk;rw [HEA.out j hkL hkM];exact e
     ·exact HA.out j (by omega)
    have HY:U (fC L[k] M[k]=I->eb=I):=fun e=>by rw [<-HO.out];exact aBK hkL (by rw [HEA.out k hkL hkM];exact e)
    have HC:U (CR 67 #[.agg #[.string L[k].name,.slice q L[k].cells.length e0],.agg #[.string M[k].name,.slice q2 M[k].cells.length e2]] W2 (.bool (fC L[k] M[k]))):=C;clear hcl aNW hW hW2 hbW hbW2 hx1 hx2 C hs1 hw1 hw2 HDW;generalize fC L[k] M[k]=sq at *;generalize L[k]=x at *;generalize M[k]=y at *;obtain⟨xn,xc⟩:=x;obtain⟨yn,yc⟩:=y;dsimp only [aEe,bY] at *;cases sq with
    | true=>
     have HX2:U _:=HX.out rfl;clear HX HY;go_wp2_with (first|((with_reducible show wL (χ 78 _));refine aB rfl 78 _ rfl _ _ rfl R1.out ?_;clear R1)|((with_reducible show wL (z4 78 _ _));refine aA rfl 78 _ _ rfl _ _ _ rfl rfl R2.out ?_;clear R2)|((with_reducible show wL (χ 78 _));refine aB rfl 78 _ rfl _ _ rfl R3.out ?_;clear R3)|((with_reducible show wL (z4 78 _ _));refine aA rfl 78 _ _ rfl _ _ _ rfl rfl R4.out ?_;clear R4)|((with_reducible show wL (χ 78 _));refine aB rfl 78 _ rfl _ _ rfl R5.out ?_;clear R5)|((with_reducible show wL (χ 78 _));refine aB rfl 78 _ rfl _ _ rfl R6.out ?_;clear R6)|(go_at_call 67;refine HC.out.mono ?_;clear HC;rintro e w1 ⟨rfl,hb⟩;have HB1:U _:=Sh.aD HD2.out HD2.out.size hb;clear hb))
     go_roundw
     case rel=>exact⟨k+1,by omega,by go_num,HX2,HB1⟩
     case measure=>simp [intOf];omega
    | false=>
     obtain rfl:=HY.out rfl;clear HX HY;go_wp2_with (first|((with_reducible show wL (χ 78 _));refine aB rfl 78 _ rfl _ _ rfl R1.out ?_;clear R1)|((with_reducible show wL (z4 78 _ _));refine aA rfl 78 _ _ rfl _ _ _ rfl rfl R2.out ?_;clear R2)|((with_reducible show wL (χ 78 _));refine aB rfl 78 _ rfl _ _ rfl R3.out ?_;clear R3)|((with_reducible show wL (z4 78 _ _));refine aA rfl 78 _ _ rfl _ _ _ rfl rfl R4.out ?_;clear R4)|((with_reducible show wL (χ 78 _));refine aB rfl 78 _ rfl _ _ rfl R5.out ?_;clear R5)|((with_reducible show wL (χ 78 _));refine aB rfl 78 _ rfl _ _ rfl R6.out ?_;clear R6)|(go_at_call 67;refine HC.out.mono ?_;clear HC;rintro e w1 ⟨rfl,hb⟩;have HB1:U _:=Sh.aD HD2.out HD2.out.size hb;clear hb))
     go_ret;exact⟨rfl,HB1.out⟩
   ·have hki:¬(k:Int) < L.length:=by omega
    obtain rfl:eb=κ:=by rw [<-HO.out];exact wK HLM.out fun i hi=>HA.out i (by omega)
    go_wp2;go_ret;exact⟨rfl,HD.out⟩
 ·have hne:((L.length:Int) !=(M.length:Int))=κ:=by simp only [bne_iff_ne];omega
  obtain rfl:eb=I:=by rw [<-HO.out];exact wJ hlm
  clear hlm HEA HO;go_enter Tryz.func66,Tryz.ntmps66;go_wp2;go_ret;exact⟨rfl,ζ _ _⟩
theorem aKG {lo hi lo2 hi2:Nat} {w:O} {sv nv lv sv2 nv2 lv2:δ} {x1 x2:aP} (h:BkM lo hi w sv nv lv x1) (hhi:hi<=w.heap.size) (h2:BkM lo2 hi2 w sv2 nv2 lv2 x2) (hhi2:hi2<=w.heap.size):
  CR 19 #[.agg #[sv,nv,lv],.agg #[sv2,nv2,lv2]] w (.bool (jY x1 x2)):=by
 obtain⟨s1,t1,rfl,_,_⟩:=h.sh.slice;obtain⟨n1,m1,rfl,_,_⟩:=h.nm.slice;obtain⟨l1,k1,rfl,_,_⟩:=h.lk.slice;obtain⟨s2,t2,rfl,_,_⟩:=h2.sh.slice;obtain⟨n2,m2,rfl,_,_⟩:=h2.nm.slice;obtain⟨l2,k2,rfl,_,_⟩:=h2.lk.slice;obtain⟨W,hW⟩:∃W,W=(w.alloc (bkO (.slice s1 x1.sheets.length t1) (.slice n1 x1.names.length m1) (.slice l1 x1.links.length k1))).alloc (bkO (.slice s2 x2.sheets.length t2) (.slice n2 x2.names.length m2) (.slice l2 x2.links.length k2)):=⟨_,rfl⟩
 have HB:θ w.heap.size w W:=by rw [hW];exact Sh.aC (Sh.aC (ζ _ _) (ε _) _) (ε _) _
 have hX0:W.heap[w.heap.size]? =some (bkO (.slice s1 x1.sheets.length t1) (.slice n1 x1.names.length m1) (.slice l1 x1.links.length k1)):=by rw [hW,υ _ _ _ (by simp)];exact γ w _
 have hX1:W.heap[w.heap.size+1]? =some (bkO (.slice s2 x2.sheets.length t2) (.slice n2 x2.names.length m2) (.slice l2 x2.links.length k2)):=by rw [hW];simpa using γ (w.alloc (bkO (.slice s1 x1.sheets.length t1) (.slice n1 x1.names.length m1) (.slice l1 x1.links.length k1))) (bkO (.slice s2 x2.sheets.length t2) (.slice n2 x2.names.length m2) (.slice l2 x2.links.length k2))
 have KX:∀u,θ W.heap.size W u->(u.cell? ⟨w.heap.size,1,none⟩=some (.slice n1 x1.names.length m1)/\u.cell? ⟨w.heap.size,2,none⟩=some (.slice l1 x1.links.length k1))/\(u.cell? ⟨w.heap.size+1,1,none⟩=some (.slice n2 x2.names.length m2)/\u.cell? ⟨w.heap.size+1,2,none⟩=some (.slice l2 x2.links.length k2))/\θ w.heap.size w u:=fun u hu=>by have q0:=bE ((hu.block _ (aF hX0)).trans hX0);have q1:=bE ((hu.block _ (aF hX1)).trans hX1);exact⟨q0.2,q1.2,Sh.aD HB HB.size hu⟩
 have c0:=(bE hX0).1;have c1:=(bE hX1).1;have C1:ι V 66 _ W fun e u=>e=.returned (.bool (eqL fC x1.sheets x2.sheets))/\u.cell? ⟨w.heap.size,1,none⟩=some (.slice n1 x1.names.length m1)/\u.cell? ⟨w.heap.size+1,1,none⟩=some (.slice n2 x2.names.length m2)/\U (θ W.heap.size W u):=(zY (h.sh.below hhi HB) (J hhi HB.size) (h2.sh.below hhi2 HB) (J hhi2 HB.size)).mono (by
  rintro e u ⟨rfl,hu⟩;obtain⟨q0,q1,q2⟩:=KX u hu;exact⟨rfl,q0.1,q1.1,hu⟩)
 have C2:U (∀u,θ W.heap.size W u->ι V 68 #[.slice n1 x1.names.length m1,.slice n2 x2.names.length m2] u fun e v=>e=.returned (.bool (eqL fV x1.names x2.names))/\v.cell? ⟨w.heap.size,2,none⟩=some (.slice l1 x1.links.length k1)/\v.cell? ⟨w.heap.size+1,2,none⟩=some (.slice l2 x2.links.length k2)/\U (θ W.heap.size W v)):=fun u hu=>by have hub:=(KX u hu).2.2;refine (aKE (h.nm.below hhi hub) (J hhi hub.size) (h2.nm.below hhi2 hub) (J hhi2 hub.size)).mono ?_;rintro e v ⟨rfl,hv⟩;have hv2:=Sh.aD hu hu.size hv;obtain⟨q0,q1,q2⟩:=KX v hv2;exact⟨rfl,q0.2,q1.2,hv2⟩
 have C3:U (∀u,θ W.heap.size W u->ι V 69 #[.slice l1 x1.links.length k1,.slice l2 x2.links.length k2] u fun e v=>e=.returned (.bool (eqL fZ x1.links x2.links))/\U (θ w.heap.size w v)):=fun u hu=>by have hub:=(KX u hu).2.2;refine (aKF (h.lk.below hhi hub) (J hhi hub.size) (h2.lk.below hhi2 hub) (J hhi2 hub.size)).mono ?_;rintro e v ⟨rfl,hv⟩;exact⟨rfl,Sh.aD hub hub.size hv⟩
 have HKX:U (∀u,θ W.heap.size W u->θ w.heap.size w u):=fun u hu=>(KX u hu).2.2;rw [hW] at c0 c1;have HW:U ((w.alloc (bkO (.slice s1 x1.sheets.length t1) (.slice n1 x1.names.length m1) (.slice l1 x1.links.length k1))).alloc (bkO (.slice s2 x2.sheets.length t2) (.slice n2 x2.names.length m2) (.slice l2 x2.links.length k2))=W):=hW.symm;unfold jY;generalize eqL fC x1.sheets x2.sheets=e1 at *;generalize eqL fV x1.names x2.names=e2 at *;generalize eqL fZ x1.links x2.links=e3 at *;clear h h2 HB hX0 hX1 hW KX;cases e1 with
 | false=>
  go_enter Tryz.func19,Tryz.ntmps19;go_wp2_with (go_at_call 66;rw [HW.out];refine C1.mono ?_;clear C1;rintro e w1 ⟨rfl,d0,d1,HB1⟩)
  go_ret;exact⟨rfl,HKX.out _ HB1.out⟩
 | true=>
  cases e2 with
  | false=>
   go_enter Tryz.func19,Tryz.ntmps19;go_wp2_with (first|(go_at_call 66;rw [HW.out];refine C1.mono ?_;clear C1;rintro e w1 ⟨rfl,d0,d1,HB1⟩)|(go_at_call 68;refine (C2.out _ HB1.out).mono ?_;clear C2;rintro e w2 ⟨rfl,f0,f1,HB2⟩))
   go_ret;exact⟨rfl,HKX.out _ HB2.out⟩
  | true=>
   go_enter Tryz.func19,Tryz.ntmps19;go_wp2_with (first|(go_at_call 66;rw [HW.out];refine C1.mono ?_;clear C1;rintro e w1 ⟨rfl,d0,d1,HB1⟩)|(go_at_call 68;refine (C2.out _ HB1.out).mono ?_;clear C2;rintro e w2 ⟨rfl,f0,f1,HB2⟩)|(go_at_call 69;refine (C3.out _ HB2.out).mono ?_;clear C3;rintro e w3 ⟨rfl,HB3⟩))
   go_ret;exact⟨rfl,HB3.out⟩
theorem ba_eq {a b:ByteArray}:a.toList=b.toList↔a=b:=by refine ⟨fun h=> ?_,fun h=>by rw [h]⟩;rw [ByteArray.toList_eq,ByteArray.toList_eq] at h;exact ByteArray.ext (Array.toList_inj.1 h)
theorem wM {α:Type} {eq:α->α->Bool} (he:∀a b,eq a b=κ↔a=b) {L M:List α}:eqL eq L M=κ↔L=M:=by
 unfold eqL;rw [π,decide_eq_true_eq,List.all_eq_true];constructor
 ·rintro ⟨h1,h2⟩;refine List.ext_getElem h1 fun i hi hj=>(he _ _).1 ?_;have:=h2 i (List.mem_range.2 hi);unfold lW at this;simpa [D hi,D hj] using this
 ·rintro rfl;refine ⟨rfl,fun i hi=> ?_⟩;have hi:=List.mem_range.1 hi;unfold lW;simpa [D hi] using (he _ _).2 rfl
theorem aEY (a b:aN):fU a b=κ↔a=b:=by cases a;cases b;simp only [fU,π,beq_iff_eq,ba_eq,aN.mk.injEq]
theorem aEZ (a b:fD):fV a b=κ↔a=b:=by cases a;cases b;simp only [fV,π,beq_iff_eq,ba_eq,fD.mk.injEq]
theorem aHj (a b:sK):zD a b=κ↔a=b:=by cases a;cases b;simp only [zD,π,beq_iff_eq,ba_eq,sK.mk.injEq]
theorem aE0 (a b:eO):fZ a b=κ↔a=b:=by cases a;cases b;simp only [fZ,π,beq_iff_eq,ba_eq,aHj,eO.mk.injEq]
theorem aDy (a b:aT):fC a b=κ↔a=b:=by cases a;cases b;simp only [fC,π,beq_iff_eq,ba_eq,wM aEY,aT.mk.injEq]
theorem rG (x y:aP):jY x y=κ↔x=y:=by cases x;cases y;simp only [jY,π,wM aDy,wM aEZ,wM aE0,aP.mk.injEq]
theorem aKH {x y:aP} (hx:x.Ok) (hy:y.Ok) (lx:(Bt.dA x).length<=9223372036854775807) (ly:(Bt.dA y).length<=9223372036854775807):(Bt.dA x==Bt.dA y)=jY x y:=by rw [Bool.eq_iff_iff,beq_iff_eq,rG];refine ⟨fun h=> ?_,fun h=>by rw [h]⟩;have h1:=Bt.wI hx lx;rw [h,Bt.wI hy ly] at h1;exact(Option.some.inj h1).symm
theorem zF {base:Nat} {w:O} {v:δ} {l:List UInt8} (h:Bt.Own base w v l) (hl:l ≠ []):(convert 96 9 v).run V w=.ok (.string ⟨l.toArray⟩) w:=by
 have hc:=fun g (hg:v.ownBlock=some g)=>World.ownsRow.cells h hg;rcases h.2 with ⟨rfl,h0⟩ | ⟨g,cap,cur,rfl,_⟩
 ·exact absurd (φ h0) hl
 ·exact run_convert_bytes_back w 96 9 5 _ cap l ρ Tryz.underlying5 ν fun j hj=>hc g rfl j _ (Bt.aEV hj)
theorem aHk {base:Nat} {w w':O} {v:δ} {l:List UInt8} (h:Bt.Own base w v l) (hb:θ w.heap.size w w'):Bt.Own base w' v l:=
 World.ownsRow.kept h (row:=none) ⟨hb.os,hb.tape,hb.output,hb.size,fun i hi _=>hb.block i hi⟩ (by cases v.ownBlock <;> simp)
theorem aAP {lo hi:Nat} {w:O} {s1 n1 l1 s2 n2 l2:δ} {x y:aP} (hx:BkM lo hi w s1 n1 l1 x) (hy:BkM lo hi w s2 n2 l2 y) (hhi:hi<=w.heap.size) (ox:x.Ok) (oy:y.Ok)
  (lx:(Bt.dA x).length+10<=140737488355328) (ly:(Bt.dA y).length+10<=140737488355328):
  CR 18 #[.agg #[s1,n1,l1],.agg #[s2,n2,l2]] w (.bool (jY x y)):=by
 have nx:Bt.dA x ≠ []:=fun e=>by have:=Bt.wI ox (by omega);rw [e] at this;cases this
 have ny:Bt.dA y ≠ []:=fun e=>by have:=Bt.wI oy (by omega);rw [e] at this;cases this
 obtain⟨W,hW⟩:∃W,W=((w.alloc (bkO s1 n1 l1)).alloc (bkO s2 n2 l2)).drew:=⟨_,rfl⟩
 have HB:θ w.heap.size w W:=by rw [hW];exact(Sh.aC (Sh.aC (ζ _ _) (ε _) _) (ε _) _).drew
 have G1:W.heap[w.heap.size]? =some (bkO s1 n1 l1):=by rw [hW];show ((w.alloc (bkO s1 n1 l1)).alloc (bkO s2 n2 l2)).heap[w.heap.size]? =_;rw [((ζ (w.alloc (bkO s1 n1 l1)).heap.size (w.alloc (bkO s1 n1 l1))).alloc (ε _) (bkO s2 n2 l2)).block _ (by simp)];exact γ w _
 have G2:W.heap[w.heap.size+1]? =some (bkO s2 n2 l2):=by rw [hW];have:=γ (w.alloc (bkO s1 n1 l1)) (bkO s2 n2 l2);rw [show (w.alloc (bkO s1 n1 l1)).heap.size=w.heap.size+1 by simp] at this;exact this
 have hE:=aKH ox oy (by omega) (by omega);have C1:ι V 65 #[.agg #[s1,n1,l1]] W fun e w1=>∃v1,e=.returned v1/\(w1.cell? ⟨w.heap.size+1,0,none⟩=some s2/\w1.cell? ⟨w.heap.size+1,1,none⟩=some n2/\w1.cell? ⟨w.heap.size+1,2,none⟩=some l2)/\(convert 96 9 v1).run V w1=.ok (.string ⟨(Bt.dA x).toArray⟩) w1/\
   U (ι V 65 #[.agg #[s2,n2,l2]] w1 fun e w2=>∃v2,e=.returned v2/\(convert 96 9 v1).run V w2=.ok (.string ⟨(Bt.dA x).toArray⟩) w2/\(convert 96 9 v2).run V w2=.ok (.string ⟨(Bt.dA y).toArray⟩) w2/\U (θ w.heap.size w w2)):=
  (Bt.vW (hx.below hhi HB) (J hhi HB.size) ox lx).mono (by
   rintro e w1 ⟨v1,rfl,o1,b1⟩;have HB1:=Sh.aD HB HB.size b1;have G2':=(b1.block _ (aF G2)).trans G2;refine ⟨v1,rfl,Cm.sU G2',zF o1 nx,(Bt.vW (hy.below hhi HB1) (J hhi HB1.size) oy ly).mono ?_⟩;rintro e w2 ⟨v2,rfl,o2,b2⟩;exact⟨v2,rfl,zF (aHk o1 b2) nx,zF o2 ny,Sh.aD HB1 HB1.size b2⟩)
 obtain⟨c0,c1,c2⟩:=Cm.sU G1;obtain⟨d0,d1,d2⟩:=Cm.sU G2;generalize Bt.dA x=X at *;generalize Bt.dA y=Y at *;have HE:U ((X==Y)=jY x y):=hE;generalize jY x y=r at *;rw [hW] at C1 c0 c1 c2 d0 d1 d2;clear hx hy lx ly nx ny HB G1 G2 hW hE ox oy;go_enter Tryz.func18,Tryz.ntmps18;go_wp2;go_region_with (go_at_call 65;first|(refine C1.mono ?_;clear C1;rintro e w1 ⟨v1,rfl,⟨k0,k1,k2⟩,q1,C2⟩)|(refine C2.out.mono ?_;clear C2;rintro e w2 ⟨v2,rfl,q2,q3,HB⟩))
 all_goals
  go_simp;go_wp2;go_ret;exact⟨by rw [<-HE.out];rfl,HB.out⟩
theorem aHl {lo hi:Nat} {w:O} {s1 n1 l1 s2 n2 l2:δ} {x y:aP} (hx:BkM lo hi w s1 n1 l1 x) (hy:BkM lo hi w s2 n2 l2 y) (hhi:hi<=w.heap.size) (ox:x.Ok) (oy:y.Ok)
  (lx:(Bt.dA x).length+10<=140737488355328) (ly:(Bt.dA y).length+10<=140737488355328) (e f:Int):
  ι V 15 #[.agg #[s1,n1,l1],.int .i64 e,.agg #[s2,n2,l2],.int .i64 f] w fun e' w'=>e'=.returned (.bool (jY x y && decide (e=f)))/\θ w.heap.size w w':=by
 obtain⟨W,hW⟩:∃W,W=(w.alloc (bkO s1 n1 l1)).alloc (bkO s2 n2 l2):=⟨_,rfl⟩
 have HB:θ w.heap.size w W:=by rw [hW];exact Sh.aC (Sh.aC (ζ _ _) (ε _) _) (ε _) _
 have G1:W.heap[w.heap.size]? =some (bkO s1 n1 l1):=by rw [hW,((ζ (w.alloc (bkO s1 n1 l1)).heap.size (w.alloc (bkO s1 n1 l1))).alloc (ε _) (bkO s2 n2 l2)).block _ (by simp)];exact γ w _
 have G2:W.heap[w.heap.size+1]? =some (bkO s2 n2 l2):=by rw [hW];have:=γ (w.alloc (bkO s1 n1 l1)) (bkO s2 n2 l2);rw [show (w.alloc (bkO s1 n1 l1)).heap.size=w.heap.size+1 by simp] at this;exact this
 have C:ι V 18 #[.agg #[s1,n1,l1],.agg #[s2,n2,l2]] W fun e w1=>e=.returned (.bool (jY x y))/\U (θ w.heap.size w w1):=
  (aAP (hx.below hhi HB) (hy.below hhi HB) (J hhi HB.size) ox oy lx ly).mono (by
   rintro e w1 ⟨rfl,b1⟩;exact⟨rfl,Sh.aD HB HB.size b1⟩)
 obtain⟨c0,c1,c2⟩:=Cm.sU G1;obtain⟨d0,d1,d2⟩:=Cm.sU G2;rw [hW] at C c0 c1 c2 d0 d1 d2;clear hx hy lx ly HB G1 G2 hW ox oy;generalize jY x y=r at *;cases r <;> by_cases h:e=f
 all_goals
  go_enter Tryz.func15,Tryz.ntmps15;go_wp2_with (first|(go_at_call 18;refine C.mono ?_;clear C;rintro e' w1 ⟨rfl,HB⟩))
  go_ret;exact⟨by simp [h],HB.out⟩
end Go.Proofs.YtfedoljlipfhdaaGreatDoor.Sh
