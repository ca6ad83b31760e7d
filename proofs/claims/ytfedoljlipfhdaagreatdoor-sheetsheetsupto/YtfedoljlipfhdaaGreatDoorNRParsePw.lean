/- APure, ABase, AMem, NPure, NSmall, NLoop, NStr, Shelf, NCut, NParse, NPrint, ACut, NLives, NRDig, NRPrint, NRParse. -/
import Derived.Below
import Derived.BigQuiet
import Derived.Deep.QuietTactic
import Derived.Deep.RegionHeldLaw
import Derived.JoinedTies
import Derived.KernelRfl
import Derived.Laws.RangeAny
import Derived.Laws.StructEq
import Derived.Lib.AppendIntMem
import Derived.Lib.AtoiAll
import Derived.Lib.CutLaws
import Derived.Lib.IndexMore
import Derived.Lib.ItoaNum
import Derived.Lib.LaidTab
import Derived.Lib.SlBytesConst
import Derived.Lib.TrimByte
import Derived.LoopTactic
import Derived.RowKit
import Derived.Shelf.LaysC
import Derived.Shelf.LaysM
import Derived.Shelf.Small.Wraps
import Derived.Shelf.Strconv.AtoiAll
import Derived.Shelf.Strconv.Itoa3
import Derived.Shelf.Strings.Builder1
import Derived.Shelf.Strings.BuilderK
import Derived.Shelf.Strings.Cut
import Derived.Shelf.Strings.Replace
import Derived.Shelf.Strings.Search2
import Derived.Shelf.Strings.Trim
import Derived.Test.YtfedoljlipfhdaaGreatDoorProg
import Derived.WalkKit
import GoSem.Claim
import GoSem.ClaimJoined
import GoSem.ClaimMapViews
set_option linter.unusedVariables false
set_option linter.unusedSimpArgs false
set_option maxHeartbeats 16000000
set_option maxRecDepth 100000
open Go renaming World->Z,Value->ι,Calls->ξ,TypeId->Ξ,heap_alloc_new->Φ
open Bool renaming true->Y,false->U,and_eq_true->K,eq_iff_iff->μ,and_eq_false_iff->φ,false_eq_true->ω
open Go.Proofs.Tryz renaming prog->J,underlying9->γ,underlying5->δ,underlying3->ζ,underlying96->θ,sizeOf9->ν,isAgg9->ο,isAgg3->π
open UInt8 renaming ofNat->H
open Go.Lib renaming decDigits->G,indexByte->D,decDigits->E
open List renaming replicate->M,take_of_length_le->β,length_cons->η,length_append->κ,length_nil->σ,isPrefixOf->τ,singleton_append->υ,mem_cons_of_mem->χ,dropWhile_cons->ψ,getElem_mem->Δ,cons_append->Θ
open Go.RowKit renaming Hid->I,Below->ε
open Nat renaming zero_le->O,le_refl->Γ,le_trans->Ω
open ByteArray renaming size_append->S,ext->Ψ
open Go.RowKit.Below renaming refl->α
namespace Go.Ad
open Go.Lib
def isL (c:UInt8):Bool:=(decide (97<=c.toNat) && decide (c.toNat<=122)) || (decide (65<=c.toNat) && decide (c.toNat<=90))
def isD (c:UInt8):Bool:=decide (48<=c.toNat) && decide (c.toNat<=57)
def kQ (c:UInt8):Nat:=if 97<=c.toNat then c.toNat - 96 else c.toNat - 64
def strip (c:UInt8):List UInt8->Bool × List UInt8
 | []=>(U,[])
 | x:: r=>if x=c then (Y,r) else (U,x:: r)
def dR:List UInt8->Nat
 | [a]=>if isD a=Y/\a ≠ 48 then a.toNat - 48 else 0
 | [a,b]=>if isD a=Y/\isD b=Y/\a ≠ 48 then (a.toNat - 48) * 10+(b.toNat - 48) else 0
 | _=>0
theorem kR (a:UInt8):dR [a]=if isD a=Y/\a ≠ 48 then a.toNat - 48 else 0:=rfl
theorem jN (a b:UInt8):dR [a,b]=if isD a=Y/\isD b=Y/\a ≠ 48 then (a.toNat - 48) * 10+(b.toNat - 48) else 0:=rfl
theorem dO (c x:UInt8) (r:List UInt8):strip c (x:: r)=if x=c then (Y,r) else (U,x:: r):=rfl
structure Cell where
 row:Nat
 col:Nat
 fr:Bool
 fc:Bool
def inF (c:Cell):Prop:=1<=c.row/\c.row<=64/\1<=c.col/\c.col<=26
def aAl (fc:Bool) (c:UInt8) (l:List UInt8):Option Cell:=
 if isL c=Y/\1<=dR (strip 36 l).2/\dR (strip 36 l).2<=64 then some ⟨dR (strip 36 l).2,kQ c,(strip 36 l).1,fc⟩ else none
def cellP (l:List UInt8):Option Cell:=
 match (strip 36 l).2 with
 | c:: r=>aAl (strip 36 l).1 c r
 | []=>none
def aDE (n:Nat):UInt8:=H (64+n)
def cellW (c:Cell):List UInt8:=(if c.fc=Y then [36] else [])++(aDE c.col:: ((if c.fr=Y then [36] else [])++E c.row))
theorem toNat_ofNat {n:Nat} (h:n < 256):(H n).toNat=n:=by simp;omega
theorem wN {a b:UInt8} (h:a.toNat=b.toNat):a=b:=UInt8.toNat_inj.1 h
theorem aAT {c:UInt8} (h:isL c=Y):1<=kQ c/\kQ c<=26/\c ≠ 36:=by
 unfold isL at h;simp only [Bool.or_eq_true,K,decide_eq_true_eq] at h;refine ⟨?_, ?_,fun e=> ?_⟩
 ·unfold kQ;split <;> omega
 ·unfold kQ;split <;> omega
 ·have:c.toNat=36:=by rw [e];rfl
  omega
theorem oK {n:Nat} (h:n < 10):(H (48+n)).toNat=48+n:=toNat_ofNat (by omega)
theorem aHw {n:Nat} (h1:1<=n) (h2:n<=64):dR (E n)=n/\(strip 36 (E n)).1=U/\(strip 36 (E n)).2=E n/\∀c ∈ E n,isD c=Y:=by
 by_cases h:n < 10
 ·have e:=oK h;rw [decDigits_one h];have hd:isD (H (48+n))=Y:=by unfold isD;rw [e];simp;omega
  have h48:H (48+n) ≠ 48:=fun x=>by rw [x] at e;have:(48:UInt8).toNat=48:=rfl;omega
  have h36:H (48+n) ≠ 36:=fun x=>by rw [x] at e;have:(36:UInt8).toNat=36:=rfl;omega
  refine ⟨?_, ?_, ?_,fun c hc=> ?_⟩
  ·rw [kR,if_pos ⟨hd,h48⟩,e];omega
  ·rw [dO,if_neg h36]
  ·rw [dO,if_neg h36]
  ·simp only [List.mem_singleton] at hc;rw [hc];exact hd
 ·have e1:=oK (n:=n / 10) (by omega);have e2:=oK (n:=n % 10) (by omega);rw [E,dif_neg h,decDigits_one (by omega)];simp only [υ];have hd1:isD (H (48+n / 10))=Y:=by unfold isD;rw [e1];simp;omega
  have hd2:isD (H (48+n % 10))=Y:=by unfold isD;rw [e2];simp;omega
  have h48:H (48+n / 10) ≠ 48:=fun x=>by rw [x] at e1;have:(48:UInt8).toNat=48:=rfl;omega
  have h36:H (48+n / 10) ≠ 36:=fun x=>by rw [x] at e1;have:(36:UInt8).toNat=36:=rfl;omega
  refine ⟨?_, ?_, ?_,fun c hc=> ?_⟩
  ·rw [jN,if_pos ⟨hd1,hd2,h48⟩,e1,e2];omega
  ·rw [dO,if_neg h36]
  ·rw [dO,if_neg h36]
  ·simp only [List.mem_cons,List.not_mem_nil,or_false] at hc;rcases hc with rfl | rfl
   ·exact hd1
   ·exact hd2
theorem aKQ {l:List UInt8} (h:1<=dR l):(E (dR l)).length=l.length:=by
 match l,h with
 | [a],h=>
  rw [kR] at h ⊢;split at h
  ·rename_i hh
   have:=hh.1;unfold isD at this;simp only [K,decide_eq_true_eq] at this;rw [if_pos hh,decDigits_one (by omega)];rfl
  ·omega
 | [a,b],h=>
  rw [jN] at h ⊢;split at h
  ·rename_i hh
   obtain⟨h1,h2,h3⟩:=hh;have ha:a.toNat ≠ 48:=fun e=>h3 (wN e);have q1:=h1;have q2:=h2;unfold isD at q1 q2;simp only [K,decide_eq_true_eq] at q1 q2;rw [if_pos ⟨h1,h2,h3⟩,E,dif_neg (by omega),decDigits_one (by omega)];rfl
  ·omega
 | [],h=>simp [dR] at h
 | _:: _:: _:: _,h=>simp [dR] at h
theorem lX (c:UInt8):∀l:List UInt8,l.length=(if (strip c l).1=Y then 1 else 0)+(strip c l).2.length
 | []=>by simp [strip]
 | x:: r=>by rw [dO];split <;> simp <;> omega
theorem aFZ (c:UInt8) (l:List UInt8):strip c (c:: l)=(Y,l):=by simp [strip]
theorem cell_of {l:List UInt8} {c:Cell} (h:cellP l=some c):inF c/\(cellW c).length=l.length:=by
 unfold cellP at h;have e1:=lX 36 l;cases hs:(strip 36 l).2 with
 | nil=>rw [hs] at h;cases h
 | cons x r=>
  rw [hs] at h e1;simp only at h;unfold aAl at h;split at h
  ·rename_i hh
   obtain⟨g1,g2,g3⟩:=hh;have e2:=lX 36 r;have e3:=aKQ g2;obtain⟨b1,b2,_⟩:=aAT g1;cases h
   refine ⟨⟨g2,g3,b1,b2⟩, ?_⟩;unfold cellW;simp only [κ,η,e3];simp only [η] at e1;generalize (strip 36 l).1=f1 at *;generalize (strip 36 r).1=f2 at *;cases f1 <;> cases f2 <;> simp at e1 e2 ⊢ <;> omega
  ·cases h
def at_ (c:UInt8):List UInt8->Option (List UInt8 × List UInt8)
 | []=>none
 | x:: r=>if x=c then some ([],r) else (at_ c r).map fun p=>(x:: p.1,p.2)
theorem aE7 {c:UInt8}:∀{l:List UInt8},(∀x ∈ l,x ≠ c)->at_ c l=none
 | [],_=>rfl
 | x:: r,h=>by unfold at_;rw [if_neg (h x (List.mem_cons_self ..)),aE7 fun y hy=>h y (χ _ hy)];rfl
theorem aAU {c:UInt8}:∀{l:List UInt8} (m:List UInt8),(∀x ∈ l,x ≠ c)->at_ c (l++c:: m)=some (l,m)
 | [],m,_=>by simp [at_]
 | x:: r,m,h=>by rw [Θ];unfold at_;rw [if_neg (h x (List.mem_cons_self ..)),aAU m fun y hy=>h y (χ _ hy)];rfl
theorem iR {c:UInt8}:∀{l a b:List UInt8},at_ c l=some (a,b)->l=a++c:: b/\∀x ∈ a,x ≠ c
 | [],a,b,h=>by cases h
 | x:: r,a,b,h=>by
  unfold at_ at h;by_cases e:x=c
  ·rw [if_pos e] at h;cases h
   exact⟨by rw [e];rfl,fun y hy=>by cases hy⟩
  ·rw [if_neg e] at h;cases hr:at_ c r with
   | none=>rw [hr] at h;cases h
   | some p=>
    rw [hr] at h;cases h
    obtain⟨h1,h2⟩:=iR (a:=p.1) (b:=p.2) hr;refine ⟨by rw [Θ,<-h1],fun y hy=> ?_⟩;rcases List.mem_cons.1 hy with rfl | hy
    ·exact e
    ·exact h2 y hy
structure Ref where
 book:List UInt8
 fA:List UInt8
 cell:Cell
section
variable (gn:List UInt8->Bool)
def jD (book l:List UInt8):Option Ref:=
 match at_ 33 l with
 | none=>(cellP l).map fun c=>⟨book,[],c⟩
 | some (a,r)=>if gn a=Y then (cellP r).map fun c=>⟨book,a,c⟩ else none
def lY (l:List UInt8):Option Ref:=
 match l with
 | 91:: m=>
  match at_ 93 m with
  | none=>none
  | some (a,r)=>if gn a=Y/\(at_ 33 r).isSome=Y then jD gn a r else none
 | l=>jD gn [] l
def aMD (r:Ref):Prop:=inF r.cell/\(r.fA=[]\/gn r.fA=Y)/\(r.book=[]\/(gn r.book=Y/\r.fA ≠ []))
end
def aKR (r:Ref):List UInt8:=
 (if r.book=[] then [] else 91:: (r.book++ [93]))++((if r.fA=[] then [] else r.fA++ [33])++cellW r.cell)
def Names (gn:List UInt8->Bool):Prop:=∀l,gn l=Y->l ≠ []/\∀x ∈ l,x ≠ 33/\x ≠ 91/\x ≠ 93
theorem wO {gn:List UInt8->Bool} {l:List UInt8} (h:l.head? ≠ some 91):lY gn l=jD gn [] l:=by
 unfold lY;split
 ·simp at h
 ·rfl
theorem aB3 {gn:List UInt8->Bool} (hn:Names gn) {book l:List UInt8} {r:Ref} (h:jD gn book l=some r):
  r.book=book/\inF r.cell/\(r.fA=[]\/gn r.fA=Y)/\((at_ 33 l).isSome=Y->r.fA ≠ [])/\((if r.fA=[] then [] else r.fA++ [33])++cellW r.cell).length=l.length:=by
 unfold jD at h;cases ha:at_ 33 l with
 | none=>
  rw [ha] at h;simp only at h;cases hc:cellP l with
  | none=>rw [hc] at h;cases h
  | some c=>
   rw [hc] at h;cases h
   obtain⟨q1,q2⟩:=cell_of hc;exact⟨rfl,q1,.inl rfl,fun e=>(by cases e),by simpa using q2⟩
 | some p=>
  obtain⟨a,m⟩:=p;rw [ha] at h;simp only at h;split at h
  ·rename_i hg
   cases hc:cellP m with
   | none=>rw [hc] at h;cases h
   | some c=>
    rw [hc] at h;cases h
    obtain⟨q1,q2⟩:=cell_of hc;obtain⟨e1,_⟩:=iR ha;have hne:=(hn a hg).1;refine ⟨rfl,q1,.inr hg,fun _=>hne, ?_⟩;simp only [if_neg hne,κ,η,σ,q2,e1];omega
  ·cases h
theorem aMS {gn:List UInt8->Bool} (hn:Names gn) {l:List UInt8} {r:Ref} (h:lY gn l=some r):aMD gn r/\(aKR r).length=l.length:=by
 unfold lY at h;split at h
 ·rename_i m
  cases ha:at_ 93 m with
  | none=>rw [ha] at h;cases h
  | some p=>
   obtain⟨a,t⟩:=p;rw [ha] at h;simp only at h;split at h
   ·rename_i hg
    obtain⟨q1,q2,q3,q4,q5⟩:=aB3 hn h;obtain⟨e1,_⟩:=iR ha;have hne:=(hn a hg.1).1;refine ⟨⟨q2,q3,.inr ⟨by rw [q1];exact hg.1,q4 hg.2⟩⟩, ?_⟩;unfold aKR;rw [κ,q5,q1,if_neg hne,e1];simp only [η,κ,σ];omega
   ·cases h
 ·obtain ⟨q1,q2,q3,q4,q5⟩:=aB3 hn h;refine ⟨⟨q2,q3,.inl q1⟩, ?_⟩;unfold aKR;rw [κ,q5,q1,if_pos rfl];simp
theorem aMT {l:List UInt8} (h:1<=dR l):E (dR l)=l:=by
 match l,h with
 | [a],h=>
  rw [kR] at h ⊢;split at h
  ·rename_i hh
   have:=hh.1;unfold isD at this;simp only [K,decide_eq_true_eq] at this;rw [if_pos hh,decDigits_one (by omega)];congr 1;apply wN;rw [oK (by omega)];omega
  ·omega
 | [a,b],h=>
  rw [jN] at h ⊢;split at h
  ·rename_i hh
   obtain⟨h1,h2,h3⟩:=hh;have ha:a.toNat ≠ 48:=fun e=>h3 (wN e);have q1:=h1;have q2:=h2;unfold isD at q1 q2;simp only [K,decide_eq_true_eq] at q1 q2;rw [if_pos ⟨h1,h2,h3⟩,E,dif_neg (by omega),decDigits_one (by omega)];have e1:H (48+((a.toNat - 48) * 10+(b.toNat - 48)) / 10)=a:=by apply wN;rw [oK (by omega)];omega
   have e2:H (48+((a.toNat - 48) * 10+(b.toNat - 48)) % 10)=b:=by apply wN;rw [oK (by omega)];omega
   rw [e1,e2];rfl
  ·omega
 | [],h=>simp [dR] at h
 | _:: _:: _:: _,h=>simp [dR] at h
theorem aHx {l:List UInt8} (h:1<=dR l):atoiAll l=.ok (dR l:Nat):=by
 match l,h with
 | [a],h=>
  rw [kR] at h ⊢;split at h
  ·rename_i hh
   have:=hh.1;unfold isD at this;simp only [K,decide_eq_true_eq] at this;rw [if_pos hh];unfold atoiAll;simp only;rw [if_neg (by omega)];unfold parseMag;rw [if_neg (by simp)];unfold parseUint10;rw [if_pos (by omega),if_neg (by omega),if_neg (by omega)];unfold parseUint10;simp only;rw [if_neg (by omega),if_neg (by omega),if_neg (by omega)];congr 2;omega
  ·omega
 | [a,b],h=>
  rw [jN] at h ⊢;split at h
  ·rename_i hh
   obtain⟨h1,h2,h3⟩:=hh;have q1:=h1;have q2:=h2;unfold isD at q1 q2;simp only [K,decide_eq_true_eq] at q1 q2;rw [if_pos ⟨h1,h2,h3⟩];unfold atoiAll;simp only;rw [if_neg (by omega)];unfold parseMag;rw [if_neg (by simp)];unfold parseUint10;rw [if_pos (by omega),if_neg (by omega),if_neg (by omega)];unfold parseUint10;rw [if_pos (by omega),if_neg (by omega),if_neg (by omega)];unfold parseUint10;simp only;rw [if_neg (by omega),if_neg (by omega),if_neg (by omega)];congr 2;omega
  ·omega
 | [],h=>simp [dR] at h
 | _:: _:: _:: _,h=>simp [dR] at h
def wP (l:List UInt8):Int:=match atoiAll l with
 | .ok v=>if itoa v=l then v else 0
 | _=>0
def rM (n:Int):Prop:=1<=n/\n<=64
theorem aHy (l:List UInt8):(rM (wP l)/\wP l=(dR l:Nat))\/(¬rM (wP l)/\¬(1<=dR l/\dR l<=64)):=by
 by_cases h:rM (wP l)
 ·left;refine ⟨h, ?_⟩;unfold rM at h;unfold wP at h ⊢;cases ha:atoiAll l with
  | ok v=>
   rw [ha] at h;simp only at h ⊢;by_cases e:itoa v=l
   ·rw [if_pos e] at h ⊢;obtain⟨h1,h2⟩:=h;unfold itoa at e;rw [if_neg (by omega)] at e;have:=(aHw (n:=v.toNat) (by omega) (by omega)).1;rw [e] at this;omega
   ·rw [if_neg e] at h;omega
  | «syntax» =>rw [ha] at h;simp only at h;omega
  | range=>rw [ha] at h;simp only at h;omega
 ·right;refine ⟨h,fun ⟨h1,h2⟩=>h ?_⟩;have ha:=aHx h1;have he:=aMT h1;unfold wP rM;rw [ha];simp only;have e:itoa ((dR l:Nat):Int)=l:=by unfold itoa;rw [if_neg (by omega),Int.toNat_natCast,he]
  rw [if_pos e];omega
end Go.Ad
namespace Go.Proofs.YtfedoljlipfhdaaGreatDoor
open Go.RowKit
abbrev CR (f:Nat) (a:Array ι) (w:Z) (v:ι):Prop:=ξ J f a w fun e w'=>e=.returned v/\ε w.heap.size w w'
abbrev CW (f:Nat) (a:Array ι) (w:Z) (v:ι):Prop:=ξ J f a w fun e w'=>e=.returned v/\w'=w
abbrev wL (o:Op) {P:Program} {ops:Array Oper} {Q:Exit->Act->Z->Prop} {d:Option Nat} {t:Ξ} {po:String} {af:Array Edge} {r:List Oper} {a:Act} {w:Z}:Prop:=wpList P ops Q ({ dst:=d,op:=o,type:=t,pos:=po,after:=af,guard:=none }:: r) a w
abbrev wG (o:Op) {P:Program} {ops:Array Oper} {Q:Exit->Act->Z->Prop} {d:Option Nat} {t:Ξ} {po:String} {af:Array Edge} {g:Nat × Bool} {r:List Oper} {a:Act} {w:Z}:Prop:=wpList P ops Q ({ dst:=d,op:=o,type:=t,pos:=po,after:=af,guard:=some g }:: r) a w
abbrev pt (b:Nat):ι:=.pointer (some ⟨b,0,none⟩)
theorem mw {f:Nat} {a:Array ι} {w:Z} {v:ι} {P:Ending->Z->Prop} (h:CW f a w v) (k:P (.returned v) w):ξ J f a w P:=Calls.mono h fun e w' hh=>by obtain⟨rfl,rfl⟩:=hh;exact k
abbrev dL (b s:ByteArray) (r c:Int) (fr fc:Bool):ι:=.agg #[.string b,.string s,.int .i64 r,.int .i64 c,.bool fr,.bool fc]
abbrev gH:ι:=dL ⟨#[]⟩ ⟨#[]⟩ 0 0 U U
def In64 (n:Int):Prop:= -9223372036854775808<=n/\n<=9223372036854775807
def inB (r c:Int):Bool:=decide (1<=r) && decide (r<=64) && decide (1<=c) && decide (c<=26)
theorem eX {a b:Bool} (h:a=b):(Ending.returned (.bool a))=.returned (.bool b):=by rw [h]
theorem pW (w:Z) (s:ByteArray):∃(c:Nat) (wb:Z),(convert 9 96 (.string s)).run J w=.ok (.slice (some ⟨w.heap.size,0,none⟩) s.size c) wb/\
  (∀(k:Nat) (h:k < s.size),wb.cell? ⟨w.heap.size,k,none⟩=some (.int .u8 (s[k].toNat:Int)))/\ε w.heap.size w wb:=by
 refine ⟨_,_,run_bytes_of_string w 9 96 5 s γ θ δ,fun k h=> ?_, ?_⟩
 ·have h2:k < s.data.size:=h;rw [show w.heap.size=w.drew.heap.size from rfl,World.cell?_alloc_mark,bytesRow_at _ _ _ h2];rfl
 ·exact ((α w.heap.size w).drew).alloc (Γ _) _
theorem mQ (c:UInt8) (w:Z):CW 158 #[.int .u8 (c.toNat:Nat)] w (.bool (Ad.isL c)):=by have hc:c.toNat < 256:=c.toNat_lt;unfold Ad.isL;generalize c.toNat=n at *;go_enter Tryz.func158,Tryz.ntmps158;go_wp2;all_goals (go_ret;refine ⟨eX ?_,rfl⟩;rw [μ];simp;omega)
theorem jO (c:UInt8) (w:Z):CW 91 #[.int .u8 (c.toNat:Nat)] w (.bool (Ad.isL c)):=by have hc:c.toNat < 256:=c.toNat_lt;unfold Ad.isL;generalize c.toNat=n at *;go_enter Tryz.func91,Tryz.ntmps91;go_wp2;all_goals (go_ret;refine ⟨eX ?_,rfl⟩;rw [μ];simp;omega)
theorem aAm (c:UInt8) (w:Z):CW 159 #[.int .u8 (c.toNat:Nat)] w (.bool (Ad.isD c)):=by have hc:c.toNat < 256:=c.toNat_lt;unfold Ad.isD;generalize c.toNat=n at *;go_enter Tryz.func159,Tryz.ntmps159;go_wp2;all_goals (go_ret;refine ⟨eX ?_,rfl⟩;rw [μ];simp;omega)
theorem iH (c:UInt8) (w:Z):CW 93 #[.int .u8 (c.toNat:Nat)] w (.bool (Ad.isD c)):=by have hc:c.toNat < 256:=c.toNat_lt;unfold Ad.isD;generalize c.toNat=n at *;go_enter Tryz.func93,Tryz.ntmps93;go_wp2;all_goals (go_ret;refine ⟨eX ?_,rfl⟩;rw [μ];simp;omega)
theorem aMU (r c:Int) (w:Z):CW 212 #[.int .i64 r,.int .i64 c] w (.bool (inB r c)):=by unfold inB;go_enter Tryz.func212,Tryz.ntmps212;go_wp2;all_goals (go_ret;refine ⟨eX ?_,rfl⟩;rw [μ];simp;omega)
theorem rO (r c:Int) (w:Z):CW 145 #[.int .i64 r,.int .i64 c] w (.bool (inB r c)):=by unfold inB;go_enter Tryz.func145,Tryz.ntmps145;go_wp2;all_goals (go_ret;refine ⟨eX ?_,rfl⟩;rw [μ];simp;omega)
theorem iC {w w1:Z} {o:Obj} (hb:ε (w.alloc o).heap.size (w.alloc o) w1):ε w.heap.size w w1:=
 ((α _ _).alloc (Γ _) o).trans (hb.mono (by simp))
theorem aD {w w1 w2:Z} (h:ε w.heap.size w w1) (hb:ε w1.heap.size w1 w2):ε w.heap.size w w2:=h.trans (hb.mono h.size)
theorem aC {w w1:Z} (h:ε w.heap.size w w1) (o:Obj):ε w.heap.size w (w1.alloc o):=h.alloc h.size _
theorem rP {w x:Z} {a b:Obj} (h:ε ((w.alloc a).alloc b).heap.size ((w.alloc a).alloc b) x):ε w.heap.size w x:=iC (iC h)
theorem bA {u:Z} {g:Nat} {o:Obj} (h:u.heap[g]? =some o):g < u.heap.size:=(Array.getElem?_eq_some_iff.1 h).1
theorem new1 {w x:Z} {o:Obj} (h:ε (w.alloc o).heap.size (w.alloc o) x):x.heap[w.heap.size]? =some o:=by rw [h.block _ (by simp)];exact Φ w o
theorem new2 {w x:Z} {a b:Obj} (h:ε ((w.alloc a).alloc b).heap.size ((w.alloc a).alloc b) x):x.heap[w.heap.size]? =some a/\x.heap[w.heap.size+1]? =some b:=by refine ⟨new1 (iC h), ?_⟩;have:=new1 h;simpa using this
section
variable {u:Z} {g:Nat} {a b c d e f:ι}
theorem aR {t:Ξ} (h:u.heap[g]? =some (.cells #[a,b,c,d,e,f] t (0,0))):u.cell? ⟨g,0,none⟩=some a/\u.cell? ⟨g,1,none⟩=some b/\u.cell? ⟨g,2,none⟩=some c/\u.cell? ⟨g,3,none⟩=some d/\u.cell? ⟨g,4,none⟩=some e/\u.cell? ⟨g,5,none⟩=some f:=by simp [World.cell?,h]
theorem aV {t:Ξ} (h:u.heap[g]? =some (.cells #[a,b,c,d,e,f] t (0,0))):u.frozen? ⟨g,0,none⟩=U/\u.frozen? ⟨g,1,none⟩=U/\u.frozen? ⟨g,2,none⟩=U/\u.frozen? ⟨g,3,none⟩=U/\u.frozen? ⟨g,4,none⟩=U/\u.frozen? ⟨g,5,none⟩=U:=by simp [World.frozen?,h]
theorem mR {t:Ξ} (h:u.heap[g]? =some (.cells #[a,b,c,d] t (0,0))):u.cell? ⟨g,0,none⟩=some a/\u.cell? ⟨g,1,none⟩=some b/\u.cell? ⟨g,2,none⟩=some c/\u.cell? ⟨g,3,none⟩=some d:=by simp [World.cell?,h]
end
abbrev dV (b s:ByteArray) (r c:Int) (fr fc:Bool):Obj:=.cells #[.string b,.string s,.int .i64 r,.int .i64 c,.bool fr,.bool fc] 64
def RC (W:Z) (f:Nat) (args:Array ι) (r:ι):Prop:=∀u,ε W.heap.size W u->ξ J f args u fun e w'=>e=.returned r/\ε W.heap.size W w'
theorem RC.of {W:Z} {f:Nat} {args:Array ι} {r:ι} (h:∀u,ε W.heap.size W u->ξ J f args u fun e w'=>e=.returned r/\ε u.heap.size u w'):RC W f args r:=fun u hu=>
 (h u hu).mono fun _ _ ⟨h1,h2⟩=>⟨h1,aD hu h2⟩
end Go.Proofs.YtfedoljlipfhdaaGreatDoor
namespace Go.Proofs.YtfedoljlipfhdaaGreatDoor
def gd (n:Int):Bool:=decide (-100000000000<=n) && decide (n<=100000000000)
def ans (n:Int):Int × Bool:=if gd n=Y then (n,Y) else (0,U)
def aAV (n:Int):Int:=if n < 0 then -n else n
def aB4 (n:Int) (b:Bool):Int:=if b=Y then -n else n
def cZ (a b:Int):Int × Bool:=if (gd a && gd b)=Y/\b ≠ 0 then ans (a.tdiv b * 10000) else (0,U)
theorem aMV (n:Int):gd (ans n).1=Y:=by unfold ans;split <;> simp_all [gd]
def fc:Nat->Int
 | 0=>1
 | n+1=>fc n * ((n:Int)+1)
end Go.Proofs.YtfedoljlipfhdaaGreatDoor
namespace Go.Proofs.YtfedoljlipfhdaaGreatDoor
open Go.RowKit
def two (r:Int × Bool):ι:=.tuple #[.int .i64 r.1,.bool r.2]
theorem aB5 (n:Int) (w:Z):CW 252 #[.int .i64 n] w (.bool (gd n)):=by go_enter Tryz.func252,Tryz.ntmps252;go_wp2;all_goals (go_ret;rename_i h;refine ⟨?_,rfl⟩;congr 2;simp [gd];try omega)
theorem aF0 (n:Int) (w:Z):CW 215 #[.int .i64 n] w (.bool (gd n)):=by go_enter Tryz.func215,Tryz.ntmps215;go_wp2;all_goals (go_ret;rename_i h;refine ⟨?_,rfl⟩;congr 2;simp [gd];try omega)
theorem wQ (n:Int) (w:Z):CW 250 #[.int .i64 n] w (two (ans n)):=by
 cases hg:gd n
 all_goals
  go_enter Tryz.func250,Tryz.ntmps250;go_wp2_with (go_at_call 252;refine mw (aB5 _ _) ?_;rw [hg])
  go_ret2;exact⟨by simp [two,ans,hg],rfl⟩
theorem wB (n:Int) (w:Z):CW 239 #[.int .i64 n] w (two (ans n)):=by
 cases hg:gd n
 all_goals
  go_enter Tryz.func239,Tryz.ntmps239;go_wp2_with (go_at_call 215;refine mw (aF0 _ _) ?_;rw [hg])
  go_ret2;exact⟨by simp [two,ans,hg],rfl⟩
theorem aB6 (n:Int) (h0: -9223372036854775807<=n) (h1:n<=9223372036854775807) (w:Z):CW 222 #[.int .i64 n] w (.int .i64 (aAV n)):=by
 by_cases h:n < 0
 ·rw [show aAV n= -n from if_pos h];go_enter Tryz.func222,Tryz.ntmps222;go_wp2;go_ret;exact⟨rfl,rfl⟩
 ·rw [show aAV n=n from if_neg h];go_enter Tryz.func222,Tryz.ntmps222;go_wp2;go_ret;exact⟨rfl,rfl⟩
theorem wR (n:Int) (b:Bool) (h0: -9223372036854775807<=n) (h1:n<=9223372036854775807) (w:Z):CW 251 #[.int .i64 n,.bool b] w (.int .i64 (aB4 n b)):=by
 unfold aB4;cases b
 all_goals
  go_enter Tryz.func251,Tryz.ntmps251;go_wp2;go_ret;exact⟨rfl,rfl⟩
theorem aHz:∀j:Nat,j<=11->(10:Int) ^ j<=100000000000/\1<=(10:Int) ^ j:=by decide
theorem aHA (k:Nat) (hk:k<=12) (w:Z):CW 249 #[.int .i64 k] w (.int .i64 (10 ^ k)):=by
 go_enter Tryz.func249,Tryz.ntmps249;go_wp2;go_loop [3,5] (fun p i=>∃(j:Nat) (P:Int),j<=k/\i=.int .i64 j/\p=.int .i64 P/\I (P=10 ^ j)) (fun _ i=>k - (intOf i).toNat)
 case atStart=>exact⟨0,1,O _,rfl,rfl,rfl⟩
 case round=>
  obtain⟨j,P,hj,rfl,rfl,hP⟩:=hrel;by_cases hlt:j < k
  ·have hb:=aHz j (by omega);have hE:I (P * 10=10 ^ (j+1)):=by show _=_;rw [hP.out,Int.pow_succ]
   rw [<-hP.out] at hb;go_wp2;go_round
   case rel=>exact⟨j+1,P * 10,by omega,by go_num,rfl,hE.out⟩
   case measure=>simp [intOf];omega
  ·obtain rfl:j=k:=by omega
   go_wp2;go_ret;exact⟨by rw [<-hP.out];rfl,rfl⟩
end Go.Proofs.YtfedoljlipfhdaaGreatDoor
namespace Go.Proofs.YtfedoljlipfhdaaGreatDoor
open Go.Lib
def isD (b:UInt8):Bool:=decide (48<=b.toNat) && decide (b.toNat<=57)
def pQ (n:Nat) (l:List UInt8):Nat:=l.foldl (fun n b=>n * 10+(b.toNat - 48)) n
def dJ (l:List UInt8):Nat:=pQ 0 l
def jP (l:List UInt8) (least most:Nat):Bool:=l.all isD && decide (least<=l.length) && decide (l.length<=most)
def jE (l:List UInt8) (most:Nat):Int × Bool:=if jP l 1 most=Y then ((dJ l:Nat),Y) else (0,U)
def dash (l:List UInt8):Bool:=l.head? ==some 45
def body (l:List UInt8):List UInt8:=if dash l=Y then l.drop 1 else l
def kH (l:List UInt8):List UInt8:=l.takeWhile (· !=46)
def gI (l:List UInt8):List UInt8:=(l.dropWhile (· !=46)).drop 1
def uE (l:List UInt8):Bool:= !(l.dropWhile (· !=46)).isEmpty
def aHB (s:List UInt8):Nat:=if uE s=Y then dJ (gI s) * 10 ^ (4 - (gI s).length) else 0
def cK (l:List UInt8):Int × Bool:=
 if jP (kH (body l)) 1 12=Y/\(uE (body l)=Y->jP (gI (body l)) 1 4=Y)
 then ans (aB4 ((dJ (kH (body l)) * 10000+aHB (body l):Nat):Int) (dash l)) else (0,U)
def rQ (r:Nat):List UInt8:=trimRightB ((E (10000+r)).drop 1) 48
def aAW (n:Int):List UInt8:=(if n < 0 then [45] else [])++E (n.natAbs / 10000)++(if n.natAbs % 10000=0 then [] else 46:: rQ (n.natAbs % 10000))
theorem uF (n:Nat) (b:UInt8) (l:List UInt8):pQ n (b:: l)=pQ (n * 10+(b.toNat - 48)) l:=by unfold pQ;rw [List.foldl_cons]
theorem aB7 (n:Nat) (l m:List UInt8):pQ n (l++m)=pQ (pQ n l) m:=by simp [pQ]
theorem wC:∀(l:List UInt8) (n:Nat),pQ n l=n * 10 ^ l.length+dJ l
 | [],n=>by simp [pQ,dJ]
 | b:: l,n=>by have e1:=wC l (n * 10+(b.toNat - 48));have e2:=wC l (0 * 10+(b.toNat - 48));have e3:dJ (b:: l)=pQ (0 * 10+(b.toNat - 48)) l:=uF 0 b l;rw [uF,e1,e3,e2];generalize dJ l=d;generalize b.toNat - 48=c;simp only [η,Nat.pow_succ,Nat.add_mul,Nat.zero_mul,Nat.zero_add];rw [Nat.mul_assoc,Nat.mul_comm 10 (10 ^ l.length)];generalize n * (10 ^ l.length * 10)=x;generalize c * 10 ^ l.length=y;omega
theorem iM (l m:List UInt8):dJ (l++m)=dJ l * 10 ^ m.length+dJ m:=by unfold dJ;rw [aB7,wC];rfl
theorem wS:∀k,dJ (M k 48)=0
 | 0=>rfl
 | k+1=>by rw [List.replicate_succ'];rw [iM,wS k];rfl
theorem kY:∀(l:List UInt8),l.all isD=Y->dJ l < 10 ^ l.length
 | [],_=>by decide
 | b:: l,h=>by simp [isD] at h;have:=kY l (by simpa [isD] using h.2);unfold dJ;rw [uF,wC];simp only [η,Nat.pow_succ];have h2:(0 * 10+(b.toNat - 48)) * 10 ^ l.length<=9 * 10 ^ l.length:=Nat.mul_le_mul_right _ (by omega);omega
theorem gK (d:Nat) (h:d < 10):(H (48+d)).toNat=48+d:=by simp;omega
theorem aOW (u:Nat):dJ (E u)=u:=by
 induction u using Nat.strongRecOn with
 | _ u ih=>
  by_cases h:u < 10
  ·rw [decDigits_one h];simp only [dJ,pQ,List.foldl_cons,List.foldl_nil];rw [gK u h];omega
  ·rw [E,dif_neg h,iM,ih (u / 10) (by omega)];simp only [dJ,pQ,List.foldl_cons,List.foldl_nil,η,σ];rw [gK (u % 10) (by omega)];omega
theorem rR (k u:Nat) (hk:1<=k) (h:u < 10 ^ k):1<=(E u).length/\(E u).length<=k:=by
 rw [decDigits_length];refine ⟨nDigits_pos u, ?_⟩;induction k generalizing u with
 | zero=>omega
 | succ k ih=>
  by_cases hu:u < 10
  ·rw [nDigits_small hu];omega
  ·rw [nDigits_big hu];have:1<=k:=by
    rcases k with _ | k
    ·simp at h;omega
    ·omega
   have:=ih (u / 10) this (by rw [Nat.pow_succ] at h;omega);omega
theorem wT (r:Nat) (h:r < 10000):E (10000+r)=[49,H (48+r / 1000),H (48+r / 100 % 10),H (48+r / 10 % 10),H (48+r % 10)]:=by
 rw [E,dif_neg (by omega),E,dif_neg (by omega),E,dif_neg (by omega),E,dif_neg (by omega),decDigits_one (by omega)];have e1:(10000+r) / 10 / 10 / 10 / 10=1:=by omega
 have e2:(10000+r) / 10 / 10 / 10 % 10=r / 1000:=by omega
 have e3:(10000+r) / 10 / 10 % 10=r / 100 % 10:=by omega
 have e4:(10000+r) / 10 % 10=r / 10 % 10:=by omega
 have e5:(10000+r) % 10=r % 10:=by omega
 rw [e1,e2,e3,e4,e5];rfl
theorem jK (l:List UInt8) (c:UInt8):trimRightB (l++ [c]) 48=if c=48 then trimRightB l 48 else l++ [c]:=by
 unfold trimRightB;simp only [List.reverse_append,List.reverse_cons,List.reverse_nil,List.nil_append,υ,ψ];by_cases h:c=48
 ·simp [h]
 ·simp [h]
theorem aHC:trimRightB [] 48=[]:=rfl
theorem aAn (a b c d:UInt8):trimRightB [a,b,c,d] 48=if d=48 then (if c=48 then (if b=48 then (if a=48 then [] else [a]) else [a,b]) else [a,b,c]) else [a,b,c,d]:=by rw [show [a,b,c,d]=[a,b,c]++ [d] from rfl,jK,show [a,b,c]=[a,b]++ [c] from rfl,jK,show [a,b]=[a]++ [b] from rfl,jK,show [a]=[]++ [a] from rfl,jK,aHC]
theorem mU (d:Nat) (h:d < 10):H (48+d)=48↔d=0:=by
 constructor
 ·intro e;have:=congrArg UInt8.toNat e;rw [gK d h] at this;simp at this;exact this
 ·rintro rfl;rfl
theorem aDF (r:Nat) (h:r < 10000) (h0:r ≠ 0):jP (rQ r) 1 4=Y/\dJ (rQ r) * 10 ^ (4 - (rQ r).length)=r:=by
 unfold rQ;rw [wT r h];simp only [List.drop_succ_cons,List.drop_zero,aAn];have ea:=gK (r / 1000) (by omega);have eb:=gK (r / 100 % 10) (by omega);have ec:=gK (r / 10 % 10) (by omega);have ed:=gK (r % 10) (by omega);have za:=mU (r / 1000) (by omega);have zb:=mU (r / 100 % 10) (by omega);have zc:=mU (r / 10 % 10) (by omega);have zd:=mU (r % 10) (by omega);generalize H (48+r / 1000)=a at *;generalize H (48+r / 100 % 10)=b at *;generalize H (48+r / 10 % 10)=c at *;generalize H (48+r % 10)=d at *;repeat' split
 all_goals simp_all only [true_iff,false_iff]
 all_goals simp [jP,isD,dJ,pQ, *]
 all_goals omega
theorem aF1:rQ 0=[]:=by unfold rQ;rw [wT 0 (by decide)];simp only [List.drop_succ_cons,List.drop_zero,aAn];decide
end Go.Proofs.YtfedoljlipfhdaaGreatDoor
namespace Go.Proofs
open Go.Shelf
def Tryz.lays169_ren:Go.Shelf.Ren:=⟨fun | 169=>135 | n=>n,fun | 70=>161 | 9=>9 | 0=>0 | 72=>163 | 37=>96 | 127=>199 | 3=>3 | 5=>5 | n=>n,fun | n=>n⟩
theorem Tryz.lays169:Go.Proofs.Lays.n169 J Tryz.lays169_ren:={
 mixed:=by kernel_rfl
 f169:=Tryz.func135.trans (congrArg some (by kernel_rfl))
 t0:=Tryz.underlying0
 a0:=Tryz.isAgg0
 z0:=Tryz.sizeOf0
 v0:=Tryz.zeroValue0
 t3:=ζ
 a3:=π
 z3:=Tryz.sizeOf3
 v3:=Tryz.zeroValue3
 t9:=γ
 a9:=ο
 z9:=ν
 v9:=Tryz.zeroValue9
 t37:=θ
 a37:=Tryz.isAgg96
 z37:=Tryz.sizeOf96
 v37:=Tryz.zeroValue96
 t70:=Tryz.underlying161
 a70:=Tryz.isAgg161
 z70:=Tryz.sizeOf161
 v70:=Tryz.zeroValue161
 t72:=Tryz.underlying163
 a72:=Tryz.isAgg163
 z72:=Tryz.sizeOf163
 v72:=Tryz.zeroValue163
 t127:=Tryz.underlying199
 a127:=Tryz.isAgg199
 z127:=Tryz.sizeOf199
 v127:=Tryz.zeroValue199 }
theorem Tryz.Builder_Extra_169:Builder.Extra J Tryz.lays169_ren:={
 sizeBuilder:=by kernel_rfl
 liesBuilder:=by kernel_rfl
 t5:=δ
 a5:=Tryz.isAgg5
 z5:=Tryz.sizeOf5
 v5:=Tryz.zeroValue5
 infoByte:=by kernel_rfl
 cellsByte:=by kernel_rfl
 sizeByte:=by kernel_rfl
 neB5:=by decide }
def Tryz.lays162_ren:Go.Shelf.Ren:=⟨fun | 162=>223 | 232=>257 | 227=>258 | 234=>259 | 236=>260 | 228=>273 | 271=>274 | 151=>275 | 120=>287 | 197=>264 | 152=>288 | 260=>280 | 137=>302 | 119=>303 | 224=>292 | 225=>291 | 217=>290 | 266=>304 | n=>n,fun | 9=>9 | 4=>4 | 3=>3 | 5=>5 | 117=>254 | 116=>253 | 0=>0 | 124=>257 | 21=>21 | 105=>260 | 46=>179 | 119=>275 | 139=>278 | 138=>277 | n=>n,fun | 3=>3 | 4=>4 | n=>n⟩
theorem Tryz.lays162:Go.Proofs.Lays.n162 J Tryz.lays162_ren:={
 mixed:=by kernel_rfl
 f119:=Tryz.func303.trans (congrArg some (by kernel_rfl))
 f120:=Tryz.func287.trans (congrArg some (by kernel_rfl))
 f137:=Tryz.func302.trans (congrArg some (by kernel_rfl))
 f151:=Tryz.func275.trans (congrArg some (by kernel_rfl))
 f152:=Tryz.func288.trans (congrArg some (by kernel_rfl))
 f162:=Tryz.func223.trans (congrArg some (by kernel_rfl))
 f197:=Tryz.func264.trans (congrArg some (by kernel_rfl))
 f217:=Tryz.func290.trans (congrArg some (by kernel_rfl))
 f224:=Tryz.func292.trans (congrArg some (by kernel_rfl))
 f225:=Tryz.func291.trans (congrArg some (by kernel_rfl))
 f227:=Tryz.func258.trans (congrArg some (by kernel_rfl))
 f228:=Tryz.func273.trans (congrArg some (by kernel_rfl))
 f232:=Tryz.func257.trans (congrArg some (by kernel_rfl))
 f234:=Tryz.func259.trans (congrArg some (by kernel_rfl))
 f236:=Tryz.func260.trans (congrArg some (by kernel_rfl))
 f260:=Tryz.func280.trans (congrArg some (by kernel_rfl))
 f266:=Tryz.func304.trans (congrArg some (by kernel_rfl))
 f271:=Tryz.func274.trans (congrArg some (by kernel_rfl))
 t0:=Tryz.underlying0
 a0:=Tryz.isAgg0
 z0:=Tryz.sizeOf0
 v0:=Tryz.zeroValue0
 t3:=ζ
 a3:=π
 z3:=Tryz.sizeOf3
 v3:=Tryz.zeroValue3
 t4:=Tryz.underlying4
 a4:=Tryz.isAgg4
 z4:=Tryz.sizeOf4
 v4:=Tryz.zeroValue4
 t5:=δ
 a5:=Tryz.isAgg5
 z5:=Tryz.sizeOf5
 v5:=Tryz.zeroValue5
 t9:=γ
 a9:=ο
 z9:=ν
 v9:=Tryz.zeroValue9
 t21:=Tryz.underlying21
 a21:=Tryz.isAgg21
 z21:=Tryz.sizeOf21
 v21:=Tryz.zeroValue21
 t46:=Tryz.underlying179
 a46:=Tryz.isAgg179
 z46:=Tryz.sizeOf179
 v46:=Tryz.zeroValue179
 t105:=Tryz.underlying260
 a105:=Tryz.isAgg260
 z105:=Tryz.sizeOf260
 v105:=Tryz.zeroValue260
 t116:=Tryz.underlying253
 a116:=Tryz.isAgg253
 z116:=Tryz.sizeOf253
 t117:=Tryz.underlying254
 a117:=Tryz.isAgg254
 z117:=Tryz.sizeOf254
 v117:=Tryz.zeroValue254
 t119:=Tryz.underlying275
 a119:=Tryz.isAgg275
 z119:=Tryz.sizeOf275
 t124:=Tryz.underlying257
 a124:=Tryz.isAgg257
 z124:=Tryz.sizeOf257
 v124:=Tryz.zeroValue257
 t138:=Tryz.underlying277
 a138:=Tryz.isAgg277
 z138:=Tryz.sizeOf277
 v138:=Tryz.zeroValue277
 t139:=Tryz.underlying278
 a139:=Tryz.isAgg278
 z139:=Tryz.sizeOf278
 v139:=Tryz.zeroValue278
 g3:=by kernel_rfl
 g4:=by kernel_rfl }
open Go.RowKit in
theorem Tryz.strings_TrimRight_one (s:ByteArray) (c:UInt8) (hc:c.toNat < 128) (w:Z) (hs:s.size<=9223372036854775807):
  ξ J 223 #[.string s,.string ⟨#[c]⟩] w fun e w'=>e=.returned (.string ⟨(Lib.trimRightB s.data.toList c).toArray⟩)/\w'=w:=Any.strings_TrimRight_one Tryz.lays162 s c hc w hs
def Tryz.lays103_ren:Go.Shelf.Ren:=⟨fun | 103=>73 | 210=>104 | 206=>148 | n=>n,fun | 9=>9 | 4=>4 | 24=>104 | 3=>3 | n=>n,fun | n=>n⟩
theorem Tryz.lays103:Go.Proofs.Lays.n103 J Tryz.lays103_ren:={
 mixed:=by kernel_rfl
 f103:=Tryz.func73.trans (congrArg some (by kernel_rfl))
 f206:=Tryz.func148.trans (congrArg some (by kernel_rfl))
 f210:=Tryz.func104.trans (congrArg some (by kernel_rfl))
 t3:=ζ
 a3:=π
 z3:=Tryz.sizeOf3
 v3:=Tryz.zeroValue3
 t4:=Tryz.underlying4
 a4:=Tryz.isAgg4
 z4:=Tryz.sizeOf4
 v4:=Tryz.zeroValue4
 t9:=γ
 a9:=ο
 z9:=ν
 v9:=Tryz.zeroValue9
 t24:=Tryz.underlying104
 a24:=Tryz.isAgg104
 z24:=Tryz.sizeOf104
 v24:=Tryz.zeroValue104 }
open Go.RowKit in
theorem Tryz.strings_CutPrefix (s p:ByteArray) (w:Z):
  ξ J 73 #[.string s,.string p] w fun e w'=>e=.returned (.tuple #[.string ⟨(Lib.trimPrefix s.data.toList p.data.toList).toArray⟩,.bool (Lib.hasPrefix s.data.toList p.data.toList)])/\w'=w:=Any.strings_CutPrefix Tryz.lays103 s p w
open Go.RowKit in
theorem Tryz.Builder_String_any_k (B b:Nat) (l:List UInt8) (w:Z) (h:Lib.IsBuilderF 163 5 B b (Lib.byteCells l) w) (hBw:B<=w.heap.size):
  ξ J 135 #[.pointer (some ⟨b,0,none⟩)] w fun e w'=>e=.returned (.string ⟨l.toArray⟩)/\(Lib.IsBuilderF 163 5 B b (Lib.byteCells l) w'/\ε B w w'/\Lib.OthersKept 5 (some b) w w'):=Any.Builder_String_any_k Tryz.lays169 Tryz.Builder_Extra_169 B b l w h hBw
def Tryz.laysM171_ren:Go.Shelf.Ren:=⟨fun | 171=>221 | 243=>256 | 246=>272 | 283=>283 | 284=>284 | 285=>285 | 286=>286 | 129=>298 | 317=>297 | 318=>299 | 319=>300 | 320=>301 | 337=>314 | 338=>315 | n=>n,fun | 3=>3 | 9=>9 | 2=>2 | 4=>4 | 171=>268 | 0=>0 | 53=>178 | 37=>96 | 5=>5 | 173=>271 | 212=>281 | 51=>282 | 20=>20 | 213=>283 | 46=>179 | 232=>300 | 233=>301 | n=>n,fun | 17=>5 | 18=>8 | 19=>9 | n=>n⟩
theorem Tryz.laysM171:Go.Proofs.LaysM.n171 J Tryz.laysM171_ren:={
 mixed:=by kernel_rfl
 f129:=Tryz.func298.trans (congrArg some (by kernel_rfl))
 f171:=Tryz.func221.trans (congrArg some (by kernel_rfl))
 f243:=Tryz.func256.trans (congrArg some (by kernel_rfl))
 f246:=Tryz.func272.trans (congrArg some (by kernel_rfl))
 f283:=Tryz.func283.trans (congrArg some (by kernel_rfl))
 f284:=Tryz.func284.trans (congrArg some (by kernel_rfl))
 f285:=Tryz.func285.trans (congrArg some (by kernel_rfl))
 f286:=Tryz.func286.trans (congrArg some (by kernel_rfl))
 f317:=Tryz.func297.trans (congrArg some (by kernel_rfl))
 f318:=Tryz.func299.trans (congrArg some (by kernel_rfl))
 f319:=Tryz.func300.trans (congrArg some (by kernel_rfl))
 f320:=Tryz.func301.trans (congrArg some (by kernel_rfl))
 f337:=Tryz.func314.trans (congrArg some (by kernel_rfl))
 f338:=Tryz.func315.trans (congrArg some (by kernel_rfl))
 t0:=Tryz.underlying0
 a0:=Tryz.isAgg0
 z0:=Tryz.sizeOf0
 v0:=Tryz.zeroValue0
 t2:=Tryz.underlying2
 a2:=Tryz.isAgg2
 z2:=Tryz.sizeOf2
 v2:=Tryz.zeroValue2
 t3:=ζ
 a3:=π
 z3:=Tryz.sizeOf3
 v3:=Tryz.zeroValue3
 t4:=Tryz.underlying4
 a4:=Tryz.isAgg4
 z4:=Tryz.sizeOf4
 v4:=Tryz.zeroValue4
 t5:=δ
 a5:=Tryz.isAgg5
 z5:=Tryz.sizeOf5
 v5:=Tryz.zeroValue5
 t9:=γ
 a9:=ο
 z9:=ν
 v9:=Tryz.zeroValue9
 t20:=Tryz.underlying20
 a20:=Tryz.isAgg20
 z20:=Tryz.sizeOf20
 v20:=Tryz.zeroValue20
 t37:=θ
 a37:=Tryz.isAgg96
 z37:=Tryz.sizeOf96
 v37:=Tryz.zeroValue96
 t46:=Tryz.underlying179
 a46:=Tryz.isAgg179
 z46:=Tryz.sizeOf179
 v46:=Tryz.zeroValue179
 t51:=Tryz.underlying282
 a51:=Tryz.isAgg282
 z51:=Tryz.sizeOf282
 v51:=Tryz.zeroValue282
 t53:=Tryz.underlying178
 a53:=Tryz.isAgg178
 z53:=Tryz.sizeOf178
 v53:=Tryz.zeroValue178
 t171:=Tryz.underlying268
 a171:=Tryz.isAgg268
 z171:=Tryz.sizeOf268
 v171:=Tryz.zeroValue268
 t173:=Tryz.underlying271
 a173:=Tryz.isAgg271
 z173:=Tryz.sizeOf271
 v173:=Tryz.zeroValue271
 t212:=Tryz.underlying281
 a212:=Tryz.isAgg281
 z212:=Tryz.sizeOf281
 v212:=Tryz.zeroValue281
 t213:=Tryz.underlying283
 a213:=Tryz.isAgg283
 z213:=Tryz.sizeOf283
 t232:=Tryz.underlying300
 a232:=Tryz.isAgg300
 z232:=Tryz.sizeOf300
 v232:=Tryz.zeroValue300
 t233:=Tryz.underlying301
 a233:=Tryz.isAgg301
 z233:=Tryz.sizeOf301
 v233:=Tryz.zeroValue301
 g17:=by kernel_rfl
 g18:=by kernel_rfl
 g19:=by kernel_rfl
 i0:=by kernel_rfl
 i2:=by kernel_rfl
 i3:=by kernel_rfl
 i4:=by kernel_rfl
 i5:=by kernel_rfl
 i9:=by kernel_rfl
 i20:=by kernel_rfl
 i37:=by kernel_rfl
 i46:=by kernel_rfl
 i51:=by kernel_rfl
 i53:=by kernel_rfl
 i171:=by kernel_rfl
 i173:=by kernel_rfl
 i212:=by kernel_rfl
 i232:=by kernel_rfl
 i233:=by kernel_rfl
 m17:=by kernel_rfl
 m18:=by kernel_rfl
 m19:=by kernel_rfl }
open Go.RowKit Go.Sort Go.Lib in
theorem Tryz.strconv_Itoa (n:Int) (h0: -9223372036854775808<=n) (h1:n<=9223372036854775807) (w:Z) (htab:Lib.TabIs J w "internal/strconv.uint64pow10" .u64 Lib.pow10Tab):
  ξ J 221 #[.int .i64 n] w fun e w'=>e=.returned (.string ⟨(Lib.itoa n).toArray⟩)/\∃k os,w'=grow (w.drewN k) os:=Any.strconv_Itoa Tryz.laysM171 n h0 h1 w htab
def Tryz.laysC172_ren:Go.Shelf.Ren:=⟨fun | 172=>281 | 244=>294 | 245=>295 | 247=>306 | 279=>307 | 280=>308 | 281=>309 | 282=>310 | 287=>316 | 316=>317 | 171=>221 | 205=>318 | 321=>320 | 322=>321 | 243=>256 | 246=>272 | 283=>283 | 284=>284 | 285=>285 | 286=>286 | 129=>298 | 317=>297 | 318=>299 | 319=>300 | 320=>301 | 337=>314 | 338=>315 | n=>n,fun | 9=>9 | 3=>3 | 75=>166 | 76=>167 | 4=>4 | 5=>5 | 167=>287 | 37=>96 | 0=>0 | 85=>288 | 2=>2 | 168=>290 | 53=>178 | 175=>295 | 46=>179 | 210=>298 | 127=>199 | 145=>305 | 143=>303 | 21=>21 | 171=>268 | 173=>271 | 212=>281 | 51=>282 | 20=>20 | 213=>283 | 232=>300 | 233=>301 | 80=>170 | n=>n,fun | 15=>6 | 16=>7 | 17=>5 | 18=>8 | 19=>9 | n=>n⟩
theorem Tryz.laysC172:Go.Proofs.LaysC.n172 J Tryz.laysC172_ren:={
 mixed:=by kernel_rfl
 f129:=Tryz.func298.trans (congrArg some (by kernel_rfl))
 f171:=Tryz.func221.trans (congrArg some (by kernel_rfl))
 f172:=Tryz.func281.trans (congrArg some (by kernel_rfl))
 f205:=Tryz.func318.trans (congrArg some (by kernel_rfl))
 f243:=Tryz.func256.trans (congrArg some (by kernel_rfl))
 f244:=Tryz.func294.trans (congrArg some (by kernel_rfl))
 f245:=Tryz.func295.trans (congrArg some (by kernel_rfl))
 f246:=Tryz.func272.trans (congrArg some (by kernel_rfl))
 f247:=Tryz.func306.trans (congrArg some (by kernel_rfl))
 f279:=Tryz.func307.trans (congrArg some (by kernel_rfl))
 f280:=Tryz.func308.trans (congrArg some (by kernel_rfl))
 f281:=Tryz.func309.trans (congrArg some (by kernel_rfl))
 f282:=Tryz.func310.trans (congrArg some (by kernel_rfl))
 f283:=Tryz.func283.trans (congrArg some (by kernel_rfl))
 f284:=Tryz.func284.trans (congrArg some (by kernel_rfl))
 f285:=Tryz.func285.trans (congrArg some (by kernel_rfl))
 f286:=Tryz.func286.trans (congrArg some (by kernel_rfl))
 f287:=Tryz.func316.trans (congrArg some (by kernel_rfl))
 f316:=Tryz.func317.trans (congrArg some (by kernel_rfl))
 f317:=Tryz.func297.trans (congrArg some (by kernel_rfl))
 f318:=Tryz.func299.trans (congrArg some (by kernel_rfl))
 f319:=Tryz.func300.trans (congrArg some (by kernel_rfl))
 f320:=Tryz.func301.trans (congrArg some (by kernel_rfl))
 f321:=Tryz.func320.trans (congrArg some (by kernel_rfl))
 f322:=Tryz.func321.trans (congrArg some (by kernel_rfl))
 f337:=Tryz.func314.trans (congrArg some (by kernel_rfl))
 f338:=Tryz.func315.trans (congrArg some (by kernel_rfl))
 t0:=Tryz.underlying0
 a0:=Tryz.isAgg0
 z0:=Tryz.sizeOf0
 v0:=Tryz.zeroValue0
 t2:=Tryz.underlying2
 a2:=Tryz.isAgg2
 z2:=Tryz.sizeOf2
 v2:=Tryz.zeroValue2
 t3:=ζ
 a3:=π
 z3:=Tryz.sizeOf3
 v3:=Tryz.zeroValue3
 t4:=Tryz.underlying4
 a4:=Tryz.isAgg4
 z4:=Tryz.sizeOf4
 v4:=Tryz.zeroValue4
 t5:=δ
 a5:=Tryz.isAgg5
 z5:=Tryz.sizeOf5
 v5:=Tryz.zeroValue5
 t9:=γ
 a9:=ο
 z9:=ν
 v9:=Tryz.zeroValue9
 t20:=Tryz.underlying20
 a20:=Tryz.isAgg20
 z20:=Tryz.sizeOf20
 v20:=Tryz.zeroValue20
 t21:=Tryz.underlying21
 a21:=Tryz.isAgg21
 z21:=Tryz.sizeOf21
 v21:=Tryz.zeroValue21
 t37:=θ
 a37:=Tryz.isAgg96
 z37:=Tryz.sizeOf96
 v37:=Tryz.zeroValue96
 t46:=Tryz.underlying179
 a46:=Tryz.isAgg179
 z46:=Tryz.sizeOf179
 v46:=Tryz.zeroValue179
 t51:=Tryz.underlying282
 a51:=Tryz.isAgg282
 z51:=Tryz.sizeOf282
 v51:=Tryz.zeroValue282
 t53:=Tryz.underlying178
 a53:=Tryz.isAgg178
 z53:=Tryz.sizeOf178
 v53:=Tryz.zeroValue178
 t75:=Tryz.underlying166
 a75:=Tryz.isAgg166
 z75:=Tryz.sizeOf166
 v75:=Tryz.zeroValue166
 t76:=Tryz.underlying167
 a76:=Tryz.isAgg167
 z76:=Tryz.sizeOf167
 v76:=Tryz.zeroValue167
 t85:=Tryz.underlying288
 a85:=Tryz.isAgg288
 z85:=Tryz.sizeOf288
 v85:=Tryz.zeroValue288
 t127:=Tryz.underlying199
 a127:=Tryz.isAgg199
 z127:=Tryz.sizeOf199
 v127:=Tryz.zeroValue199
 t143:=Tryz.underlying303
 a143:=Tryz.isAgg303
 z143:=Tryz.sizeOf303
 v143:=Tryz.zeroValue303
 t145:=Tryz.underlying305
 a145:=Tryz.isAgg305
 z145:=Tryz.sizeOf305
 v145:=Tryz.zeroValue305
 t167:=Tryz.underlying287
 a167:=Tryz.isAgg287
 z167:=Tryz.sizeOf287
 v167:=Tryz.zeroValue287
 t168:=Tryz.underlying290
 a168:=Tryz.isAgg290
 z168:=Tryz.sizeOf290
 v168:=Tryz.zeroValue290
 t171:=Tryz.underlying268
 a171:=Tryz.isAgg268
 z171:=Tryz.sizeOf268
 v171:=Tryz.zeroValue268
 t173:=Tryz.underlying271
 a173:=Tryz.isAgg271
 z173:=Tryz.sizeOf271
 v173:=Tryz.zeroValue271
 t175:=Tryz.underlying295
 a175:=Tryz.isAgg295
 z175:=Tryz.sizeOf295
 v175:=Tryz.zeroValue295
 t210:=Tryz.underlying298
 a210:=Tryz.isAgg298
 z210:=Tryz.sizeOf298
 v210:=Tryz.zeroValue298
 t212:=Tryz.underlying281
 a212:=Tryz.isAgg281
 z212:=Tryz.sizeOf281
 v212:=Tryz.zeroValue281
 t213:=Tryz.underlying283
 a213:=Tryz.isAgg283
 z213:=Tryz.sizeOf283
 t232:=Tryz.underlying300
 a232:=Tryz.isAgg300
 z232:=Tryz.sizeOf300
 v232:=Tryz.zeroValue300
 t233:=Tryz.underlying301
 a233:=Tryz.isAgg301
 z233:=Tryz.sizeOf301
 v233:=Tryz.zeroValue301
 g15:=by kernel_rfl
 g16:=by kernel_rfl
 g17:=by kernel_rfl
 g18:=by kernel_rfl
 g19:=by kernel_rfl
 t80:=Tryz.underlying170
 a80:=Tryz.isAgg170
 z80:=Tryz.sizeOf170
 v80:=Tryz.zeroValue170
 i0:=by kernel_rfl
 i2:=by kernel_rfl
 i3:=by kernel_rfl
 i4:=by kernel_rfl
 i5:=by kernel_rfl
 i9:=by kernel_rfl
 i20:=by kernel_rfl
 i21:=by kernel_rfl
 i37:=by kernel_rfl
 i46:=by kernel_rfl
 i51:=by kernel_rfl
 i53:=by kernel_rfl
 i75:=by kernel_rfl
 i76:=by kernel_rfl
 i80:=by kernel_rfl
 i85:=by kernel_rfl
 i127:=by kernel_rfl
 i143:=by kernel_rfl
 i145:=by kernel_rfl
 i167:=by kernel_rfl
 i168:=by kernel_rfl
 i171:=by kernel_rfl
 i173:=by kernel_rfl
 i175:=by kernel_rfl
 i210:=by kernel_rfl
 i212:=by kernel_rfl
 i232:=by kernel_rfl
 i233:=by kernel_rfl
 m15:=by kernel_rfl
 m16:=by kernel_rfl
 m17:=by kernel_rfl
 m18:=by kernel_rfl
 m19:=by kernel_rfl
 c0:=by kernel_rfl
 c2:=by kernel_rfl
 c3:=by kernel_rfl
 c4:=by kernel_rfl
 c5:=by kernel_rfl
 c9:=by kernel_rfl
 c20:=by kernel_rfl
 c21:=by kernel_rfl
 c37:=by kernel_rfl
 c46:=by kernel_rfl
 c51:=by kernel_rfl
 c53:=by kernel_rfl
 c75:=by kernel_rfl
 c76:=by kernel_rfl
 c80:=by kernel_rfl
 c85:=by kernel_rfl
 c127:=by kernel_rfl
 c143:=by kernel_rfl
 c145:=by kernel_rfl
 c167:=by kernel_rfl
 c168:=by kernel_rfl
 c171:=by kernel_rfl
 c173:=by kernel_rfl
 c175:=by kernel_rfl
 c210:=by kernel_rfl
 c212:=by kernel_rfl
 c213:=by kernel_rfl
 c232:=by kernel_rfl
 c233:=by kernel_rfl }
open Go.RowKit in
theorem Tryz.strconv_Atoi_ok (s:ByteArray) (hmax:s.size<=9223372036854775806) (v:Int) (h:Lib.atoiAll s.data.toList=.ok v) (w:Z):
  ξ J 281 #[.string s] w fun e w'=>e=.returned (.tuple #[.int .i64 v,.nilIface])/\(w'=w\/∃t,w'=Lib.bytesWorld w 5 t):=Any.strconv_Atoi_ok Tryz.laysC172 s hmax v h w
open Go.RowKit in
theorem Tryz.strconv_Atoi_syntax (s:ByteArray) (hlim:s.size<=281474976710656) (h:Lib.atoiAll s.data.toList=.«syntax») (ev:ι) (w:Z) (hv:w.cell? ⟨6,0,none⟩=some ev) (hev:ev=.nilIface\/∃te pe,ev=.iface te pe):
  ξ J 281 #[.string s] w fun e w'=>∃N,e=.returned (.tuple #[.int .i64 (0),.iface 290 (.pointer (some ⟨N,0,none⟩))])/\w.heap.size<=N/\w'.heap[N]? =some (.cells #[.string ⟨#[65,116,111,105]⟩,.string s,ev] 298 (0,0))/\ε w.heap.size w w':=Any.strconv_Atoi_syntax Tryz.laysC172 s hlim h ev w hv hev
open Go.RowKit in
theorem Tryz.strconv_Atoi_range (s:ByteArray) (hlim:s.size<=281474976710656) (h:Lib.atoiAll s.data.toList=.range) (ev:ι) (w:Z) (hv:w.cell? ⟨7,0,none⟩=some ev) (hev:ev=.nilIface\/∃te pe,ev=.iface te pe):
  ξ J 281 #[.string s] w fun e w'=>∃N,e=.returned (.tuple #[.int .i64 (Lib.atoiSat s.data.toList),.iface 290 (.pointer (some ⟨N,0,none⟩))])/\w.heap.size<=N/\w'.heap[N]? =some (.cells #[.string ⟨#[65,116,111,105]⟩,.string s,ev] 298 (0,0))/\ε w.heap.size w w':=Any.strconv_Atoi_range Tryz.laysC172 s hlim h ev w hv hev
def Tryz.lays219_ren:Go.Shelf.Ren:=⟨fun | 219=>279 | 217=>290 | 225=>291 | 224=>292 | 267=>293 | 266=>304 | 314=>305 | n=>n,fun | 9=>9 | 3=>3 | 4=>4 | 5=>5 | 46=>179 | 146=>285 | 51=>282 | n=>n,fun | 1=>2 | n=>n⟩
theorem Tryz.lays219:Go.Proofs.Lays.n219 J Tryz.lays219_ren:={
 mixed:=by kernel_rfl
 f217:=Tryz.func290.trans (congrArg some (by kernel_rfl))
 f219:=Tryz.func279.trans (congrArg some (by kernel_rfl))
 f224:=Tryz.func292.trans (congrArg some (by kernel_rfl))
 f225:=Tryz.func291.trans (congrArg some (by kernel_rfl))
 f266:=Tryz.func304.trans (congrArg some (by kernel_rfl))
 f267:=Tryz.func293.trans (congrArg some (by kernel_rfl))
 f314:=Tryz.func305.trans (congrArg some (by kernel_rfl))
 t3:=ζ
 a3:=π
 z3:=Tryz.sizeOf3
 v3:=Tryz.zeroValue3
 t4:=Tryz.underlying4
 a4:=Tryz.isAgg4
 z4:=Tryz.sizeOf4
 v4:=Tryz.zeroValue4
 t5:=δ
 a5:=Tryz.isAgg5
 z5:=Tryz.sizeOf5
 v5:=Tryz.zeroValue5
 t9:=γ
 a9:=ο
 z9:=ν
 v9:=Tryz.zeroValue9
 t46:=Tryz.underlying179
 a46:=Tryz.isAgg179
 z46:=Tryz.sizeOf179
 v46:=Tryz.zeroValue179
 t51:=Tryz.underlying282
 a51:=Tryz.isAgg282
 z51:=Tryz.sizeOf282
 v51:=Tryz.zeroValue282
 t146:=Tryz.underlying285
 a146:=Tryz.isAgg285
 z146:=Tryz.sizeOf285
 v146:=Tryz.zeroValue285
 g1:=by kernel_rfl }
open Go.RowKit Go.Lib in
theorem Tryz.stringslite_Index_one (s:ByteArray) (c:UInt8) (w:Z):
  ξ J 279 #[.string s,.string ⟨#[c]⟩] w fun e w'=>e=.returned (.int .i64 (D s.data.toList c))/\w'=w:=Any.stringslite_Index_one Tryz.lays219 s c w
def Tryz.lays154_ren:Go.Shelf.Ren:=⟨fun | 154=>224 | 138=>261 | 165=>262 | 143=>263 | 166=>133 | 197=>264 | 169=>135 | 195=>276 | 218=>277 | 240=>177 | 241=>278 | 219=>279 | 260=>280 | 276=>220 | 277=>289 | 217=>290 | 225=>291 | 224=>292 | 267=>293 | 266=>304 | 314=>305 | n=>n,fun | 9=>9 | 3=>3 | 4=>4 | 72=>163 | 0=>0 | 76=>167 | 105=>260 | 21=>21 | 5=>5 | 70=>161 | 20=>20 | 37=>96 | 75=>166 | 127=>199 | 164=>228 | 46=>179 | 119=>275 | 139=>278 | 138=>277 | 146=>285 | 51=>282 | 80=>170 | n=>n,fun | 1=>2 | 3=>3 | 4=>4 | n=>n⟩
theorem Tryz.lays154:Go.Proofs.Lays.n154 J Tryz.lays154_ren:={
 mixed:=by kernel_rfl
 f138:=Tryz.func261.trans (congrArg some (by kernel_rfl))
 f143:=Tryz.func263.trans (congrArg some (by kernel_rfl))
 f154:=Tryz.func224.trans (congrArg some (by kernel_rfl))
 f165:=Tryz.func262.trans (congrArg some (by kernel_rfl))
 f166:=Tryz.func133.trans (congrArg some (by kernel_rfl))
 f169:=Tryz.func135.trans (congrArg some (by kernel_rfl))
 f195:=Tryz.func276.trans (congrArg some (by kernel_rfl))
 f197:=Tryz.func264.trans (congrArg some (by kernel_rfl))
 f217:=Tryz.func290.trans (congrArg some (by kernel_rfl))
 f218:=Tryz.func277.trans (congrArg some (by kernel_rfl))
 f219:=Tryz.func279.trans (congrArg some (by kernel_rfl))
 f224:=Tryz.func292.trans (congrArg some (by kernel_rfl))
 f225:=Tryz.func291.trans (congrArg some (by kernel_rfl))
 f240:=Tryz.func177.trans (congrArg some (by kernel_rfl))
 f241:=Tryz.func278.trans (congrArg some (by kernel_rfl))
 f260:=Tryz.func280.trans (congrArg some (by kernel_rfl))
 f266:=Tryz.func304.trans (congrArg some (by kernel_rfl))
 f267:=Tryz.func293.trans (congrArg some (by kernel_rfl))
 f276:=Tryz.func220.trans (congrArg some (by kernel_rfl))
 f277:=Tryz.func289.trans (congrArg some (by kernel_rfl))
 f314:=Tryz.func305.trans (congrArg some (by kernel_rfl))
 t0:=Tryz.underlying0
 a0:=Tryz.isAgg0
 z0:=Tryz.sizeOf0
 v0:=Tryz.zeroValue0
 t3:=ζ
 a3:=π
 z3:=Tryz.sizeOf3
 v3:=Tryz.zeroValue3
 t4:=Tryz.underlying4
 a4:=Tryz.isAgg4
 z4:=Tryz.sizeOf4
 v4:=Tryz.zeroValue4
 t5:=δ
 a5:=Tryz.isAgg5
 z5:=Tryz.sizeOf5
 v5:=Tryz.zeroValue5
 t9:=γ
 a9:=ο
 z9:=ν
 v9:=Tryz.zeroValue9
 t20:=Tryz.underlying20
 a20:=Tryz.isAgg20
 z20:=Tryz.sizeOf20
 v20:=Tryz.zeroValue20
 t21:=Tryz.underlying21
 a21:=Tryz.isAgg21
 z21:=Tryz.sizeOf21
 v21:=Tryz.zeroValue21
 t37:=θ
 a37:=Tryz.isAgg96
 z37:=Tryz.sizeOf96
 v37:=Tryz.zeroValue96
 t46:=Tryz.underlying179
 a46:=Tryz.isAgg179
 z46:=Tryz.sizeOf179
 v46:=Tryz.zeroValue179
 t51:=Tryz.underlying282
 a51:=Tryz.isAgg282
 z51:=Tryz.sizeOf282
 v51:=Tryz.zeroValue282
 t70:=Tryz.underlying161
 a70:=Tryz.isAgg161
 z70:=Tryz.sizeOf161
 v70:=Tryz.zeroValue161
 t72:=Tryz.underlying163
 a72:=Tryz.isAgg163
 z72:=Tryz.sizeOf163
 v72:=Tryz.zeroValue163
 t75:=Tryz.underlying166
 a75:=Tryz.isAgg166
 z75:=Tryz.sizeOf166
 v75:=Tryz.zeroValue166
 t76:=Tryz.underlying167
 a76:=Tryz.isAgg167
 z76:=Tryz.sizeOf167
 v76:=Tryz.zeroValue167
 t105:=Tryz.underlying260
 a105:=Tryz.isAgg260
 z105:=Tryz.sizeOf260
 v105:=Tryz.zeroValue260
 t119:=Tryz.underlying275
 a119:=Tryz.isAgg275
 z119:=Tryz.sizeOf275
 t127:=Tryz.underlying199
 a127:=Tryz.isAgg199
 z127:=Tryz.sizeOf199
 v127:=Tryz.zeroValue199
 t138:=Tryz.underlying277
 a138:=Tryz.isAgg277
 z138:=Tryz.sizeOf277
 v138:=Tryz.zeroValue277
 t139:=Tryz.underlying278
 a139:=Tryz.isAgg278
 z139:=Tryz.sizeOf278
 v139:=Tryz.zeroValue278
 t146:=Tryz.underlying285
 a146:=Tryz.isAgg285
 z146:=Tryz.sizeOf285
 v146:=Tryz.zeroValue285
 t164:=Tryz.underlying228
 a164:=Tryz.isAgg228
 z164:=Tryz.sizeOf228
 v164:=Tryz.zeroValue228
 g1:=by kernel_rfl
 g3:=by kernel_rfl
 g4:=by kernel_rfl }
theorem Tryz.Builder_Extra_154:Builder.Extra J Tryz.lays154_ren:={
 sizeBuilder:=by kernel_rfl
 liesBuilder:=by kernel_rfl
 t5:=δ
 a5:=Tryz.isAgg5
 z5:=Tryz.sizeOf5
 v5:=Tryz.zeroValue5
 infoByte:=by kernel_rfl
 cellsByte:=by kernel_rfl
 sizeByte:=by kernel_rfl
 neB5:=by decide }
open Go.RowKit Go.Lib in
open Go.RowKit in
theorem Tryz.Builder_WriteString_k (B b:Nat) (bs:List ι) (s:ByteArray) (w:Z) (h:Lib.IsBuilderF 163 5 B b bs w) (hlen:bs.length+s.size<=140737488355328) (hBw:B<=w.heap.size):
  ξ J 133 #[.pointer (some ⟨b,0,none⟩),.string s] w fun e w'=>e=.returned (.tuple #[.int .i64 s.size,.nilIface])/\(Lib.BuilderAtF 163 5 B b (.pointer (some ⟨b,0,none⟩)) (bs++Lib.strCells s) w'/\ε B w w'/\Lib.OthersKept 5 (some b) w w'):=
 Any.Builder_WriteString_k (P:=J) (ρ:=Tryz.lays154_ren) { Tryz.lays154 with } Tryz.Builder_Extra_154 B b bs s w h hlen hBw
end Go.Proofs
namespace Go.Proofs.YtfedoljlipfhdaaGreatDoor
open Go.RowKit Go.Shelf
theorem qI:∀l:List UInt8,(D l 46= -1->kH l=l/\gI l=[]/\uE l=U)/\(∀i:Nat,D l 46=i->kH l=l.take i/\gI l=l.drop (i+1)/\uE l=Y)
 | []=>⟨fun _=>⟨rfl,rfl,rfl⟩,fun i h=>by simp [D] at h⟩
 | b:: l=>by
  have ih:=qI l;have hge:=Lib.indexByte_ge l 46;unfold D;by_cases hb:b=46
  ·subst hb;refine ⟨fun h=>by simp at h,fun i h=> ?_⟩;simp at h;obtain rfl:i=0:=by omega
   exact⟨rfl,rfl,rfl⟩
  ·have e1:(b==46)=U:=by simpa using hb
   have e2:(b !=46)=Y:=by simpa using hb
   rw [e1];unfold kH gI uE at *;simp only [List.takeWhile_cons,ψ,e2,if_true,ω,if_false];by_cases hn:D l 46= -1
   ·rw [hn];refine ⟨fun _=> ?_,fun i h=>by simp at h⟩;obtain⟨a1,a2,a3⟩:=ih.1 hn;rw [a1,a2,a3];exact⟨rfl,rfl,rfl⟩
   ·have e3:(D l 46== -1)=U:=by simpa using hn
    rw [e3];refine ⟨fun h=>by simp at h;omega,fun i h=> ?_⟩;simp at h;obtain⟨k,rfl⟩:∃k,i=k+1:=⟨i - 1,by omega⟩
    obtain⟨a1,a2,a3⟩:=ih.2 k (by omega);rw [a1,a2,a3];exact⟨rfl,rfl,rfl⟩
theorem aO0 (l:List UInt8):Lib.cut l [46]=(kH l,gI l,uE l):=by
 have hi:=Lib.index_one l 46;have hge:=Lib.indexByte_ge l 46;unfold Lib.cut;rw [hi];split
 ·obtain ⟨a1,a2,a3⟩:=(qI l).2 (D l 46).toNat (by omega);rw [a1,a2,a3];rfl
 ·obtain ⟨a1,a2,a3⟩:=(qI l).1 (by omega);rw [a1,a2,a3]
def pnt:ByteArray:=⟨#[46]⟩
theorem aF2 (s:ByteArray) (w:Z) (hs:s.size<=9223372036854775807):
  ξ J 271 #[.string s,.string ⟨#[46]⟩] w fun e w'=>e=.returned (.tuple #[.string ⟨(kH s.data.toList).toArray⟩,.string ⟨(gI s.data.toList).toArray⟩,.bool (uE s.data.toList)])/\∃n,w'=w.drewN n:=by
 have hcut:=aO0 s.data.toList;have IX:=fun u=>Tryz.stringslite_Index_one s 46 u;have hone:=Lib.index_one s.data.toList 46;rcases Lib.indexB_cases s pnt with hix | ⟨i,hix,hroom⟩
 ·obtain ⟨e1,e2,e3⟩:=Lib.cutB_miss s pnt hix;rw [show pnt.data.toList=[46] from rfl,hcut] at e1 e2 e3;simp only at e1 e2 e3;rw [e1,e2,e3];rw [show D s.data.toList 46= -1 from hone.symm.trans hix] at IX;clear hix hone hcut e1 e2 e3;go_enter Tryz.func271,Tryz.ntmps271;go_wp2_with (go_at_call 279;refine mw (IX _) ?_)
  go_ret3
  exact⟨rfl,0,rfl⟩
 ·obtain ⟨e1,e2,e3⟩:=Lib.cutB_hit s pnt i hix;rw [show pnt.data.toList=[46] from rfl,hcut] at e1 e2 e3;simp only at e1 e2 e3;rw [e1,e2,e3];rw [show D s.data.toList 46=i from hone.symm.trans hix] at IX;have hroom':i+1<=s.size:=hroom;have hp:pnt.size=1:=rfl;rw [hp];have c1:(0:Int)<= ↑i:=by omega
  have c2:(↑i:Int)<= ↑s.size:=by omega
  have c3:(0:Int)<= ↑i+1:=by omega
  have c4:(↑i+1:Int)<= ↑s.size:=by omega
  clear hix hone hcut e1 e2 e3 hroom;go_enter Tryz.func271,Tryz.ntmps271;go_wp2_with (go_at_call 279;refine mw (IX _) ?_)
  go_region
  go_wp2;go_ret3
  exact⟨rfl,1,rfl⟩
theorem kZ (w:Z):∀n,ε w.heap.size w (w.drewN n)
 | 0=>by rw [World.drewN_zero];exact α _ _
 | n+1=>by have:=kZ w n;exact⟨this.os,this.tape,this.output,this.size,this.block⟩
theorem aKS (s:ByteArray) (w:Z) (hs:s.size<=9223372036854775807):
  CR 247 #[.string s,.string ⟨#[46]⟩] w (.tuple #[.string ⟨(kH s.data.toList).toArray⟩,.string ⟨(gI s.data.toList).toArray⟩,.bool (uE s.data.toList)]):=by
 go_enter Tryz.func247,Tryz.ntmps247;go_wp2_with (go_at_call 271;refine (aF2 _ _ hs).mono ?_;rintro e w' ⟨rfl,n,rfl⟩)
 go_ret3
 exact⟨rfl,kZ w _⟩
theorem aN3 (l:List UInt8):Lib.trimPrefix l [45]=body l/\Lib.hasPrefix l [45]=dash l:=by
 unfold Lib.trimPrefix Lib.hasPrefix body dash;cases l with
 | nil=>exact⟨rfl,rfl⟩
 | cons b l=>
  have e:([45]:List UInt8).isPrefixOf (b:: l)=(some b==some 45):=by
   by_cases h:b=45
   ·subst h;rfl
   ·have h2:¬45=b:=fun e=>h e.symm;have e1:((45:UInt8)==b)=U:=by simpa using h2
    have e2:(b==45)=U:=by simpa using h
    simp [τ,e1,e2]
  rw [e];exact⟨rfl,rfl⟩
theorem aDG (s:ByteArray) (w:Z):
  CW 73 #[.string s,.string ⟨#[45]⟩] w (.tuple #[.string ⟨(body s.data.toList).toArray⟩,.bool (dash s.data.toList)]):=by
 have h:=Tryz.strings_CutPrefix s ⟨#[45]⟩ w;obtain⟨h1,h2⟩:=aN3 s.data.toList;rw [show (⟨#[45]⟩:ByteArray).data.toList=[45] from rfl,h1,h2] at h;exact h
theorem mV (w:Z) (s:ByteArray) (pos:Nat):ε w.heap.size w (w.iter s pos):=(α _ _).alloc (Γ _) _
theorem jF (l:List UInt8) (pos:Nat) (h:pos < l.length):l.take (pos+1)=l.take pos++ [l[pos]]:=by rw [List.take_add_one,List.getElem?_eq_getElem h];rfl
theorem byte_at (s:ByteArray) (pos:Nat) (h:pos < s.size) (h2:pos < s.data.toList.length):s[pos]=s.data.toList[pos]:=by simp;rfl
theorem aX (s:ByteArray):s.data.toList.length=s.size:=by simp only [Array.length_toList];rfl
theorem aN4:∀k:Nat,k<=12->10 ^ k<=1000000000000:=by decide
theorem uG (l:List UInt8) (k:Nat) (h:l.all isD=Y) (hk:l.length<=12):dJ l < 1000000000000:=
 Nat.lt_of_lt_of_le (kY l h) (aN4 _ hk)
theorem oM (s:ByteArray) (m:Nat) (hm:m<=12) (w:Z) (hs:s.size<=9223372036854775807):
  CR 248 #[.string s,.int .i64 m] w (two (jE s.data.toList m)):=by
 have hl:=aX s;by_cases h1:s.size < 1
 ·rw [show jE s.data.toList m=(0,U) by simp [jE,jP];omega];unfold two;go_enter Tryz.func248,Tryz.ntmps248;go_wp2;go_ret2;exact⟨rfl,α _ _⟩
 by_cases h2:m < s.size
 ·rw [show jE s.data.toList m=(0,U) by simp [jE,jP];omega];unfold two;go_enter Tryz.func248,Tryz.ntmps248;go_wp2;go_ret2;exact⟨rfl,α _ _⟩
 have hF:∀h:s.data.toList.all isD=Y,jE s.data.toList m=(((dJ s.data.toList:Nat):Int),Y):=fun h=>by unfold jE jP;rw [if_pos (by rw [h];simp;omega)]
 have hN:s.data.toList.all isD=U->jE s.data.toList m=(0,U):=fun h=>by unfold jE jP;rw [if_neg (by rw [h];simp)]
 generalize jE s.data.toList m=r at *;have HF:I (s.data.toList.all isD=Y->r=(((dJ s.data.toList:Nat):Int),Y)):=hF;have HN:I (s.data.toList.all isD=U->r=(0,U)):=hN;clear hF hN;have hsz:1<=s.size/\s.size<=m:=by omega
 go_enter Tryz.func248,Tryz.ntmps248;go_wp2;go_loopw [6] (fun n wr=>∃(pos N:Nat),wr=w.iter s pos/\n=.int .i64 N/\pos<=s.size/\N < 1000000000000/\I ((s.data.toList.take pos).all isD=Y/\N=dJ (s.data.toList.take pos))) (fun _ wr=>s.size - wr.iterPos w.heap.size)
 case atStart=>exact⟨0,0,rfl,rfl,O _,by omega,rfl,rfl⟩
 case round=>
  obtain⟨pos,N,rfl,rfl,hp,hN,hH⟩:=hrel;by_cases hlt:pos < s.size
  ·have hb:=byte_at s pos hlt (by omega);have ht:=jF s.data.toList pos (by omega);have hlast:s.data.toList.all isD=Y->isD (s[pos])=Y:=fun h=>by rw [hb];exact List.all_eq_true.1 h _ (Δ _)
   by_cases ha:(s[pos]'hlt).toNat < 128
   ·have hnx:∀ty,(Instr.next (pt w.heap.size) Y ty).run J (w.iter s pos)=_:=fun ty=>run_next_ascii w s pos ty hlt ha;cases hd:isD (s[pos]'hlt)
    ·have hE:I (r=(0,U)):=HN.out (by
      cases hh:s.data.toList.all isD
      ·rfl
      ·rw [hlast hh] at hd;cases hd)
     clear hlast ht hb;simp only [isD,φ,decide_eq_false_iff_not] at hd;generalize (s[pos]'hlt).toNat=c at *;by_cases hc:(c:Int) < 48
     ·go_wp2;go_ret2;exact⟨by rw [hE.out];rfl,mV _ _ _⟩
     ·go_wp2;go_ret2;exact⟨by rw [hE.out];rfl,mV _ _ _⟩
    ·have hA:I ((s.data.toList.take (pos+1)).all isD=Y/\N * 10+((s[pos]'hlt).toNat - 48)=dJ (s.data.toList.take (pos+1))):=by rw [ht,List.all_append,hH.out.1];refine ⟨by simp [<-hb,hd], ?_⟩;rw [iM,<-hH.out.2,<-hb];simp [dJ,pQ]
     have hB:=uG (s.data.toList.take (pos+1)) 12 hA.out.1 (by simp;omega);rw [<-hA.out.2] at hB;clear hlast ht hb;simp only [isD,K,decide_eq_true_eq] at hd;generalize (s[pos]'hlt).toNat=c at *;have g1:¬(c:Int) < 48:=by omega
     have g2:¬(57:Int) < c:=by omega
     go_wp2;go_roundw
     case rel=>exact⟨pos+1,N * 10+(c - 48),rfl,by go_num,by omega,hB,hA.out⟩
     case measure=>simp;omega
   ·have hnx:∀ty,(Instr.next (pt w.heap.size) Y ty).run J (w.iter s pos)=_:=fun ty=>run_next_any w s pos ty hlt;have hh:=decode_high s pos hlt (by omega);have hE:I (r=(0,U)):=HN.out (by
      cases hh:s.data.toList.all isD
      ·rfl
      ·have:=hlast hh;simp [isD] at this;omega)
    clear hlast ht hb;generalize (Utf8.decode s pos).1=c at *;generalize (Utf8.decode s pos).2=v at *;have g1:¬(c:Int) < 48:=by omega
    have g2:(57:Int) < c:=by omega
    go_wp2;go_ret2;exact⟨by rw [hE.out];rfl,mV _ _ _⟩
  ·have hnx:∀ty,(Instr.next (pt w.heap.size) Y ty).run J (w.iter s pos)=_:=fun ty=>run_next_end w s pos ty hlt;have hE:I (r=(((N:Nat):Int),Y)):=by have e:s.data.toList.take pos=s.data.toList:=β (by omega);have:=hH.out;rw [e] at this;rw [this.2];exact HF.out this.1
   go_wp2;go_ret2;exact⟨by rw [hE.out];rfl,mV _ _ _⟩
end Go.Proofs.YtfedoljlipfhdaaGreatDoor
namespace Go.Proofs.YtfedoljlipfhdaaGreatDoor
open Go.RowKit
def str (l:List UInt8):ι:=.string ⟨l.toArray⟩
theorem size_mk (l:List UInt8):(⟨l.toArray⟩:ByteArray).size=l.length:=by show l.toArray.size=_;simp
theorem aDH (l:List UInt8) (w:Z):CW 73 #[.string ⟨l.toArray⟩,.string ⟨#[45]⟩] w (.tuple #[.string ⟨(body l).toArray⟩,.bool (dash l)]):=aDG ⟨l.toArray⟩ w
theorem aKT (l:List UInt8) (w:Z) (hl:l.length<=9223372036854775807):CR 247 #[.string ⟨l.toArray⟩,.string ⟨#[46]⟩] w (.tuple #[.string ⟨(kH l).toArray⟩,.string ⟨(gI l).toArray⟩,.bool (uE l)]):=
 aKS ⟨l.toArray⟩ w (by rw [size_mk];exact hl)
theorem aAo (l:List UInt8) (m:Nat) (hm:m<=12) (w:Z) (hl:l.length<=9223372036854775807):CR 248 #[.string ⟨l.toArray⟩,.int .i64 m] w (two (jE l m)):=
 oM ⟨l.toArray⟩ m hm w (by rw [size_mk];exact hl)
theorem rT (l:List UInt8):(body l).length<=l.length:=by unfold body;split <;> simp
theorem aE8 (l:List UInt8):(kH l).length<=l.length:=by unfold kH;exact(List.takeWhile_sublist _).length_le
theorem aE9 (l:List UInt8):(gI l).length<=l.length:=by unfold gI;have:=(List.dropWhile_sublist (l:=l) (fun x=>x !=46)).length_le;simp;omega
theorem lZ (l:List UInt8) (a b:Nat):jP l a b=Y↔l.all isD=Y/\a<=l.length/\l.length<=b:=by
 unfold jP;simp only [K,decide_eq_true_eq];constructor
 ·rintro ⟨⟨h1,h2⟩,h3⟩;exact⟨h1,h2,h3⟩
 ·rintro ⟨h1,h2,h3⟩;exact⟨⟨h1,h2⟩,h3⟩
theorem aAp {l:List UInt8} {m:Nat} (h:jP l 1 m=Y):jE l m=(((dJ l:Nat):Int),Y):=if_pos h
theorem aB8 {l:List UInt8} {m:Nat} (h:¬jP l 1 m=Y):jE l m=(0,U):=if_neg h
theorem aF3 {A0 A1 A2 A3:ByteArray} {d p:Bool} {w:Z}
  (PF:∀u:Z,CW 73 #[.string A0,.string ⟨#[45]⟩] u (.tuple #[.string A1,.bool d]))
  (CU:∀u:Z,CR 247 #[.string A1,.string ⟨#[46]⟩] u (.tuple #[.string A2,.string A3,.bool p]))
  (C1:∀u:Z,CR 248 #[.string A2,.int .i64 12] u (.tuple #[.int .i64 0,.bool U]))  :
  CR 203 #[.string A0] w (two (0,U)):=by
 go_enter Tryz.func203,Tryz.ntmps203;go_wp2_with fail
 refine (PF _).mono ?_;rintro e w' ⟨rfl,hw⟩;obtain rfl:=hw.symm;clear hw;go_wp2_with fail
 refine (CU _).mono ?_;rintro e w1 ⟨rfl,hb1⟩;go_wp2_with fail
 refine (C1 _).mono ?_;rintro e w2 ⟨rfl,hb2⟩;go_wp2;go_ret2;exact⟨rfl,hb1.trans (hb2.mono hb1.size)⟩
theorem aB9 {A0 A1 A2 A3:ByteArray} {d:Bool} {W:Nat} {w:Z}
  (PF:∀u:Z,CW 73 #[.string A0,.string ⟨#[45]⟩] u (.tuple #[.string A1,.bool d]))
  (CU:∀u:Z,CR 247 #[.string A1,.string ⟨#[46]⟩] u (.tuple #[.string A2,.string A3,.bool U]))
  (C1:∀u:Z,CR 248 #[.string A2,.int .i64 12] u (.tuple #[.int .i64 (W:Nat),.bool Y]))
  (hW:W < 1000000000000):
  CR 203 #[.string A0] w (two (ans (aB4 ((W:Int) * 10000) d))):=by
 go_enter Tryz.func203,Tryz.ntmps203;go_wp2_with fail
 refine (PF _).mono ?_;rintro e w' ⟨rfl,hw⟩;obtain rfl:=hw.symm;clear hw;go_wp2_with fail
 refine (CU _).mono ?_;rintro e w1 ⟨rfl,hb1⟩;go_wp2_with fail
 refine (C1 _).mono ?_;rintro e w2 ⟨rfl,hb2⟩;go_wp2_with fail
 refine (wR _ _ (by omega) (by omega) _).mono ?_;rintro e w' ⟨rfl,hw⟩;obtain rfl:=hw.symm;clear hw;go_wp2_with fail
 refine (wQ _ _).mono ?_;rintro e w' ⟨rfl,hw⟩;obtain rfl:=hw.symm;clear hw;unfold two;go_wp2;go_ret2;exact⟨rfl,hb1.trans (hb2.mono hb1.size)⟩
theorem aF4 {A0 A1 A2 A3:ByteArray} {d:Bool} {W:Nat} {w:Z}
  (PF:∀u:Z,CW 73 #[.string A0,.string ⟨#[45]⟩] u (.tuple #[.string A1,.bool d]))
  (CU:∀u:Z,CR 247 #[.string A1,.string ⟨#[46]⟩] u (.tuple #[.string A2,.string A3,.bool Y]))
  (C1:∀u:Z,CR 248 #[.string A2,.int .i64 12] u (.tuple #[.int .i64 (W:Nat),.bool Y]))
  (C2:∀u:Z,CR 248 #[.string A3,.int .i64 4] u (.tuple #[.int .i64 0,.bool U]))  :
  CR 203 #[.string A0] w (two (0,U)):=by
 go_enter Tryz.func203,Tryz.ntmps203;go_wp2_with fail
 refine (PF _).mono ?_;rintro e w' ⟨rfl,hw⟩;obtain rfl:=hw.symm;clear hw;go_wp2_with fail
 refine (CU _).mono ?_;rintro e w1 ⟨rfl,hb1⟩;go_wp2_with fail
 refine (C1 _).mono ?_;rintro e w2 ⟨rfl,hb2⟩;go_wp2_with fail
 refine (C2 _).mono ?_;rintro e w3 ⟨rfl,hb3⟩;go_wp2;go_ret2;exact⟨rfl,(hb1.trans (hb2.mono hb1.size)).trans (hb3.mono (Ω hb1.size hb2.size))⟩
theorem aCa {A0 A1 A2 A3:ByteArray} {d:Bool} {W R:Nat} {T:Int} {w:Z}
  (PF:∀u:Z,CW 73 #[.string A0,.string ⟨#[45]⟩] u (.tuple #[.string A1,.bool d]))
  (CU:∀u:Z,CR 247 #[.string A1,.string ⟨#[46]⟩] u (.tuple #[.string A2,.string A3,.bool Y]))
  (C1:∀u:Z,CR 248 #[.string A2,.int .i64 12] u (.tuple #[.int .i64 (W:Nat),.bool Y]))
  (C2:∀u:Z,CR 248 #[.string A3,.int .i64 4] u (.tuple #[.int .i64 (R:Nat),.bool Y]))
  (hW:W < 1000000000000) (h4:A3.size<=4) (TN:∀u:Z,CW 249 #[.int .i64 (4 - (A3.size:Int))] u (.int .i64 T))
  (hP:0<=(R:Int) * T/\(R:Int) * T<=100000000):
  CR 203 #[.string A0] w (two (ans (aB4 ((W:Int) * 10000+(R:Int) * T) d))):=by
 go_enter Tryz.func203,Tryz.ntmps203;go_wp2_with fail
 refine (PF _).mono ?_;rintro e w' ⟨rfl,hw⟩;obtain rfl:=hw.symm;clear hw;go_wp2_with fail
 refine (CU _).mono ?_;rintro e w1 ⟨rfl,hb1⟩;go_wp2_with fail
 refine (C1 _).mono ?_;rintro e w2 ⟨rfl,hb2⟩;go_wp2_with fail
 refine (C2 _).mono ?_;rintro e w3 ⟨rfl,hb3⟩;go_wp2_with fail
 refine (TN _).mono ?_;rintro e w' ⟨rfl,hw⟩;obtain rfl:=hw.symm;clear hw;go_wp2_with fail
 refine (wR _ _ (by omega) (by omega) _).mono ?_;rintro e w' ⟨rfl,hw⟩;obtain rfl:=hw.symm;clear hw;go_wp2_with fail
 refine (wQ _ _).mono ?_;rintro e w' ⟨rfl,hw⟩;obtain rfl:=hw.symm;clear hw;unfold two;go_wp2;go_ret2;exact⟨rfl,(hb1.trans (hb2.mono hb1.size)).trans (hb3.mono (Ω hb1.size hb2.size))⟩
theorem aF5 (l:List UInt8) (w:Z) (hl:l.length<=9223372036854775807):
  CR 203 #[.string ⟨l.toArray⟩] w (two (cK l)):=by
 have PF:=fun u=>aDH l u;have CU:=fun u=>aKT (body l) u (by have:=rT l;omega);have C1:=fun u=>aAo (kH (body l)) 12 (by decide) u (by have:=rT l;have:=aE8 (body l);omega);have C2:=fun u=>aAo (gI (body l)) 4 (by decide) u (by have:=rT l;have:=aE9 (body l);omega);have hsz:=size_mk (gI (body l));unfold cK aHB;generalize dash l=d at *;generalize body l=bl at *;by_cases h1:jP (kH bl) 1 12=Y
 ·have hd1:=(lZ _ _ _).1 h1;have hW:=uG _ 12 hd1.1 hd1.2.2;rw [aAp h1] at C1;cases hp:uE bl
  ·rw [hp] at CU;rw [if_pos ⟨h1,fun h=>by cases h⟩,if_neg (by decide),Nat.add_zero];have:=aB9 PF CU C1 hW (w:=w);rw [Int.natCast_mul];exact this
  ·rw [hp] at CU;by_cases h2:jP (gI bl) 1 4=Y
   ·have hd2:=(lZ _ _ _).1 h2;have hR:=kY _ hd2.1;rw [aAp h2] at C2;rw [if_pos ⟨h1,fun _=>h2⟩,if_pos rfl];have hR2:dJ (gI bl) < 10000:=by have:(10:Nat) ^ (gI bl).length<=10 ^ 4:=Nat.pow_le_pow_right (by decide) hd2.2.2;omega
    have hT2:(10:Int) ^ (4 - (gI bl).length)<=10000:=by
     have:∀j:Nat,j<=4->(10:Int) ^ j<=10000:=by decide
     exact this _ (by omega)
    have hT:=aHz (4 - (gI bl).length) (by omega);have TN:∀u:Z,CW 249 #[.int .i64 (4 - ((⟨(gI bl).toArray⟩:ByteArray).size:Int))] u (.int .i64 (10 ^ (4 - (gI bl).length))):=fun u=>by have:=aHA (4 - (gI bl).length) (by omega) u;rw [show ((4 - (gI bl).length:Nat):Int)=4 - ((⟨(gI bl).toArray⟩:ByteArray).size:Int) by omega] at this;exact this
    have hP:0<=(dJ (gI bl):Int) * 10 ^ (4 - (gI bl).length)/\(dJ (gI bl):Int) * 10 ^ (4 - (gI bl).length)<=100000000:=
     ⟨Int.mul_nonneg (by omega) (by omega),Int.mul_le_mul (c:=10000) (d:=10000) (by omega) hT2 (by omega) (by omega)⟩
    have:=aCa PF CU C1 C2 hW (by omega) TN hP (w:=w);rw [Int.natCast_add,Int.natCast_mul,Int.natCast_mul,Int.natCast_pow];exact this
   ·rw [aB8 h2] at C2;rw [if_neg (fun h=>h2 (h.2 rfl))];exact aF4 PF CU C1 C2
 ·rw [aB8 h1] at C1;rw [if_neg (fun h=>h1 h.1)];exact aF3 PF CU C1
def pR (w:Z):Prop:=Lib.TabIs J w "internal/strconv.uint64pow10" .u64 Lib.pow10Tab
theorem pR.below {w w':Z} (h:pR w) (hb:ε w.heap.size w w'):pR w':=Lib.tabBelow_of_tabIs h w' hb
theorem wU (w:Z) (k:Nat) (os:Array Obj):ε w.heap.size w (Sort.grow (w.drewN k) os):=by
 have h:=kZ w k;have hk:(w.drewN k).heap.size=w.heap.size/\∀i,i < w.heap.size->(w.drewN k).heap[i]? =w.heap[i]? :=by
  refine ⟨?_,h.block⟩;clear h;induction k with
  | zero=>rw [World.drewN_zero]
  | succ n ih=>exact ih
 refine ⟨h.os,h.tape,h.output, ?_,fun i hi=> ?_⟩
 ·show w.heap.size<=((w.drewN k).heap++os).size;simp only [Array.size_append];omega
 ·show ((w.drewN k).heap++os)[i]? =_;rw [Array.getElem?_append_left (by omega)];exact hk.2 i hi
theorem aCb (n:Nat) (hn:n<=9223372036854775807) (w:Z) (T:pR w):
  CR 221 #[.int .i64 n] w (.string ⟨(G n).toArray⟩):=by
 have h:=Tryz.strconv_Itoa n (by omega) (by omega) w T;refine h.mono ?_;rintro e w' ⟨rfl,k,os,rfl⟩;refine ⟨?_,wU w k os⟩;unfold Lib.itoa;rw [if_neg (by omega),Int.toNat_natCast]
theorem nO (a b:List UInt8):(⟨a.toArray⟩:ByteArray)++⟨b.toArray⟩=⟨(a++b).toArray⟩:=by apply Ψ;simp
theorem drop_mk (a:List UInt8):(⟨a.toArray⟩:ByteArray).extract 1 (⟨a.toArray⟩:ByteArray).size=⟨(a.drop 1).toArray⟩:=by apply Ψ;simp only [size_mk];simp;exact β (by simp)
theorem aHD (n:Int):aAV (n.tdiv 10000)=((n.natAbs / 10000:Nat):Int):=by have h:(n.tdiv 10000).natAbs=n.natAbs / 10000:=Int.natAbs_tdiv n 10000;unfold aAV;split <;> omega
theorem aHE (n:Int):aAV (n.tmod 10000)=((n.natAbs % 10000:Nat):Int):=by have h:=Int.natAbs_tmod n 10000;unfold aAV;have:((10000:Int).natAbs)=10000:=rfl;rw [this] at h;split <;> omega
theorem aDI {n q r:Int} {Q R:Nat} {w:Z} (hn: -9223372036854775808<=n/\n<=9223372036854775807) (hq:n.tdiv 10000=q) (hr:n.tmod 10000=r) (hq1: -922337203685477<=q/\q<=922337203685477) (hR:R < 10000) (hQ:Q<=922337203685477) (T:pR w)
  (S1:∀u:Z,CW 222 #[.int .i64 q] u (.int .i64 Q))
  (S2:∀u:Z,CW 222 #[.int .i64 r] u (.int .i64 R)) {A1 A2 A3 A4:ByteArray}
  (I1:∀u:Z,pR u->CR 221 #[.int .i64 Q] u (.string A1))
  (I2:∀u:Z,pR u->CR 221 #[.int .i64 (10000+(R:Int))] u (.string A2))
  (hs1:A1.size<=20) (hs4:A4.size<=4) (hs2:((⟨#[45]⟩:ByteArray)++A1).size<=21) (hs3:((⟨#[46]⟩:ByteArray)++A4).size<=5) (hone:∀b:UInt8,(⟨#[b]⟩:ByteArray).size=1) (h5:A2.size=5) (hA3:A2.extract 1 5=A3)
  (TR:∀u:Z,CW 223 #[.string A3,.string ⟨#[48]⟩] u (.string A4)):
  CR 178 #[.int .i64 n] w (.string (if R=0 then (if n < 0 then (⟨#[45]⟩:ByteArray)++A1 else A1) else ((if n < 0 then (⟨#[45]⟩:ByteArray)++A1 else A1)++(⟨#[46]⟩++A4)))):=by
 have HT:I (pR w):=T;clear T;generalize hX:(if R=0 then (if n < 0 then (⟨#[45]⟩:ByteArray)++A1 else A1) else ((if n < 0 then (⟨#[45]⟩:ByteArray)++A1 else A1)++(⟨#[46]⟩++A4)))=X;by_cases hneg:n < 0
 ·rw [if_pos hneg] at hX;by_cases h0:R=0
  ·rw [if_pos h0] at hX;have HX:I _:=hX;clear hX;subst h0;go_enter Tryz.func178,Tryz.ntmps178;go_wp2_with fail
   refine (S1 _).mono ?_;rintro e w' ⟨rfl,hw⟩;obtain rfl:=hw.symm;clear hw;go_wp2_with fail
   refine (I1 _ HT.out).mono ?_;rintro e w1 ⟨rfl,hb1⟩;have HB1:I _:=hb1;have HT1:I (pR w1):=HT.out.below hb1;clear hb1;go_wp2_with fail
   refine (S2 _).mono ?_;rintro e w' ⟨rfl,hw⟩;obtain rfl:=hw.symm;clear hw;go_wp2;go_ret;exact⟨by rw [<-HX.out];rfl,HB1.out⟩
  ·rw [if_neg h0] at hX;have HX:I _:=hX;clear hX;have h1:(0:Int) < (R:Int):=by omega
   go_enter Tryz.func178,Tryz.ntmps178;go_wp2_with fail
   refine (S1 _).mono ?_;rintro e w' ⟨rfl,hw⟩;obtain rfl:=hw.symm;clear hw;go_wp2_with fail
   refine (I1 _ HT.out).mono ?_;rintro e w1 ⟨rfl,hb1⟩;have HB1:I _:=hb1;have HT1:I (pR w1):=HT.out.below hb1;clear hb1;go_wp2_with fail
   refine (S2 _).mono ?_;rintro e w' ⟨rfl,hw⟩;obtain rfl:=hw.symm;clear hw;go_wp2_with fail
   refine (I2 _ HT1.out).mono ?_;rintro e w2 ⟨rfl,hb2⟩;have HB2:I _:=hb2;clear hb2;go_wp2_with fail
   refine (TR _).mono ?_;rintro e w' ⟨rfl,hw⟩;obtain rfl:=hw.symm;clear hw;go_wp2;go_ret;exact⟨by rw [<-HX.out];rfl,HB1.out.trans (HB2.out.mono HB1.out.size)⟩
 ·rw [if_neg hneg] at hX;by_cases h0:R=0
  ·rw [if_pos h0] at hX;have HX:I _:=hX;clear hX;subst h0;go_enter Tryz.func178,Tryz.ntmps178;go_wp2_with fail
   refine (S1 _).mono ?_;rintro e w' ⟨rfl,hw⟩;obtain rfl:=hw.symm;clear hw;go_wp2_with fail
   refine (I1 _ HT.out).mono ?_;rintro e w1 ⟨rfl,hb1⟩;have HB1:I _:=hb1;have HT1:I (pR w1):=HT.out.below hb1;clear hb1;go_wp2_with fail
   refine (S2 _).mono ?_;rintro e w' ⟨rfl,hw⟩;obtain rfl:=hw.symm;clear hw;go_wp2;go_ret;exact⟨by rw [<-HX.out];rfl,HB1.out⟩
  ·rw [if_neg h0] at hX;have HX:I _:=hX;clear hX;have h1:(0:Int) < (R:Int):=by omega
   go_enter Tryz.func178,Tryz.ntmps178;go_wp2_with fail
   refine (S1 _).mono ?_;rintro e w' ⟨rfl,hw⟩;obtain rfl:=hw.symm;clear hw;go_wp2_with fail
   refine (I1 _ HT.out).mono ?_;rintro e w1 ⟨rfl,hb1⟩;have HB1:I _:=hb1;have HT1:I (pR w1):=HT.out.below hb1;clear hb1;go_wp2_with fail
   refine (S2 _).mono ?_;rintro e w' ⟨rfl,hw⟩;obtain rfl:=hw.symm;clear hw;go_wp2_with fail
   refine (I2 _ HT1.out).mono ?_;rintro e w2 ⟨rfl,hb2⟩;have HB2:I _:=hb2;clear hb2;go_wp2_with fail
   refine (TR _).mono ?_;rintro e w' ⟨rfl,hw⟩;obtain rfl:=hw.symm;clear hw;go_wp2;go_ret;exact⟨by rw [<-HX.out];rfl,HB1.out.trans (HB2.out.mono HB1.out.size)⟩
end Go.Proofs.YtfedoljlipfhdaaGreatDoor
namespace Go.Proofs.YtfedoljlipfhdaaGreatDoor
open Go.RowKit Go.Shelf
def jW (c:UInt8) (l:List UInt8):List UInt8 × List UInt8 × Bool:=match Ad.at_ c l with
 | none=>(l,[],U)
 | some p=>(p.1,p.2,Y)
theorem nP (c:UInt8):∀l:List UInt8,(D l c= -1->Ad.at_ c l=none)/\(∀i:Nat,D l c=i->Ad.at_ c l=some (l.take i,l.drop (i+1)))
 | []=>⟨fun _=>rfl,fun i h=>by simp [D] at h⟩
 | b:: l=>by
  have ih:=nP c l;have hge:=Lib.indexByte_ge l c;unfold D Ad.at_;by_cases hb:b=c
  ·subst hb;refine ⟨fun h=>by simp at h,fun i h=> ?_⟩;simp at h;obtain rfl:i=0:=by omega
   rw [if_pos rfl];rfl
  ·have e1:(b==c)=U:=by simpa using hb
   rw [e1,if_neg hb];simp only [ω,if_false];by_cases hn:D l c= -1
   ·rw [hn];refine ⟨fun _=> ?_,fun i h=>by simp at h⟩;rw [ih.1 hn];rfl
   ·have e3:(D l c== -1)=U:=by simpa using hn
    rw [e3];refine ⟨fun h=>by simp at h;omega,fun i h=> ?_⟩;simp at h;obtain⟨k,rfl⟩:∃k,i=k+1:=⟨i - 1,by omega⟩
    rw [ih.2 k (by omega)];rfl
theorem aO1 (c:UInt8) (l:List UInt8):Lib.cut l [c]=jW c l:=by
 have hi:=Lib.index_one l c;have hge:=Lib.indexByte_ge l c;unfold Lib.cut jW;rw [hi];split
 ·rw [(nP c l).2 (D l c).toNat (by omega)];rfl
 ·rw [(nP c l).1 (by omega)]
theorem oN {c:UInt8} {l:List UInt8} (h:Ad.at_ c l=none):jW c l=(l,[],U):=by unfold jW;rw [h]
theorem oO {c:UInt8} {l a b:List UInt8} (h:Ad.at_ c l=some (a,b)):jW c l=(a,b,Y):=by unfold jW;rw [h]
theorem aHF (c:UInt8) (s:ByteArray) (w:Z) (hs:s.size<=9223372036854775807):
  ξ J 271 #[.string s,.string ⟨#[c]⟩] w fun e w'=>e=.returned (.tuple #[.string ⟨(jW c s.data.toList).1.toArray⟩,.string ⟨(jW c s.data.toList).2.1.toArray⟩,.bool (jW c s.data.toList).2.2])/\∃n,w'=w.drewN n:=by
 have hcut:=aO1 c s.data.toList;have IX:=fun u=>Tryz.stringslite_Index_one s c u;have hone:=Lib.index_one s.data.toList c;obtain⟨sp,hsp⟩:∃sp:ByteArray,sp=⟨#[c]⟩:=⟨_,rfl⟩
 have hp:sp.size=1:=by rw [hsp];rfl
 have hl:sp.data.toList=[c]:=by rw [hsp]
 rcases Lib.indexB_cases s sp with hix | ⟨i,hix,hroom⟩
 ·obtain ⟨e1,e2,e3⟩:=Lib.cutB_miss s sp hix;rw [hl,hcut] at e1 e2 e3;rw [e1,e2,e3]
  replace hix:Lib.index s.data.toList [c]= -1:=by rw [<-hl];exact hix
  rw [show D s.data.toList c= -1 from hone.symm.trans hix] at IX;rw [<-hsp] at IX ⊢;clear hix hone hcut e1 e2 e3 hl hsp;go_enter Tryz.func271,Tryz.ntmps271;go_wp2_with (go_at_call 279;refine mw (IX _) ?_)
  go_ret3
  exact⟨rfl,0,rfl⟩
 ·obtain ⟨e1,e2,e3⟩:=Lib.cutB_hit s sp i hix;rw [hl,hcut] at e1 e2 e3;rw [e1,e2,e3]
  replace hix:Lib.index s.data.toList [c]=i:=by rw [<-hl];exact hix
  rw [show D s.data.toList c=i from hone.symm.trans hix] at IX;have hroom':i+1<=s.size:=by rw [hp] at hroom;exact hroom
  rw [hp];have c1:(0:Int)<= ↑i:=by omega
  have c2:(↑i:Int)<= ↑s.size:=by omega
  have c3:(0:Int)<= ↑i+1:=by omega
  have c4:(↑i+1:Int)<= ↑s.size:=by omega
  rw [<-hsp] at IX ⊢;clear hix hone hcut e1 e2 e3 hroom hl hsp;go_enter Tryz.func271,Tryz.ntmps271;go_wp2_with (go_at_call 279;refine mw (IX _) ?_)
  go_region
  go_wp2;go_ret3
  exact⟨rfl,1,rfl⟩
theorem wV (c:UInt8) (l:List UInt8) (w:Z) (hl:l.length<=9223372036854775807):
  CR 247 #[.string ⟨l.toArray⟩,.string ⟨#[c]⟩] w (.tuple #[.string ⟨(jW c l).1.toArray⟩,.string ⟨(jW c l).2.1.toArray⟩,.bool (jW c l).2.2]):=by
 have C:=fun u=>aHF c ⟨l.toArray⟩ u (by rw [size_mk];exact hl);simp only [List.toList_toArray] at C;generalize (⟨l.toArray⟩:ByteArray)=A at *;generalize (⟨#[c]⟩:ByteArray)=B at *;generalize jW c l=R at *;go_enter Tryz.func247,Tryz.ntmps247;go_wp2_with (go_at_call 271;refine (C _).mono ?_;rintro e w' ⟨rfl,n,rfl⟩)
 go_ret3
 exact⟨rfl,kZ w _⟩
theorem aF6 (c:UInt8) (l:List UInt8):Lib.trimPrefix l [c]=(Ad.strip c l).2/\Lib.hasPrefix l [c]=(Ad.strip c l).1:=by
 unfold Lib.trimPrefix Lib.hasPrefix;cases l with
 | nil=>exact⟨rfl,rfl⟩
 | cons b l=>
  rw [Ad.dO];by_cases h:b=c
  ·subst h;simp [τ]
  ·have h2:¬c=b:=fun e=>h e.symm;simp [τ,h,h2]
theorem mD (c:UInt8) (l:List UInt8) (w:Z):
  CW 73 #[.string ⟨l.toArray⟩,.string ⟨#[c]⟩] w (.tuple #[.string ⟨(Ad.strip c l).2.toArray⟩,.bool (Ad.strip c l).1]):=by
 have h:=Tryz.strings_CutPrefix ⟨l.toArray⟩ ⟨#[c]⟩ w;obtain⟨h1,h2⟩:=aF6 c l;rw [show (⟨#[c]⟩:ByteArray).data.toList=[c] from rfl,show (⟨l.toArray⟩:ByteArray).data.toList=l from rfl,h1,h2] at h;exact h
end Go.Proofs.YtfedoljlipfhdaaGreatDoor
namespace Go.Proofs.YtfedoljlipfhdaaGreatDoor
open Go.RowKit
theorem wW (r:Nat) (h:r < 10000):(rQ r).length<=4:=by
 by_cases h0:r=0
 ·rw [h0,aF1];simp
 ·exact ((lZ _ _ _).1 (aDF r h h0).1).2.2
theorem aF7 (n:Int) (hn: -9223372036854775808<=n/\n<=9223372036854775807) (w:Z) (T:pR w):
  CR 178 #[.int .i64 n] w (.string ⟨(aAW n).toArray⟩):=by
 have hQ:n.natAbs / 10000<=922337203685477:=by omega
 have hR:n.natAbs % 10000 < 10000:=by omega
 have aq:=aHD n;have ar:=aHE n;have bq: -922337203685477<=n.tdiv 10000/\n.tdiv 10000<=922337203685477:=by unfold aAV at aq;split at aq <;> omega
 have br: -10000<=n.tmod 10000/\n.tmod 10000<=10000:=by unfold aAV at ar;split at ar <;> omega
 have S1:=fun u=>aB6 (n.tdiv 10000) (by omega) (by omega) u;have S2:=fun u=>aB6 (n.tmod 10000) (by omega) (by omega) u;rw [aq] at S1;rw [ar] at S2;have l1:=(rR 15 (n.natAbs / 10000) (by decide) (by omega)).2;have d5:=wT (n.natAbs % 10000) hR;have l5:(G (10000+n.natAbs % 10000)).length=5:=by rw [d5];rfl
 have tl:=wW (n.natAbs % 10000) hR;have hX:∀X,X=(if n.natAbs % 10000=0 then (if n < 0 then (⟨#[45]⟩:ByteArray)++⟨(G (n.natAbs / 10000)).toArray⟩ else ⟨(G (n.natAbs / 10000)).toArray⟩)
   else ((if n < 0 then (⟨#[45]⟩:ByteArray)++⟨(G (n.natAbs / 10000)).toArray⟩ else ⟨(G (n.natAbs / 10000)).toArray⟩)++(⟨#[46]⟩++⟨(rQ (n.natAbs % 10000)).toArray⟩)))->X=⟨(aAW n).toArray⟩:=by
  rintro X rfl;unfold aAW;have e45:(⟨#[45]⟩:ByteArray)=⟨([45]:List UInt8).toArray⟩:=rfl;have e46:(⟨#[46]⟩:ByteArray)=⟨([46]:List UInt8).toArray⟩:=rfl;rw [e45,e46];by_cases h0:n.natAbs % 10000=0 <;> by_cases hneg:n < 0 <;> simp only [h0,hneg,if_true,if_false,nO] <;> simp
 have hX':=hX _ rfl;rw [<-hX'];refine aDI (q:=n.tdiv 10000) (r:=n.tmod 10000) (A2:=⟨(G (10000+n.natAbs % 10000)).toArray⟩) (A3:=⟨((G (10000+n.natAbs % 10000)).drop 1).toArray⟩) hn rfl rfl bq hR hQ T S1 S2 (fun u hu=>aCb _ (by omega) u hu) (fun u hu=> ?_) ?_ ?_ ?_ ?_ (fun _=>rfl) ?_ ?_ (fun u=> ?_)
 ·have:=aCb (10000+n.natAbs % 10000) (by omega) u hu;rw [Int.natCast_add] at this;exact this
 ·rw [size_mk];omega
 ·rw [size_mk];exact tl
 ·rw [show (⟨#[45]⟩:ByteArray)=⟨([45]:List UInt8).toArray⟩ from rfl,nO,size_mk];simp;omega
 ·rw [show (⟨#[46]⟩:ByteArray)=⟨([46]:List UInt8).toArray⟩ from rfl,nO,size_mk];simp;omega
 ·rw [size_mk];exact l5
 ·have:=drop_mk (G (10000+n.natAbs % 10000));rw [size_mk,l5] at this;exact this
 ·exact Tryz.strings_TrimRight_one ⟨((G (10000+n.natAbs % 10000)).drop 1).toArray⟩ 48 (by decide) u (by rw [size_mk];simp;omega)
theorem uH (s:ByteArray) (k:Nat) (h:k < s.size) (hall:s.data.toList.all isD=Y):isD s[k]=Y:=by rw [byte_at s k h (by rw [aX];exact h)];exact List.all_eq_true.1 hall _ (Δ _)
theorem aCc (s:ByteArray) (k:Nat) (h:k < s.size) (ha:(s.data.toList.take k).all isD=Y) (hb:isD s[k]=Y):(s.data.toList.take (k+1)).all isD=Y:=by rw [jF _ _ (by rw [aX];exact h),List.all_append,ha,<-byte_at s k h (by rw [aX];exact h)];simp [hb]
theorem aCd (s:ByteArray) (m:Nat) (hm:m<=12) (w:Z) (hs:s.size<=9223372036854775807):
  CW 238 #[.string s,.int .i64 1,.int .i64 m] w (.bool (jP s.data.toList 1 m)):=by
 have hl:=aX s;generalize hr:jP s.data.toList 1 m=r;have HR:I (jP s.data.toList 1 m=r):=hr;clear hr;go_enter Tryz.func238,Tryz.ntmps238;go_wp2;go_loop [7] (fun i=>∃k:Nat,k<=s.size/\i=.int .i64 k/\I ((s.data.toList.take k).all isD=Y)) (fun i=>s.size - (intOf i).toNat)
 case atStart=>exact⟨0,O _,rfl,by simp [I]⟩
 case round=>
  obtain⟨k,hk,rfl,ha⟩:=hrel;by_cases hlt:k < s.size
  ·cases hd:isD s[k]
   ·have HE:I (r=U):=by
     show _=_;rw [<-HR.out];unfold jP;cases hh:s.data.toList.all isD
     ·rfl
     ·rw [uH s k hlt hh] at hd;cases hd
    simp only [isD,φ,decide_eq_false_iff_not] at hd;by_cases hb1:(s[k].toNat:Int) < 48
    ·go_wp2;go_ret;exact⟨by rw [HE.out];rfl,rfl⟩
    ·have hb2:57 < (s[k].toNat:Int):=by omega
     go_wp2;go_ret;exact⟨by rw [HE.out];rfl,rfl⟩
   ·have ha':I ((s.data.toList.take (k+1)).all isD=Y):=aCc s k hlt ha.out hd;simp only [isD,K,decide_eq_true_eq] at hd;have hb1:¬(s[k].toNat:Int) < 48:=by omega
    have hb2:¬57 < (s[k].toNat:Int):=by omega
    go_wp2;go_round
    case rel=>exact⟨k+1,by omega,by go_num,ha'⟩
    case measure=>simp [intOf];omega
  ·have e:s.data.toList.take k=s.data.toList:=β (by omega);have HE:I (r=(decide (1<=s.size) && decide (s.size<=m))):=by show _=_;rw [<-HR.out];unfold jP;have:=ha.out;rw [e] at this;rw [this,hl];simp
   by_cases h1:(1:Int)<=(s.size:Int)
   ·go_wp2;go_ret;refine ⟨?_,rfl⟩;rw [HE.out];simp;omega
   ·go_wp2;go_ret;refine ⟨?_,rfl⟩;rw [HE.out];simp;omega
theorem aDJ (w:Z) (z:Int):(convert 96 9 (.slice (some ⟨w.heap.size,0,none⟩) 1 1)).run J (w.alloc (.cells #[.int .u8 z] 5))=.ok (.string ⟨#[H z.toNat]⟩) (w.alloc (.cells #[.int .u8 z] 5)):=by
 have hl:(loadCells ⟨w.heap.size,0,none⟩ 1).run J (w.alloc (.cells #[.int .u8 z] 5))=.ok (([z]:List Int).map (Value.int .u8)).toArray (w.alloc (.cells #[.int .u8 z] 5)):=by
  refine run_loadCells_list (P:=J) _ ⟨w.heap.size,0,none⟩ [.int .u8 z] fun j u hj=> ?_
  match j,hj with
  | 0,hj=>
   cases hj
   simp only [World.cell?];rw [show ((⟨w.heap.size,0,none⟩:Addr).add 0)=⟨w.heap.size,0,none⟩ from rfl,Φ];rfl
 rw [run_convert_bytes_string _ 96 9 5 _ 1 1 θ δ γ,run_bytesToString _ _ 1 1 _ hl,foldl_push_bytes];rfl
theorem aAX (m:Nat) (h:¬m / 10=0):G m=G (m / 10)++ [H (48+m % 10)]:=by rw [G,dif_neg (by omega)]
theorem vN (n:Nat) (hn:n < 18446744073709551616) (w:Z):
  CR 186 #[.int .u64 n] w (.string ⟨(G n).toArray⟩):=by
 have hlen:=(rR 20 n (by decide) (by omega)).2;generalize hr:(⟨(G n).toArray⟩:ByteArray)=r;have HR:I ((⟨(G n).toArray⟩:ByteArray)=r):=hr;clear hr;go_enter Tryz.func186,Tryz.ntmps186;go_wp2;go_loopw [0,3] (fun u0 u3 wr=>∃(m:Nat) (t:ByteArray),u0=.int .u64 m/\u3=.string t/\m < 18446744073709551616/\t.size<=20/\I (ε w.heap.size w wr/\∃L:List UInt8,t=⟨L.toArray⟩/\G n=G m++L)) (fun u0 _ _=>(intOf u0).toNat)
 case atStart=>exact⟨n,⟨#[]⟩,rfl,rfl,hn,by decide,α _ _,[],rfl,by simp⟩
 case round=>
  obtain⟨m,t,rfl,rfl,hm,ht,hH⟩:=hrel;have hcv:=aDJ wr (48+(m:Int) % 10);have hne:I ((⟨#[H (48+(m:Int) % 10).toNat]⟩:ByteArray)++t=⟨([H (48+m % 10)]++(t.data.toList)).toArray⟩):=by show _=_;rw [show (48+(m:Int) % 10).toNat=48+m % 10 by omega];exact nO [H (48+m % 10)] t.data.toList
  generalize hX:(⟨#[H (48+(m:Int) % 10).toNat]⟩:ByteArray)=X at *;have hXs:X.size=1:=by rw [<-hX];rfl
  clear hX;have hsz:(X++t).size<=21:=by rw [S];omega
  by_cases hz:m / 10=0
  ·have hz':(m:Int) / 10=0:=by omega
   have HE:I (r=X++t):=by obtain⟨_,L,rfl,e⟩:=hH.out;show _=_;rw [<-HR.out,hne.out,e,Lib.decDigits_one (by omega)];rw [show m % 10=m by omega]
   go_wp2;go_ret;exact⟨by rw [HE.out];rfl,hH.out.1.alloc (hH.out.1.size) _⟩
  ·have hz':((m:Int) / 10==0)=U:=by simp;omega
   have HL:I (∃L:List UInt8,X++t=⟨L.toArray⟩/\G n=G (m / 10)++L):=by obtain⟨_,L,rfl,e⟩:=hH.out;refine ⟨_,hne.out, ?_⟩;rw [e,aAX m hz];simp
   have hs2:(X++t).size<=20:=by obtain⟨L,e1,e2⟩:=HL.out;rw [e1,size_mk];have:=congrArg List.length e2;simp at this;have:=(rR 20 (m / 10) (by decide) (by omega)).1;omega
   go_wp2;go_roundw
   case rel=>exact⟨m / 10,X++t,by go_num,rfl,by omega,hs2,hH.out.1.alloc (hH.out.1.size) _,HL.out⟩
   case measure=>simp [intOf];omega
def lenOf (v:ι):Nat:=match v with | .string t=>t.size | _=>0
theorem ext_list (t:ByteArray) (k:Nat) (h:k<=t.size):(t.extract 0 k).data.toList=t.data.toList.take k/\(t.extract 0 k).size=k:=by
 have e:(t.extract 0 k).data.toList=t.data.toList.take k:=by rw [ByteArray.data_extract];simp
 refine ⟨e, ?_⟩;rw [<-aX,e,List.length_take,aX];omega
theorem lC (t:ByteArray):(⟨t.data.toList.toArray⟩:ByteArray)=t:=by
 cases t
 simp
theorem rU (t:ByteArray) (L:List UInt8) (h:∃j,t=⟨(L++M j 48).toArray⟩):∃j,t++⟨#[48]⟩=⟨(L++M j 48).toArray⟩:=by obtain⟨j,rfl⟩:=h;refine ⟨j+1, ?_⟩;rw [show (⟨#[48]⟩:ByteArray)=⟨([48]:List UInt8).toArray⟩ from rfl,nO,List.append_assoc,<-List.replicate_succ']
theorem aKU (L:List UInt8) (j:Nat):dJ (L++M j 48)=dJ L * 10 ^ j:=by rw [iM,wS,List.length_replicate,Nat.add_zero]
theorem aFa:∀j:Nat,(M j (48:UInt8)).all isD=Y
 | 0=>rfl
 | j+1=>by rw [List.replicate_succ,List.all_cons,aFa j];rfl
theorem rV (B:ByteArray) (k:Nat) (h:k < B.size):dJ (B.data.toList.take (k+1))=dJ (B.data.toList.take k) * 10+((B[k]'h).toNat - 48):=by rw [jF _ _ (by rw [aX];exact h),iM,<-byte_at B k h (by rw [aX];exact h)];simp [dJ,pQ]
theorem aFb:∀k:Nat,k<=16->10 ^ k<=10000000000000000:=by decide
theorem rW (l:List UInt8) (k:Nat) (h:l.all isD=Y):(l.take k).all isD=Y:=by rw [List.all_eq_true] at *;exact fun x hx=>h x (List.mem_of_mem_take hx)
theorem aHG {s0 s1 A2 A3:ByteArray} {w:Z} (hs:s0.size<=9223372036854775807) (hs1:s1.size<=9223372036854775807) (h0:s1.size=0)
  (G1:∀u:Z,CW 238 #[.string s1,.int .i64 1,.int .i64 12] u (.bool U))
  (hno:I (∀k (h:k < s1.size),((((s1[k]'h).toNat:Nat):Int)==46)=U)):
  CR 198 #[.string s1] w (two (0,U)):=by
 go_enter Tryz.func198,Tryz.ntmps198;go_wp2;go_loop [5,6,7,8] (fun u5 u6 u7 u8=>∃k:Nat,k<=s1.size/\u5=.string s1/\u6=.string ⟨#[]⟩/\u7=.bool U/\u8=.int .i64 k) (fun _ _ _ u8=>s1.size - (intOf u8).toNat)
 case atStart=>exact⟨0,O _,rfl,rfl,rfl,rfl⟩
 case round=>
  obtain⟨k,hk,rfl,rfl,rfl,rfl⟩:=hrel;by_cases hlt:k < s1.size
  ·omega
  ·have hlt':¬(k:Int) < (s1.size:Int):=by omega
   go_wp2_with fail
   refine (G1 _).mono ?_;rintro e w' ⟨rfl,hw⟩;obtain rfl:=hw.symm;clear hw;go_wp2;go_ret2;exact⟨rfl,α _ _⟩
theorem aHH {s0 s1 A2 A3:ByteArray} {w:Z} (hs:s0.size<=9223372036854775807) (hs1:s1.size<=9223372036854775807) (h1:0 < s1.size) (hb:((((s1[0]'h1).toNat:Nat):Int)==45)=U)
  (G1:∀u:Z,CW 238 #[.string s1,.int .i64 1,.int .i64 12] u (.bool U))
  (hno:I (∀k (h:k < s1.size),((((s1[k]'h).toNat:Nat):Int)==46)=U)):
  CR 198 #[.string s1] w (two (0,U)):=by
 go_enter Tryz.func198,Tryz.ntmps198;go_wp2;go_loop [5,6,7,8] (fun u5 u6 u7 u8=>∃k:Nat,k<=s1.size/\u5=.string s1/\u6=.string ⟨#[]⟩/\u7=.bool U/\u8=.int .i64 k) (fun _ _ _ u8=>s1.size - (intOf u8).toNat)
 case atStart=>exact⟨0,O _,rfl,rfl,rfl,rfl⟩
 case round=>
  obtain⟨k,hk,rfl,rfl,rfl,rfl⟩:=hrel;by_cases hlt:k < s1.size
  ·have hq:=hno.out k hlt;go_wp2;go_round
   case rel=>exact⟨k+1,by omega,rfl,rfl,rfl,by go_num⟩
   case measure=>simp [intOf];omega
  ·have hlt':¬(k:Int) < (s1.size:Int):=by omega
   go_wp2_with fail
   refine (G1 _).mono ?_;rintro e w' ⟨rfl,hw⟩;obtain rfl:=hw.symm;clear hw;go_wp2;go_ret2;exact⟨rfl,α _ _⟩
theorem aHI {s0 s1 A2 A3:ByteArray} {w:Z} (hs:s0.size<=9223372036854775807) (hs1:s1.size<=9223372036854775807) (h1:0 < s1.size) (hb:((((s1[0]'h1).toNat:Nat):Int)==45)=U)
  (G1:∀u:Z,CW 238 #[.string s1,.int .i64 1,.int .i64 12] u (.bool Y))
  (hno:I (∀k (h:k < s1.size),((((s1[k]'h).toNat:Nat):Int)==46)=U))
  (LR:List UInt8) (V:Nat) (hW:1<=s1.size/\s1.size<=12) (h3:(⟨#[]⟩:ByteArray).size<=4) (hLR:I ((⟨#[]⟩:ByteArray)=⟨LR.toArray⟩))
  (hB:I (∀t:ByteArray,t.size=4->(∃j,t=⟨(LR++M j 48).toArray⟩)->(s1++t).size<=16/\(s1++t).data.toList.all isD=Y/\dJ (s1++t).data.toList=V)) (hV:V < 10000000000000000):
  CR 198 #[.string s1] w (two (ans (V:Int))):=by
 go_enter Tryz.func198,Tryz.ntmps198;go_wp2;go_loop [5,6,7,8] (fun u5 u6 u7 u8=>∃k:Nat,k<=s1.size/\u5=.string s1/\u6=.string ⟨#[]⟩/\u7=.bool U/\u8=.int .i64 k) (fun _ _ _ u8=>s1.size - (intOf u8).toNat)
 case atStart=>exact⟨0,O _,rfl,rfl,rfl,rfl⟩
 case round=>
  obtain⟨k,hk,rfl,rfl,rfl,rfl⟩:=hrel;by_cases hlt:k < s1.size
  ·have hq:=hno.out k hlt;go_wp2;go_round
   case rel=>exact⟨k+1,by omega,rfl,rfl,rfl,by go_num⟩
   case measure=>simp [intOf];omega
  ·have hlt':¬(k:Int) < (s1.size:Int):=by omega
   go_wp2_with fail
   refine (G1 _).mono ?_;rintro e w' ⟨rfl,hw⟩;obtain rfl:=hw.symm;clear hw;go_wp2;go_loop [6] (fun u6=>∃t:ByteArray,u6=.string t/\t.size<=4/\I (∃j,t=⟨(LR++M j 48).toArray⟩)) (fun u6=>4 - lenOf u6)
   case atStart=>exact⟨_,rfl,h3,0,by rw [hLR.out];simp⟩
   case round=>
    obtain⟨t,rfl,ht,hH⟩:=hrel;by_cases h4:t.size < 4
    ·have g4:(t.size:Int) < 4:=by omega
     have hS:(t++(⟨#[48]⟩:ByteArray)).size=t.size+1:=by rw [S];rfl
     have hone:(⟨#[48]⟩:ByteArray).size=1:=rfl;have HN:I (∃j,t++⟨#[48]⟩=⟨(LR++M j 48).toArray⟩):=rU t LR hH.out;go_wp2;go_round
     case rel=>exact⟨_,rfl,by omega,HN.out⟩
     case measure=>simp [lenOf,hS];omega
    ·have g4:¬(t.size:Int) < 4:=by omega
     have hb:=hB.out t (by omega) hH.out;have hBt:=hb.1;have HB2:I ((s1++t).data.toList.all isD=Y/\dJ (s1++t).data.toList=V):=hb.2;clear hb;have hsum:s1.size+t.size<=16:=by rw [S] at hBt;exact hBt
     obtain⟨B,hBe⟩:∃B:ByteArray,s1++t=B:=⟨_,rfl⟩
     rw [hBe] at hBt HB2;go_wp2;go_loop [9,11] (fun u9 u11=>∃k N:Nat,u9=.int .i64 N/\u11=.int .i64 k/\k<=B.size/\N < 10000000000000000/\I (N=dJ (B.data.toList.take k))) (fun _ u11=>B.size - (intOf u11).toNat)
     case atStart=>exact⟨0,0,rfl,rfl,O _,by omega,rfl⟩
     case round=>
      obtain⟨k,N,rfl,rfl,hk,hN,hH2⟩:=hrel;by_cases hlt:k < B.size
      ·have hd:=uH B k hlt HB2.out.1;simp only [isD,K,decide_eq_true_eq] at hd;have hst:I (N * 10+((B[k]'hlt).toNat - 48)=dJ (B.data.toList.take (k+1))):=by show _=_;rw [rV B k hlt,<-hH2.out]
       have hbd:N * 10+((B[k]'hlt).toNat - 48) < 10000000000000000:=by rw [hst.out];have h1:=kY _ (rW _ (k+1) HB2.out.1);have h2:=aFb (B.data.toList.take (k+1)).length (by have:=aX B;simp;omega);omega
       generalize hc:(B[k]'hlt).toNat=c at *;go_wp2;go_round
       case rel=>exact⟨k+1,N * 10+(c - 48),by go_num,by go_num,by omega,hbd,hst.out⟩
       case measure=>simp [intOf];omega
      ·have hVN:N=V:=by rw [hH2.out,β (by rw [aX];omega)];exact HB2.out.2
       subst hVN;go_wp2_with fail
       refine (wB _ _).mono ?_;rintro e w' ⟨rfl,hw⟩;obtain rfl:=hw.symm;clear hw;unfold two;go_wp2;go_ret2;exact⟨rfl,α _ _⟩
theorem aHJ {s0 s1 A2 A3:ByteArray} {w:Z} (hs:s0.size<=9223372036854775807) (hs1:s1.size<=9223372036854775807) (h1:0 < s1.size) (hb:((((s1[0]'h1).toNat:Nat):Int)==45)=U)
  (G1:∀u:Z,CW 238 #[.string A2,.int .i64 1,.int .i64 12] u (.bool U))
  (p:Nat) (hp:p < s1.size) (hpt:((((s1[p]'hp).toNat:Nat):Int)==46)=Y) (hno:I (∀k (h:k < p),((((s1[k]'(Nat.lt_trans h hp)).toNat:Nat):Int)==46)=U)) (hA2:s1.extract 0 p=A2) (hA3:s1.extract (p+1) s1.size=A3):
  CR 198 #[.string s1] w (two (0,U)):=by
 go_enter Tryz.func198,Tryz.ntmps198;go_wp2;go_loop [5,6,7,8] (fun u5 u6 u7 u8=>∃k:Nat,k<=p/\u5=.string s1/\u6=.string ⟨#[]⟩/\u7=.bool U/\u8=.int .i64 k) (fun _ _ _ u8=>s1.size - (intOf u8).toNat)
 case atStart=>exact⟨0,O _,rfl,rfl,rfl,rfl⟩
 case round=>
  obtain⟨k,hk,rfl,rfl,rfl,rfl⟩:=hrel;by_cases hlt:k < p
  ·have hlt2:k < s1.size:=by omega
   have hq:=hno.out k hlt;go_wp2;go_round
   case rel=>exact⟨k+1,by omega,rfl,rfl,rfl,by go_num⟩
   case measure=>simp [intOf];omega
  ·obtain rfl:k=p:=by omega
   go_wp2;go_region
   go_wp2_with fail
   refine (G1 _).mono ?_;rintro e w' ⟨rfl,hw⟩;obtain rfl:=hw.symm;clear hw;go_wp2;go_ret2;exact⟨rfl,(α _ _).drew⟩
theorem aHK {s0 s1 A2 A3:ByteArray} {w:Z} (hs:s0.size<=9223372036854775807) (hs1:s1.size<=9223372036854775807) (h1:0 < s1.size) (hb:((((s1[0]'h1).toNat:Nat):Int)==45)=U)
  (G1:∀u:Z,CW 238 #[.string A2,.int .i64 1,.int .i64 12] u (.bool Y))
  (p:Nat) (hp:p < s1.size) (hpt:((((s1[p]'hp).toNat:Nat):Int)==46)=Y) (hno:I (∀k (h:k < p),((((s1[k]'(Nat.lt_trans h hp)).toNat:Nat):Int)==46)=U)) (hA2:s1.extract 0 p=A2) (hA3:s1.extract (p+1) s1.size=A3)
  (G2:∀u:Z,CW 238 #[.string A3,.int .i64 1,.int .i64 4] u (.bool U)):
  CR 198 #[.string s1] w (two (0,U)):=by
 go_enter Tryz.func198,Tryz.ntmps198;go_wp2;go_loop [5,6,7,8] (fun u5 u6 u7 u8=>∃k:Nat,k<=p/\u5=.string s1/\u6=.string ⟨#[]⟩/\u7=.bool U/\u8=.int .i64 k) (fun _ _ _ u8=>s1.size - (intOf u8).toNat)
 case atStart=>exact⟨0,O _,rfl,rfl,rfl,rfl⟩
 case round=>
  obtain⟨k,hk,rfl,rfl,rfl,rfl⟩:=hrel;by_cases hlt:k < p
  ·have hlt2:k < s1.size:=by omega
   have hq:=hno.out k hlt;go_wp2;go_round
   case rel=>exact⟨k+1,by omega,rfl,rfl,rfl,by go_num⟩
   case measure=>simp [intOf];omega
  ·obtain rfl:k=p:=by omega
   go_wp2;go_region
   go_wp2_with fail
   refine (G1 _).mono ?_;rintro e w' ⟨rfl,hw⟩;obtain rfl:=hw.symm;clear hw;go_wp2_with fail
   refine (G2 _).mono ?_;rintro e w' ⟨rfl,hw⟩;obtain rfl:=hw.symm;clear hw;go_wp2;go_ret2;exact⟨rfl,(α _ _).drew⟩
theorem aHL {s0 s1 A2 A3:ByteArray} {w:Z} (hs:s0.size<=9223372036854775807) (hs1:s1.size<=9223372036854775807) (h1:0 < s1.size) (hb:((((s1[0]'h1).toNat:Nat):Int)==45)=U)
  (G1:∀u:Z,CW 238 #[.string A2,.int .i64 1,.int .i64 12] u (.bool Y))
  (p:Nat) (hp:p < s1.size) (hpt:((((s1[p]'hp).toNat:Nat):Int)==46)=Y) (hno:I (∀k (h:k < p),((((s1[k]'(Nat.lt_trans h hp)).toNat:Nat):Int)==46)=U)) (hA2:s1.extract 0 p=A2) (hA3:s1.extract (p+1) s1.size=A3)
  (G2:∀u:Z,CW 238 #[.string A3,.int .i64 1,.int .i64 4] u (.bool Y))
  (LR:List UInt8) (V:Nat) (hW:1<=A2.size/\A2.size<=12) (h3:A3.size<=4) (hLR:I (A3=⟨LR.toArray⟩))
  (hB:I (∀t:ByteArray,t.size=4->(∃j,t=⟨(LR++M j 48).toArray⟩)->(A2++t).size<=16/\(A2++t).data.toList.all isD=Y/\dJ (A2++t).data.toList=V)) (hV:V < 10000000000000000):
  CR 198 #[.string s1] w (two (ans (V:Int))):=by
 go_enter Tryz.func198,Tryz.ntmps198;go_wp2;go_loop [5,6,7,8] (fun u5 u6 u7 u8=>∃k:Nat,k<=p/\u5=.string s1/\u6=.string ⟨#[]⟩/\u7=.bool U/\u8=.int .i64 k) (fun _ _ _ u8=>s1.size - (intOf u8).toNat)
 case atStart=>exact⟨0,O _,rfl,rfl,rfl,rfl⟩
 case round=>
  obtain⟨k,hk,rfl,rfl,rfl,rfl⟩:=hrel;by_cases hlt:k < p
  ·have hlt2:k < s1.size:=by omega
   have hq:=hno.out k hlt;go_wp2;go_round
   case rel=>exact⟨k+1,by omega,rfl,rfl,rfl,by go_num⟩
   case measure=>simp [intOf];omega
  ·obtain rfl:k=p:=by omega
   go_wp2;go_region
   go_wp2_with fail
   refine (G1 _).mono ?_;rintro e w' ⟨rfl,hw⟩;obtain rfl:=hw.symm;clear hw;go_wp2_with fail
   refine (G2 _).mono ?_;rintro e w' ⟨rfl,hw⟩;obtain rfl:=hw.symm;clear hw;go_wp2;go_loop [6] (fun u6=>∃t:ByteArray,u6=.string t/\t.size<=4/\I (∃j,t=⟨(LR++M j 48).toArray⟩)) (fun u6=>4 - lenOf u6)
   case atStart=>exact⟨_,rfl,h3,0,by rw [hLR.out];simp⟩
   case round=>
    obtain⟨t,rfl,ht,hH⟩:=hrel;by_cases h4:t.size < 4
    ·have g4:(t.size:Int) < 4:=by omega
     have hS:(t++(⟨#[48]⟩:ByteArray)).size=t.size+1:=by rw [S];rfl
     have hone:(⟨#[48]⟩:ByteArray).size=1:=rfl;have HN:I (∃j,t++⟨#[48]⟩=⟨(LR++M j 48).toArray⟩):=rU t LR hH.out;go_wp2;go_round
     case rel=>exact⟨_,rfl,by omega,HN.out⟩
     case measure=>simp [lenOf,hS];omega
    ·have g4:¬(t.size:Int) < 4:=by omega
     have hb:=hB.out t (by omega) hH.out;have hBt:=hb.1;have HB2:I ((A2++t).data.toList.all isD=Y/\dJ (A2++t).data.toList=V):=hb.2;clear hb;have hsum:A2.size+t.size<=16:=by rw [S] at hBt;exact hBt
     obtain⟨B,hBe⟩:∃B:ByteArray,A2++t=B:=⟨_,rfl⟩
     rw [hBe] at hBt HB2;go_wp2;go_loop [9,11] (fun u9 u11=>∃k N:Nat,u9=.int .i64 N/\u11=.int .i64 k/\k<=B.size/\N < 10000000000000000/\I (N=dJ (B.data.toList.take k))) (fun _ u11=>B.size - (intOf u11).toNat)
     case atStart=>exact⟨0,0,rfl,rfl,O _,by omega,rfl⟩
     case round=>
      obtain⟨k,N,rfl,rfl,hk,hN,hH2⟩:=hrel;by_cases hlt:k < B.size
      ·have hd:=uH B k hlt HB2.out.1;simp only [isD,K,decide_eq_true_eq] at hd;have hst:I (N * 10+((B[k]'hlt).toNat - 48)=dJ (B.data.toList.take (k+1))):=by show _=_;rw [rV B k hlt,<-hH2.out]
       have hbd:N * 10+((B[k]'hlt).toNat - 48) < 10000000000000000:=by rw [hst.out];have h1:=kY _ (rW _ (k+1) HB2.out.1);have h2:=aFb (B.data.toList.take (k+1)).length (by have:=aX B;simp;omega);omega
       generalize hc:(B[k]'hlt).toNat=c at *;go_wp2;go_round
       case rel=>exact⟨k+1,N * 10+(c - 48),by go_num,by go_num,by omega,hbd,hst.out⟩
       case measure=>simp [intOf];omega
      ·have hVN:N=V:=by rw [hH2.out,β (by rw [aX];omega)];exact HB2.out.2
       subst hVN;go_wp2_with fail
       refine (wB _ _).mono ?_;rintro e w' ⟨rfl,hw⟩;obtain rfl:=hw.symm;clear hw;unfold two;go_wp2;go_ret2;exact⟨rfl,(α _ _).drew⟩
theorem aHM {s0 s1 A2 A3:ByteArray} {w:Z} (hs:s0.size<=9223372036854775807) (hs1:s1.size<=9223372036854775807) (h1:0 < s0.size) (hb:((((s0[0]'h1).toNat:Nat):Int)==45)=Y) (he:s0.extract 1 s0.size=s1)
  (G1:∀u:Z,CW 238 #[.string s1,.int .i64 1,.int .i64 12] u (.bool U))
  (hno:I (∀k (h:k < s1.size),((((s1[k]'h).toNat:Nat):Int)==46)=U)):
  CR 198 #[.string s0] w (two (0,U)):=by
 go_enter Tryz.func198,Tryz.ntmps198;go_wp2;go_loop [5,6,7,8] (fun u5 u6 u7 u8=>∃k:Nat,k<=s1.size/\u5=.string s1/\u6=.string ⟨#[]⟩/\u7=.bool U/\u8=.int .i64 k) (fun _ _ _ u8=>s1.size - (intOf u8).toNat)
 case atStart=>exact⟨0,O _,rfl,rfl,rfl,rfl⟩
 case round=>
  obtain⟨k,hk,rfl,rfl,rfl,rfl⟩:=hrel;by_cases hlt:k < s1.size
  ·have hq:=hno.out k hlt;go_wp2;go_round
   case rel=>exact⟨k+1,by omega,rfl,rfl,rfl,by go_num⟩
   case measure=>simp [intOf];omega
  ·have hlt':¬(k:Int) < (s1.size:Int):=by omega
   go_wp2_with fail
   refine (G1 _).mono ?_;rintro e w' ⟨rfl,hw⟩;obtain rfl:=hw.symm;clear hw;go_wp2;go_ret2;exact⟨rfl,α _ _⟩
theorem aHN {s0 s1 A2 A3:ByteArray} {w:Z} (hs:s0.size<=9223372036854775807) (hs1:s1.size<=9223372036854775807) (h1:0 < s0.size) (hb:((((s0[0]'h1).toNat:Nat):Int)==45)=Y) (he:s0.extract 1 s0.size=s1)
  (G1:∀u:Z,CW 238 #[.string s1,.int .i64 1,.int .i64 12] u (.bool Y))
  (hno:I (∀k (h:k < s1.size),((((s1[k]'h).toNat:Nat):Int)==46)=U))
  (LR:List UInt8) (V:Nat) (hW:1<=s1.size/\s1.size<=12) (h3:(⟨#[]⟩:ByteArray).size<=4) (hLR:I ((⟨#[]⟩:ByteArray)=⟨LR.toArray⟩))
  (hB:I (∀t:ByteArray,t.size=4->(∃j,t=⟨(LR++M j 48).toArray⟩)->(s1++t).size<=16/\(s1++t).data.toList.all isD=Y/\dJ (s1++t).data.toList=V)) (hV:V < 10000000000000000):
  CR 198 #[.string s0] w (two (ans (-(V:Int)))):=by
 go_enter Tryz.func198,Tryz.ntmps198;go_wp2;go_loop [5,6,7,8] (fun u5 u6 u7 u8=>∃k:Nat,k<=s1.size/\u5=.string s1/\u6=.string ⟨#[]⟩/\u7=.bool U/\u8=.int .i64 k) (fun _ _ _ u8=>s1.size - (intOf u8).toNat)
 case atStart=>exact⟨0,O _,rfl,rfl,rfl,rfl⟩
 case round=>
  obtain⟨k,hk,rfl,rfl,rfl,rfl⟩:=hrel;by_cases hlt:k < s1.size
  ·have hq:=hno.out k hlt;go_wp2;go_round
   case rel=>exact⟨k+1,by omega,rfl,rfl,rfl,by go_num⟩
   case measure=>simp [intOf];omega
  ·have hlt':¬(k:Int) < (s1.size:Int):=by omega
   go_wp2_with fail
   refine (G1 _).mono ?_;rintro e w' ⟨rfl,hw⟩;obtain rfl:=hw.symm;clear hw;go_wp2;go_loop [6] (fun u6=>∃t:ByteArray,u6=.string t/\t.size<=4/\I (∃j,t=⟨(LR++M j 48).toArray⟩)) (fun u6=>4 - lenOf u6)
   case atStart=>exact⟨_,rfl,h3,0,by rw [hLR.out];simp⟩
   case round=>
    obtain⟨t,rfl,ht,hH⟩:=hrel;by_cases h4:t.size < 4
    ·have g4:(t.size:Int) < 4:=by omega
     have hS:(t++(⟨#[48]⟩:ByteArray)).size=t.size+1:=by rw [S];rfl
     have hone:(⟨#[48]⟩:ByteArray).size=1:=rfl;have HN:I (∃j,t++⟨#[48]⟩=⟨(LR++M j 48).toArray⟩):=rU t LR hH.out;go_wp2;go_round
     case rel=>exact⟨_,rfl,by omega,HN.out⟩
     case measure=>simp [lenOf,hS];omega
    ·have g4:¬(t.size:Int) < 4:=by omega
     have hb:=hB.out t (by omega) hH.out;have hBt:=hb.1;have HB2:I ((s1++t).data.toList.all isD=Y/\dJ (s1++t).data.toList=V):=hb.2;clear hb;have hsum:s1.size+t.size<=16:=by rw [S] at hBt;exact hBt
     obtain⟨B,hBe⟩:∃B:ByteArray,s1++t=B:=⟨_,rfl⟩
     rw [hBe] at hBt HB2;go_wp2;go_loop [9,11] (fun u9 u11=>∃k N:Nat,u9=.int .i64 N/\u11=.int .i64 k/\k<=B.size/\N < 10000000000000000/\I (N=dJ (B.data.toList.take k))) (fun _ u11=>B.size - (intOf u11).toNat)
     case atStart=>exact⟨0,0,rfl,rfl,O _,by omega,rfl⟩
     case round=>
      obtain⟨k,N,rfl,rfl,hk,hN,hH2⟩:=hrel;by_cases hlt:k < B.size
      ·have hd:=uH B k hlt HB2.out.1;simp only [isD,K,decide_eq_true_eq] at hd;have hst:I (N * 10+((B[k]'hlt).toNat - 48)=dJ (B.data.toList.take (k+1))):=by show _=_;rw [rV B k hlt,<-hH2.out]
       have hbd:N * 10+((B[k]'hlt).toNat - 48) < 10000000000000000:=by rw [hst.out];have h1:=kY _ (rW _ (k+1) HB2.out.1);have h2:=aFb (B.data.toList.take (k+1)).length (by have:=aX B;simp;omega);omega
       generalize hc:(B[k]'hlt).toNat=c at *;go_wp2;go_round
       case rel=>exact⟨k+1,N * 10+(c - 48),by go_num,by go_num,by omega,hbd,hst.out⟩
       case measure=>simp [intOf];omega
      ·have hVN:N=V:=by rw [hH2.out,β (by rw [aX];omega)];exact HB2.out.2
       subst hVN;go_wp2_with fail
       refine (wB _ _).mono ?_;rintro e w' ⟨rfl,hw⟩;obtain rfl:=hw.symm;clear hw;unfold two;go_wp2;go_ret2;exact⟨rfl,α _ _⟩
theorem aHO {s0 s1 A2 A3:ByteArray} {w:Z} (hs:s0.size<=9223372036854775807) (hs1:s1.size<=9223372036854775807) (h1:0 < s0.size) (hb:((((s0[0]'h1).toNat:Nat):Int)==45)=Y) (he:s0.extract 1 s0.size=s1)
  (G1:∀u:Z,CW 238 #[.string A2,.int .i64 1,.int .i64 12] u (.bool U))
  (p:Nat) (hp:p < s1.size) (hpt:((((s1[p]'hp).toNat:Nat):Int)==46)=Y) (hno:I (∀k (h:k < p),((((s1[k]'(Nat.lt_trans h hp)).toNat:Nat):Int)==46)=U)) (hA2:s1.extract 0 p=A2) (hA3:s1.extract (p+1) s1.size=A3):
  CR 198 #[.string s0] w (two (0,U)):=by
 go_enter Tryz.func198,Tryz.ntmps198;go_wp2;go_loop [5,6,7,8] (fun u5 u6 u7 u8=>∃k:Nat,k<=p/\u5=.string s1/\u6=.string ⟨#[]⟩/\u7=.bool U/\u8=.int .i64 k) (fun _ _ _ u8=>s1.size - (intOf u8).toNat)
 case atStart=>exact⟨0,O _,rfl,rfl,rfl,rfl⟩
 case round=>
  obtain⟨k,hk,rfl,rfl,rfl,rfl⟩:=hrel;by_cases hlt:k < p
  ·have hlt2:k < s1.size:=by omega
   have hq:=hno.out k hlt;go_wp2;go_round
   case rel=>exact⟨k+1,by omega,rfl,rfl,rfl,by go_num⟩
   case measure=>simp [intOf];omega
  ·obtain rfl:k=p:=by omega
   go_wp2;go_region
   go_wp2_with fail
   refine (G1 _).mono ?_;rintro e w' ⟨rfl,hw⟩;obtain rfl:=hw.symm;clear hw;go_wp2;go_ret2;exact⟨rfl,(α _ _).drew⟩
theorem aHP {s0 s1 A2 A3:ByteArray} {w:Z} (hs:s0.size<=9223372036854775807) (hs1:s1.size<=9223372036854775807) (h1:0 < s0.size) (hb:((((s0[0]'h1).toNat:Nat):Int)==45)=Y) (he:s0.extract 1 s0.size=s1)
  (G1:∀u:Z,CW 238 #[.string A2,.int .i64 1,.int .i64 12] u (.bool Y))
  (p:Nat) (hp:p < s1.size) (hpt:((((s1[p]'hp).toNat:Nat):Int)==46)=Y) (hno:I (∀k (h:k < p),((((s1[k]'(Nat.lt_trans h hp)).toNat:Nat):Int)==46)=U)) (hA2:s1.extract 0 p=A2) (hA3:s1.extract (p+1) s1.size=A3)
  (G2:∀u:Z,CW 238 #[.string A3,.int .i64 1,.int .i64 4] u (.bool U)):
  CR 198 #[.string s0] w (two (0,U)):=by
 go_enter Tryz.func198,Tryz.ntmps198;go_wp2;go_loop [5,6,7,8] (fun u5 u6 u7 u8=>∃k:Nat,k<=p/\u5=.string s1/\u6=.string ⟨#[]⟩/\u7=.bool U/\u8=.int .i64 k) (fun _ _ _ u8=>s1.size - (intOf u8).toNat)
 case atStart=>exact⟨0,O _,rfl,rfl,rfl,rfl⟩
 case round=>
  obtain⟨k,hk,rfl,rfl,rfl,rfl⟩:=hrel;by_cases hlt:k < p
  ·have hlt2:k < s1.size:=by omega
   have hq:=hno.out k hlt;go_wp2;go_round
   case rel=>exact⟨k+1,by omega,rfl,rfl,rfl,by go_num⟩
   case measure=>simp [intOf];omega
  ·obtain rfl:k=p:=by omega
   go_wp2;go_region
   go_wp2_with fail
   refine (G1 _).mono ?_;rintro e w' ⟨rfl,hw⟩;obtain rfl:=hw.symm;clear hw;go_wp2_with fail
   refine (G2 _).mono ?_;rintro e w' ⟨rfl,hw⟩;obtain rfl:=hw.symm;clear hw;go_wp2;go_ret2;exact⟨rfl,(α _ _).drew⟩
theorem aHQ {s0 s1 A2 A3:ByteArray} {w:Z} (hs:s0.size<=9223372036854775807) (hs1:s1.size<=9223372036854775807) (h1:0 < s0.size) (hb:((((s0[0]'h1).toNat:Nat):Int)==45)=Y) (he:s0.extract 1 s0.size=s1)
  (G1:∀u:Z,CW 238 #[.string A2,.int .i64 1,.int .i64 12] u (.bool Y))
  (p:Nat) (hp:p < s1.size) (hpt:((((s1[p]'hp).toNat:Nat):Int)==46)=Y) (hno:I (∀k (h:k < p),((((s1[k]'(Nat.lt_trans h hp)).toNat:Nat):Int)==46)=U)) (hA2:s1.extract 0 p=A2) (hA3:s1.extract (p+1) s1.size=A3)
  (G2:∀u:Z,CW 238 #[.string A3,.int .i64 1,.int .i64 4] u (.bool Y))
  (LR:List UInt8) (V:Nat) (hW:1<=A2.size/\A2.size<=12) (h3:A3.size<=4) (hLR:I (A3=⟨LR.toArray⟩))
  (hB:I (∀t:ByteArray,t.size=4->(∃j,t=⟨(LR++M j 48).toArray⟩)->(A2++t).size<=16/\(A2++t).data.toList.all isD=Y/\dJ (A2++t).data.toList=V)) (hV:V < 10000000000000000):
  CR 198 #[.string s0] w (two (ans (-(V:Int)))):=by
 go_enter Tryz.func198,Tryz.ntmps198;go_wp2;go_loop [5,6,7,8] (fun u5 u6 u7 u8=>∃k:Nat,k<=p/\u5=.string s1/\u6=.string ⟨#[]⟩/\u7=.bool U/\u8=.int .i64 k) (fun _ _ _ u8=>s1.size - (intOf u8).toNat)
 case atStart=>exact⟨0,O _,rfl,rfl,rfl,rfl⟩
 case round=>
  obtain⟨k,hk,rfl,rfl,rfl,rfl⟩:=hrel;by_cases hlt:k < p
  ·have hlt2:k < s1.size:=by omega
   have hq:=hno.out k hlt;go_wp2;go_round
   case rel=>exact⟨k+1,by omega,rfl,rfl,rfl,by go_num⟩
   case measure=>simp [intOf];omega
  ·obtain rfl:k=p:=by omega
   go_wp2;go_region
   go_wp2_with fail
   refine (G1 _).mono ?_;rintro e w' ⟨rfl,hw⟩;obtain rfl:=hw.symm;clear hw;go_wp2_with fail
   refine (G2 _).mono ?_;rintro e w' ⟨rfl,hw⟩;obtain rfl:=hw.symm;clear hw;go_wp2;go_loop [6] (fun u6=>∃t:ByteArray,u6=.string t/\t.size<=4/\I (∃j,t=⟨(LR++M j 48).toArray⟩)) (fun u6=>4 - lenOf u6)
   case atStart=>exact⟨_,rfl,h3,0,by rw [hLR.out];simp⟩
   case round=>
    obtain⟨t,rfl,ht,hH⟩:=hrel;by_cases h4:t.size < 4
    ·have g4:(t.size:Int) < 4:=by omega
     have hS:(t++(⟨#[48]⟩:ByteArray)).size=t.size+1:=by rw [S];rfl
     have hone:(⟨#[48]⟩:ByteArray).size=1:=rfl;have HN:I (∃j,t++⟨#[48]⟩=⟨(LR++M j 48).toArray⟩):=rU t LR hH.out;go_wp2;go_round
     case rel=>exact⟨_,rfl,by omega,HN.out⟩
     case measure=>simp [lenOf,hS];omega
    ·have g4:¬(t.size:Int) < 4:=by omega
     have hb:=hB.out t (by omega) hH.out;have hBt:=hb.1;have HB2:I ((A2++t).data.toList.all isD=Y/\dJ (A2++t).data.toList=V):=hb.2;clear hb;have hsum:A2.size+t.size<=16:=by rw [S] at hBt;exact hBt
     obtain⟨B,hBe⟩:∃B:ByteArray,A2++t=B:=⟨_,rfl⟩
     rw [hBe] at hBt HB2;go_wp2;go_loop [9,11] (fun u9 u11=>∃k N:Nat,u9=.int .i64 N/\u11=.int .i64 k/\k<=B.size/\N < 10000000000000000/\I (N=dJ (B.data.toList.take k))) (fun _ u11=>B.size - (intOf u11).toNat)
     case atStart=>exact⟨0,0,rfl,rfl,O _,by omega,rfl⟩
     case round=>
      obtain⟨k,N,rfl,rfl,hk,hN,hH2⟩:=hrel;by_cases hlt:k < B.size
      ·have hd:=uH B k hlt HB2.out.1;simp only [isD,K,decide_eq_true_eq] at hd;have hst:I (N * 10+((B[k]'hlt).toNat - 48)=dJ (B.data.toList.take (k+1))):=by show _=_;rw [rV B k hlt,<-hH2.out]
       have hbd:N * 10+((B[k]'hlt).toNat - 48) < 10000000000000000:=by rw [hst.out];have h1:=kY _ (rW _ (k+1) HB2.out.1);have h2:=aFb (B.data.toList.take (k+1)).length (by have:=aX B;simp;omega);omega
       generalize hc:(B[k]'hlt).toNat=c at *;go_wp2;go_round
       case rel=>exact⟨k+1,N * 10+(c - 48),by go_num,by go_num,by omega,hbd,hst.out⟩
       case measure=>simp [intOf];omega
      ·have hVN:N=V:=by rw [hH2.out,β (by rw [aX];omega)];exact HB2.out.2
       subst hVN;go_wp2_with fail
       refine (wB _ _).mono ?_;rintro e w' ⟨rfl,hw⟩;obtain rfl:=hw.symm;clear hw;unfold two;go_wp2;go_ret2;exact⟨rfl,(α _ _).drew⟩
end Go.Proofs.YtfedoljlipfhdaaGreatDoor
