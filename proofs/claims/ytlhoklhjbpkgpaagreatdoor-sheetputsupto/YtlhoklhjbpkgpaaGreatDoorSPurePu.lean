/- ARParseRefQ, ARParseRef2, TPure, TMem, TRune, TTake, TSkip, TFault, TOp, TLaid, SPure. -/
import Derived.Deep.MidRow
import Derived.Deep.WholeRow
import Derived.Handed
import Derived.HandedShaped
import Derived.LaidMore
import Derived.LaidSub
import Derived.Laws.EntriesVeiled
import Derived.Laws.ResultCell
import Derived.Laws.Rows
import Derived.Lay
import Derived.Lib.BufferOwn
import Derived.Lib.SmallJoins
import Derived.Maps.AppendAt
import Derived.Maps.Range
import Derived.OpenShut
import Derived.ProofKit
import Derived.Stop.Joined
import Derived.Stop.LaidErr
import Derived.Test.YtlhoklhjbpkgpaaGreatDoorRows
import Derived.Test.YtlhoklhjbpkgpaaGreatDoorARParseRefPPu
set_option linter.unusedVariables false
set_option linter.unusedSimpArgs false
set_option maxHeartbeats 16000000
set_option maxRecDepth 100000
namespace Go.Proofs.YtlhoklhjbpkgpaaGreatDoor
open Go.RowKit
section
variable {S B S1 SH S2:ByteArray} {w:World}
theorem aDS (hq:(S.size=0)\/∃hz:0 < S.size,((S[0].toNat:Int)==91)=false) (IY:CS 269 #[.string S,.int .u8 33] (.int .i64 (-1))) {b s:ByteArray} {r c:Int} {fr fc:Bool} (PC:CB w 242 #[.string S] (.tuple #[dB b s r c fr fc,.bool false])):
  CR 241 #[.string S] w (.tuple #[gD,.bool false]):=by
 have hq':(¬(0:Int) < S.size)\/∃hz:0 < S.size,(0:Int) < S.size/\((S[0].toNat:Int)==91)=false:=by
  rcases hq with h | ⟨h,g⟩
  ·exact .inl (by omega)
  ·exact .inr ⟨h,by omega,g⟩
 clear hq;have HB0:Hid (Below w.heap.size w (w.alloc aT)):=aD (Below.refl _ _) _;have Z0:Hid ((w.alloc aT).heap[w.heap.size]? =some aT):=heap_alloc_new w _;rcases hq' with h | ⟨hz,h,h'⟩
 ·go_enter Tryz.func241,Tryz.ntmps241;go_wp2_with (go_at_call 269;refine mw (IY _) ?_)
  refine (PC _ HB0.out).mono ?_;rintro e w4 ⟨rfl,hb⟩;have z4:=(hb.block _ (aZ Z0.out)).trans Z0.out;have HB4:Hid (Below w.heap.size w (w4.alloc (dP b s r c fr fc))):=aD (aF HB0.out hb) _;have Z4:Hid ((w4.alloc (dP b s r c fr fc)).heap[w.heap.size]? =some aT):=gW z4 _;obtain⟨d0,d1,d2,d3,d4,d5⟩:=aS Z4.out;obtain⟨e0,e1,e2,e3,e4,e5⟩:=aW Z4.out;clear z4 hb;go_wp2;exact bodyPost_ret (bF rfl rfl (gT Z4.out) rfl) rfl ⟨rfl,bB HB4.out (Nat.le_refl _)⟩
 ·go_enter Tryz.func241,Tryz.ntmps241;go_wp2_with (go_at_call 269;refine mw (IY _) ?_)
  refine (PC _ HB0.out).mono ?_;rintro e w4 ⟨rfl,hb⟩;have z4:=(hb.block _ (aZ Z0.out)).trans Z0.out;have HB4:Hid (Below w.heap.size w (w4.alloc (dP b s r c fr fc))):=aD (aF HB0.out hb) _;have Z4:Hid ((w4.alloc (dP b s r c fr fc)).heap[w.heap.size]? =some aT):=gW z4 _;obtain⟨d0,d1,d2,d3,d4,d5⟩:=aS Z4.out;obtain⟨e0,e1,e2,e3,e4,e5⟩:=aW Z4.out;clear z4 hb;go_wp2;exact bodyPost_ret (bF rfl rfl (gT Z4.out) rfl) rfl ⟨rfl,bB HB4.out (Nat.le_refl _)⟩
theorem aCs (hq:(S.size=0)\/∃hz:0 < S.size,((S[0].toNat:Int)==91)=false) (IY:CS 269 #[.string S,.int .u8 33] (.int .i64 (-1))) {b s:ByteArray} {r c:Int} {fr fc:Bool} (PC:CB w 242 #[.string S] (.tuple #[dB b s r c fr fc,.bool true])):
  CR 241 #[.string S] w (.tuple #[dB ⟨#[]⟩ ⟨#[]⟩ r c fr fc,.bool true]):=by
 have hq':(¬(0:Int) < S.size)\/∃hz:0 < S.size,(0:Int) < S.size/\((S[0].toNat:Int)==91)=false:=by
  rcases hq with h | ⟨h,g⟩
  ·exact .inl (by omega)
  ·exact .inr ⟨h,by omega,g⟩
 clear hq;have HB0:Hid (Below w.heap.size w (w.alloc aT)):=aD (Below.refl _ _) _;have Z0:Hid ((w.alloc aT).heap[w.heap.size]? =some aT):=heap_alloc_new w _;rcases hq' with h | ⟨hz,h,h'⟩
 ·go_enter Tryz.func241,Tryz.ntmps241;go_wp2_with (go_at_call 269;refine mw (IY _) ?_)
  refine (PC _ HB0.out).mono ?_;rintro e w4 ⟨rfl,hb⟩;have z4:=(hb.block _ (aZ Z0.out)).trans Z0.out;have HB4:Hid (Below w.heap.size w (w4.alloc (dP ⟨#[]⟩ ⟨#[]⟩ r c fr fc))):=aD (aF HB0.out hb) _;have Z4:Hid ((w4.alloc (dP ⟨#[]⟩ ⟨#[]⟩ r c fr fc)).heap[w.heap.size]? =some aT):=gW z4 _;obtain⟨d0,d1,d2,d3,d4,d5⟩:=aS Z4.out;obtain⟨e0,e1,e2,e3,e4,e5⟩:=aW Z4.out;clear z4 hb;go_wp2;exact bodyPost_ret (bF rfl rfl (gT Z4.out) rfl) rfl ⟨rfl,bB HB4.out (Nat.le_refl _)⟩
 ·go_enter Tryz.func241,Tryz.ntmps241;go_wp2_with (go_at_call 269;refine mw (IY _) ?_)
  refine (PC _ HB0.out).mono ?_;rintro e w4 ⟨rfl,hb⟩;have z4:=(hb.block _ (aZ Z0.out)).trans Z0.out;have HB4:Hid (Below w.heap.size w (w4.alloc (dP ⟨#[]⟩ ⟨#[]⟩ r c fr fc))):=aD (aF HB0.out hb) _;have Z4:Hid ((w4.alloc (dP ⟨#[]⟩ ⟨#[]⟩ r c fr fc)).heap[w.heap.size]? =some aT):=gW z4 _;obtain⟨d0,d1,d2,d3,d4,d5⟩:=aS Z4.out;obtain⟨e0,e1,e2,e3,e4,e5⟩:=aW Z4.out;clear z4 hb;go_wp2;exact bodyPost_ret (bF rfl rfl (gT Z4.out) rfl) rfl ⟨rfl,bB HB4.out (Nat.le_refl _)⟩
end
theorem xZ (l:List UInt8) (c:UInt8) (hl:l.length<=140737488355328):CS 269 #[.string ⟨l.toArray⟩,.int .u8 (c.toNat:Nat)] (.int .i64 (wN c l)):=fun u=>aIl ⟨l.toArray⟩ c (by rw [size_mk];omega) u
theorem yA {c:UInt8} {l:List UInt8} (h:Ad.at_ c l=none):wN c l= -1:=by unfold wN;rw [h]
theorem yB {c:UInt8} {l a b:List UInt8} (h:Ad.at_ c l=some (a,b)):wN c l=(a.length:Nat):=by unfold wN;rw [h]
theorem yC (a b:List UInt8) (c:UInt8):(⟨(a++c:: b).toArray⟩:ByteArray).extract 0 a.length=⟨a.toArray⟩/\(⟨(a++c:: b).toArray⟩:ByteArray).extract (a.length+1) (⟨(a++c:: b).toArray⟩:ByteArray).size=⟨b.toArray⟩:=by
 constructor
 ·apply ByteArray.ext;simp
 ·apply ByteArray.ext;rw [size_mk];simp;exact List.take_of_length_le (by omega)
theorem aIp (l:List UInt8) (hl:l.length<=140737488355328) (w:World):CB w 48 #[.string ⟨l.toArray⟩] (.bool (gnF l)):=fun u hu=>gV ⟨l.toArray⟩ (by rw [size_mk];omega) u
theorem qF (l:List UInt8) (hl:l.length<=140737488355328) (w:World):
  CR 241 #[.string ⟨l.toArray⟩] w (.tuple #[aMT (Ad.lY gnF l),.bool (Ad.lY gnF l).isSome]):=by
 have plain:∀(hq:((⟨l.toArray⟩:ByteArray).size=0)\/∃hz:0 < (⟨l.toArray⟩:ByteArray).size,(((⟨l.toArray⟩:ByteArray)[0].toNat:Int)==91)=false),CR 241 #[.string ⟨l.toArray⟩] w (.tuple #[aMT (Ad.jC gnF [] l),.bool (Ad.jC gnF [] l).isSome]):=fun hq=>by
  have IY:=xZ l 33 hl;unfold Ad.jC;cases h:Ad.at_ 33 l with
  | none=>
   rw [yA h] at IY;have PC:CB w 242 #[.string ⟨l.toArray⟩] _:=fun u hu=>gH l hl u;simp only;cases hc:Ad.cellP l with
   | none=>rw [hc] at PC;exact aDS hq IY PC
   | some c=>rw [hc] at PC;exact aCs hq IY PC
  | some p=>
   obtain⟨a,x⟩:=p;have e:=(Ad.iL h).1;have hlen:=jS h;rw [yB h] at IY;obtain⟨x1,x2⟩:=yC a x 33;rw [<-e] at x1 x2;have GS:=aIp a (by omega) w;have PC:CB w 242 #[.string ⟨x.toArray⟩] _:=fun u hu=>gH x (by omega) u;have q1:a.length<=(⟨l.toArray⟩:ByteArray).size:=by rw [size_mk];omega
   have q2:a.length+1<=(⟨l.toArray⟩:ByteArray).size:=by rw [size_mk];omega
   have q3:(⟨l.toArray⟩:ByteArray).size<=9223372036854775807:=by rw [size_mk];omega
   simp only;cases hg:gnF a
   ·rw [hg] at GS;simp only [Bool.false_eq_true,if_false];exact aA7 hq IY q1 rfl q2 q3 x1 x2 GS
   ·rw [hg] at GS;simp only [if_true];cases hc:Ad.cellP x with
    | none=>rw [hc] at PC;exact aCr hq IY q1 rfl q2 q3 x1 x2 GS PC
    | some c=>rw [hc] at PC;exact aA8 hq IY q1 rfl q2 q3 x1 x2 GS PC
 cases l with
 | nil=>exact plain (.inl rfl)
 | cons c m=>
  have e0:(⟨(c:: m).toArray⟩:ByteArray)[0]'(by rw [size_mk];simp)=c:=rfl;have hz:0 < (⟨(c:: m).toArray⟩:ByteArray).size:=by rw [size_mk];simp
  rcases eG c 91 with ⟨h1,h2⟩ | ⟨h1,h2⟩
  ·subst h1;clear plain;simp only [List.length_cons] at hl;have IX:=xZ (91:: m) 93 (by simp;omega);have e1:Ad.lY gnF (91:: m)=match Ad.at_ 93 m with
    | none=>none
    | some (a,r)=>if gnF a=true/\(Ad.at_ 33 r).isSome=true then Ad.jC gnF a r else none:=rfl
   rw [e1];have e9:=kP (c:=93) (x:=91) (r:=m) (by decide);cases h9:Ad.at_ 93 m with
   | none=>
    rw [h9] at e9;rw [yA e9] at IX;exact aDO hz h2 IX
   | some p=>
    obtain⟨a,r⟩:=p;rw [h9] at e9;rw [yB (a:=91:: a) (b:=r) e9] at IX;have e:=(Ad.iL h9).1;have hlen:=jS h9;obtain⟨x1,x2⟩:=yC (91:: a) r 93;have ex:(91:UInt8):: m=(91:: a)++93:: r:=by rw [e];rfl
    rw [<-ex] at x1 x2;have q1:(91:: a).length<=(⟨(91:: m).toArray⟩:ByteArray).size:=by rw [size_mk];simp;omega
    have q2:(91:: a).length+1<=(⟨(91:: m).toArray⟩:ByteArray).size:=by rw [size_mk];simp;omega
    have q3:(⟨(91:: m).toArray⟩:ByteArray).size<=9223372036854775807:=by rw [size_mk];simp;omega
    have hB:(⟨(91:: m).toArray⟩:ByteArray).extract 1 (91:: a).length=⟨a.toArray⟩:=by apply ByteArray.ext;rw [e];simp
    have GB:=aIp a (by omega) w;simp only;cases hg:gnF a
    ·rw [hg] at GB;simp only [Bool.false_eq_true,false_and,if_false];exact aDP hz h2 IX (by simp) q1 hB GB
    ·rw [hg] at GB;simp only [true_and];have IY:=xZ r 33 (by omega);cases h3:Ad.at_ 33 r with
     | none=>
      rw [yA h3] at IY;rw [if_neg (by simp)];exact aDQ hz h2 IX (by simp) q1 rfl q2 q3 hB x2 GB IY
     | some p=>
      obtain⟨s,x⟩:=p;rw [if_pos (by simp)];unfold Ad.jC;rw [h3];have e3:=(Ad.iL h3).1;have hlen3:=jS h3;rw [yB h3] at IY;obtain⟨y1,y2⟩:=yC s x 33;rw [<-e3] at y1 y2;have GS:=aIp s (by omega) w;have PC:CB w 242 #[.string ⟨x.toArray⟩] _:=fun u hu=>gH x (by omega) u;have j1:s.length<=(⟨r.toArray⟩:ByteArray).size:=by rw [size_mk];omega
      have j2:s.length+1<=(⟨r.toArray⟩:ByteArray).size:=by rw [size_mk];omega
      have j3:(⟨r.toArray⟩:ByteArray).size<=9223372036854775807:=by rw [size_mk];omega
      simp only;cases hg2:gnF s
      ·rw [hg2] at GS;simp only [Bool.false_eq_true,if_false];exact aCp hz h2 IX (by simp) q1 rfl q2 q3 hB x2 GB IY j1 rfl j2 j3 y1 y2 GS
      ·rw [hg2] at GS;simp only [if_true];cases hc:Ad.cellP x with
       | none=>rw [hc] at PC;exact aDR hz h2 IX (by simp) q1 rfl q2 q3 hB x2 GB IY j1 rfl j2 j3 y1 y2 GS PC
       | some c=>rw [hc] at PC;exact aCq hz h2 IX (by simp) q1 rfl q2 q3 hB x2 GB IY j1 rfl j2 j3 y1 y2 GS PC
  ·rw [Ad.xC (by simpa using h1)];exact plain (.inr ⟨hz,h2⟩)
end Go.Proofs.YtlhoklhjbpkgpaaGreatDoor
namespace Go.Tk
open Go.Ad
def aQ (c:UInt8):Bool:=isL c || isD c || c==95 || c==36
def cB (c:UInt8):Bool:=isD c || c==46
abbrev Tok:=Sum Int (Sum (List UInt8) (Sum Ref (Sum (List UInt8 × List UInt8) (Sum (List UInt8) Nat))))
abbrev Tok.num (n:Int):Tok:=.inl n
abbrev Tok.str (s:List UInt8):Tok:=.inr (.inl s)
abbrev Tok.ref (r:Ref):Tok:=.inr (.inr (.inl r))
abbrev Tok.word (b s:List UInt8):Tok:=.inr (.inr (.inr (.inl (b,s))))
abbrev Tok.op (s:List UInt8):Tok:=.inr (.inr (.inr (.inr (.inl s))))
abbrev Tok.bad (n:Nat):Tok:=.inr (.inr (.inr (.inr (.inr n))))
theorem Tok.cs {motive:Tok->Prop} (num:∀n,motive (Tok.num n)) (str:∀s,motive (Tok.str s)) (ref:∀r,motive (Tok.ref r)) (word:∀b s,motive (Tok.word b s)) (op:∀s,motive (Tok.op s)) (bad:∀n,motive (Tok.bad n)) (t:Tok):motive t:=by
 rcases t with n | s | r | ⟨b,s⟩ | s | n
 ·exact num n
 ·exact str s
 ·exact ref r
 ·exact word b s
 ·exact op s
 ·exact bad n
def bX:List UInt8->Option (List UInt8 × List UInt8)
 | []=>none
 | [c]=>if c=34 then some ([],[]) else none
 | c:: d:: r=>if c=34 then (if d=34 then (bX r).map fun p=>(34:: p.1,p.2) else some ([],d:: r)) else (bX (d:: r)).map fun p=>(c:: p.1,p.2)
def aDT:List UInt8->List UInt8
 | []=> [34]
 | c:: r=>if c=34 then 34:: 34:: aDT r else c:: aDT r
def dX:Nat->List UInt8
 | 1=> [35,68,73,86,47,48,33]
 | 2=> [35,86,65,76,85,69,33]
 | 3=> [35,82,69,70,33]
 | 4=> [35,78,65,77,69,63]
 | 5=> [35,78,85,77,33]
 | 6=> [35,78,47,65]
 | 7=> [35,67,89,67,76,69,33]
 | 8=> [35,76,73,78,75,33]
 | _=> []
def qC (l:List UInt8):Option (Tok × List UInt8):=([1,2,3,4,5,6,7,8].find? fun i=>(dX i).isPrefixOf l).map fun i=>(.bad i,l.drop (dX i).length)
def ones:List UInt8:=[43,45,42,47,94,38,61,60,62,37,40,41,44,58]
def two (c d:UInt8):Bool:=(c==60 && d==62) || (c==60 && d==61) || (c==62 && d==61)
def opF:List UInt8->Option (Tok × List UInt8)
 | []=>none
 | [c]=>if c ∈ ones then some (.op [c],[]) else none
 | c:: d:: r=>if two c d=true then some (.op [c,d],r) else if c ∈ ones then some (.op [c],d:: r) else none
section
variable (gn tru:List UInt8->Bool) (pn:List UInt8->Option Int) (wn:Int->List UInt8)
def gI (b pre l:List UInt8):Option (Tok × List UInt8):=
 match l.dropWhile aQ with
 | 33:: r=>(lY gn (pre++l.takeWhile aQ++33:: r.takeWhile aQ)).map fun x=>(.ref x,r.dropWhile aQ)
 | r=>if b=[] then (match cellP (l.takeWhile aQ) with
   | some c=>some (.ref ⟨[],[],c⟩,r)
   | none=>if gn (l.takeWhile aQ)=true\/tru (l.takeWhile aQ)=true then some (.word [] (l.takeWhile aQ),r) else none)
  else if gn (l.takeWhile aQ)=true then some (.word b (l.takeWhile aQ),r) else none
def named (l:List UInt8):Option (Tok × List UInt8):=
 match l with
 | 91:: m=>match at_ 93 m with
  | none=>none
  | some (a,r)=>if gn a=true then gI gn tru a (91:: (a++ [93])) r else none
 | l=>gI gn tru [] [] l
def one (l:List UInt8):Option (Tok × List UInt8):=
 match l with
 | []=>none
 | c:: r=>
  if isD c=true then (pn ((c:: r).takeWhile cB)).map fun n=>(.num n,(c:: r).dropWhile cB)
  else if c=34 then (bX r).map fun p=>(.str p.1,p.2)
  else if c=35 then qC (c:: r)
  else if c=91\/c=36\/isL c=true then named gn tru (c:: r)
  else opF (c:: r)
def blank (c:UInt8):Bool:=c==32 || c==9
def nY:Nat->List UInt8->Option (List Tok)
 | 0,_=>none
 | _+1,[]=>some []
 | k+1,c:: r=>if blank c=true then nY k r else match one gn tru pn (c:: r) with
  | none=>none
  | some (t,m)=>(nY k m).map (t:: ·)
def text:Tok->List UInt8
 | .inl n=>wn n
 | .inr (.inl s)=>34:: aDT s
 | .inr (.inr (.inl r))=>aKv r
 | .inr (.inr (.inr (.inl (b,s))))=>if b=[] then s else 91:: (b++93:: s)
 | .inr (.inr (.inr (.inr (.inl s))))=>s
 | .inr (.inr (.inr (.inr (.inr n))))=>dX n
end
theorem aA9:∀(k:Nat) (l s r:List UInt8),l.length<=k->bX l=some (s,r)->r.length < l.length
 | 0,l,s,r,hk,h=>by have:l=[]:=List.eq_nil_of_length_eq_zero (by omega);subst this;cases h
 | k+1,[],s,r,hk,h=>by cases h
 | k+1,[c],s,r,hk,h=>by
  unfold bX at h;split at h
  ·cases h;simp
  ·cases h
 | k+1,c:: d:: l,s,r,hk,h=>by
  unfold bX at h;simp only [List.length_cons] at hk ⊢;split at h
  ·split at h
   ·cases hq:bX l with
    | none=>rw [hq] at h;cases h
    | some p=>
     rw [hq] at h;cases h
     have:=aA9 k l p.1 p.2 (by omega) hq;omega
   ·cases h;simp
  ·cases hq:bX (d:: l) with
   | none=>rw [hq] at h;cases h
   | some p=>
    rw [hq] at h;cases h
    have:=aA9 k (d:: l) p.1 p.2 (by simp only [List.length_cons];omega) hq;simp only [List.length_cons] at this;omega
theorem lH (p:UInt8->Bool):∀l:List UInt8,(l.dropWhile p).length<=l.length
 | []=>Nat.le_refl _
 | c:: r=>by
  rw [List.dropWhile_cons];split
  ·have:=lH p r;simp only [List.length_cons];omega
  ·exact Nat.le_refl _
theorem aE4 (p:UInt8->Bool) {c:UInt8} {r:List UInt8} (h:p c=true):((c:: r).dropWhile p).length < (c:: r).length:=by rw [List.dropWhile_cons,if_pos h];have:=lH p r;simp only [List.length_cons];omega
theorem aKM {l:List UInt8} {t:Tok} {r:List UInt8} (h:qC l=some (t,r)):r.length < l.length:=by
 unfold qC at h;cases hf: [1,2,3,4,5,6,7,8].find? fun i=>(dX i).isPrefixOf l with
 | none=>rw [hf] at h;cases h
 | some i=>
  rw [hf] at h;cases h
  have h1:=List.find?_some hf;have h2:=List.mem_of_find?_eq_some hf;have h3:0 < (dX i).length/\(dX i).length<=l.length:=by have:=List.IsPrefix.length_le (List.isPrefixOf_iff_prefix.1 h1);refine ⟨?_,this⟩;simp only [List.mem_cons,List.not_mem_nil,or_false] at h2;rcases h2 with rfl | rfl | rfl | rfl | rfl | rfl | rfl | rfl <;> decide
  rw [List.length_drop];omega
theorem aMX {l:List UInt8} {t:Tok} {r:List UInt8} (h:opF l=some (t,r)):r.length < l.length:=by
 match l,h with
 | [],h=>cases h
 | [c],h=>
  simp only [opF] at h;split at h
  ·cases h;simp
  ·cases h
 | c:: d:: m,h=>
  simp only [opF] at h;split at h
  ·cases h;simp;omega
  ·split at h
   ·cases h;simp
   ·cases h
theorem xL {gn tru:List UInt8->Bool} {b pre l:List UInt8} {t:Tok} {r:List UInt8} (h:gI gn tru b pre l=some (t,r)):r.length<=l.length:=by
 have hd:=lH aQ l;unfold gI at h;split at h
 ·rename_i m hm
  rw [hm] at hd;cases hr:lY gn (pre++l.takeWhile aQ++33:: m.takeWhile aQ) with
  | none=>rw [hr] at h;cases h
  | some x=>
   rw [hr] at h;cases h
   have:=lH aQ m;simp only [List.length_cons] at hd;omega
 ·split at h
  ·split at h
   ·cases h;exact hd
   ·split at h
    ·cases h;exact hd
    ·cases h
  ·split at h
   ·cases h;exact hd
   ·cases h
structure aPS (gn tru:List UInt8->Bool) (pn:List UInt8->Option Int) (wn:Int->List UInt8) (okN:Int->Prop):Prop where
 names:Names gn
 first:∀c r,gn (c:: r)=true->isL c=true
 signs:∀l,gn l=true->∀x ∈ l,aQ x=true
 aOT:∀l,gn l=true->cellP l=none
 truth:∀l,tru l=true->l ≠ []/\(∀x ∈ l,isL x=true)/\cellP l=none
 number:∀n,okN n->pn (wn n)=some n/\(∃c r,wn n=c:: r/\isD c=true)/\∀x ∈ wn n,cB x=true
section
variable (gn tru:List UInt8->Bool) (okN:Int->Prop)
def okT:Tok->Prop
 | .inl n=>okN n
 | .inr (.inl _)=>True
 | .inr (.inr (.inl r))=>aMs gn r
 | .inr (.inr (.inr (.inl (b,s))))=>(b=[]/\(gn s=true\/tru s=true))\/(gn b=true/\gn s=true)
 | .inr (.inr (.inr (.inr (.inl s))))=>(∃c,c ∈ ones/\s=[c])\/(∃c d,two c d=true/\s=[c,d])
 | .inr (.inr (.inr (.inr (.inr n))))=>1<=n/\n<=8
end
theorem aKN {c:UInt8} (h:isL c=true):aQ c=true:=by unfold aQ;rw [h];rfl
theorem aIq {c:UInt8} (h:isL c=true):isD c=false/\c ≠ 34/\c ≠ 35/\c ≠ 91:=by
 unfold isL at h;simp only [Bool.or_eq_true,Bool.and_eq_true,decide_eq_true_eq] at h;refine ⟨?_, ?_, ?_, ?_⟩
 ·unfold isD;rw [Bool.and_eq_false_iff,decide_eq_false_iff_not,decide_eq_false_iff_not];omega
 ·rintro rfl;revert h;decide
 ·rintro rfl;revert h;decide
 ·rintro rfl;revert h;decide
section
variable {gn tru:List UInt8->Bool} {pn:List UInt8->Option Int} {wn:Int->List UInt8} {okN:Int->Prop}
theorem aAu {c:UInt8} {r:List UInt8} (h:c=36\/isL c=true):one gn tru pn (c:: r)=gI gn tru [] [] (c:: r):=by
 have hd:isD c=false/\c ≠ 34/\c ≠ 35/\c ≠ 91:=by
  rcases h with rfl | h
  ·decide
  ·exact aIq h
 unfold one;simp only;rw [if_neg (by rw [hd.1];decide),if_neg hd.2.1,if_neg hd.2.2.1,if_pos (.inr h)];unfold named;split
 ·rename_i m he
  simp only [List.cons.injEq] at he;exact absurd he.1 hd.2.2.2
 ·rfl
end
end Go.Tk
namespace Go.Proofs.YtlhoklhjbpkgpaaGreatDoor
open Go.RowKit
structure TT where
 k:Int
 n:Int
 s:ByteArray
 b:ByteArray
 h:ByteArray
 r:Int
 c:Int
 fr:Bool
 fc:Bool
abbrev tcs (k n:Int) (s b h:ByteArray) (r c:Int) (fr fc:Bool):Array Value:=#[.int .i64 k,.int .i64 n,.string s,.string b,.string h,.int .i64 r,.int .i64 c,.bool fr,.bool fc]
def TT.cs (t:TT):Array Value:=tcs t.k t.n t.s t.b t.h t.r t.c t.fr t.fc
abbrev ba (l:List UInt8):ByteArray:=⟨l.toArray⟩
abbrev noB:ByteArray:=⟨#[]⟩
def tk:Tk.Tok->TT
 | .inl n=>⟨1,n,noB,noB,noB,0,0,false,false⟩
 | .inr (.inl s)=>⟨2,0,ba s,noB,noB,0,0,false,false⟩
 | .inr (.inr (.inl r))=>⟨3,0,noB,ba r.book,ba r.eP,r.cell.row,r.cell.col,r.cell.fr,r.cell.fc⟩
 | .inr (.inr (.inr (.inl (b,s))))=>⟨4,0,ba s,ba b,noB,0,0,false,false⟩
 | .inr (.inr (.inr (.inr (.inl s))))=>⟨5,0,ba s,noB,noB,0,0,false,false⟩
 | .inr (.inr (.inr (.inr (.inr n))))=>⟨6,n,noB,noB,noB,0,0,false,false⟩
abbrev tk0:Array Value:=tcs 0 0 noB noB noB 0 0 false false
theorem nZ:(Tryz.prog.info? 156).map (·.size)=some 9:=by kernel_rfl
theorem uP:(Tryz.prog.info? 188).map (·.size)=some 9:=by kernel_rfl
theorem sto {w:World} {g:Nat} {t:TypeId} {zs es:Array Value} (hg:w.heap[g]? =some (.cells zs t (0,0))) (hi:(Tryz.prog.info? t).map (·.size)=some es.size) (hz:zs.size=es.size) (h1:es.all (·.oneCell')=true):
  (Instr.storeAt t (pt g) (.agg es)).run Tryz.prog w=.ok () (w.setRow g es):=by
 have hr:=run_storeVar_row (P:=Tryz.prog) w g t t zs es hg hi (by omega) h1;simp only [Instr.storeAt,Instr.sureAddr,Sem.run_bind,Sem.run_pure,Result.andThen_ok,hr]
theorem lod {w:World} {g:Nat} {t:TypeId} {es:Array Value} {d:TypeDesc} {z:Nat × Nat} (hg:w.heap[g]? =some (.cells es t z)) (hd:(match d with | .struct _ | .array _ _=>true | _=>false)=true) (hu:Tryz.prog.underlying t=some d) (hi:(Tryz.prog.info? t).map (·.size)=some es.size):
  (Instr.loadAt t (pt g)).run Tryz.prog w=.ok (.agg es) w:=by
 have hr:=run_loadVar_row (P:=Tryz.prog) w g t t es z d hg hu (by cases d <;> simp_all) hi;simp only [Instr.loadAt,Instr.sureAddr,Sem.run_bind,Sem.run_pure,Result.andThen_ok,hr]
theorem aL (w:World) (g:Nat) (es:Array Value):w.grownBy (w.setRow g es) (some g):=
 ⟨rfl,rfl,rfl,by simp [World.setRow],fun i _ hi=>setRow_other w g i es (fun e=>hi (by rw [e]))⟩
theorem aC {P:Program} {ops:Array Oper} {rest:List Oper} {o:Oper} {a:Act} {w:World} {Q:Exit->Act->World->Prop} (hgd:o.guard=none) (ty:TypeId) (x:Operand) (ho:o.op=.load ty x)
  (p v:Value) (hx:a.eval x=p) (hrun:(Instr.loadAt ty p).run P w=.ok v w) (h:wpList P ops Q rest (a.put o.dst v) w):wpList P ops Q (o:: rest) a w:=by
 refine wpList_plain hgd fun K hK=> ?_;unfold Oper.wp execOp;simp only [ho,hx,Sem.run_bind,Sem.run_pure,hrun,Result.andThen_ok];exact hK _ _ h
theorem aB {P:Program} {ops:Array Oper} {rest:List Oper} {o:Oper} {a:Act} {w:World} {Q:Exit->Act->World->Prop} (hgd:o.guard=none) (ty:TypeId) (x y:Operand) (ho:o.op=.store ty x y)
  (p v:Value) (w':World) (hx:a.eval x=p) (hy:a.eval y=v) (hrun:(Instr.storeAt ty p v).run P w=.ok () w') (h:wpList P ops Q rest (a.put o.dst undef) w'):wpList P ops Q (o:: rest) a w:=by
 refine wpList_plain hgd fun K hK=> ?_;unfold Oper.wp execOp;simp only [ho,hx,hy,Sem.run_bind,Sem.run_pure,hrun,Result.andThen_ok];exact hK _ _ h
theorem kF {fn:Func} {p u:Tmp} {ty:TypeId} (h:fn.results=#[.cell p ty,.tmp u]) {tmps:Array Value} {w:World} {g:Nat} {t:TypeId} {cs:Array Value} {fr:Nat × Nat} {d:TypeDesc} {v2:Value}
  (hp:tmps.getD p undef=pt g) (hg:w.heap[g]? =some (.cells cs t fr))
  (hd:(match d with | .struct _ | .array _ _=>true | _=>false)=true) (hu:Tryz.prog.underlying ty=some d) (hi:(Tryz.prog.info? ty).map (·.size)=some cs.size) (hv:tmps.getD u undef=v2):
  (results fn tmps).run Tryz.prog w=.ok (.tuple #[.agg cs,v2]) w:=by
 rw [results_cell_tmp h,hp,hv];simp [asAddr,run_loadVar_row w g t ty cs fr d hg hu (by cases d <;> simp_all) hi,Result.andThen]
abbrev sM:Value:=.func (.func 149) #[] #[]
abbrev aNR (l:List UInt8):Obj:=.cells #[.string (ba l),sM] 184
structure dD (w:World):Prop where
 t:aAc w
 ops:∀i (h:i < 17),w.cell? ⟨0,i,none⟩=some (.string (ba ((([[60,62],[60,61],[62,61],[43],[45],[42],[47],[94],[38],[61],[60],[62],[37],[40],[41],[44],[58]]:List (List UInt8))[i]'h))))
 m:∃m,w.cell? ⟨2,0,none⟩=some (.int .i64 m)
theorem iN {w w':World} (hb:Below w.heap.size w w') {a:Addr} {v:Value} (h:w.cell? a=some v):w'.cell? a=some v:=
 (World.cell?_of_block (hb.block _ (World.block_lt_of_cell? w a h))).trans h
theorem dD.below {w w':World} (h:dD w) (hb:Below w.heap.size w w'):dD w':=
 ⟨h.t.below hb,fun i hi=>iN hb (h.ops i hi),h.m.imp fun m hm=>iN hb hm⟩
structure LX (W:World) (b:Nat) (l:List UInt8) (w:World):Prop where
 tab:dD W
 bel:Below W.heap.size W w
 lo:W.heap.size<=b
 blk:w.heap[b]? =some (aNR l)
theorem LX.lt {W w:World} {b:Nat} {l:List UInt8} (h:LX W b l w):b < w.heap.size:=aZ h.blk
theorem LX.t {W w:World} {b:Nat} {l:List UInt8} (h:LX W b l w):dD w:=h.tab.below h.bel
theorem LX.cells {W w:World} {b:Nat} {l:List UInt8} (h:LX W b l w):w.cell? ⟨b,0,none⟩=some (.string (ba l))/\w.cell? ⟨b,1,none⟩=some sM/\w.frozen? ⟨b,0,none⟩=false:=by simp [World.cell?,World.frozen?,h.blk]
theorem LX.grown {W w w':World} {b:Nat} {l:List UInt8} (h:LX W b l w) {row:Option Nat} (hg:w.grownBy w' row) (hr:∀k,row=some k->W.heap.size<=k/\k ≠ b):LX W b l w':=
 ⟨h.tab,h.bel.grown hg h.bel.size (fun k hk=>(hr k hk).1),h.lo,(hg.block b h.lt (fun e=>(hr b e.symm).2 rfl)).trans h.blk⟩
theorem LX.below {W w w':World} {b:Nat} {l:List UInt8} (h:LX W b l w) (hb:Below w.heap.size w w'):LX W b l w':=
 ⟨h.tab,aF h.bel (hb),h.lo,(hb.block b h.lt).trans h.blk⟩
theorem LX.alloc {W w:World} {b:Nat} {l:List UInt8} (h:LX W b l w) (o:Obj):LX W b l (w.alloc o):=h.below (aD (Below.refl _ _) o)
theorem LX.drew {W w:World} {b:Nat} {l:List UInt8} (h:LX W b l w):LX W b l w.drew:=⟨h.tab,h.bel.drew,h.lo,h.blk⟩
theorem LX.set {W w:World} {b:Nat} {l:List UInt8} (h:LX W b l w) (m:List UInt8):LX W b m (w.setCell ⟨b,0,none⟩ (.string (ba m))):=
 ⟨h.tab,h.bel.setCell h.lo _,h.lo,by simp [World.setCell,Array.getElem?_modify,h.blk]⟩
theorem bD {w w':World} {row:Option Nat} (h:Below w.heap.size w w'):w.grownBy w' row:=⟨h.os,h.tape,h.output,h.size,fun i hi _=>h.block i hi⟩
theorem aI {a w w':World} {row:Option Nat} (h:a.grownBy w row) (k:w.grownBy w' row):a.grownBy w' row:=World.grownBy.trans h k
def St (W:World) (b:Nat) (l:List UInt8) (w w':World):Prop:=LX W b l w'/\w.grownBy w' (some b)
theorem St.refl {W w:World} {b:Nat} {l:List UInt8} (h:LX W b l w):St W b l w w:=⟨h,World.grownBy.refl _ _⟩
theorem St.step {W w w1 w2:World} {b:Nat} {l m:List UInt8} (h:St W b l w w1) (k:St W b m w1 w2):St W b m w w2:=⟨k.1,aI h.2 k.2⟩
theorem St.bel {W w w1 w2:World} {b:Nat} {l:List UInt8} (h:St W b l w w1) (hb:Below w1.heap.size w1 w2):St W b l w w2:=⟨h.1.below hb,aI h.2 (bD hb)⟩
theorem St.alloc {W w w1:World} {b:Nat} {l:List UInt8} (h:St W b l w w1) (o:Obj):St W b l w (w1.alloc o):=h.bel (aD (Below.refl _ _) o)
theorem St.drew {W w w1:World} {b:Nat} {l:List UInt8} (h:St W b l w w1):St W b l w w1.drew:=⟨h.1.drew,aI h.2 ⟨rfl,rfl,rfl,Nat.le_refl _,fun _ _ _=>rfl⟩⟩
theorem St.set {W w w1:World} {b:Nat} {l:List UInt8} (h:St W b l w w1) (m:List UInt8):St W b m w (w1.setCell ⟨b,0,none⟩ (.string (ba m))):=⟨h.1.set m,aI h.2 (Lib.grownBy_setCell _ _ _ _)⟩
theorem St.grown {W w w1 w2:World} {b g:Nat} {l:List UInt8} (h:St W b l w w1) (hg:w1.grownBy w2 (some g)) (h1:w.heap.size<=g) (h2:b < w.heap.size):St W b l w w2:=
 ⟨h.1.grown hg (fun k hk=>by cases hk;exact⟨by have:=h.1.lo;omega,by omega⟩),World.grownBy.andThen h.2 hg (fun j hj=>by cases hj;exact .inl h1)⟩
theorem St.kept {W w w1:World} {b:Nat} {l:List UInt8} (h:St W b l w w1) {i:Nat} {o:Obj} (hi:w.heap[i]? =some o) (hb:i ≠ b):w1.heap[i]? =some o:=
 (h.2.block i (aZ hi) (fun e=>hb (Option.some.inj e))).trans hi
structure aF7 (f:Nat) (p:UInt8->Bool) (hi:Bool):Prop where
 low:∀(c:UInt8) (u:World),c.toNat < 128->Calls Tryz.prog f #[.int .i32 (c.toNat:Nat)] u fun e w'=>e=.returned (.bool (p c))/\w'=u
 high:∀(r:Nat) (u:World),128<=r->Calls Tryz.prog f #[.int .i32 (r:Nat)] u fun e w'=>e=.returned (.bool hi)/\w'=u
 byte:∀c:UInt8,128<=c.toNat->p c=hi
theorem qR (n:Nat) (w:World):CW 187 #[.int .i32 (n:Nat)] w (.bool (decide (48<=n) && decide (n<=57))):=by go_enter Tryz.func187,Tryz.ntmps187;go_wp2;all_goals (go_ret;refine ⟨eF ?_,rfl⟩;rw [Bool.eq_iff_iff];simp;omega)
theorem vT (n:Nat) (w:World):CW 191 #[.int .i32 (n:Nat)] w (.bool ((decide (65<=n) && decide (n<=90)) || (decide (97<=n) && decide (n<=122)))):=by go_enter Tryz.func191,Tryz.ntmps191;go_wp2;all_goals (go_ret;refine ⟨eF ?_,rfl⟩;rw [Bool.eq_iff_iff];simp;omega)
theorem yD (n:Nat) (w:World):CW 195 #[.int .i32 (n:Nat)] w (.bool (decide (n=32) || decide (n=9))):=by go_enter Tryz.func195,Tryz.ntmps195;go_wp2;all_goals (go_ret;refine ⟨eF ?_,rfl⟩;rw [Bool.eq_iff_iff];simp;omega)
theorem yE (n:Nat) (w:World):CW 229 #[.int .i32 (n:Nat)] w (.bool (!decide (n=34))):=by go_enter Tryz.func229,Tryz.ntmps229;go_wp2;all_goals (go_ret;refine ⟨eF ?_,rfl⟩;rw [Bool.eq_iff_iff];simp;omega)
theorem yF (n:Nat) (w:World):CW 227 #[.int .i32 (n:Nat)] w (.bool ((decide (48<=n) && decide (n<=57)) || decide (n=46))):=by
 have D:=fun u=>qR n u;cases h:(decide (48<=n) && decide (n<=57))
 all_goals
  rw [h] at D;go_enter Tryz.func227,Tryz.ntmps227;go_wp2_with (go_at_call 187;refine mw (D _) ?_)
  all_goals (go_ret;refine ⟨eF ?_,rfl⟩;rw [Bool.eq_iff_iff];simp;try omega)
theorem aCt (n:Nat) (w:World):CW 231 #[.int .i32 (n:Nat)] w (.bool ((((decide (65<=n) && decide (n<=90)) || (decide (97<=n) && decide (n<=122))) || (decide (48<=n) && decide (n<=57))) || decide (n=95) || decide (n=36))):=by
 have L:=fun u=>vT n u;have D:=fun u=>qR n u;cases h:((decide (65<=n) && decide (n<=90)) || (decide (97<=n) && decide (n<=122))) <;> cases k:(decide (48<=n) && decide (n<=57))
 all_goals
  rw [h] at L;rw [k] at D;go_enter Tryz.func231,Tryz.ntmps231;go_wp2_with (first|(go_at_call 187;refine mw (D _) ?_) | (go_at_call 191;refine mw (L _) ?_))
  all_goals (go_ret;refine ⟨eF ?_,rfl⟩;rw [Bool.eq_iff_iff];simp;try omega)
theorem lI (c:UInt8) (d:UInt8):(c==d)=decide (c.toNat=d.toNat):=by rw [Bool.eq_iff_iff];simp [<-UInt8.toNat_inj]
theorem aDU:aF7 195 Tk.blank false:=⟨fun c u _=>by have:=yD c.toNat u;rw [show (decide (c.toNat=32) || decide (c.toNat=9))=Tk.blank c by unfold Tk.blank;rw [lI,lI];rfl] at this;exact this,
 fun r u h=>by have:=yD r u;rw [show (decide (r=32) || decide (r=9))=false by simp;omega] at this;exact this,
 fun c h=>by unfold Tk.blank;rw [lI,lI];simp;omega⟩
theorem aDV:aF7 227 Tk.cB false:=⟨fun c u _=>by have:=yF c.toNat u;rw [show ((decide (48<=c.toNat) && decide (c.toNat<=57)) || decide (c.toNat=46))=Tk.cB c by unfold Tk.cB Ad.isD;rw [lI];rfl] at this;exact this,
 fun r u h=>by have:=yF r u;rw [show ((decide (48<=r) && decide (r<=57)) || decide (r=46))=false by simp;omega] at this;exact this,
 fun c h=>by unfold Tk.cB Ad.isD;rw [lI];simp;omega⟩
theorem aDW:aF7 229 (fun c=> !(c==34)) true:=⟨fun c u _=>by have:=yE c.toNat u;rw [show (!decide (c.toNat=34))= !(c==34) by rw [lI];rfl] at this;exact this,
 fun r u h=>by have:=yE r u;rw [show (!decide (r=34))=true by simp;omega] at this;exact this,
 fun c h=>by rw [lI];simp;omega⟩
theorem aCu:aF7 231 Tk.aQ false:=⟨fun c u _=>by have:=aCt c.toNat u;rw [show ((((decide (65<=c.toNat) && decide (c.toNat<=90)) || (decide (97<=c.toNat) && decide (c.toNat<=122))) || (decide (48<=c.toNat) && decide (c.toNat<=57))) || decide (c.toNat=95) || decide (c.toNat=36))=Tk.aQ c by unfold Tk.aQ Ad.isD Ad.isL;rw [lI,lI,Bool.or_comm (decide (65<=c.toNat) && decide (c.toNat<=90))];rfl] at this;exact this,
 fun r u h=>by have:=aCt r u;rw [show ((((decide (65<=r) && decide (r<=90)) || (decide (97<=r) && decide (r<=122))) || (decide (48<=r) && decide (r<=57))) || decide (r=95) || decide (r=36))=false by simp;omega] at this;exact this,
 fun c h=>by unfold Tk.aQ Ad.isD Ad.isL;rw [lI,lI];simp;omega⟩
theorem oW {p:UInt8->Bool}:∀{l:List UInt8},l.all p=true->l.takeWhile p=l/\l.dropWhile p=[]
 | [],_=>⟨rfl,rfl⟩
 | c:: r,h=>by rw [List.all_cons,Bool.and_eq_true] at h;obtain⟨a,b⟩:=oW h.2;rw [List.takeWhile_cons,List.dropWhile_cons,if_pos h.1,if_pos h.1,a,b];exact⟨rfl,rfl⟩
theorem oC {p:UInt8->Bool}:∀{l:List UInt8} {k:Nat} (hk:k < l.length),(l.take k).all p=true->p l[k]=false->l.takeWhile p=l.take k/\l.dropWhile p=l.drop k
 | c:: r,0,_,_,h=>by have h':p c=false:=h;rw [List.takeWhile_cons,List.dropWhile_cons,h'];exact⟨rfl,rfl⟩
 | c:: r,k+1,hk,ha,h=>by
  rw [List.take_succ_cons,List.all_cons,Bool.and_eq_true] at ha;have hk':k < r.length:=by simpa using hk
  obtain⟨a,b⟩:=oC hk' ha.2 (by simpa using h);rw [List.takeWhile_cons,List.dropWhile_cons,if_pos ha.1,if_pos ha.1,a,b];exact⟨rfl,rfl⟩
theorem sN {p:UInt8->Bool} (l:List UInt8) (k d:Nat) (ha:(l.take k).all p=true) (hd:∀j,j < d->∀h:k+j < l.length,p l[k+j]=true):(l.take (k+d)).all p=true:=by
 rw [List.all_eq_true] at ha ⊢;intro x hx;obtain⟨i,hi,rfl⟩:=List.getElem_of_mem hx;rw [List.length_take] at hi;rw [List.getElem_take];by_cases h:i < k
 ·exact ha _ (List.mem_take_iff_getElem.2 ⟨i,by omega,rfl⟩)
 ·have:=hd (i - k) (by omega) (by omega);simp only [show k+(i - k)=i by omega] at this;exact this
theorem mZ (l:List UInt8) (k:Nat) (h:k < l.length) (h2:k < (ba l).size):(ba l)[k]=l[k]:=by simp [ba];rfl
theorem aKO (l:List UInt8) (k:Nat) (h:k < l.length):(ba l).get! k=l[k]:=by have:=aB6 (ba l) k h;exact this
theorem sO (l:List UInt8) (k:Nat):(ba l).extract 0 k=ba (l.take k):=by apply ByteArray.ext;simp [ba]
theorem aBa (l:List UInt8) (k:Nat):(ba l).extract k l.length=ba (l.drop k):=by apply ByteArray.ext;simp [ba];rw [List.take_of_length_le (by simp)]
structure TW (W:World) (b:Nat) (l:List UInt8) (w:World) (q:Nat) (u:World):Prop where
 it:u.heap[w.heap.size]? =some (.stringIter (ba l) q)
 bel:Below w.heap.size w u
 lx:LX W b l u
theorem TW.next {W w u:World} {b q:Nat} {l:List UInt8} (h:TW W b l w q u) (hb:b < w.heap.size) (hp:q < l.length):
  ∃u1,(∀ty,(Instr.next (pt w.heap.size) true ty).run Tryz.prog u=.ok (.tuple #[.bool true,.int .i64 q,.int .i32 (Utf8.decode (ba l) q).1]) u1)/\TW W b l w (q+(Utf8.decode (ba l) q).2) u1:=by
 have hq:q < (ba l).size:=by rw [size_mk];exact hp
 have hlt:w.heap.size < u.heap.size:=(Array.getElem?_eq_some_iff.1 h.it).1;have hB:Below w.heap.size w { u with heap:=u.heap.setIfInBounds w.heap.size (.stringIter (ba l) (q+(Utf8.decode (ba l) q).2)) }:=by
  obtain⟨a,c,d,e,f⟩:=h.bel;refine ⟨a,c,d, ?_,fun i hi=> ?_⟩
  ·show w.heap.size<=(u.heap.setIfInBounds _ _).size;simp;omega
  ·show (u.heap.setIfInBounds _ _)[i]? =_;rw [Array.getElem?_setIfInBounds_ne (by omega)];exact f i hi
 have hG:u.grownBy { u with heap:=u.heap.setIfInBounds w.heap.size (.stringIter (ba l) (q+(Utf8.decode (ba l) q).2)) } (some w.heap.size):=by
  refine ⟨rfl,rfl,rfl, ?_,fun i hi hne=> ?_⟩
  ·show u.heap.size<=(u.heap.setIfInBounds _ _).size;simp
  ·show (u.heap.setIfInBounds _ _)[i]? =_;rw [Array.getElem?_setIfInBounds_ne (fun e=>hne (by rw [e]))]
 refine ⟨_,fun ty=>run_next_at h.it ty hq, ?_,hB,h.lx.grown hG (fun k hk=> ?_)⟩
 ·show (u.heap.setIfInBounds w.heap.size _)[w.heap.size]? =_;rw [Array.getElem?_setIfInBounds_self_of_lt hlt]
 ·cases hk
  exact⟨by have:=h.lx.lo;omega,by omega⟩
theorem TW.pos {W w u:World} {b q:Nat} {l:List UInt8} (h:TW W b l w q u):u.iterPos w.heap.size=q:=by simp [World.iterPos,h.it]
theorem TW.begin {W w:World} {b:Nat} {l:List UInt8} (X:LX W b l w):TW W b l w 0 (w.iter (ba l) 0):=
 ⟨by simpa using World.iter_heap w (ba l) 0,(Below.refl _ _).alloc (Nat.le_refl _) _,X.below ((Below.refl _ _).alloc (Nat.le_refl _) _)⟩
theorem TW.st {W w u:World} {b q:Nat} {l:List UInt8} (h:TW W b l w q u) (m:List UInt8):St W b m w (u.setCell ⟨b,0,none⟩ (.string (ba m))):=
 St.set (l:=l) ⟨h.lx,bD h.bel⟩ m
theorem oD {W w:World} {b:Nat} {l:List UInt8} (X:LX W b l w) (hl:l.length<=255) {f:Nat} {p:UInt8->Bool} {hi:Bool} (A:aF7 f p hi)
  (hE:∀args u,(callFunc f args).run Tryz.prog u=.ok (.enter f args) u):
  Calls Tryz.prog 194 #[pt b,.func (.func f) #[] #[]] w fun e w'=>e=.returned (.string (ba (l.takeWhile p)))/\St W b (l.dropWhile p) w w':=by
 obtain⟨c0,c1,f0⟩:=X.cells;have hlt:=X.lt;have HX:Hid (LX W b l w):=X;have HA:Hid (aF7 f p hi):=A;have hs':(ba l).size=l.length:=size_mk l;have HB:Hid _:=TW.begin X;clear X A;go_enter Tryz.func194,Tryz.ntmps194;go_wp2;go_loopw [5,6] (fun v i w'=>v=.int .i64 l.length/\∃(q:Nat),q<=l.length/\Hid ((l.take q).all p=true)/\TW W b l w q w') (fun _ _ w'=>l.length - w'.iterPos w.heap.size)
 case atStart=>exact⟨rfl,0,Nat.zero_le _,by simp [Hid],HB.out⟩
 case round=>
  obtain⟨rfl,q,hq,ha,hR⟩:=hrel;have hpos:=hR.pos;by_cases hq2:q < l.length
  ·obtain ⟨u1,hnx,hR1⟩:=hR.next hlt hq2;have hqs:q < (ba l).size:=by rw [hs'];exact hq2
   have hqi:(q:Int)<=l.length:=by omega
   by_cases hasc:((ba l)[q]'hqs).toNat < 128
   ·rw [decode_ascii (ba l) q hqs hasc] at hnx hR1;have hc:=mZ l q hq2 hqs;have AL:=fun u=>HA.out.low _ u hasc;rw [hc] at hnx AL;obtain⟨d0,d1,g0⟩:=hR1.lx.cells;cases hp:p l[q]
    ·rw [hp] at AL;obtain⟨e1,e2⟩:=oC hq2 ha.out hp;have HE:Hid ((ba l).extract 0 q=ba (l.takeWhile p)/\(ba l).extract q l.length=ba (l.dropWhile p)):=⟨by rw [sO,e1],by rw [aBa,e2]⟩
     have HF:Hid (∀v,v=ba (l.dropWhile p)->St W b (l.dropWhile p) w (u1.setCell ⟨b,0,none⟩ (.string v))):=fun v hv=>by rw [hv];exact hR1.st _
     clear hR hR1 e1 e2 hasc;generalize l[q]=c at *;go_wp2_with (go_at_fn f;refine mw (AL _) ?_)
     go_ret;exact⟨by rw [<-HE.out.1];rfl,HF.out _ HE.out.2⟩
    ·rw [hp] at AL;have HN:Hid ((l.take (q+1)).all p=true):=sN l q 1 ha.out (fun j hj h=>by
      obtain rfl:j=0:=by omega
      exact hp)
     have HR1:Hid (TW W b l w (q+1) u1):=hR1;clear hR hR1 hasc d0 d1 g0;generalize l[q]=c at *;go_wp2_with (go_at_fn f;refine mw (AL _) ?_)
     go_roundw
     case rel=>exact⟨rfl,q+1,by omega,HN,HR1.out⟩
     case measure=> have:=HR1.out.pos;rw [hpos,this];omega
   ·have dh:=decode_high (ba l) q hqs (by omega);have db:=sG (ba l) q hqs (by omega);rw [hs'] at db;obtain⟨r,hr,hr2⟩:∃r:Nat,(Utf8.decode (ba l) q).1=r/\128<=r:=⟨_,rfl,dh.1⟩
    have AL:=fun u=>HA.out.high r u hr2;rw [hr] at hnx;obtain⟨d0,d1,g0⟩:=hR1.lx.cells;have hd1:=dh.2;have hd2:=db.1;have hby:=db.2;clear hr dh db;generalize (Utf8.decode (ba l) q).2=d at *;have hc:=mZ l q hq2 hqs;have hb8:=HA.out.byte l[q] (by rw [<-hc];omega);cases hi
    ·obtain ⟨e1,e2⟩:=oC hq2 ha.out hb8;have HE:Hid ((ba l).extract 0 q=ba (l.takeWhile p)/\(ba l).extract q l.length=ba (l.dropWhile p)):=⟨by rw [sO,e1],by rw [aBa,e2]⟩
     have HF:Hid (∀v,v=ba (l.dropWhile p)->St W b (l.dropWhile p) w (u1.setCell ⟨b,0,none⟩ (.string v))):=fun v hv=>by rw [hv];exact hR1.st _
     clear hR hR1 e1 e2 hasc hby hc hb8;go_wp2_with (go_at_fn f;refine mw (AL _) ?_)
     go_ret;exact⟨by rw [<-HE.out.1];rfl,HF.out _ HE.out.2⟩
    ·have HN:Hid ((l.take (q+d)).all p=true):=sN l q d ha.out (fun j hj h=>by
      have:=hby j hj;rw [aKO l (q+j) h] at this;exact HA.out.byte _ this)
     have HR1:Hid (TW W b l w (q+d) u1):=hR1;clear hR hR1 hasc hby hc hb8 d0 d1 g0;go_wp2_with (go_at_fn f;refine mw (AL _) ?_)
     go_roundw
     case rel=>exact⟨rfl,q+d,hd2,HN,HR1.out⟩
     case measure=> have:=HR1.out.pos;rw [hpos,this];omega
  ·have hnx:∀ty,(Instr.next (pt w.heap.size) true ty).run Tryz.prog wr=.ok (.tuple #[.bool false]) wr:=fun ty=>qE hR.it ty (by rw [hs'];exact hq2);obtain⟨d0,d1,g0⟩:=hR.lx.cells;have hall:l.all p=true:=by have:=ha.out;rw [List.take_of_length_le (by omega)] at this;exact this
   obtain⟨e1,e2⟩:=oW hall;have HE:Hid ((ba l).extract 0 l.length=ba (l.takeWhile p)/\ByteArray.empty=ba (l.dropWhile p)):=⟨by rw [sO,e1,List.take_length],by rw [e2];rfl⟩
   have HF:Hid (∀v,v=ba (l.dropWhile p)->St W b (l.dropWhile p) w (wr.setCell ⟨b,0,none⟩ (.string v))):=fun v hv=>by rw [hv];exact hR.st _
   clear hR e1 e2 hall;go_wp2;go_ret;exact⟨by rw [<-HE.out.1];rfl,HF.out _ HE.out.2⟩
def skF (s l:List UInt8):List UInt8:=if s.isPrefixOf l=true then l.drop s.length else l
theorem jT {W w:World} {b:Nat} {l:List UInt8} (X:LX W b l w) (s:List UInt8):
  Calls Tryz.prog 228 #[pt b,.string (ba s)] w fun e w'=>e=.returned (.bool (s.isPrefixOf l))/\St W b (skF s l) w w':=by
 have CP:∀u,CW 73 #[.string (ba l),.string (ba s)] u (.tuple #[.string (ba (skF s l)),.bool (s.isPrefixOf l)]):=fun u=>Tryz.strings_CutPrefix (ba l) (ba s) u;obtain⟨c0,c1,f0⟩:=X.cells;have HS:Hid (St W b (skF s l) w (w.setCell ⟨b,0,none⟩ (.string (ba (skF s l))))):=(St.refl X).set _;clear X;generalize ba (skF s l)=A at *;generalize s.isPrefixOf l=q at *;generalize ba l=L at *;generalize ba s=S at *;go_enter Tryz.func228,Tryz.ntmps228;go_wp2_with (go_at_call 73;refine mw (CP _) ?_)
 go_ret;exact⟨rfl,HS.out⟩
theorem e32:∀args u,(callFunc 195 args).run Tryz.prog u=.ok (.enter 195 args) u:=enters_of Tryz.func195 (by kernel_rfl) rfl
theorem e51:∀args u,(callFunc 227 args).run Tryz.prog u=.ok (.enter 227 args) u:=enters_of Tryz.func227 (by kernel_rfl) rfl
theorem e53:∀args u,(callFunc 229 args).run Tryz.prog u=.ok (.enter 229 args) u:=enters_of Tryz.func229 (by kernel_rfl) rfl
theorem e56:∀args u,(callFunc 231 args).run Tryz.prog u=.ok (.enter 231 args) u:=enters_of Tryz.func231 (by kernel_rfl) rfl
theorem wS (l:List UInt8):((ba l).toList==[])=l.isEmpty:=by rw [ByteArray.toList_eq];cases l <;> rfl
theorem aIr {W w:World} {b:Nat} {l:List UInt8} (X:LX W b l w) (hl:l.length<=255):
  Calls Tryz.prog 150 #[pt b] w fun e w'=>e=.returned (.bool (!(l.dropWhile Tk.blank).isEmpty))/\St W b (l.dropWhile Tk.blank) w w':=by
 have T:=oD X hl aDU e32;have HE:=wS (l.dropWhile Tk.blank);generalize l.takeWhile Tk.blank=A at *;generalize l.dropWhile Tk.blank=m at *;cases hq:m.isEmpty
 all_goals
  rw [hq] at HE;have HT:Hid _:=T;clear T;go_enter Tryz.func150,Tryz.ntmps150;go_wp2_with (go_at_call 194;refine Calls.mono HT.out ?_;rintro e w1 ⟨rfl,hs⟩;have HS:Hid (St W b m w w1):=hs;obtain⟨d0,d1,g0⟩:=hs.1.cells;clear hs)
  go_ret;exact⟨rfl,HS.out⟩
def Ans (W:World) (b:Nat) (w:World) (o:Option (Tk.Tok × List UInt8)) (e:Ending) (w':World):Prop:=
 match o with
 | some (t,m)=>e=.returned (.tuple #[.agg (tk t).cs,.bool true])/\St W b m w w'
 | none=>(∃t:TT,e=.returned (.tuple #[.agg t.cs,.bool false]))/\∃m,St W b m w w'
theorem St.fin {W w w1:World} {b:Nat} {l:List UInt8} {o:Obj} (hb:b < w.heap.size) (h:St W b l (w.alloc o) w1) (es:Array Value):St W b l w (w1.setRow w.heap.size es):=
 St.grown (l:=l) (w1:=w1) ⟨h.1,aI (World.grownBy_alloc w o _) h.2⟩ (aL _ _ _) (Nat.le_refl _) hb
theorem St.res {W w w1:World} {b:Nat} {l:List UInt8} {o:Obj} (hb:b < w.heap.size) (h:St W b l (w.alloc o) w1):w1.heap[w.heap.size]? =some o:=h.kept (heap_alloc_new w o) (by omega)
theorem oZ (k n:Int) (s b h:ByteArray) (r c:Int) (fr fc:Bool):(tcs k n s b h r c fr fc).all (·.oneCell')=true:=by simp [Value.oneCell']
abbrev tkO:Obj:=.cells tk0 156
theorem St.put {W w w1:World} {b:Nat} {l:List UInt8} (hb:b < w.heap.size) (h:St W b l (w.alloc tkO) w1) (k n:Int) (s b' h':ByteArray) (r c:Int) (fr fc:Bool):
  Hid ((Instr.storeAt 156 (pt w.heap.size) (.agg (tcs k n s b' h' r c fr fc))).run Tryz.prog w1=.ok () (w1.setRow w.heap.size (tcs k n s b' h' r c fr fc))):=
 sto (h.res hb) nZ rfl (oZ k n s b' h' r c fr fc)
theorem St.ans {W w w1:World} {b:Nat} {l:List UInt8} (hb:b < w.heap.size) (h:St W b l (w.alloc tkO) w1) (es:Array Value) (he:es.size=9) {fn:Func} {p u:Tmp} (hr:fn.results=#[.cell p 156,.tmp u]) {tmps:Array Value} {v2:Value}
  (hp:tmps.getD p undef=pt w.heap.size) (hv:tmps.getD u undef=v2):(results fn tmps).run Tryz.prog (w1.setRow w.heap.size es)=.ok (.tuple #[.agg es,v2]) (w1.setRow w.heap.size es):=
 kF hr hp (setRow_heap _ _ _ es _ _ (h.res hb)) rfl Tryz.underlying156 (by rw [he];exact nZ) hv
def pnF (l:List UInt8):Option Int:=if (bS l).2=true then some (bS l).1 else none
theorem aCv {W w:World} {b:Nat} {l:List UInt8} (X:LX W b l w) (hl:l.length<=255):
  Calls Tryz.prog 188 #[pt b] w fun e w'=>e=.returned (.tuple #[.agg (tcs 1 (bS (l.takeWhile Tk.cB)).1 noB noB noB 0 0 false false),.bool (bS (l.takeWhile Tk.cB)).2])/\St W b (l.dropWhile Tk.cB) w w':=by
 have HT:Hid _:=oD (X.alloc tkO) hl aDV e51;have hlen:(l.takeWhile Tk.cB).length<=255:=Nat.le_trans (List.takeWhile_sublist _).length_le hl;have PA:∀u,CR 203 #[.string (ba (l.takeWhile Tk.cB))] u (.tuple #[.int .i64 (bS (l.takeWhile Tk.cB)).1,.bool (bS (l.takeWhile Tk.cB)).2]):=fun u=>aEY (ba (l.takeWhile Tk.cB)) (by rw [size_mk];omega) u;have hb:=X.lt;clear X;generalize (bS (l.takeWhile Tk.cB)).1=n at *;generalize (bS (l.takeWhile Tk.cB)).2=ok at *;generalize ba (l.takeWhile Tk.cB)=A at *;generalize l.dropWhile Tk.cB=m at *;go_enter Tryz.func188,Tryz.ntmps188;go_wp2_with (first|(go_at_call 194;refine Calls.mono HT.out ?_;rintro e w1 ⟨rfl,hs⟩;have HS:Hid (St W b m (w.alloc tkO) w1):=hs;clear hs)|(go_at_call 203;refine (PA _).mono ?_;rintro e w2 ⟨rfl,hs⟩;have HS2:Hid (St W b m (w.alloc tkO) w2):=HS.out.bel hs;have R:=HS2.out.put hb 1 n noB noB noB 0 0 false false;clear hs HS)|(refine aB rfl 156 _ _ rfl _ _ _ rfl rfl R.out ?_))
 exact bodyPost_ret (HS2.out.ans hb (tcs 1 n noB noB noB 0 0 false false) rfl rfl rfl rfl) rfl ⟨rfl,HS2.out.fin hb _⟩
theorem aDX {W w:World} {b:Nat} {l:List UInt8} (X:LX W b l w) (hl:l.length<=255):
  Calls Tryz.prog 188 #[pt b] w (Ans W b w ((pnF (l.takeWhile Tk.cB)).map fun n=>(.num n,l.dropWhile Tk.cB))):=by
 refine (aCv X hl).mono ?_;rintro e w' ⟨rfl,h⟩;unfold pnF;cases hq:(bS (l.takeWhile Tk.cB)).2
 ·exact ⟨⟨⟨1,_,noB,noB,noB,0,0,false,false⟩,rfl⟩,_,h⟩
 ·exact ⟨rfl,h⟩
theorem aE5:∀i,i < 9->fnm i=ba (Tk.dX i):=by decide
theorem aE6 {l:List UInt8} {i:Nat} (h1:1<=i) (h8:i<=8) (hb:∀j,1<=j->j < i->(Tk.dX j).isPrefixOf l=false) (hp:(Tk.dX i).isPrefixOf l=true):Tk.qC l=some (.bad i,l.drop (Tk.dX i).length):=by
 have hf:([1,2,3,4,5,6,7,8].find? fun i=>(Tk.dX i).isPrefixOf l)=some i:=by
  have:i=1\/i=2\/i=3\/i=4\/i=5\/i=6\/i=7\/i=8:=by omega
  rcases this with rfl | rfl | rfl | rfl | rfl | rfl | rfl | rfl
  ·simp [List.find?,hp]
  ·simp [List.find?,hp,hb 1 (by decide) (by decide)]
  ·simp [List.find?,hp,hb 1 (by decide) (by decide),hb 2 (by decide) (by decide)]
  ·simp [List.find?,hp,hb 1 (by decide) (by decide),hb 2 (by decide) (by decide),hb 3 (by decide) (by decide)]
  ·simp [List.find?,hp,hb 1 (by decide) (by decide),hb 2 (by decide) (by decide),hb 3 (by decide) (by decide),hb 4 (by decide) (by decide)]
  ·simp [List.find?,hp,hb 1 (by decide) (by decide),hb 2 (by decide) (by decide),hb 3 (by decide) (by decide),hb 4 (by decide) (by decide),hb 5 (by decide) (by decide)]
  ·simp [List.find?,hp,hb 1 (by decide) (by decide),hb 2 (by decide) (by decide),hb 3 (by decide) (by decide),hb 4 (by decide) (by decide),hb 5 (by decide) (by decide),hb 6 (by decide) (by decide)]
  ·simp [List.find?,hp,hb 1 (by decide) (by decide),hb 2 (by decide) (by decide),hb 3 (by decide) (by decide),hb 4 (by decide) (by decide),hb 5 (by decide) (by decide),hb 6 (by decide) (by decide),hb 7 (by decide) (by decide)]
 unfold Tk.qC;rw [hf];rfl
theorem aCw {l:List UInt8} (hb:∀j,1<=j->j < 9->(Tk.dX j).isPrefixOf l=false):Tk.qC l=none:=by unfold Tk.qC;simp [List.find?,hb 1 (by decide) (by decide),hb 2 (by decide) (by decide),hb 3 (by decide) (by decide),hb 4 (by decide) (by decide),hb 5 (by decide) (by decide),hb 6 (by decide) (by decide),hb 7 (by decide) (by decide),hb 8 (by decide) (by decide)]
theorem aBb {s l:List UInt8} (h:s.isPrefixOf l=false):skF s l=l:=by unfold skF;rw [h];rfl
theorem aE7 {s l:List UInt8} (h:s.isPrefixOf l=true):skF s l=l.drop s.length:=by unfold skF;rw [h];rfl
theorem aKP (i:Nat) (h1:1<=i) (h8:i<=8) (w:World) (T:xR w):CR 174 #[.agg #[.int .i64 4,.int .i64 (i:Nat),.string noB]] w (.string (ba (Tk.dX i))):=by
 have:=aF1 4 i noB ⟨by omega,by omega⟩ w T;rw [show aEZ 4 (i:Int) noB=ba (Tk.dX i) by
  rw [<-aE5 i (by omega),<-aEX i h1 h8];rfl] at this
 exact this
theorem aMY (i:Nat) (h1:1<=i) (h8:i<=8) (w:World):CR 208 #[.int .i64 (i:Nat)] w (.agg #[.int .i64 4,.int .i64 (i:Nat),.string noB]):=by have:=sH (i:Int) w;rw [show xQ (i:Int)=(i:Nat) by unfold xQ;rw [aA0 i h1 h8];rfl] at this;exact this
theorem aF8 {W w:World} {b:Nat} {l:List UInt8} (X:LX W b l w):Calls Tryz.prog 190 #[pt b] w (Ans W b w (Tk.qC l)):=by
 have hb:=X.lt;have H0:Hid (St W b l (w.alloc tkO) (w.alloc tkO)):=St.refl (X.alloc tkO);generalize ho:Tk.qC l=o;have HO:Hid (Tk.qC l=o):=ho;clear ho X;go_enter Tryz.func190,Tryz.ntmps190;go_wp2;go_loopw [4] (fun v wr=>∃i:Nat,1<=i/\i<=9/\v=.int .i64 (i:Nat)/\Hid (∀j,1<=j->j < i->(Tk.dX j).isPrefixOf l=false)/\Hid (St W b l (w.alloc tkO) wr)) (fun v _=>9 - (intOf v).toNat)
 case atStart=>exact⟨1,Nat.le_refl _,by decide,rfl,fun j h1 h2=>by omega,H0⟩
 case round=>
  obtain⟨i,h1,h9,rfl,HJ,HS⟩:=hrel;clear H0;by_cases h8:i<=8
  ·have hi:(i:Int)<=8:=by omega
   have BV:=fun u=>aMY i h1 h8 u;have BT:=fun u (T:xR u)=>aKP i h1 h8 u T;have SK:=fun u (Y:LX W b l u)=>jT Y (Tk.dX i);cases hp:(Tk.dX i).isPrefixOf l
   ·rw [hp] at SK;have HN:Hid (∀j,1<=j->j < i+1->(Tk.dX j).isPrefixOf l=false):=fun j h2 h3=>by
     by_cases e:j=i
     ·rw [e];exact hp
     ·exact HJ.out j h2 (by omega)
    simp only [aBb hp] at SK;clear HJ HO;generalize ba (Tk.dX i)=A at *;go_wp2_with (first|(go_at_call 208;refine (BV _).mono ?_;rintro e w1 ⟨rfl,hs⟩;have HS1:Hid (St W b l (w.alloc tkO) w1):=HS.out.bel hs;clear hs)|(go_at_call 174;refine (BT _ HS1.out.1.t.t.t).mono ?_;rintro e w2 ⟨rfl,hs⟩;have HS2:Hid (St W b l (w.alloc tkO) w2):=HS1.out.bel hs;clear hs)|(go_at_call 228;refine (SK _ HS2.out.1).mono ?_;rintro e w3 ⟨rfl,hs⟩;have HS3:Hid (St W b l (w.alloc tkO) w3):=HS2.out.step hs;clear hs))
    go_roundw
    case rel=>exact⟨i+1,by omega,by omega,by simp,HN,HS3⟩
    case measure=>simp [intOf];omega
   ·rw [hp] at SK;have HN:Hid (o=some (.bad i,l.drop (Tk.dX i).length)):=by show _=_;rw [<-HO.out,aE6 h1 h8 HJ.out hp]
    simp only [aE7 hp] at SK;clear HJ HO;generalize ba (Tk.dX i)=A at *;generalize l.drop (Tk.dX i).length=m at *;go_wp2_with (first|(go_at_call 208;refine (BV _).mono ?_;rintro e w1 ⟨rfl,hs⟩;have HS1:Hid (St W b l (w.alloc tkO) w1):=HS.out.bel hs;clear hs)|(go_at_call 174;refine (BT _ HS1.out.1.t.t.t).mono ?_;rintro e w2 ⟨rfl,hs⟩;have HS2:Hid (St W b l (w.alloc tkO) w2):=HS1.out.bel hs;clear hs)|(go_at_call 228;refine (SK _ HS2.out.1).mono ?_;rintro e w3 ⟨rfl,hs⟩;have HS3:Hid (St W b m (w.alloc tkO) w3):=HS2.out.step hs;have R:=HS3.out.put hb 6 (i:Nat) noB noB noB 0 0 false false;clear hs)|(refine aB rfl 156 _ _ rfl _ _ _ rfl rfl R.out ?_))
    refine bodyPost_ret (HS3.out.ans hb (tcs 6 (i:Nat) noB noB noB 0 0 false false) rfl rfl rfl rfl) rfl ?_;rw [HN.out];exact⟨rfl,HS3.out.fin hb _⟩
  ·have hi:¬(i:Int)<=8:=by omega
   have HN:Hid (o=none):=by show _=_;rw [<-HO.out,aCw (fun j h2 h3=>HJ.out j h2 (by omega))]
   have R:=HS.out.put hb 0 0 noB noB noB 0 0 false false;clear HJ HO;go_wp2_with (refine aB rfl 156 _ _ rfl _ _ _ rfl rfl R.out ?_)
   refine bodyPost_ret (HS.out.ans hb (tcs 0 0 noB noB noB 0 0 false false) rfl rfl rfl rfl) rfl ?_;rw [HN.out];exact⟨⟨⟨0,0,noB,noB,noB,0,0,false,false⟩,rfl⟩,l,HS.out.fin hb _⟩
def opn:Nat->List UInt8
 | 0=> [60,62]
 | 1=> [60,61]
 | 2=> [62,61]
 | 3=> [43]
 | 4=> [45]
 | 5=> [42]
 | 6=> [47]
 | 7=> [94]
 | 8=> [38]
 | 9=> [61]
 | 10=> [60]
 | 11=> [62]
 | 12=> [37]
 | 13=> [40]
 | 14=> [41]
 | 15=> [44]
 | 16=> [58]
 | _=> []
def opsV:Array Value:=#[.string (ba [60,62]),.string (ba [60,61]),.string (ba [62,61]),.string (ba [43]),.string (ba [45]),.string (ba [42]),.string (ba [47]),.string (ba [94]),.string (ba [38]),.string (ba [61]),.string (ba [60]),.string (ba [62]),.string (ba [37]),.string (ba [40]),.string (ba [41]),.string (ba [44]),.string (ba [58])]
theorem aOU (W:World):(Instr.index 236 (.agg opsV) (.int .i64 0)).run Tryz.prog W=.ok (.string (ba [60,62])) W:=by kernel_rfl
theorem aOV (W:World):(Instr.index 236 (.agg opsV) (.int .i64 1)).run Tryz.prog W=.ok (.string (ba [60,61])) W:=by kernel_rfl
theorem aOW (W:World):(Instr.index 236 (.agg opsV) (.int .i64 2)).run Tryz.prog W=.ok (.string (ba [62,61])) W:=by kernel_rfl
theorem aOX (W:World):(Instr.index 236 (.agg opsV) (.int .i64 3)).run Tryz.prog W=.ok (.string (ba [43])) W:=by kernel_rfl
theorem aOY (W:World):(Instr.index 236 (.agg opsV) (.int .i64 4)).run Tryz.prog W=.ok (.string (ba [45])) W:=by kernel_rfl
theorem aOZ (W:World):(Instr.index 236 (.agg opsV) (.int .i64 5)).run Tryz.prog W=.ok (.string (ba [42])) W:=by kernel_rfl
theorem aO0 (W:World):(Instr.index 236 (.agg opsV) (.int .i64 6)).run Tryz.prog W=.ok (.string (ba [47])) W:=by kernel_rfl
theorem aO1 (W:World):(Instr.index 236 (.agg opsV) (.int .i64 7)).run Tryz.prog W=.ok (.string (ba [94])) W:=by kernel_rfl
theorem aO2 (W:World):(Instr.index 236 (.agg opsV) (.int .i64 8)).run Tryz.prog W=.ok (.string (ba [38])) W:=by kernel_rfl
theorem aO3 (W:World):(Instr.index 236 (.agg opsV) (.int .i64 9)).run Tryz.prog W=.ok (.string (ba [61])) W:=by kernel_rfl
theorem aNS (W:World):(Instr.index 236 (.agg opsV) (.int .i64 10)).run Tryz.prog W=.ok (.string (ba [60])) W:=by kernel_rfl
theorem aNT (W:World):(Instr.index 236 (.agg opsV) (.int .i64 11)).run Tryz.prog W=.ok (.string (ba [62])) W:=by kernel_rfl
theorem aNU (W:World):(Instr.index 236 (.agg opsV) (.int .i64 12)).run Tryz.prog W=.ok (.string (ba [37])) W:=by kernel_rfl
theorem aNV (W:World):(Instr.index 236 (.agg opsV) (.int .i64 13)).run Tryz.prog W=.ok (.string (ba [40])) W:=by kernel_rfl
theorem aNW (W:World):(Instr.index 236 (.agg opsV) (.int .i64 14)).run Tryz.prog W=.ok (.string (ba [41])) W:=by kernel_rfl
theorem aNX (W:World):(Instr.index 236 (.agg opsV) (.int .i64 15)).run Tryz.prog W=.ok (.string (ba [44])) W:=by kernel_rfl
theorem aNY (W:World):(Instr.index 236 (.agg opsV) (.int .i64 16)).run Tryz.prog W=.ok (.string (ba [58])) W:=by kernel_rfl
theorem aF9 (i:Nat) (h:i < 17) (W:World):(Instr.index 236 (.agg opsV) (.int .i64 (i:Int))).run Tryz.prog W=.ok (.string (ba (opn i))) W:=by
 have:i=0\/i=1\/i=2\/i=3\/i=4\/i=5\/i=6\/i=7\/i=8\/i=9\/i=10\/i=11\/i=12\/i=13\/i=14\/i=15\/i=16:=by omega
 rcases this with rfl | rfl | rfl | rfl | rfl | rfl | rfl | rfl | rfl | rfl | rfl | rfl | rfl | rfl | rfl | rfl | rfl
 ·exact aOU W
 ·exact aOV W
 ·exact aOW W
 ·exact aOX W
 ·exact aOY W
 ·exact aOZ W
 ·exact aO0 W
 ·exact aO1 W
 ·exact aO2 W
 ·exact aO3 W
 ·exact aNS W
 ·exact aNT W
 ·exact aNU W
 ·exact aNV W
 ·exact aNW W
 ·exact aNX W
 ·exact aNY W
theorem aIs (w:World) (T:dD w) (i:Nat) (h:i < 17):w.cell? ⟨0,i,none⟩=some (.string (ba (opn i))):=by
 rw [T.ops i h];have:i=0\/i=1\/i=2\/i=3\/i=4\/i=5\/i=6\/i=7\/i=8\/i=9\/i=10\/i=11\/i=12\/i=13\/i=14\/i=15\/i=16:=by omega
 rcases this with rfl | rfl | rfl | rfl | rfl | rfl | rfl | rfl | rfl | rfl | rfl | rfl | rfl | rfl | rfl | rfl | rfl <;> rfl
theorem aIt (w:World) (T:dD w):(Instr.loadAt 236 (.pointer (some ⟨0,0,none⟩))).run Tryz.prog w=.ok (.agg opsV) w:=by
 have:=run_loadAt_mid (P:=Tryz.prog) w 0 0 236 opsV.toList _ (fun j v hj=>by
  have hj2:j < 17:=by
   rcases Nat.lt_or_ge j 17 with h | h
   ·exact h
   ·rw [List.getElem?_eq_none (by simpa [opsV] using h)] at hj;cases hj
  rw [Nat.zero_add,aIs w T j hj2,<-hj];have:j=0\/j=1\/j=2\/j=3\/j=4\/j=5\/j=6\/j=7\/j=8\/j=9\/j=10\/j=11\/j=12\/j=13\/j=14\/j=15\/j=16:=by omega
  rcases this with rfl | rfl | rfl | rfl | rfl | rfl | rfl | rfl | rfl | rfl | rfl | rfl | rfl | rfl | rfl | rfl | rfl <;> rfl) Tryz.underlying236 rfl (by kernel_rfl)
 simpa using this
theorem fV (c:UInt8) (l:List UInt8): [c].isPrefixOf l=true↔∃t,l=c:: t:=by
 cases l with
 | nil=>simp [List.isPrefixOf]
 | cons d t=>
  simp only [List.isPrefixOf,Bool.and_true,beq_iff_eq];exact⟨fun h=>⟨t,by rw [h]⟩,fun ⟨_,h⟩=>by cases h;rfl⟩
theorem aBd (c d:UInt8) (l:List UInt8): [c,d].isPrefixOf l=true↔∃t,l=c:: d:: t:=by
 rcases l with _ | ⟨a,_ | ⟨e,t⟩⟩
 ·simp [List.isPrefixOf]
 ·simp [List.isPrefixOf]
 ·simp only [List.isPrefixOf,Bool.and_true,Bool.and_eq_true,beq_iff_eq];exact⟨fun h=>⟨t,by rw [h.1,h.2]⟩,fun ⟨_,h⟩=>by cases h;exact⟨rfl,rfl⟩⟩
theorem aDY {c d:UInt8} {t:List UInt8} (h:Tk.two c d=true):Tk.opF (c:: d:: t)=some (.op [c,d],t):=by simp [Tk.opF,h]
theorem iO {c:UInt8} {t:List UInt8} (hm:c ∈ Tk.ones) (h0: [60,62].isPrefixOf (c:: t)=false) (h1: [60,61].isPrefixOf (c:: t)=false) (h2: [62,61].isPrefixOf (c:: t)=false):Tk.opF (c:: t)=some (.op [c],t):=by
 cases t with
 | nil=>show (if c ∈ Tk.ones then _ else none)=_;rw [if_pos hm]
 | cons d t=>
  have:Tk.two c d=false:=by
   simp [List.isPrefixOf] at h0 h1 h2;unfold Tk.two;simp only [Bool.or_eq_false_iff,Bool.and_eq_false_iff,beq_eq_false_iff_ne];refine ⟨⟨?_, ?_⟩, ?_⟩
   ·by_cases e:c=60
    ·exact .inr fun e2=>h0 e.symm e2.symm
    ·exact .inl e
   ·by_cases e:c=60
    ·exact .inr fun e2=>h1 e.symm e2.symm
    ·exact .inl e
   ·by_cases e:c=62
    ·exact .inr fun e2=>h2 e.symm e2.symm
    ·exact .inl e
  show (if Tk.two c d=true then _ else if c ∈ Tk.ones then _ else none)=_;rw [this,if_neg (by decide),if_pos hm]
theorem aDZ {l:List UInt8} {i:Nat} (hi:i < 17) (hb:∀j,j < i->(opn j).isPrefixOf l=false) (hp:(opn i).isPrefixOf l=true):Tk.opF l=some (.op (opn i),l.drop (opn i).length):=by
 have:i=0\/i=1\/i=2\/i=3\/i=4\/i=5\/i=6\/i=7\/i=8\/i=9\/i=10\/i=11\/i=12\/i=13\/i=14\/i=15\/i=16:=by omega
 rcases this with rfl | rfl | rfl | rfl | rfl | rfl | rfl | rfl | rfl | rfl | rfl | rfl | rfl | rfl | rfl | rfl | rfl
 ·obtain ⟨t,rfl⟩:=(aBd 60 62 l).1 hp;exact aDY rfl
 ·obtain ⟨t,rfl⟩:=(aBd 60 61 l).1 hp;exact aDY rfl
 ·obtain ⟨t,rfl⟩:=(aBd 62 61 l).1 hp;exact aDY rfl
 ·obtain ⟨t,rfl⟩:=(fV 43 l).1 hp;exact iO (by decide) (hb 0 (by decide)) (hb 1 (by decide)) (hb 2 (by decide))
 ·obtain ⟨t,rfl⟩:=(fV 45 l).1 hp;exact iO (by decide) (hb 0 (by decide)) (hb 1 (by decide)) (hb 2 (by decide))
 ·obtain ⟨t,rfl⟩:=(fV 42 l).1 hp;exact iO (by decide) (hb 0 (by decide)) (hb 1 (by decide)) (hb 2 (by decide))
 ·obtain ⟨t,rfl⟩:=(fV 47 l).1 hp;exact iO (by decide) (hb 0 (by decide)) (hb 1 (by decide)) (hb 2 (by decide))
 ·obtain ⟨t,rfl⟩:=(fV 94 l).1 hp;exact iO (by decide) (hb 0 (by decide)) (hb 1 (by decide)) (hb 2 (by decide))
 ·obtain ⟨t,rfl⟩:=(fV 38 l).1 hp;exact iO (by decide) (hb 0 (by decide)) (hb 1 (by decide)) (hb 2 (by decide))
 ·obtain ⟨t,rfl⟩:=(fV 61 l).1 hp;exact iO (by decide) (hb 0 (by decide)) (hb 1 (by decide)) (hb 2 (by decide))
 ·obtain ⟨t,rfl⟩:=(fV 60 l).1 hp;exact iO (by decide) (hb 0 (by decide)) (hb 1 (by decide)) (hb 2 (by decide))
 ·obtain ⟨t,rfl⟩:=(fV 62 l).1 hp;exact iO (by decide) (hb 0 (by decide)) (hb 1 (by decide)) (hb 2 (by decide))
 ·obtain ⟨t,rfl⟩:=(fV 37 l).1 hp;exact iO (by decide) (hb 0 (by decide)) (hb 1 (by decide)) (hb 2 (by decide))
 ·obtain ⟨t,rfl⟩:=(fV 40 l).1 hp;exact iO (by decide) (hb 0 (by decide)) (hb 1 (by decide)) (hb 2 (by decide))
 ·obtain ⟨t,rfl⟩:=(fV 41 l).1 hp;exact iO (by decide) (hb 0 (by decide)) (hb 1 (by decide)) (hb 2 (by decide))
 ·obtain ⟨t,rfl⟩:=(fV 44 l).1 hp;exact iO (by decide) (hb 0 (by decide)) (hb 1 (by decide)) (hb 2 (by decide))
 ·obtain ⟨t,rfl⟩:=(fV 58 l).1 hp;exact iO (by decide) (hb 0 (by decide)) (hb 1 (by decide)) (hb 2 (by decide))
theorem aE8 {l:List UInt8} (hb:∀j,j < 17->(opn j).isPrefixOf l=false):Tk.opF l=none:=by
 rcases l with _ | ⟨c,t⟩
 ·rfl
 ·have hm:c ∉ Tk.ones:=by
   intro h;simp only [Tk.ones,List.mem_cons,List.not_mem_nil,or_false] at h;rcases h with rfl | rfl | rfl | rfl | rfl | rfl | rfl | rfl | rfl | rfl | rfl | rfl | rfl | rfl
   ·exact absurd (hb 3 (by decide)) (by simp [opn,List.isPrefixOf])
   ·exact absurd (hb 4 (by decide)) (by simp [opn,List.isPrefixOf])
   ·exact absurd (hb 5 (by decide)) (by simp [opn,List.isPrefixOf])
   ·exact absurd (hb 6 (by decide)) (by simp [opn,List.isPrefixOf])
   ·exact absurd (hb 7 (by decide)) (by simp [opn,List.isPrefixOf])
   ·exact absurd (hb 8 (by decide)) (by simp [opn,List.isPrefixOf])
   ·exact absurd (hb 9 (by decide)) (by simp [opn,List.isPrefixOf])
   ·exact absurd (hb 10 (by decide)) (by simp [opn,List.isPrefixOf])
   ·exact absurd (hb 11 (by decide)) (by simp [opn,List.isPrefixOf])
   ·exact absurd (hb 12 (by decide)) (by simp [opn,List.isPrefixOf])
   ·exact absurd (hb 13 (by decide)) (by simp [opn,List.isPrefixOf])
   ·exact absurd (hb 14 (by decide)) (by simp [opn,List.isPrefixOf])
   ·exact absurd (hb 15 (by decide)) (by simp [opn,List.isPrefixOf])
   ·exact absurd (hb 16 (by decide)) (by simp [opn,List.isPrefixOf])
  cases t with
  | nil=>show (if c ∈ Tk.ones then _ else none)=_;rw [if_neg hm]
  | cons d t=>
   have:Tk.two c d=false:=by
    cases h:Tk.two c d
    ·rfl
    ·unfold Tk.two at h;simp only [Bool.or_eq_true,Bool.and_eq_true,beq_iff_eq] at h;rcases h with (⟨rfl,rfl⟩ | ⟨rfl,rfl⟩) | ⟨rfl,rfl⟩
     ·exact absurd (by decide) hm
     ·exact absurd (by decide) hm
     ·exact absurd (by decide) hm
   show (if Tk.two c d=true then _ else if c ∈ Tk.ones then _ else none)=_;rw [this,if_neg (by decide),if_neg hm]
theorem aBe {W w:World} {b:Nat} {l:List UInt8} (X:LX W b l w):Calls Tryz.prog 193 #[pt b] w (Ans W b w (Tk.opF l)):=by
 have hb:=X.lt;have H0:Hid (St W b l (w.alloc tkO) (w.alloc tkO)):=St.refl (X.alloc tkO);have L0:Hid _:=aIt (w.alloc tkO) H0.out.1.t;generalize ho:Tk.opF l=o;have HO:Hid (Tk.opF l=o):=ho;have HI:Hid (∀(i:Nat) (h:i < 17) (W:World),(Instr.index 236 (.agg opsV) (.int .i64 (i:Int))).run Tryz.prog W=.ok (.string (ba (opn i))) W):=aF9;clear ho X;generalize opsV=V at *;go_enter Tryz.func193,Tryz.ntmps193;go_wp2_with (refine aC rfl 236 _ rfl _ _ rfl L0.out ?_)
 go_loopw [5,7] (fun _ v wr=>∃i:Nat,i<=17/\v=.int .i64 (i:Nat)/\Hid (∀j,j < i->(opn j).isPrefixOf l=false)/\Hid (St W b l (w.alloc tkO) wr)) (fun _ v _=>17 - (intOf v).toNat)
 case atStart=>exact⟨0,by decide,rfl,fun j h=>by omega,H0⟩
 case round=>
  obtain⟨i,h17,rfl,HJ,HS⟩:=hrel;clear H0 L0;by_cases hi:i < 17
  ·have hi2:(i:Int) < 17:=by omega
   have IX:=HI.out i hi;have SK:=fun u (Y:LX W b l u)=>jT Y (opn i);cases hp:(opn i).isPrefixOf l
   ·rw [hp] at SK;have HN:Hid (∀j,j < i+1->(opn j).isPrefixOf l=false):=fun j h3=>by
     by_cases e:j=i
     ·rw [e];exact hp
     ·exact HJ.out j (by omega)
    simp only [aBb hp] at SK;clear HJ HO HI;generalize ba (opn i)=A at *;go_wp2_with (go_at_call 228;refine (SK _ HS.out.1).mono ?_;rintro e w3 ⟨rfl,hs⟩;have HS3:Hid (St W b l (w.alloc tkO) w3):=HS.out.step hs;clear hs)
    go_roundw
    case rel=>exact⟨i+1,by omega,by simp,HN,HS3⟩
    case measure=>simp [intOf];omega
   ·rw [hp] at SK;have HN:Hid (o=some (.op (opn i),l.drop (opn i).length)):=by show _=_;rw [<-HO.out,aDZ hi HJ.out hp]
    simp only [aE7 hp] at SK;clear HJ HO HI;obtain⟨A,hA⟩:∃A,A=ba (opn i):=⟨_,rfl⟩
    rw [<-hA] at SK IX;have HA2:Hid (tcs 5 0 A noB noB 0 0 false false=(tk (.op (opn i))).cs):=by show _=_;rw [hA];rfl
    clear hA;generalize l.drop (opn i).length=m at *;go_wp2_with (first|(go_at_call 228;refine (SK _ HS.out.1).mono ?_;rintro e w3 ⟨rfl,hs⟩;have HS3:Hid (St W b m (w.alloc tkO) w3):=HS.out.step hs;have R:=HS3.out.put hb 5 0 A noB noB 0 0 false false;clear hs)|(refine aB rfl 156 _ _ rfl _ _ _ rfl rfl R.out ?_))
    refine bodyPost_ret (HS3.out.ans hb (tcs 5 0 A noB noB 0 0 false false) rfl rfl rfl rfl) rfl ?_;rw [HN.out];exact⟨by rw [<-HA2.out];rfl,HS3.out.fin hb _⟩
  ·have hi2:¬(i:Int) < 17:=by omega
   have HN:Hid (o=none):=by show _=_;rw [<-HO.out,aE8 (fun j h=>HJ.out j (by omega))]
   have R:=HS.out.put hb 0 0 noB noB noB 0 0 false false;clear HJ HO HI;go_wp2_with (refine aB rfl 156 _ _ rfl _ _ _ rfl rfl R.out ?_)
   refine bodyPost_ret (HS.out.ans hb (tcs 0 0 noB noB noB 0 0 false false) rfl rfl rfl rfl) rfl ?_;rw [HN.out];exact⟨⟨⟨0,0,noB,noB,noB,0,0,false,false⟩,rfl⟩,l,HS.out.fin hb _⟩
end Go.Proofs.YtlhoklhjbpkgpaaGreatDoor
namespace Go.Proofs.YtlhoklhjbpkgpaaGreatDoor
open Go.ChangeShapes Go.WideShapes Go.ChangeAt Go.WideElems Go.RowKit
abbrev lJ:List (String × DataW Unit):=[("math/bits.deBruijn32tab",Rows.laid_math_bits_deBruijn32tab),("math/bits.deBruijn64tab",Rows.laid_math_bits_deBruijn64tab),("internal/strconv.uint64pow10",Rows.laid_internal_strconv_uint64pow10),("unicode/utf8.acceptRanges",Rows.laid_unicode_utf8_acceptRanges),("strconv.ErrRange",Rows.laid_strconv_ErrRange),("strconv.ErrSyntax",Rows.laid_strconv_ErrSyntax),("octavo/value.faults",Rows.laid_octavo_value_faults),("octavo/token.operators",Rows.laid_octavo_token_operators),("unicode/utf8.first",Rows.laid_unicode_utf8_first)]
theorem own:ownKnob Tryz.prog.godebug=none:=by kernel_rfl
theorem aKQ (os:Os) (args:Array Value):laidMetH Tryz.prog lJ ((World.laidAll Tryz.prog os lJ).forCall (fun _ _=>0) ⟨#[],args,[]⟩).memory:=by rw [MakeChecks.laidMetH_plain _ _ _ (by kernel_rfl)];exact laidMet_laidAll _ (by kernel_rfl) (by kernel_rfl)
theorem aIu:(Rows.laid_internal_strconv_uint64pow10:DataW Unit)=Lib.tabData .u64 Lib.pow10Tab:=by kernel_rfl
theorem aGa {W:World} (h:laidMetH Tryz.prog lJ W):qA W:=by
 have h1:=laidMetH.filter (fun x=>x.1== "internal/strconv.uint64pow10") h
 have e:lJ.filter (fun x=>x.1== "internal/strconv.uint64pow10")=[("internal/strconv.uint64pow10",Lib.tabData .u64 Lib.pow10Tab)]:=by
  rw [<-aIu]
  kernel_rfl
 rw [e,MakeChecks.laidMetH_plain _ _ _ (by kernel_rfl)] at h1;exact Lib.tabIs_of_head (g:=5) (t:=281) (e:=178) (n:=20) (by kernel_rfl) (by kernel_rfl) Tryz.underlying281 Tryz.underlying178 (by kernel_rfl) (by kernel_rfl) h1
theorem aKR:Tryz.prog.globalNamed "octavo/value.faults" =some 1:=by kernel_rfl
theorem aKS:(Tryz.prog.globals[1]?).map (·.type)=some 200:=by kernel_rfl
theorem aGb {W:World} (h0:laidMetH Tryz.prog lJ W):xP W:=by
 have h:=laidMetH.filter (fun x=>x.1== "octavo/value.faults") h0
 have e:lJ.filter (fun x=>x.1== "octavo/value.faults")=[("octavo/value.faults",Rows.laid_octavo_value_faults)]:=by kernel_rfl
 rw [e,MakeChecks.laidMetH_plain _ _ _ (by kernel_rfl)] at h;obtain⟨ps,⟨g0,t0,cs0,f0,p0,q0,hg0,ht0,hv0,hd0,_,_⟩,_,_⟩:=h;obtain rfl:=Option.some.inj (aKR.symm.trans hg0);obtain rfl:=Option.some.inj (aKS.symm.trans ht0);obtain⟨xs,m1,rfl,hx1,hlen,hn3,hel⟩:=DataW.trod_array Tryz.underlying200 hd0;have c9:Tryz.prog.cellsOf 9=1:=by kernel_rfl
 simp only [Prod.mk.injEq] at hx1;intro i hi;have h1:=hel i hi;have hxi:xs[i]? =some xs[i]:=List.getElem?_eq_getElem (by omega);rw [hxi] at h1;obtain⟨b,e1,e2,_⟩:=DataW.trod_string Tryz.underlying9 h1;rw [c9,Nat.mul_one] at e1;have hk:b=fnm i:=by
  have hy:(Rows.laid_octavo_value_faults:DataW Unit)=.agg ((List.range 9).map fun n=> .lit (.string (fnm n).data.toList)):=by kernel_rfl
  have hz:=hx1.1;rw [hy] at hz;have hz2:((List.range 9).map fun n=>(DataW.lit (.string (fnm n).data.toList):DataW Unit))=xs.map (·.1):=by injection hz
  have hz3:=congrArg (fun l=>l[i]?) hz2;simp only [List.getElem?_map,hxi,Option.map_some,e2] at hz3;rw [List.getElem?_range hi] at hz3;simp at hz3;exact(bytes_inj (congrArg Array.toList hz3)).symm
 have hc:=World.var?_cell hg0 hv0 i;rw [hc,<-hk];have:(cs0.toList.drop i)[0]? =some (.string b):=by have:=congrArg (fun l=>l[0]?) e1;simpa using this
 simpa using this
theorem aO4:Tryz.prog.globalNamed "octavo/token.operators" =some 0:=by kernel_rfl
theorem aO5:(Tryz.prog.globals[0]?).map (·.type)=some 236:=by kernel_rfl
theorem aGc {W:World} (h0:laidMetH Tryz.prog lJ W):∀i,i < 17->W.cell? ⟨0,i,none⟩=some (.string (ba (opn i))):=by
 have h:=laidMetH.filter (fun x=>x.1== "octavo/token.operators") h0
 have e:lJ.filter (fun x=>x.1== "octavo/token.operators")=[("octavo/token.operators",Rows.laid_octavo_token_operators)]:=by kernel_rfl
 rw [e,MakeChecks.laidMetH_plain _ _ _ (by kernel_rfl)] at h;obtain⟨ps,⟨g0,t0,cs0,f0,p0,q0,hg0,ht0,hv0,hd0,_,_⟩,_,_⟩:=h;obtain rfl:=Option.some.inj (aO4.symm.trans hg0);obtain rfl:=Option.some.inj (aO5.symm.trans ht0);obtain⟨xs,m1,rfl,hx1,hlen,hn3,hel⟩:=DataW.trod_array Tryz.underlying236 hd0;have c9:Tryz.prog.cellsOf 9=1:=by kernel_rfl
 simp only [Prod.mk.injEq] at hx1;intro i hi;have h1:=hel i hi;have hxi:xs[i]? =some xs[i]:=List.getElem?_eq_getElem (by omega);rw [hxi] at h1;obtain⟨b,e1,e2,_⟩:=DataW.trod_string Tryz.underlying9 h1;rw [c9,Nat.mul_one] at e1;have hk:b=ba (opn i):=by
  have hy:(Rows.laid_octavo_token_operators:DataW Unit)=.agg ((List.range 17).map fun n=> .lit (.string (ba (opn n)).data.toList)):=by kernel_rfl
  have hz:=hx1.1;rw [hy] at hz;have hz2:((List.range 17).map fun n=>(DataW.lit (.string (ba (opn n)).data.toList):DataW Unit))=xs.map (·.1):=by injection hz
  have hz3:=congrArg (fun l=>l[i]?) hz2;simp only [List.getElem?_map,hxi,Option.map_some,e2] at hz3;rw [List.getElem?_range hi] at hz3;simp at hz3;exact(bytes_inj (show (ba (opn i)).data.toList=b.data.toList from hz3)).symm
 have hc:=World.var?_cell hg0 hv0 i;rw [hc,<-hk];have:(cs0.toList.drop i)[0]? =some (.string b):=by have:=congrArg (fun l=>l[0]?) e1;simpa using this
 simpa using this
theorem gES:Tryz.prog.globalNamed "strconv.ErrSyntax" =some 6:=by kernel_rfl
theorem aKT:(Tryz.prog.globals[6]?).map (·.type)=some 166:=by kernel_rfl
theorem gER:Tryz.prog.globalNamed "strconv.ErrRange" =some 7:=by kernel_rfl
theorem aKU:(Tryz.prog.globals[7]?).map (·.type)=some 166:=by kernel_rfl
theorem aE9:Tryz.prog.cellsOf 305=1:=by kernel_rfl
theorem aIv:Tryz.prog.cellsOf 9=1:=by kernel_rfl
theorem star: "*" ++ "errors.errorString" = "*errors.errorString" :=by decide
theorem aIw (u:TypeId) (h:Tryz.prog.typeName? 3 u=some "*errors.errorString"):u=303:=
 typeName_ptr_named (nm:= "errors.errorString") (by rw [star];kernel_rfl) (by kernel_rfl) (by decide) u (by rw [star];exact h)
theorem aGd {W:World} (h0:laidMetH Tryz.prog lJ W):aIb W:=by
 have h1:=laidMetH.filter (fun x=>x.1== "strconv.ErrSyntax") h0
 have e1:lJ.filter (fun x=>x.1== "strconv.ErrSyntax")=[("strconv.ErrSyntax",Rows.laid_strconv_ErrSyntax)]:=by kernel_rfl
 rw [e1,MakeChecks.laidMetH_plain _ _ _ (by kernel_rfl)] at h1
 have h2:=laidMetH.filter (fun x=>x.1== "strconv.ErrRange") h0
 have e2:lJ.filter (fun x=>x.1== "strconv.ErrRange")=[("strconv.ErrRange",Rows.laid_strconv_ErrRange)]:=by kernel_rfl
 rw [e2,MakeChecks.laidMetH_plain _ _ _ (by kernel_rfl)] at h2;obtain⟨a1,_,v1, -, -, -⟩:=laid_sentinel h1 gES aKT Tryz.underlying166 aIw Tryz.underlying303 Tryz.underlying305 rfl rfl Tryz.underlying9 aE9 aIv;obtain⟨a2,_,v2, -, -, -⟩:=laid_sentinel h2 gER aKU Tryz.underlying166 aIw Tryz.underlying303 Tryz.underlying305 rfl rfl Tryz.underlying9 aE9 aIv;exact⟨_,_,_,_,by have h0:=World.var?_cell gES v1 0;simpa using h0,by have h0:=World.var?_cell gER v2 0;simpa using h0⟩
theorem aD0 {W:World} (h:W.ShapedOpen Tryz.prog):∃m,W.cell? ⟨2,0,none⟩=some (.int .i64 m):=
 Go.Proofs.cell_of_shapedOpen_int (zero:=#[.int .i64 0]) (t:=3) h (of_decide_eq_true (by kernel_rfl)) (by kernel_rfl) rfl (by kernel_rfl) (by kernel_rfl) Tryz.underlying3
theorem aIx (i:Nat) (h:i < 17):opn i=(([[60,62],[60,61],[62,61],[43],[45],[42],[47],[94],[38],[61],[60],[62],[37],[40],[41],[44],[58]]:List (List UInt8))[i]'h):=by
 have:i=0\/i=1\/i=2\/i=3\/i=4\/i=5\/i=6\/i=7\/i=8\/i=9\/i=10\/i=11\/i=12\/i=13\/i=14\/i=15\/i=16:=by omega
 rcases this with rfl | rfl | rfl | rfl | rfl | rfl | rfl | rfl | rfl | rfl | rfl | rfl | rfl | rfl | rfl | rfl | rfl <;> rfl
theorem aKV {W:World} (h:laidMetH Tryz.prog lJ W) (hsh:W.ShapedOpen Tryz.prog):dD W:=⟨⟨⟨aGa h,aGb h⟩,aGd h⟩,fun i hi=>by rw [<-aIx i hi];exact aGc h i hi,aD0 hsh⟩
end Go.Proofs.YtlhoklhjbpkgpaaGreatDoor
namespace Go.Proofs.YtlhoklhjbpkgpaaGreatDoor.Sh
open Go.RowKit
structure aK where
 row:Int
 col:Int
 text:ByteArray
structure eY where
 scope:ByteArray
 name:ByteArray
 text:ByteArray
structure sP where
 kind:Int
 n:Int
 s:ByteArray
structure dW where
 book:ByteArray
 eP:ByteArray
 row:Int
 col:Int
 value:sP
def aK.Ok (c:aK):Prop:=In64 c.row/\In64 c.col
def sP.Ok (v:sP):Prop:=In64 v.kind/\In64 v.n
def dW.Ok (x:dW):Prop:=In64 x.row/\In64 x.col/\x.value.Ok
structure aO where
 name:ByteArray
 cells:List aK
structure aU where
 aA:List aO
 names:List eY
 links:List dW
def aO.Ok (s:aO):Prop:=∀c ∈ s.cells,c.Ok
def aU.Ok (x:aU):Prop:=(∀s ∈ x.aA,s.Ok)/\∀y ∈ x.links,y.Ok
end Go.Proofs.YtlhoklhjbpkgpaaGreatDoor.Sh
