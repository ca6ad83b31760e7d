/- FPure, FMem, FDepth, TSign, TBook, TName, TName2, TName3, TText, TText2, TNext, TSeq, TSame. -/
import Derived.Deep.Trees
import Derived.Lib.OthersKept
import Derived.Test.YtlhoklhjbpkgpaaGreatDoorSPutPu
set_option linter.unusedVariables false
set_option linter.unusedSimpArgs false
set_option maxHeartbeats 16000000
set_option maxRecDepth 100000
namespace Go.Fm
open Go.Ad Go.Tk
structure Lab where
  k:Int
  s:ByteArray
  vk:Int
  vn:Int
  vs:ByteArray
  b1:ByteArray
  h1:ByteArray
  r1:Int
  c1:Int
  fr1:Bool
  fc1:Bool
  b2:ByteArray
  h2:ByteArray
  r2:Int
  c2:Int
  fr2:Bool
  fc2:Bool
abbrev F:=Go.Deep.BT Lab
abbrev T:=Lab × F
def kids:F->List T
  | .nil=> []
  | .node _ _ a l r=>(a,l):: kids r
def mk:List T->F
  | []=> .nil
  | t:: r=> .node 0 0 t.1 t.2 (mk r)
theorem sZ:∀l:List T,kids (mk l)=l
  | []=>rfl
  | (a,l):: r=>by rw [mk,kids,sZ r]
theorem ind {P:T->Prop} (h:∀t,(∀s ∈ kids t.2,P s)->P t):∀t,P t:=by
  have key:∀f:F,∀s ∈ kids f,P s:=by
    intro f;induction f with
    | nil=>intro s hs;cases hs
    | node b o a l r ihl ihr=>
      intro s hs;rcases List.mem_cons.1 hs with rfl | hs
      · exact h _ ihl
      · exact ihr s hs
  exact fun t=>h t (key t.2)
def depth:F->Nat
  | .nil=>0
  | .node _ _ _ l r=>max (depth l+1) (depth r)
def size:F->Nat
  | .nil=>0
  | .node _ _ _ l r=>size l+1+size r
def pre:F->List T
  | .nil=> []
  | .node _ _ a l r=>(a,l):: (pre l++pre r)
def dT (t:T):Nat:=depth t.2+1
def zT (t:T):Nat:=size t.2+1
def aIH (t:T):List T:=t:: pre t.2
theorem aFd:∀f:F,(pre f).length=size f:=by
  intro f;induction f with
  | nil=>rfl
  | node b o a l r ihl ihr=>simp only [pre,size,List.length_cons,List.length_append,ihl,ihr];omega
theorem aCC:∀f:F,pre f=(kids f).flatMap aIH:=by
  intro f;induction f with
  | nil=>rfl
  | node b o a l r ihl ihr=>rw [pre,kids,List.flatMap_cons,ihr];rfl
theorem aAz:∀f:F,size f=((kids f).map zT).sum:=by
  intro f;induction f with
  | nil=>rfl
  | node b o a l r ihl ihr=>rw [size,kids,List.map_cons,List.sum_cons,ihr];rfl
theorem yP:∀f:F,depth f=(kids f).foldl (fun m t=>max m (dT t)) 0:=by
  have key:∀(f:F) (m:Nat),(kids f).foldl (fun m t=>max m (dT t)) m=max m (depth f):=by
    intro f;induction f with
    | nil=>intro m;simp [kids,depth]
    | node b o a l r ihl ihr=>
      intro m;rw [kids,List.foldl_cons,ihr,depth];show max (max m (depth l+1)) (depth r)=_;omega
  intro f;rw [key f 0];omega
theorem aD5:∀f:F,depth f<=size f:=by
  intro f;induction f with
  | nil=>exact Nat.le_refl _
  | node b o a l r ihl ihr=>simp only [depth,size];omega
def same:F->F->Prop
  | .nil,.nil=>True
  | .node _ _ a l r,.node _ _ a' l' r'=>a=a'/\same l l'/\same r r'
  | _,_=>False
def nf:F->F
  | .nil=> .nil
  | .node _ _ a l r=> .node 0 0 a (nf l) (nf r)
def nT (t:T):T:=(t.1,nf t.2)
def aV:List Tok->List UInt8
  | .inr (.inr (.inr (.inr (.inl s)))):: _=>s
  | _=> []
def mJ (s:List UInt8):Nat:=
  if s=[61]\/s=[60,62]\/s=[60]\/s=[60,61]\/s=[62]\/s=[62,61] then 1
  else if s=[38] then 2 else if s=[43]\/s=[45] then 3 else if s=[42]\/s=[47] then 4 else if s=[94] then 5 else 0
def bs (l:List UInt8):ByteArray:=⟨l.toArray⟩
abbrev nb:ByteArray:=⟨#[]⟩
def bG (k:Int) (s:ByteArray):Lab:=⟨k,s,0,0,nb,nb,nb,0,0,false,false,nb,nb,0,0,false,false⟩
def fM (k n:Int) (s:ByteArray):Lab:=⟨1,nb,k,n,s,nb,nb,0,0,false,false,nb,nb,0,0,false,false⟩
def aN9 (r:Ref):Lab:=⟨2,nb,0,0,nb,bs r.book,bs r.eP,r.cell.row,r.cell.col,r.cell.fr,r.cell.fc,nb,nb,0,0,false,false⟩
def aOa (r q:Ref):Lab:=⟨3,nb,0,0,nb,bs r.book,bs r.eP,r.cell.row,r.cell.col,r.cell.fr,r.cell.fc,bs q.book,bs q.eP,q.cell.row,q.cell.col,q.cell.fr,q.cell.fc⟩
def aAd (b s:List UInt8):Lab:=⟨4,bs s,0,0,nb,bs b,nb,0,0,false,false,nb,nb,0,0,false,false⟩
def tree (a:Lab) (l:List T):T:=(a,mk l)
def unT (s:List UInt8) (n:T):T:=tree (bG 5 (bs s)) [n]
def yQ (s:List UInt8) (n m:T):T:=tree (bG 6 (bs s)) [n,m]
abbrev Part:=List Tok->Option (T × List Tok)
def dV (part:Part) (lv:Nat):Nat->T->List Tok->Option (T × List Tok)
  | 0,n,ts=>some (n,ts)
  | k+1,n,ts=>if mJ (aV ts)=lv then (part ts.tail).bind fun p=>dV part lv k (yQ (aV ts) n p.1) p.2 else some (n,ts)
def gM:Nat->T->List Tok->T × List Tok
  | 0,n,ts=>(n,ts)
  | k+1,n,ts=>if aV ts=[37] then gM k (unT [37] n) ts.tail else (n,ts)
def dR (part:Part):Nat->List T->List Tok->Option (List T × List Tok)
  | 0,_,_=>none
  | k+1,acc,ts=>if aV ts=[41] then some (acc,ts.tail) else if aV ts=[44] then (part ts.tail).bind fun p=>dR part k (acc++ [p.1]) p.2 else none
section
variable (up:List UInt8->List UInt8) (tr:List UInt8->Option Int)
def qG (part:Part) (s:List UInt8) (ts:List Tok):Option (T × List Tok):=
  if aV ts=[41] then some (tree (bG 7 (bs (up s))) [],ts.tail)
  else (part ts).bind fun p=>(dR part (ts.length+1) [p.1] p.2).bind fun q=>if q.1.length<=16 then some (tree (bG 7 (bs (up s))) q.1,q.2) else none
def jA (part:Part):List Tok->Option (T × List Tok)
  | []=>none
  | .inl n:: r=>some (tree (fM 1 n nb) [],r)
  | .inr (.inl s):: r=>some (tree (fM 2 0 (bs s)) [],r)
  | .inr (.inr (.inl x)):: r=>if aV r=[58] then (match r.tail with
      | .inr (.inr (.inl y)):: q=>if y.eP=[] then some (tree (aOa x y) [],q) else none
      | _=>none) else some (tree (aN9 x) [],r)
  | .inr (.inr (.inr (.inl (b,s)))):: r=>if b=[]/\aV r=[40] then qG up part s r.tail else (match tr s with
      | some n=>some (tree (fM 3 n nb) [],r)
      | none=>some (tree (aAd b s) [],r))
  | .inr (.inr (.inr (.inr (.inl s)))):: r=>if s=[40] then (part r).bind fun p=>if aV p.2=[41] then some (p.1,p.2.tail) else none else none
  | .inr (.inr (.inr (.inr (.inr n)))):: r=>some (tree (fM 4 n nb) [],r)
def psN:Nat->Nat->List Tok->Option (T × List Tok)
  | 0,_,_=>none
  | f+1,lv,ts=>
    if lv<=5 then (psN f (lv+1) ts).bind fun p=>dV (psN f (lv+1)) lv ts.length p.1 p.2
    else if lv=6 then (if aV ts=[45] then (psN f 6 ts.tail).map fun p=>(unT [45] p.1,p.2) else psN f 7 ts)
    else if lv=7 then (psN f 8 ts).map fun p=>gM ts.length p.1 p.2
    else jA up tr (psN f 1) ts
def need (lv:Nat) (ts:List Tok):Nat:=9 * ts.length+(9 - lv)
def ps (lv:Nat) (ts:List Tok):Option (T × List Tok):=psN up tr (need lv ts) lv ts
def Less (part:Part):Prop:=∀ts n r,part ts=some (n,r)->r.length < ts.length
theorem bA {ts:List Tok} {s:List UInt8} (h:aV ts=s) (hs:s ≠ []):ts.tail.length+1=ts.length/\ts=Tok.op s:: ts.tail:=by
  cases ts with
  | nil=>exact absurd h.symm hs
  | cons t r=>
    refine ⟨rfl, ?_⟩;cases t using Tk.Tok.cs with
    | op x => have : x = s := h
              subst this;rfl
    | num n=>exact absurd h.symm hs
    | str n=>exact absurd h.symm hs
    | ref n=>exact absurd h.symm hs
    | word b n=>exact absurd h.symm hs
    | bad n=>exact absurd h.symm hs
theorem nG {s:List UInt8} (h:mJ s ≠ 0):s ≠ []:=by rintro rfl;exact h (by decide)
theorem aFe {part:Part} (hp:Less part) {lv:Nat} (hlv:lv ≠ 0):∀(k:Nat) (n:T) (ts:List Tok) (m:T) (r:List Tok),dV part lv k n ts=some (m,r)->r.length<=ts.length
  | 0,n,ts,m,r,h=>by cases h;exact Nat.le_refl _
  | k+1,n,ts,m,r,h=>by
    unfold dV at h;split at h
    · rename_i hs
      have h1:=(bA (ts:=ts) rfl (nG (by omega))).1;cases hq:part ts.tail with
      | none=>rw [hq] at h;cases h
      | some p=>
        rw [hq] at h;have h2:=hp _ p.1 p.2 hq;have h3:=aFe hp hlv k _ _ _ _ h;omega
    · cases h;exact Nat.le_refl _
theorem aII:∀(k:Nat) (n:T) (ts:List Tok),(gM k n ts).2.length<=ts.length
  | 0,n,ts=>Nat.le_refl _
  | k+1,n,ts=>by
    unfold gM;split
    · have:=aII k (unT [37] n) ts.tail
      have h1:ts.tail.length<=ts.length:=by rw [List.length_tail];omega
      omega
    · exact Nat.le_refl _
theorem aFf {part:Part} (hp:Less part):∀(k:Nat) (acc:List T) (ts:List Tok) (m:List T) (r:List Tok),dR part k acc ts=some (m,r)->r.length < ts.length
  | 0,acc,ts,m,r,h=>by cases h
  | k+1,acc,ts,m,r,h=>by
    unfold dR at h;split at h
    · rename_i hs
      have h1:=(bA (ts:=ts) hs (by decide)).1;cases h;omega
    · split at h
      · rename_i hs
        have h1:=(bA (ts:=ts) hs (by decide)).1;cases hq:part ts.tail with
        | none=>rw [hq] at h;cases h
        | some p=>
          rw [hq] at h;have h2:=hp _ p.1 p.2 hq;have h3:=aFf hp k _ _ _ _ h;omega
      · cases h
theorem aLc {part:Part} (hp:Less part) {s:List UInt8} {ts:List Tok} {m:T} {r:List Tok} (h:qG up part s ts=some (m,r)):r.length < ts.length:=by
  unfold qG at h;split at h
  · rename_i hs
    have h1:=(bA (ts:=ts) hs (by decide)).1;cases h;omega
  · cases hq:part ts with
    | none=>rw [hq] at h;cases h
    | some p=>
      rw [hq] at h;have h2:=hp _ p.1 p.2 hq;simp only [Option.bind_some] at h;cases ha:dR part (ts.length+1) [p.1] p.2 with
      | none=>rw [ha] at h;cases h
      | some q=>
        rw [ha] at h;simp only [Option.bind_some] at h;have h3:=aFf hp _ _ _ q.1 q.2 ha;split at h
        · cases h;omega
        · cases h
theorem aM7 {part:Part} (hp:Less part):Less (jA up tr part):=by
  intro ts m r h;cases ts with
  | nil=>cases h
  | cons t q=>
    simp only [List.length_cons];cases t using Tk.Tok.cs with
    | num n=>cases h;omega
    | str s=>cases h;omega
    | bad n=>cases h;omega
    | ref x=>
      simp only [jA] at h;split at h
      · rename_i hs
        have h1:=(bA (ts:=q) hs (by decide)).1;split at h
        · rename_i y q' he
          rw [he] at h1;simp only [List.length_cons] at h1;split at h
          · cases h;omega
          · cases h
        · cases h
      · cases h;omega
    | word b s=>
      simp only [jA] at h;split at h
      · rename_i hs
        have h1:=(bA (ts:=q) hs.2 (by decide)).1;have:=aLc up hp h;omega
      · split at h
        · cases h;omega
        · cases h;omega
    | op s=>
      simp only [jA] at h;split at h
      · cases hq:part q with
        | none=>rw [hq] at h;cases h
        | some p=>
          rw [hq] at h;have h2:=hp _ p.1 p.2 hq;simp only [Option.bind_some] at h;split at h
          · cases h
            have:p.2.tail.length<=p.2.length:=by rw [List.length_tail];omega
            omega
          · cases h
      · cases h
theorem fE:∀(f lv:Nat),1<=lv->Less (psN up tr f lv)
  | 0,lv,_=>fun ts n r h=>by cases h
  | f+1,lv,hlv=>fun ts n r h=>by
    unfold psN at h;split at h
    · cases hq:psN up tr f (lv+1) ts with
      | none=>rw [hq] at h;cases h
      | some p=>
        rw [hq] at h;have h2:=fE f (lv+1) (by omega) _ p.1 p.2 hq;have h3:=aFe (fE f (lv+1) (by omega)) (by omega) _ _ _ _ _ h;omega
    · split at h
      · split at h
        · rename_i hs
          have h1:=(bA (ts:=ts) hs (by decide)).1;cases hq:psN up tr f 6 ts.tail with
          | none=>rw [hq] at h;cases h
          | some p=>
            rw [hq] at h;have h2:=fE f 6 (by omega) _ p.1 p.2 hq;cases h;omega
        · exact fE f 7 (by omega) _ n r h
      · split at h
        · cases hq:psN up tr f 8 ts with
          | none=>rw [hq] at h;cases h
          | some p=>
            rw [hq] at h;have h2:=fE f 8 (by omega) _ p.1 p.2 hq;have h3:=aII ts.length p.1 p.2;simp only [Option.map_some,Option.some.injEq] at h;rw [h] at h3;exact Nat.lt_of_le_of_lt h3 h2
        · exact aM7 up tr (fE f 1 (Nat.le_refl _)) _ n r h
def Alike (p q:Part) (n:Nat):Prop:=∀ts:List Tok,ts.length<=n->p ts=q ts
theorem qV {p q:Part} {lv:Nat} (hlv:lv ≠ 0) (hp:Less p):∀(k:Nat) (n:T) (ts:List Tok),Alike p q (ts.length - 1)->dV p lv k n ts=dV q lv k n ts
  | 0,n,ts,h=>rfl
  | k+1,n,ts,h=>by
    unfold dV;split
    · rename_i hs
      have h1:=(bA (ts:=ts) rfl (nG (by omega))).1;rw [<-h ts.tail (by omega)];cases hq:p ts.tail with
      | none=>rfl
      | some x=>
        have h2:=hp _ x.1 x.2 hq;exact qV hlv hp k _ _ (fun us hu=>h us (by omega))
    · rfl
theorem uV {p:Part} {lv:Nat} (hlv:lv ≠ 0) (hp:Less p):∀(k:Nat) (n:T) (ts:List Tok) (k':Nat),ts.length<=k->ts.length<=k'->dV p lv k n ts=dV p lv k' n ts
  | 0,n,ts,0,h,h'=>rfl
  | 0,n,ts,k'+1,h,h'=>by have:ts=[]:=List.eq_nil_of_length_eq_zero (by omega);subst this;unfold dV;rw [if_neg (by show mJ [] ≠ lv;intro e;exact hlv (by rw [<-e];decide))]
  | k+1,n,ts,0,h,h'=>by have:ts=[]:=List.eq_nil_of_length_eq_zero (by omega);subst this;unfold dV;rw [if_neg (by show mJ [] ≠ lv;intro e;exact hlv (by rw [<-e];decide))]
  | k+1,n,ts,k'+1,h,h'=>by
    unfold dV;split
    · rename_i hs
      have h1:=(bA (ts:=ts) rfl (nG (by omega))).1;cases hq:p ts.tail with
      | none=>rfl
      | some x=>
        have h2:=hp _ x.1 x.2 hq;exact uV hlv hp k _ _ k' (by omega) (by omega)
    · rfl
theorem aCD:∀(k:Nat) (n:T) (ts:List Tok) (k':Nat),ts.length<=k->ts.length<=k'->gM k n ts=gM k' n ts
  | 0,n,ts,0,h,h'=>rfl
  | 0,n,ts,k'+1,h,h'=>by have:ts=[]:=List.eq_nil_of_length_eq_zero (by omega);subst this;rfl
  | k+1,n,ts,0,h,h'=>by have:ts=[]:=List.eq_nil_of_length_eq_zero (by omega);subst this;rfl
  | k+1,n,ts,k'+1,h,h'=>by
    unfold gM;split
    · rename_i hs
      have h1:=(bA (ts:=ts) hs (by decide)).1;exact aCD k _ _ k' (by omega) (by omega)
    · rfl
theorem yR {p q:Part} (hp:Less p):∀(k:Nat) (acc:List T) (ts:List Tok),Alike p q (ts.length - 1)->dR p k acc ts=dR q k acc ts
  | 0,acc,ts,h=>rfl
  | k+1,acc,ts,h=>by
    unfold dR;split
    · rfl
    · split
      · rename_i hs
        have h1:=(bA (ts:=ts) hs (by decide)).1;rw [<-h ts.tail (by omega)];cases hq:p ts.tail with
        | none=>rfl
        | some x=>
          have h2:=hp _ x.1 x.2 hq;exact yR hp k _ _ (fun us hu=>h us (by omega))
      · rfl
theorem uW {p:Part} (hp:Less p):∀(k:Nat) (acc:List T) (ts:List Tok) (k':Nat),ts.length < k->ts.length < k'->dR p k acc ts=dR p k' acc ts
  | 0,acc,ts,k',h,h'=>absurd h (Nat.not_lt_zero _)
  | k+1,acc,ts,0,h,h'=>absurd h' (Nat.not_lt_zero _)
  | k+1,acc,ts,k'+1,h,h'=>by
    unfold dR;split
    · rfl
    · split
      · rename_i hs
        have h1:=(bA (ts:=ts) hs (by decide)).1;cases hq:p ts.tail with
        | none=>rfl
        | some x=>
          have h2:=hp _ x.1 x.2 hq;exact uW hp k _ _ k' (by omega) (by omega)
      · rfl
theorem aD6 {p q:Part} (hp:Less p) (s:List UInt8) (ts:List Tok) (h:Alike p q ts.length):qG up p s ts=qG up q s ts:=by
  unfold qG;split
  · rfl
  · rw [<-h ts (Nat.le_refl _)]
    cases hq:p ts with
    | none=>rfl
    | some x=>
      have h2:=hp _ x.1 x.2 hq;simp only [Option.bind_some];rw [yR hp _ _ _ (fun us hu=>h us (by omega))]
theorem aAA {p q:Part} (hp:Less p) (ts:List Tok) (h:Alike p q (ts.length - 1)):jA up tr p ts=jA up tr q ts:=by
  cases ts with
  | nil=>rfl
  | cons t r=>
    simp only [List.length_cons,Nat.add_sub_cancel] at h;cases t using Tk.Tok.cs with
    | num n=>rfl
    | str s=>rfl
    | bad n=>rfl
    | ref x=>rfl
    | word b s=>
      simp only [jA];split
      · rw [aD6 up hp s r.tail (fun us hu=>h us (by rw [List.length_tail] at hu;omega))]
      · rfl
    | op s=>
      simp only [jA];rw [h r (Nat.le_refl _)]
theorem nH:∀(f g lv:Nat) (ts:List Tok),1<=lv->need lv ts<=f->need lv ts<=g->psN up tr f lv ts=psN up tr g lv ts
  | 0,g,lv,ts,hlv,h,h'=>by
    unfold need at h h';by_cases h8:lv<=8
    · omega
    · have h0:ts=[]:=List.eq_nil_of_length_eq_zero (by omega)
      subst h0;cases g with
      | zero=>rfl
      | succ g=>
        unfold psN;rw [if_neg (by omega),if_neg (by omega),if_neg (by omega)];rfl
  | f+1,0,lv,ts,hlv,h,h'=>by
    unfold need at h h';by_cases h8:lv<=8
    · omega
    · have h0:ts=[]:=List.eq_nil_of_length_eq_zero (by omega)
      subst h0;unfold psN;rw [if_neg (by omega),if_neg (by omega),if_neg (by omega)];rfl
  | f+1,g+1,lv,ts,hlv,h,h'=>by
    unfold need at h h';have al:∀m,1<=m->∀us:List Tok,us.length < ts.length->psN up tr f m us=psN up tr g m us:=fun m hm us hu=>
      nH f g m us hm (by unfold need;omega) (by unfold need;omega)
    unfold psN;split
    · rw [nH f g (lv+1) ts (by omega) (by unfold need;omega) (by unfold need;omega)]
      cases hq:psN up tr g (lv+1) ts with
      | none=>rfl
      | some x=>
        simp only [Option.bind_some];have h2:=fE up tr g (lv+1) (by omega) _ x.1 x.2 hq;exact qV (by omega) (fE up tr f (lv+1) (by omega)) _ _ _ (fun us hu=>al _ (by omega) us (by omega))
    · split
      · split
        · rename_i hs
          have h1:=(bA (ts:=ts) hs (by decide)).1;rw [al 6 (by omega) ts.tail (by omega)]
        · rename_i hl _
          exact nH f g 7 ts (by omega) (by unfold need;omega) (by unfold need;omega)
      · split
        · rw [nH f g 8 ts (by omega) (by unfold need;omega) (by unfold need;omega)]
        · cases ts with
          | nil=>rfl
          | cons t r=>exact aAA up tr (fE up tr f 1 (Nat.le_refl _)) _ (fun us hu=>al 1 (Nat.le_refl _) us (by simp at hu ⊢;omega))
theorem jB {lv:Nat} (hlv:1<=lv):Less (ps up tr lv):=fun ts n r h=>fE up tr _ lv hlv ts n r h
theorem aIJ {lv:Nat} (h1:1<=lv) (h5:lv<=5) (ts:List Tok):ps up tr lv ts=(ps up tr (lv+1) ts).bind fun p=>dV (ps up tr (lv+1)) lv p.2.length p.1 p.2:=by
  have e:need lv ts=need (lv+1) ts+1:=by unfold need;omega
  unfold ps;rw [e]
  conv=>lhs;unfold psN
  rw [if_pos h5];cases hq:psN up tr (need (lv+1) ts) (lv+1) ts with
  | none=>rfl
  | some x=>
    simp only [Option.bind_some];have h2:=fE up tr _ (lv+1) (by omega) _ x.1 x.2 hq;rw [uV (by omega) (fE up tr _ (lv+1) (by omega)) ts.length x.1 x.2 x.2.length (by omega) (Nat.le_refl _)];exact qV (by omega) (fE up tr _ (lv+1) (by omega)) _ _ _ (fun us hu=>nH up tr _ _ _ us (by omega) (by unfold need;omega) (Nat.le_refl _))
theorem aIK (ts:List Tok):ps up tr 6 ts=if aV ts=[45] then (ps up tr 6 ts.tail).map fun p=>(unT [45] p.1,p.2) else ps up tr 7 ts:=by
  have e:need 6 ts=need 7 ts+1:=by unfold need;omega
  conv=>lhs;unfold ps;rw [e];unfold psN
  rw [if_neg (by omega),if_pos rfl];split
  · rename_i hs
    have h1:=(bA (ts:=ts) hs (by decide)).1;rw [nH up tr (need 7 ts) (need 6 ts.tail) 6 ts.tail (by omega) (by unfold need;omega) (Nat.le_refl _)];rfl
  · rfl
theorem aIL (ts:List Tok):ps up tr 7 ts=(ps up tr 8 ts).map fun p=>gM p.2.length p.1 p.2:=by
  have e:need 7 ts=need 8 ts+1:=by unfold need;omega
  conv=>lhs;unfold ps;rw [e];unfold psN
  rw [if_neg (by omega),if_neg (by omega),if_pos rfl];unfold ps;cases hq:psN up tr (need 8 ts) 8 ts with
  | none=>rfl
  | some x=>
    have h2:=fE up tr _ 8 (by omega) _ x.1 x.2 hq;simp only [Option.map_some];rw [aCD ts.length x.1 x.2 x.2.length (by omega) (Nat.le_refl _)]
theorem aIM (ts:List Tok):ps up tr 8 ts=jA up tr (ps up tr 1) ts:=by
  have e:need 8 ts=9 * ts.length+1:=by unfold need;omega
  conv=>lhs;unfold ps;rw [e];unfold psN
  rw [if_neg (by omega),if_neg (by omega),if_neg (by omega)];cases ts with
  | nil=>rfl
  | cons t r=>exact aAA up tr (fE up tr _ 1 (Nat.le_refl _)) _ (fun us hu=>nH up tr _ _ _ us (by omega) (by unfold need;simp at hu ⊢;omega) (Nat.le_refl _))
end
end Go.Fm
namespace Go.Proofs.YtlhoklhjbpkgpaaGreatDoor
open Go.RowKit Go.Fm
def lcl (a:Lab) (sl:Value):List Value:=[.int .i64 a.k,.string a.s,.int .i64 a.vk,.int .i64 a.vn,.string a.vs,.string a.b1,.string a.h1,.int .i64 a.r1,.int .i64 a.c1,.bool a.fr1,.bool a.fc1,.string a.b2,.string a.h2,.int .i64 a.r2,.int .i64 a.c2,.bool a.fr2,.bool a.fc2,sl]
def lcs (a:Lab) (sl:Value):Array Value:=(lcl a sl).toArray
theorem aLd (a:Lab) (sl:Value):(lcl a sl).length=18:=rfl
theorem fB (a:Lab) (sl:Value):(lcs a sl).size=18:=rfl
theorem aLe (a:Lab) (p:Option Addr) (n c:Nat):∀u ∈ lcl a (.slice p n c),u.oneCell'=true:=by intro u hu;simp only [lcl,List.mem_cons,List.not_mem_nil,or_false] at hu;rcases hu with rfl | rfl | rfl | rfl | rfl | rfl | rfl | rfl | rfl | rfl | rfl | rfl | rfl | rfl | rfl | rfl | rfl | rfl <;> rfl
theorem nI (a:Lab) (p:Option Addr) (n c:Nat):(lcs a (.slice p n c)).all (·.oneCell')=true:=by unfold lcs;rw [List.all_toArray,List.all_eq_true];exact aLe a p n c
def InF (w:World):Addr->F->Prop
 | _,.nil=>True
 | a,.node _ _ l f r=>(∃p n c,(∀j v,(lcl l (.slice p n c))[j]? =some v->w.cell? (a.add j)=some v)/\n=(kids f).length/\(f=.nil\/∃a',p=some a'/\InF w a' f))/\InF w (a.add 18) r
def SF (w:World) (p:Option Addr) (n:Nat) (f:F):Prop:=n=(kids f).length/\(f=.nil\/∃a,p=some a/\InF w a f)
def NT (w:World) (es:Array Value) (t:T):Prop:=∃p n c,es=lcs t.1 (.slice p n c)/\SF w p n t.2
theorem InF.below:∀{f:F} {w w':World} {a:Addr},InF w a f->Below w.heap.size w w'->InF w' a f:=by
 intro f;induction f with
 | nil=>intro w w' a _ _;trivial
 | node b o l f r ihf ihr=>
  intro w w' a h hb;obtain⟨⟨p,n,c,h1,h2,h3⟩,h4⟩:=h;exact⟨⟨p,n,c,fun j v hj=>iN hb (h1 j v hj),h2,h3.imp id fun ⟨a',e,hi⟩=>⟨a',e,ihf hi hb⟩⟩,ihr h4 hb⟩
theorem SF.below {w w':World} {p:Option Addr} {n:Nat} {f:F} (h:SF w p n f) (hb:Below w.heap.size w w'):SF w' p n f:=
 ⟨h.1,h.2.imp id fun ⟨a,e,hi⟩=>⟨a,e,hi.below hb⟩⟩
theorem NT.below {w w':World} {es:Array Value} {t:T} (h:NT w es t) (hb:Below w.heap.size w w'):NT w' es t:=by obtain⟨p,n,c,e,hs⟩:=h;exact⟨p,n,c,e,hs.below hb⟩
theorem iG:(Tryz.prog.info? 67).map (·.size)=some 18:=by kernel_rfl
abbrev nd0:Array Value:=#[.int .i64 0,.string noB,.int .i64 0,.int .i64 0,.string noB,.string noB,.string noB,.int .i64 0,.int .i64 0,.bool false,.bool false,.string noB,.string noB,.int .i64 0,.int .i64 0,.bool false,.bool false,.slice none 0 0]
theorem aIN:(Tryz.prog.info? 67).map (fun i=>(i.zero,i.size,i.bytes))=some (some (.agg nd0),18,192):=by kernel_rfl
theorem fI {P:Program} (w:World) (x:Addr) (ty:TypeId) (cs:List Value) (d:TypeDesc) (hc:∀j v,cs[j]? =some v->w.cell? (x.add j)=some v)
  (hu:P.underlying ty=some d) (hd:d.isRow=true) (hi:(P.info? ty).map (·.size)=some cs.length):
  (Instr.loadAt ty (.pointer (some x))).run P w=.ok (.agg cs.toArray) w:=by
 have hl:(loadCells x cs.length).run P w=.ok cs.toArray w:=run_loadCells_list (P:=P) w x cs hc;cases hq:P.info? ty with
 | none=>simp [hq] at hi
 | some i=>
  have hs:i.size=cs.length:=by simpa [hq] using hi
  have hagg:(isAgg ty).run P w=.ok true w:=by unfold isAgg;rw [Sem.run_bind,run_underlying hu w];cases d <;> simp_all
  simp [Instr.loadAt,Instr.sureAddr,loadVar,Sem.run_bind,hagg,sizeOf,typeInfo,hq,hs,hl]
theorem InF.get:∀{f:F} {w:World} {a:Addr},InF w a f->∀(k:Nat) (hk:k < (kids f).length),∃es,(Instr.loadAt 67 (.pointer (some (a.add (k * 18))))).run Tryz.prog w=.ok (.agg es) w/\NT w es (kids f)[k]:=by
 intro f;induction f with
 | nil=>intro w a _ k hk;simp [kids] at hk
 | node b o l f r ihf ihr=>
  intro w a h k hk;obtain⟨⟨p,n,c,h1,h2,h3⟩,h4⟩:=h;cases k with
  | zero=>
   refine ⟨lcs l (.slice p n c), ?_,p,n,c,rfl,h2,h3⟩;have:a.add (0 * 18)=a.add 0:=by simp
   rw [this];refine fI w (a.add 0) 67 (lcl l (.slice p n c)) _ (fun j v hj=> ?_) Tryz.underlying67 rfl (by rw [aLd];exact iG);rw [Go.Deep.add_add,Nat.zero_add];exact h1 j v hj
  | succ k=>
   obtain⟨es,e1,e2⟩:=ihr h4 k (by simpa [kids] using hk);refine ⟨es, ?_,e2⟩;rw [Go.Deep.add_add] at e1;rw [show (k+1) * 18=18+k * 18 by omega];exact e1
theorem SF.get {w:World} {p:Option Addr} {n:Nat} {f:F} (h:SF w p n f) (k:Nat) (hk:k < n):∃a es t,p=some a/\(Instr.loadAt 67 (.pointer (some (a.add (k * 18))))).run Tryz.prog w=.ok (.agg es) w/\(kids f)[k]? =some t/\NT w es t:=by
 obtain⟨h1,h2⟩:=h;rcases h2 with rfl | ⟨a,rfl,hi⟩
 ·simp [kids] at h1;omega
 ·obtain ⟨es,e1,e2⟩:=hi.get k (by omega);exact⟨a,es,_,rfl,e1,List.getElem?_eq_getElem (by omega),e2⟩
theorem aCE (w:World) {es:Array Value} {t:T} (h:NT w es t):
  (Instr.storeAt 67 (pt w.heap.size) (.agg es)).run Tryz.prog (w.alloc (.cells nd0 67))=.ok () (w.alloc (.cells es 67))/\
  ∀u:World,u.heap[w.heap.size]? =some (.cells es 67)->(Instr.loadAt 67 (pt w.heap.size)).run Tryz.prog u=.ok (.agg es) u:=by
 obtain⟨p,n,c,rfl,hs⟩:=h;refine ⟨run_storeAt_new w 67 nd0 _ (by rw [fB];exact iG) rfl (nI _ _ _ _),fun u hu=> ?_⟩;exact lod (z:=(0,0)) hu rfl Tryz.underlying67 (by rw [fB];exact iG)
theorem qW {u:World} {g:Nat} {a:Lab} {sl:Value} {z:Nat × Nat} (h:u.heap[g]? =some (.cells (lcs a sl) 67 z)):u.cell? ⟨g,17,none⟩=some sl:=by rw [cell_of_row u g 17 _ 67 z h];rfl
theorem aBl {t s:T} (h:s ∈ kids t.2):zT s < zT t:=by
 have key:∀f:F,∀s ∈ kids f,zT s<=size f:=by
  intro f;induction f with
  | nil=>intro s hs;cases hs
  | node b o a l r ihl ihr=>
   intro s hs;rcases List.mem_cons.1 hs with rfl | hs
   ·show size l+1<=_;simp only [size];omega
   ·have:=ihr s hs;simp only [size];omega
 have:=key t.2 s h;unfold zT at this ⊢;omega
theorem aFg (t:T):dT t<=zT t:=by have:=aD5 t.2;unfold dT zT;omega
def dpK (f:F) (k:Nat):Nat:=((kids f).take k).foldl (fun m t=>max m (dT t)) 0
theorem aCF {f:F} {k:Nat} {t:T} (h:(kids f)[k]? =some t):dpK f (k+1)=max (dpK f k) (dT t):=by unfold dpK;rw [List.take_add_one,h];simp
theorem aFh (f:F) {k:Nat} (h:(kids f).length<=k):dpK f k=depth f:=by unfold dpK;rw [List.take_of_length_le h,yP]
theorem aFi:∀(l:List T) (m:Nat),m<=l.foldl (fun m t=>max m (dT t)) m
 | [],m=>Nat.le_refl _
 | t:: l,m=>by rw [List.foldl_cons];exact Nat.le_trans (Nat.le_max_left _ _) (aFi l _)
theorem aIO (f:F) (k:Nat):dpK f k<=depth f:=by
 rw [yP]
 conv=>rhs;rw [<-List.take_append_drop k (kids f)]
 rw [List.foldl_append];exact aFi _ _
theorem SF.step {w u:World} {p:Option Addr} {n k:Nat} {f:F} (h:SF w p n f) (hb:Below w.heap.size w u) (hk:k < n):
  ∃a es t,p=some a/\Hid ((Instr.loadAt 67 (.pointer (some (a.add (k * 18))))).run Tryz.prog u=.ok (.agg es) u)/\Hid ((kids f)[k]? =some t)/\
   Hid ((Instr.storeAt 67 (pt u.heap.size) (.agg es)).run Tryz.prog (u.alloc (.cells nd0 67))=.ok () (u.alloc (.cells es 67)))/\
   Hid ((Instr.loadAt 67 (pt u.heap.size)).run Tryz.prog (u.alloc (.cells es 67))=.ok (.agg es) (u.alloc (.cells es 67)))/\Hid (NT (u.alloc (.cells es 67)) es t)/\Hid (t ∈ kids f):=by
 obtain⟨a,es,t,e1,e2,e3,e4⟩:=(h.below hb).get k hk;obtain⟨b1,b2⟩:=aCE u e4;exact⟨a,es,t,e1,e2,e3,b1,b2 _ (heap_alloc_new u _),e4.below (aD (Below.refl _ _) _),List.mem_of_getElem? e3⟩
theorem aAB:∀t:T,zT t<=1000000->∀(w:World) (es:Array Value),NT w es t->CR 44 #[.agg es] w (.int .i64 (dT t:Nat)):=by
 refine ind ?_;intro t ih hz w es h;obtain⟨p,n,c,rfl,hs⟩:=h;have HK:Hid (∀s ∈ kids t.2,∀(w:World) (es:Array Value),NT w es s->CR 44 #[.agg es] w (.int .i64 (dT s:Nat))):=
  fun s hs=>ih s hs (by have:=aBl hs;omega)
 clear ih;have HD:Hid (∀s ∈ kids t.2,dT s<=1000000):=fun s hs=>by have:=aBl hs;have:=aFg s;omega
 have hd1:dT t<=1000000:=by have:=aFg t;omega
 have hdd:dT t=depth t.2+1:=rfl;have h17:=qW (u:=w.alloc (.cells (lcs t.1 (.slice p n c)) 67)) (heap_alloc_new w _);have HB0:Hid (Below w.heap.size w (w.alloc (.cells (lcs t.1 (.slice p n c)) 67))):=aD (Below.refl _ _) _;have HS:Hid (SF w p n t.2):=hs;have hn:n<=1000000:=by
  have e:=hs.1;have e2:=aAz t.2;have:(kids t.2).length<=size t.2:=by
   rw [<-aFd,aCC];have:∀l:List T,l.length<=(l.flatMap aIH).length:=by
    intro l;induction l with
    | nil=>exact Nat.zero_le _
    | cons a l ih=>rw [List.flatMap_cons,List.length_append,List.length_cons,aIH,List.length_cons];omega
   exact this _
  unfold zT at hz;omega
 have HN:Hid (n=(kids t.2).length):=hs.1;clear hs hz;generalize lcs t.1 (.slice p n c)=bx at *;go_enter Tryz.func44,Tryz.ntmps44;go_wp2;have hu0:Hid (dpK t.2 0=0):=rfl;go_loopw [3,9] (fun d i wr=>∃k:Nat,k<=n/\i=.int .i64 (k:Nat)/\d=.int .i64 (dpK t.2 k:Nat)/\Hid (Below w.heap.size w wr)) (fun _ i _=>n - (intOf i).toNat)
 case atStart=>exact⟨0,Nat.zero_le _,rfl,rfl,HB0⟩
 case round=>
  obtain⟨k,hk,rfl,rfl,HB⟩:=hrel;have hle:=aIO t.2 k;by_cases hlt:k < n
  ·have hki:(k:Int) < n:=by omega
   obtain⟨a',es,s,rfl,RL,HI,RS,RL2,HNT,HM⟩:=HS.out.step HB.out hlt;have C:=HK.out s HM.out _ _ HNT.out;have HDP:Hid (dpK t.2 (k+1)=max (dpK t.2 k) (dT s)):=aCF HI.out;have hds:=HD.out s HM.out;generalize dpK t.2 k=D at *;generalize dT s=E at *;go_wp2_with (first|(refine aC rfl 67 _ rfl _ _ rfl RL.out ?_)|(refine aB rfl 67 _ _ rfl _ _ _ rfl rfl RS.out ?_)|(refine aC rfl 67 _ rfl _ _ rfl RL2.out ?_)|(go_at_call 44;refine C.mono ?_;rintro e w2 ⟨rfl,hs⟩;have HU2:Hid (Below w.heap.size w w2):=aF (aD HB.out _) hs;clear hs))
   go_roundw
   case rel=>exact⟨k+1,by omega,by go_num,by rw [HDP.out];go_num,HU2⟩
   case measure=>simp [intOf];omega
  ·have hki:¬(k:Int) < n:=by omega
   have HE:Hid (dpK t.2 k=depth t.2):=aFh _ (by have:=HN.out;omega);go_wp2;go_ret;exact⟨by rw [HE.out];rfl,HB.out⟩
end Go.Proofs.YtlhoklhjbpkgpaaGreatDoor
namespace Go.Proofs.YtlhoklhjbpkgpaaGreatDoor
open Go.RowKit
def aCG (c:UInt8):Nat:=if Ad.isD c=true then 188 else if c=34 then 189 else if c=35 then 190 else if c=91\/c=36\/Ad.isL c=true then 192 else 193
theorem aFj {c d:UInt8} (h:¬c=d):¬(c.toNat:Int)=(d.toNat:Int):=fun e=>h (UInt8.toNat_inj.1 (by omega))
theorem aPb (c:UInt8) (u:World):CW 187 #[.int .i32 (c.toNat:Nat)] u (.bool (Ad.isD c)):=qR c.toNat u
theorem aPc (c:UInt8) (u:World):CW 191 #[.int .i32 (c.toNat:Nat)] u (.bool (Ad.isL c)):=by have:=vT c.toNat u;rw [Bool.or_comm] at this;exact this
theorem aIP (c:UInt8) (w:World):CW 149 #[.int .i32 (c.toNat:Nat)] w (.func (.func (aCG c)) #[] #[]):=by
 have D:=fun u=>aPb c u;have L:=fun u=>aPc c u;generalize hk:aCG c=k;unfold aCG at hk;cases hd:Ad.isD c
 ·rw [hd] at D hk;rw [if_neg (by decide)] at hk;by_cases h34:c=34
  ·subst h34;obtain rfl:189=k:=hk;clear L;go_enter Tryz.func149,Tryz.ntmps149;go_wp2_with (go_at_call 187;refine mw (D _) ?_)
   go_ret;exact⟨rfl,rfl⟩
  rw [if_neg h34] at hk;have n34:¬(c.toNat:Int)=34:=aFj h34;by_cases h35:c=35
  ·subst h35;obtain rfl:190=k:=hk;clear L;go_enter Tryz.func149,Tryz.ntmps149;go_wp2_with (go_at_call 187;refine mw (D _) ?_)
   go_ret;exact⟨rfl,rfl⟩
  rw [if_neg h35] at hk;have n35:¬(c.toNat:Int)=35:=aFj h35;by_cases h91:c=91
  ·subst h91;obtain rfl:192=k:=hk;clear L;go_enter Tryz.func149,Tryz.ntmps149;go_wp2_with (go_at_call 187;refine mw (D _) ?_)
   go_ret;exact⟨rfl,rfl⟩
  have n91:¬(c.toNat:Int)=91:=aFj h91;by_cases h36:c=36
  ·subst h36;obtain rfl:192=k:=hk;clear L;go_enter Tryz.func149,Tryz.ntmps149;go_wp2_with (go_at_call 187;refine mw (D _) ?_)
   go_ret;exact⟨rfl,rfl⟩
  have n36:¬(c.toNat:Int)=36:=aFj h36;cases hl:Ad.isL c
  ·rw [hl] at L hk;rw [if_neg (by rintro (h | h | h);exact h91 h;exact h36 h;cases h)] at hk;subst hk;generalize c.toNat=n at *;go_enter Tryz.func149,Tryz.ntmps149;go_wp2_with (first|(go_at_call 187;refine mw (D _) ?_) | (go_at_call 191;refine mw (L _) ?_))
   go_ret;exact⟨rfl,rfl⟩
  ·rw [hl] at L hk;rw [if_pos (.inr (.inr rfl))] at hk;subst hk;generalize c.toNat=n at *;go_enter Tryz.func149,Tryz.ntmps149;go_wp2_with (first|(go_at_call 187;refine mw (D _) ?_) | (go_at_call 191;refine mw (L _) ?_))
   go_ret;exact⟨rfl,rfl⟩
 ·rw [hd] at D hk;rw [if_pos rfl] at hk;subst hk;clear L;generalize c.toNat=n at *;go_enter Tryz.func149,Tryz.ntmps149;go_wp2_with (go_at_call 187;refine mw (D _) ?_)
  go_ret;exact⟨rfl,rfl⟩
def trB (l:List UInt8):Bool:=(jR (ba l)).2
theorem aD7 {c:UInt8} (h:Ad.isL (szB 97 65 c)=true):Ad.isL c=true:=by
 unfold szB at h;split at h
 ·rename_i h1
  unfold Ad.isL;simp only [Bool.or_eq_true,Bool.and_eq_true,decide_eq_true_eq];omega
 ·exact h
theorem aCH {l:List UInt8} (h:trB l=true):szF 97 65 l=[84,82,85,69]\/szF 97 65 l=[70,65,76,83,69]:=by
 unfold trB jR at h;rcases mF (szF 97 65 l) with ⟨a,b,_⟩ | ⟨a,b,_⟩ | ⟨_,_,b,_⟩
 ·exact .inl a
 ·exact .inr a
 ·have:(aFZ (szF 97 65 l)).2=true:=h;rw [b] at this;cases this
theorem vV {l:List UInt8} (h:∀x ∈ szF 97 65 l,Ad.isL x=true):∀x ∈ l,Ad.isL x=true:=fun x hx=>aD7 (h _ (List.mem_map_of_mem hx))
theorem vW {l:List UInt8} (h:trB l=true):l ≠ []/\∀x ∈ l,Ad.isL x=true:=by
 rcases aCH h with e | e
 ·exact ⟨fun e2=>(by rw [e2] at e;cases e),vV (by rw [e];decide)⟩
 ·exact ⟨fun e2=>(by rw [e2] at e;cases e),vV (by rw [e];decide)⟩
theorem aIQ (l:List UInt8):((dS (ba l)).1==3)=trB l:=by
 cases h:trB l
 ·have h':(jR (ba l)).2=false:=h;unfold dS;split
  ·rfl
  ·split
   ·rfl
   ·split
    ·rfl
    ·rw [h',if_neg (by decide)];split <;> rfl
 ·obtain ⟨h1,h2⟩:=vW h;have:nQ l=true:=by
   cases l with
   | nil=>exact absurd rfl h1
   | cons c r=>exact h2 c (by simp)
  rw [xV (s:=ba l) this];exact h
theorem aGq (l:List UInt8) (hl:l.length<=255) (w:World) (T:xR w):
  CR 234 #[.string (ba l)] w (.bool (trB l)):=by
 have Y:=uN (ba l) (by rw [size_mk];omega) w T;rw [<-aIQ l];generalize (dS (ba l)).1=k at *;generalize (dS (ba l)).2.1=n at *;generalize (dS (ba l)).2.2=x at *;generalize ba l=A at *;have FL:=fun W=>aE1 W k n x;go_enter Tryz.func234,Tryz.ntmps234;go_wp2_with (go_at_call 160;refine Y.mono ?_;rintro e w1 ⟨rfl,hb⟩;have HB:Hid (Below w.heap.size w w1):=hb;clear hb)
 go_ret;exact⟨rfl,HB.out⟩
def bkF (l:List UInt8):List UInt8 × List UInt8:=
 match Ad.strip 91 l with
 | (true,m)=>(match Ad.at_ 93 m with
  | some (a,r)=>if gnF a=true then (a,r) else ([],l)
  | none=>([],l))
 | (false,_)=>([],l)
theorem aLf {W w:World} {b:Nat} {l:List UInt8} (X:LX W b l w) {I N R:ByteArray} {m:List UInt8} (hR:R=ba m) {op cl g:Bool}
  (CP:∀u,CW 73 #[.string (ba l),.string ⟨#[91]⟩] u (.tuple #[.string I,.bool op]))
  (CU:∀u,CR 247 #[.string I,.string ⟨#[93]⟩] u (.tuple #[.string N,.string R,.bool cl]))
  (GN:∀u,dD u->CR 76 #[.string N] u (.bool g)):
  Calls Tryz.prog 230 #[pt b] w fun e w'=>e=.returned (.string (if (op && cl && g)=true then N else noB))/\St W b (if (op && cl && g)=true then m else l) w w':=by
 obtain⟨c0,c1,f0⟩:=X.cells;have H0:Hid (St W b l w w):=St.refl X;have HR:Hid (R=ba m):=hR;clear X hR;generalize ba l=A at c0 CP;cases op <;> cases cl <;> cases g
 all_goals
  go_enter Tryz.func230,Tryz.ntmps230;go_wp2_with (first|(go_at_call 73;refine mw (CP _) ?_)|(go_at_call 247;refine (CU _).mono ?_;rintro e w1 ⟨rfl,hs⟩;have HS1:Hid (St W b l w w1):=H0.out.bel hs;obtain⟨d0,d1,g0⟩:=HS1.out.1.cells;clear hs)|(go_at_call 76;refine (GN _ HS1.out.1.t).mono ?_;rintro e w2 ⟨rfl,hs⟩;have HS2:Hid (St W b l w w2):=HS1.out.bel hs;obtain⟨k0,k1,k2⟩:=HS2.out.1.cells;clear hs))
  first|(go_ret;exact⟨rfl,HS1.out⟩)|(go_ret;exact⟨rfl,HS2.out⟩)|(go_ret;refine ⟨rfl, ?_⟩;have:=HS2.out.set m;rw [<-HR.out] at this;exact this)
theorem aIR {W w:World} {b:Nat} {l:List UInt8} (X:LX W b l w) (hl:l.length<=255):
  Calls Tryz.prog 230 #[pt b] w fun e w'=>e=.returned (.string (ba (bkF l).1))/\St W b (bkF l).2 w w':=by
 have hI:(Ad.strip 91 l).2.length<=255:=by
  cases l with
  | nil=>exact Nat.zero_le _
  | cons c r=>rw [Ad.dG];split <;> simp at hl ⊢ <;> omega
 have hN:=(aCo 93 (Ad.strip 91 l).2).1;have B:=aLf X (R:=ba (jX 93 (Ad.strip 91 l).2).2.1) rfl (fun u=>mE 91 l u) (fun u=>xK 93 (Ad.strip 91 l).2 u (by omega))
  (fun u T=>kE ⟨(jX 93 (Ad.strip 91 l).2).1.toArray⟩ (by rw [size_mk];omega) u T.t.t)
 simp only [show (⟨(jX 93 (Ad.strip 91 l).2).1.toArray⟩:ByteArray).data.toList=(jX 93 (Ad.strip 91 l).2).1 from rfl] at B;unfold bkF;cases hs:Ad.strip 91 l with
 | mk o m=>
  rw [hs] at B;cases o with
  | false=>exact B
  | true=>
   simp only;cases ha:Ad.at_ 93 m with
   | none=>
    rw [oQ ha] at B;exact B
   | some p=>
    obtain⟨a,r⟩:=p;rw [oU ha] at B;simp only;cases hg:gnF a with
    | false=>rw [hg] at B;exact B
    | true=>rw [hg] at B;exact B
section
variable {W w:World} {b:Nat} {l l1 l2 l3 l4:List UInt8} {K R R2 D:ByteArray}
theorem aCI (X:LX W b l w) (hl:l.length<=255) {B H:ByteArray} {r c:Int} {fr fc ok:Bool}
  (BK:Hid (Calls Tryz.prog 230 #[pt b] (w.alloc tkO) fun e w'=>e=.returned (.string K)/\St W b l1 (w.alloc tkO) w'))
  (TK:∀u,LX W b l1 u->Calls Tryz.prog 194 #[pt b,.func (.func 231) #[] #[]] u fun e w'=>e=.returned (.string R)/\St W b l2 u w')
  (SK:∀u,LX W b l2 u->Calls Tryz.prog 228 #[pt b,.string ⟨#[33]⟩] u fun e w'=>e=.returned (.bool true)/\St W b l3 u w')
  (TK2:∀u,LX W b l3 u->Calls Tryz.prog 194 #[pt b,.func (.func 231) #[] #[]] u fun e w'=>e=.returned (.string R2)/\St W b l4 u w')
  (h4:l4.length<=l.length) (hD:(ba l).extract 0 (l.length - l4.length)=D)
  (PR:∀u,dD u->CR 232 #[.string D] u (.tuple #[dB B H r c fr fc,.bool ok])):
  Calls Tryz.prog 192 #[pt b] w fun e w'=>e=.returned (.tuple #[.agg (tcs 3 0 noB B H r c fr fc),.bool ok])/\St W b l4 w w':=by
 have hb:=X.lt;obtain⟨c0,c1,f0⟩:=X.cells;obtain⟨a0,a1,a2⟩:=(X.alloc tkO).cells;have z0:(ba l).size=l.length:=size_mk l;have z4:(ba l4).size=l4.length:=size_mk l4;generalize ba l=A at *;generalize l.length=n0 at *;generalize l4.length=n4 at *;have i1:(0:Int)<=(n0:Int) - n4:=by omega
 have i2:(n0:Int) - n4<=n0:=by omega
 have hD2:A.extract 0 ((n0:Int) - (n4:Int)).toNat=D:=by rw [<-hD];congr 1;omega
 clear X;go_enter Tryz.func192,Tryz.ntmps192;go_wp2_with (first|(go_at_call 230;refine Calls.mono BK.out ?_;rintro e w1 ⟨rfl,hs⟩;have HS1:Hid (St W b l1 (w.alloc tkO) w1):=hs;clear hs BK)|(go_at_call 194;refine (TK _ HS1.out.1).mono ?_;rintro e w2 ⟨rfl,hs⟩;have HS2:Hid (St W b l2 (w.alloc tkO) w2):=HS1.out.step hs;clear hs HS1)|(go_at_call 228;refine (SK _ HS2.out.1).mono ?_;rintro e w3 ⟨rfl,hs⟩;have HS3:Hid (St W b l3 (w.alloc tkO) w3):=HS2.out.step hs;clear hs HS2)|(go_at_call 194;refine (TK2 _ HS3.out.1).mono ?_;rintro e w4 ⟨rfl,hs⟩;have HS4:Hid (St W b l4 (w.alloc tkO) w4):=HS3.out.step hs;obtain⟨d0,d1,d2⟩:=HS4.out.1.cells;clear hs HS3;generalize ba l4=A4 at *)|(go_at_call 232;refine (PR _ HS4.out.1.t).mono ?_;rintro e w5 ⟨rfl,hs⟩;have HS5:Hid (St W b l4 (w.alloc tkO) (w5.alloc (dP B H r c fr fc))):=(HS4.out.bel hs).alloc _;have RR:=HS5.out.put hb 3 0 noB B H r c fr fc;clear hs HS4)|(refine aB rfl 156 _ _ rfl _ _ _ rfl rfl RR.out ?_))
 exact bodyPost_ret (HS5.out.ans hb (tcs 3 0 noB B H r c fr fc) rfl rfl rfl rfl) rfl ⟨rfl,HS5.out.fin hb _⟩
end
section
variable {W w:World} {b:Nat} {l l1 l2:List UInt8} {K R:ByteArray}
theorem aLg (X:LX W b l w) {B H:ByteArray} {r c:Int} {fr fc:Bool}
  (BK:Hid (Calls Tryz.prog 230 #[pt b] (w.alloc tkO) fun e w'=>e=.returned (.string noB)/\St W b l1 (w.alloc tkO) w'))
  (TK:∀u,LX W b l1 u->Calls Tryz.prog 194 #[pt b,.func (.func 231) #[] #[]] u fun e w'=>e=.returned (.string R)/\St W b l2 u w')
  (SK:∀u,LX W b l2 u->Calls Tryz.prog 228 #[pt b,.string ⟨#[33]⟩] u fun e w'=>e=.returned (.bool false)/\St W b l2 u w')
  (CE:∀u,dD u->CR 233 #[.string R] u (.tuple #[dB B H r c fr fc,.bool true])):
  Calls Tryz.prog 192 #[pt b] w fun e w'=>e=.returned (.tuple #[.agg (tcs 3 0 noB B H r c fr fc),.bool true])/\St W b l2 w w':=by
 have hb:=X.lt;obtain⟨c0,c1,f0⟩:=X.cells;obtain⟨a0,a1,a2⟩:=(X.alloc tkO).cells;generalize ba l=A at *;clear X;go_enter Tryz.func192,Tryz.ntmps192;go_wp2_with (first|(go_at_call 230;refine Calls.mono BK.out ?_;rintro e w1 ⟨rfl,hs⟩;have HS1:Hid (St W b l1 (w.alloc tkO) w1):=hs;clear hs BK)|(go_at_call 194;refine (TK _ HS1.out.1).mono ?_;rintro e w2 ⟨rfl,hs⟩;have HS2:Hid (St W b l2 (w.alloc tkO) w2):=HS1.out.step hs;clear hs HS1)|(go_at_call 228;refine (SK _ HS2.out.1).mono ?_;rintro e w3 ⟨rfl,hs⟩;have HS3:Hid (St W b l2 (w.alloc tkO) w3):=HS2.out.step hs;clear hs HS2)|(go_at_call 233;refine (CE _ HS3.out.1.t).mono ?_;rintro e w5 ⟨rfl,hs⟩;have HS5:Hid (St W b l2 (w.alloc tkO) (w5.alloc (dP B H r c fr fc))):=(HS3.out.bel hs).alloc _;have RR:=HS5.out.put hb 3 0 noB B H r c fr fc;clear hs HS3)|(refine aB rfl 156 _ _ rfl _ _ _ rfl rfl RR.out ?_))
 exact bodyPost_ret (HS5.out.ans hb (tcs 3 0 noB B H r c fr fc) rfl rfl rfl rfl) rfl ⟨rfl,HS5.out.fin hb _⟩
theorem aIS (X:LX W b l w) {B H:ByteArray} {r c:Int} {fr fc g t:Bool}
  (BK:Hid (Calls Tryz.prog 230 #[pt b] (w.alloc tkO) fun e w'=>e=.returned (.string noB)/\St W b l1 (w.alloc tkO) w'))
  (TK:∀u,LX W b l1 u->Calls Tryz.prog 194 #[pt b,.func (.func 231) #[] #[]] u fun e w'=>e=.returned (.string R)/\St W b l2 u w')
  (SK:∀u,LX W b l2 u->Calls Tryz.prog 228 #[pt b,.string ⟨#[33]⟩] u fun e w'=>e=.returned (.bool false)/\St W b l2 u w')
  (CE:∀u,dD u->CR 233 #[.string R] u (.tuple #[dB B H r c fr fc,.bool false]))
  (GN:∀u,dD u->CR 76 #[.string R] u (.bool g))
  (TR:∀u,dD u->CR 234 #[.string R] u (.bool t)):
  Calls Tryz.prog 192 #[pt b] w fun e w'=>e=.returned (.tuple #[.agg (tcs 4 0 R noB noB 0 0 false false),.bool (g || t)])/\St W b l2 w w':=by
 have hb:=X.lt;obtain⟨c0,c1,f0⟩:=X.cells;obtain⟨a0,a1,a2⟩:=(X.alloc tkO).cells;generalize ba l=A at *;clear X;cases g
 ·go_enter Tryz.func192,Tryz.ntmps192;go_wp2_with (first|(go_at_call 230;refine Calls.mono BK.out ?_;rintro e w1 ⟨rfl,hs⟩;have HS1:Hid (St W b l1 (w.alloc tkO) w1):=hs;clear hs BK)|(go_at_call 194;refine (TK _ HS1.out.1).mono ?_;rintro e w2 ⟨rfl,hs⟩;have HS2:Hid (St W b l2 (w.alloc tkO) w2):=HS1.out.step hs;clear hs HS1)|(go_at_call 228;refine (SK _ HS2.out.1).mono ?_;rintro e w3 ⟨rfl,hs⟩;have HS3:Hid (St W b l2 (w.alloc tkO) w3):=HS2.out.step hs;clear hs HS2)|(go_at_call 233;refine (CE _ HS3.out.1.t).mono ?_;rintro e w5 ⟨rfl,hs⟩;have HS5:Hid (St W b l2 (w.alloc tkO) (w5.alloc (dP B H r c fr fc))):=(HS3.out.bel hs).alloc _;clear hs HS3)|(go_at_call 76;refine (GN _ HS5.out.1.t).mono ?_;rintro e w6 ⟨rfl,hs⟩;have HS6:Hid (St W b l2 (w.alloc tkO) w6):=HS5.out.bel hs;clear hs HS5)|(go_at_call 234;refine (TR _ HS6.out.1.t).mono ?_;rintro e w7 ⟨rfl,hs⟩;have HS7:Hid (St W b l2 (w.alloc tkO) w7):=HS6.out.bel hs;have RR:=HS7.out.put hb 4 0 R noB noB 0 0 false false;clear hs HS6)|(refine aB rfl 156 _ _ rfl _ _ _ rfl rfl RR.out ?_))
  exact bodyPost_ret (HS7.out.ans hb (tcs 4 0 R noB noB 0 0 false false) rfl rfl rfl rfl) rfl ⟨rfl,HS7.out.fin hb _⟩
 ·go_enter Tryz.func192,Tryz.ntmps192;go_wp2_with (first|(go_at_call 230;refine Calls.mono BK.out ?_;rintro e w1 ⟨rfl,hs⟩;have HS1:Hid (St W b l1 (w.alloc tkO) w1):=hs;clear hs BK)|(go_at_call 194;refine (TK _ HS1.out.1).mono ?_;rintro e w2 ⟨rfl,hs⟩;have HS2:Hid (St W b l2 (w.alloc tkO) w2):=HS1.out.step hs;clear hs HS1)|(go_at_call 228;refine (SK _ HS2.out.1).mono ?_;rintro e w3 ⟨rfl,hs⟩;have HS3:Hid (St W b l2 (w.alloc tkO) w3):=HS2.out.step hs;clear hs HS2)|(go_at_call 233;refine (CE _ HS3.out.1.t).mono ?_;rintro e w5 ⟨rfl,hs⟩;have HS5:Hid (St W b l2 (w.alloc tkO) (w5.alloc (dP B H r c fr fc))):=(HS3.out.bel hs).alloc _;clear hs HS3)|(go_at_call 76;refine (GN _ HS5.out.1.t).mono ?_;rintro e w6 ⟨rfl,hs⟩;have HS6:Hid (St W b l2 (w.alloc tkO) w6):=HS5.out.bel hs;have RR:=HS6.out.put hb 4 0 R noB noB 0 0 false false;clear hs HS5)|(refine aB rfl 156 _ _ rfl _ _ _ rfl rfl RR.out ?_))
  exact bodyPost_ret (HS6.out.ans hb (tcs 4 0 R noB noB 0 0 false false) rfl rfl rfl rfl) rfl ⟨rfl,HS6.out.fin hb _⟩
theorem aIT (X:LX W b l w) {B H:ByteArray} {r c:Int} {fr fc g ok:Bool} (hK:(K.toList==[])=false)
  (BK:Hid (Calls Tryz.prog 230 #[pt b] (w.alloc tkO) fun e w'=>e=.returned (.string K)/\St W b l1 (w.alloc tkO) w'))
  (TK:∀u,LX W b l1 u->Calls Tryz.prog 194 #[pt b,.func (.func 231) #[] #[]] u fun e w'=>e=.returned (.string R)/\St W b l2 u w')
  (SK:∀u,LX W b l2 u->Calls Tryz.prog 228 #[pt b,.string ⟨#[33]⟩] u fun e w'=>e=.returned (.bool false)/\St W b l2 u w')
  (CE:∀u,dD u->CR 233 #[.string R] u (.tuple #[dB B H r c fr fc,.bool ok]))
  (GN:∀u,dD u->CR 76 #[.string R] u (.bool g)):
  Calls Tryz.prog 192 #[pt b] w fun e w'=>e=.returned (.tuple #[.agg (tcs 4 0 R K noB 0 0 false false),.bool g])/\St W b l2 w w':=by
 have hb:=X.lt;obtain⟨c0,c1,f0⟩:=X.cells;obtain⟨a0,a1,a2⟩:=(X.alloc tkO).cells;generalize ba l=A at *;clear X;cases g <;> cases ok
 all_goals
  go_enter Tryz.func192,Tryz.ntmps192;go_wp2_with (first|(go_at_call 230;refine Calls.mono BK.out ?_;rintro e w1 ⟨rfl,hs⟩;have HS1:Hid (St W b l1 (w.alloc tkO) w1):=hs;clear hs BK)|(go_at_call 194;refine (TK _ HS1.out.1).mono ?_;rintro e w2 ⟨rfl,hs⟩;have HS2:Hid (St W b l2 (w.alloc tkO) w2):=HS1.out.step hs;clear hs HS1)|(go_at_call 228;refine (SK _ HS2.out.1).mono ?_;rintro e w3 ⟨rfl,hs⟩;have HS3:Hid (St W b l2 (w.alloc tkO) w3):=HS2.out.step hs;clear hs HS2)|(go_at_call 233;refine (CE _ HS3.out.1.t).mono ?_;rintro e w5 ⟨rfl,hs⟩;have HS5:Hid (St W b l2 (w.alloc tkO) (w5.alloc (dP B H r c fr fc))):=(HS3.out.bel hs).alloc _;clear hs HS3)|(go_at_call 76;refine (GN _ HS5.out.1.t).mono ?_;rintro e w6 ⟨rfl,hs⟩;have HS6:Hid (St W b l2 (w.alloc tkO) w6):=HS5.out.bel hs;have RR:=HS6.out.put hb 4 0 R K noB 0 0 false false;clear hs HS5)|(refine aB rfl 156 _ _ rfl _ _ _ rfl rfl RR.out ?_))
  exact bodyPost_ret (HS6.out.ans hb (tcs 4 0 R K noB 0 0 false false) rfl rfl rfl rfl) rfl ⟨rfl,HS6.out.fin hb _⟩
end
theorem at_eq {c:UInt8}:∀{l a r:List UInt8},Ad.at_ c l=some (a,r)->l=a++c:: r
 | [],a,r,h=>by cases h
 | x:: l,a,r,h=>by
  unfold Ad.at_ at h;split at h
  ·rename_i e;cases h;rw [e];rfl
  ·cases hq:Ad.at_ c l with
   | none=>rw [hq] at h;cases h
   | some p=>
    rw [hq] at h;cases h
    rw [List.cons_append,<-at_eq (a:=p.1) (r:=p.2) hq]
theorem vX (p:UInt8->Bool) (l:List UInt8):l.takeWhile p++l.dropWhile p=l:=List.takeWhile_append_dropWhile
theorem aD8 {l A B:List UInt8} (h:l=A++B):l.take (l.length - B.length)=A/\B.length<=l.length/\A.length<=l.length:=by subst h;rw [List.length_append];refine ⟨?_,by omega,by omega⟩;rw [show A.length+B.length - B.length=A.length by omega];exact List.take_left
theorem aCJ {W w:World} {b:Nat} {l l1 k pre:List UInt8} (X:LX W b l w) (hl:l.length<=255) (he:l=pre++l1) (hk:k=[]\/k ≠ [])
  (BK:Hid (Calls Tryz.prog 230 #[pt b] (w.alloc tkO) fun e w'=>e=.returned (.string (ba k))/\St W b l1 (w.alloc tkO) w')):
  Calls Tryz.prog 192 #[pt b] w (Ans W b w (Tk.gI gnF trB k pre l1)):=by
 have hl1:l1.length<=255:=by rw [he,List.length_append] at hl;omega
 have hd:(l1.dropWhile Tk.aQ).length<=l1.length:=Tk.lH _ _;have ht:(l1.takeWhile Tk.aQ).length<=255:=Nat.le_trans (List.takeWhile_sublist _).length_le hl1;have TK:=fun u (Y:LX W b l1 u)=>oD Y hl1 aCu e56;have SK:=fun u (Y:LX W b (l1.dropWhile Tk.aQ) u)=>jT Y [33];have CE:=fun u (T:dD u)=>lS (l1.takeWhile Tk.aQ) (by omega) u T.t;have GN:∀u,dD u->CR 76 #[.string (ba (l1.takeWhile Tk.aQ))] u (.bool (gnF (l1.takeWhile Tk.aQ))):=fun u T=>kE (ba (l1.takeWhile Tk.aQ)) (by rw [size_mk];omega) u T.t.t;have TR:=fun u (T:dD u)=>aGq (l1.takeWhile Tk.aQ) (by omega) u T.t.t;have plain: [33].isPrefixOf (l1.dropWhile Tk.aQ)=false->Calls Tryz.prog 192 #[pt b] w (Ans W b w (if k=[] then (match Ad.cellP (l1.takeWhile Tk.aQ) with
   | some c=>some (.ref ⟨[],[],c⟩,l1.dropWhile Tk.aQ)
   | none=>if gnF (l1.takeWhile Tk.aQ)=true\/trB (l1.takeWhile Tk.aQ)=true then some (.word [] (l1.takeWhile Tk.aQ),l1.dropWhile Tk.aQ) else none)
  else if gnF (l1.takeWhile Tk.aQ)=true then some (.word k (l1.takeWhile Tk.aQ),l1.dropWhile Tk.aQ) else none)):=by
  intro hno;simp only [aBb hno,hno] at SK;by_cases e:k=[]
  ·subst e;rw [if_pos rfl];cases hc:Ad.cellP (l1.takeWhile Tk.aQ) with
   | some c=>
    rw [hc] at CE;refine (aLg X BK TK SK CE).mono ?_;rintro e w' ⟨rfl,h⟩;exact⟨rfl,h⟩
   | none=>
    rw [hc] at CE;refine (aIS X BK TK SK CE GN TR).mono ?_;rintro e w' ⟨rfl,h⟩;cases hg:gnF (l1.takeWhile Tk.aQ) <;> cases hr:trB (l1.takeWhile Tk.aQ)
    ·exact ⟨⟨⟨4,0,_,noB,noB,0,0,false,false⟩,rfl⟩,_,h⟩
    ·exact ⟨rfl,h⟩
    ·exact ⟨rfl,h⟩
    ·exact ⟨rfl,h⟩
  ·rw [if_neg e];have hK:((ba k).toList==[])=false:=by
    rw [wS];cases k with
    | nil=>exact absurd rfl e
    | cons _ _=>rfl
   have main:=fun {B H:ByteArray} {r c:Int} {fr fc ok:Bool} (CE:∀u,dD u->CR 233 #[.string (ba (l1.takeWhile Tk.aQ))] u (.tuple #[dB B H r c fr fc,.bool ok]))=>aIT X hK BK TK SK CE GN;have fin:∀(e:Ending) (w':World),(e=.returned (.tuple #[.agg (tcs 4 0 (ba (l1.takeWhile Tk.aQ)) (ba k) noB 0 0 false false),.bool (gnF (l1.takeWhile Tk.aQ))])/\St W b (l1.dropWhile Tk.aQ) w w')->Ans W b w (if gnF (l1.takeWhile Tk.aQ)=true then some (.word k (l1.takeWhile Tk.aQ),l1.dropWhile Tk.aQ) else none) e w':=by
    rintro e w' ⟨rfl,h⟩;cases hg:gnF (l1.takeWhile Tk.aQ)
    ·exact ⟨⟨⟨4,0,_,_,noB,0,0,false,false⟩,rfl⟩,_,h⟩
    ·exact ⟨rfl,h⟩
   cases hc:Ad.cellP (l1.takeWhile Tk.aQ) with
   | some c=>
    rw [hc] at CE;exact(main CE).mono fin
   | none=>
    rw [hc] at CE;exact(main CE).mono fin
 unfold Tk.gI;cases hx:l1.dropWhile Tk.aQ with
 | nil=>
  have:=plain (by rw [hx];rfl);rw [hx] at this;exact this
 | cons x r=>
  by_cases h33:x=33
  ·subst h33;clear plain;have hr:r.length<=255:=by rw [hx,List.length_cons] at hd;omega
   rw [hx] at TK SK;have SK2:∀u,LX W b (33:: r) u->Calls Tryz.prog 228 #[pt b,.string ⟨#[33]⟩] u fun e w'=>e=.returned (.bool true)/\St W b r u w':=SK;have TK2:=fun u (Y:LX W b r u)=>oD Y hr aCu e56;have h4:=Tk.lH Tk.aQ r;have hall:l=pre++l1.takeWhile Tk.aQ++33:: r.takeWhile Tk.aQ++r.dropWhile Tk.aQ:=by rw [List.append_assoc,List.append_assoc,List.cons_append,vX,<-hx,vX];exact he
   obtain⟨f1,hl4,f3⟩:=aD8 hall;have hD:(ba l).extract 0 (l.length - (r.dropWhile Tk.aQ).length)=ba (pre++l1.takeWhile Tk.aQ++33:: r.takeWhile Tk.aQ):=by rw [sO,f1]
   have hlD:(pre++l1.takeWhile Tk.aQ++33:: r.takeWhile Tk.aQ).length<=255:=by omega
   have PR:=fun u (T:dD u)=>aA6 (pre++l1.takeWhile Tk.aQ++33:: r.takeWhile Tk.aQ) (by omega) u T.t;simp only;cases hp:Ad.lY gnF (pre++l1.takeWhile Tk.aQ++33:: r.takeWhile Tk.aQ) with
   | none=>
    rw [hp] at PR;refine (aCI X hl BK TK SK2 TK2 hl4 hD PR).mono ?_;rintro e w' ⟨rfl,h⟩;exact⟨⟨⟨3,0,noB,noB,noB,0,0,false,false⟩,rfl⟩,_,h⟩
   | some x=>
    rw [hp] at PR;refine (aCI X hl BK TK SK2 TK2 hl4 hD PR).mono ?_;rintro e w' ⟨rfl,h⟩;exact⟨rfl,h⟩
  ·have:=plain (by
    rw [hx];simp [List.isPrefixOf,Ne.symm h33])
   rw [hx] at this;split
   ·rename_i e;cases e;exact absurd rfl h33
   ·exact this
theorem aLh {l:List UInt8} (h:Ad.strip 91 l=(false,l)):bkF l=([],l):=by unfold bkF;rw [h]
theorem aIU {W w:World} {b:Nat} {l:List UInt8} (X:LX W b l w) (hl:l.length<=255):Calls Tryz.prog 192 #[pt b] w (Ans W b w (Tk.named gnF trB l)):=by
 have B:=aIR (X.alloc tkO) hl;have other:bkF l=([],l)->Calls Tryz.prog 192 #[pt b] w (Ans W b w (Tk.gI gnF trB [] [] l)):=fun h=>by rw [h] at B;exact aCJ X hl rfl (.inl rfl) B
 rcases l with _ | ⟨c,m⟩
 ·exact other rfl
 ·by_cases hc:c=91
  ·subst hc;have no:bkF (91:: m)=([],91:: m)->Calls Tryz.prog 192 #[pt b] w (Ans W b w none):=fun h=>by
    have:=other h;rw [show Tk.gI gnF trB [] [] (91:: m)=none by
     unfold Tk.gI;rw [List.dropWhile_cons,if_neg (by decide),List.takeWhile_cons,if_neg (by decide)];rfl] at this
    exact this
   unfold Tk.named;simp only;cases ha:Ad.at_ 93 m with
   | none=>
    refine no ?_;unfold bkF;rw [Ad.dG,if_pos rfl];simp only [ha]
   | some p=>
    obtain⟨a,r⟩:=p;simp only;cases hg:gnF a with
    | false=>
     refine no ?_;unfold bkF;rw [Ad.dG,if_pos rfl];simp only [ha,hg];rfl
    | true=>
     rw [if_pos rfl];have hb:bkF (91:: m)=(a,r):=by unfold bkF;rw [Ad.dG,if_pos rfl];simp only [ha,hg,if_true]
     rw [hb] at B;refine aCJ X hl ?_ (.inr fun e=> ?_) B
     ·rw [at_eq ha];simp
     ·rw [e] at hg;cases hg
  ·have h:Tk.named gnF trB (c:: m)=Tk.gI gnF trB [] [] (c:: m):=by
    unfold Tk.named;split
    ·rename_i e;cases e;exact absurd rfl hc
    ·rfl
   rw [h];exact other (aLh (by rw [Ad.dG,if_neg hc]))
abbrev nq (c:UInt8):Bool:= !(c==34)
theorem pG:∀(A D:List UInt8),(∀x ∈ A,nq x=true)->Tk.bX (A++D)=(Tk.bX D).map fun p=>(A++p.1,p.2)
 | [],D,_=>by show Tk.bX D=(Tk.bX D).map _;cases Tk.bX D <;> rfl
 | a:: A,D,h=>by
  have ha:¬a=34:=by simpa using h a (by simp)
  have ih:=pG A D (fun x hx=>h x (List.mem_cons_of_mem _ hx));cases hAD:A++D with
  | nil=>
   obtain⟨rfl,rfl⟩:=List.append_eq_nil_iff.1 hAD;show Tk.bX [a]=_;unfold Tk.bX;rw [if_neg ha];rfl
  | cons d r=>
   rw [List.cons_append,hAD];have e:Tk.bX (a:: d:: r)=(Tk.bX (d:: r)).map fun p=>(a:: p.1,p.2):=by
    conv=>lhs;unfold Tk.bX
    rw [if_neg ha]
   rw [e,<-hAD,ih];cases Tk.bX D <;> rfl
theorem aBm {D:List UInt8} (h:∀r,D ≠ 34:: r):Tk.bX (34:: D)=some ([],D):=by
 cases D with
 | nil=>rfl
 | cons d r=>
  unfold Tk.bX;rw [if_pos rfl,if_neg (fun e=>h r (by rw [e]))]
theorem aCK (D:List UInt8):Tk.bX (34:: 34:: D)=(Tk.bX D).map fun p=>(34:: p.1,p.2):=by
 conv=>lhs;unfold Tk.bX
 rw [if_pos rfl,if_pos rfl]
theorem aIV {p:UInt8->Bool} {l:List UInt8}:∀x ∈ l.takeWhile p,p x=true:=by
 have:(l.takeWhile p).all p=true:=by rw [List.all_takeWhile]
 exact List.all_eq_true.1 this
theorem uX {p:UInt8->Bool}:∀{l:List UInt8} {c:UInt8} {r:List UInt8},l.dropWhile p=c:: r->p c=false
 | [],_,_,h=>by cases h
 | a:: l,c,r,h=>by
  rw [List.dropWhile_cons] at h;split at h
  ·exact uX h
  ·rename_i ha;cases h;simpa using ha
structure TX (W:World) (b:Nat) (w:World) (m acc:List UInt8) (u:World):Prop where
 st:St W b m w u
 z:u.heap[w.heap.size]? =some tkO
 bd:Lib.IsBuilderF 163 5 (w.heap.size+1) (w.heap.size+1) (Lib.byteCells acc) u
theorem aAC {T e:TypeId} {B k b:Nat} {p:Value} {bs:List Value} {w w':World} (h:Lib.BuilderAtF T e B k p bs w) (hg:w.grownBy w' (some b)) (hb:b < B):Lib.BuilderAtF T e B k p bs w':=by
 have hlt:=h.lt;obtain⟨hB,v,hk,hown,hne⟩:=h;refine ⟨hB,v,(hg.block k hlt (fun e=>by cases e;omega)).trans hk,hown.kept hg ?_,hne⟩;rcases hown.2 with ⟨rfl,_⟩ | ⟨g,cap,cur,fz,rfl,hge,_⟩
 ·exact .inl rfl
 ·exact .inr fun e=>by simp [Value.ownBlock] at e;omega
theorem aLi {T e:TypeId} {B k b:Nat} {bs:List Value} {w w':World} (h:Lib.IsBuilderF T e B k bs w) (hg:w.grownBy w' (some b)) (hb:b < B):Lib.IsBuilderF T e B k bs w':=
 h.elim (fun x=> .inl (aAC x hg hb)) (fun x=> .inr (aAC x hg hb))
theorem TX.method {W w u u1:World} {b:Nat} {m m' acc:List UInt8} (hb:b < w.heap.size) (h:TX W b w m acc u) (k:St W b m' u u1):TX W b w m' acc u1:=
 ⟨h.st.step k,k.kept h.z (by omega),aLi h.bd k.2 (by omega)⟩
theorem St.low {W w u u1:World} {b:Nat} {m:List UInt8} (hb:b < w.heap.size) (h:St W b m w u) (k:Below (w.heap.size+1) u u1):St W b m w u1:=
 ⟨⟨h.1.tab,⟨k.os.trans h.1.bel.os,k.tape.trans h.1.bel.tape,k.output.trans h.1.bel.output,Nat.le_trans h.1.bel.size k.size,fun i hi=>(k.block i (by have:=h.1.lo;omega)).trans (h.1.bel.block i hi)⟩,h.1.lo,(k.block b (by omega)).trans h.1.blk⟩,
  ⟨k.os.trans h.2.os,k.tape.trans h.2.tape,k.output.trans h.2.output,Nat.le_trans h.2.size k.size,fun i hi hne=>(k.block i (by omega)).trans (h.2.block i hi hne)⟩⟩
theorem TX.write {W w u u1:World} {b:Nat} {m acc s:List UInt8} (hb:b < w.heap.size) (h:TX W b w m acc u) (hB:Lib.BuilderAtF 163 5 (w.heap.size+1) (w.heap.size+1) (.pointer (some ⟨w.heap.size+1,0,none⟩)) (Lib.byteCells acc++Lib.strCells (ba s)) u1) (k:Below (w.heap.size+1) u u1):TX W b w m (acc++s) u1:=
 ⟨h.st.low hb k,(k.block _ (by omega)).trans h.z,.inr (by
  have e:Lib.byteCells (acc++s)=Lib.byteCells acc++Lib.strCells (ba s):=by simp [Lib.byteCells,Lib.strCells]
  rw [e];exact hB)⟩
theorem TX.begin {W w:World} {b:Nat} {l:List UInt8} (X:LX W b l w):TX W b w l [] ((w.alloc tkO).alloc (.cells #[.pointer none,.slice none 0 0] 163)):=
 ⟨((St.refl X).alloc _).alloc _,(Below.heap_alloc _ _ _ (by simp)).trans (heap_alloc_new w tkO),by
  have:=Lib.IsBuilderF.of (Lib.fresh_isBuilder 163 5 (w.alloc tkO));show Lib.IsBuilderF 163 5 (w.heap.size+1) (w.heap.size+1) [] _;simpa using this⟩
theorem TX.put {W w u:World} {b:Nat} {m acc:List UInt8} (h:TX W b w m acc u) (k n:Int) (s b' h':ByteArray) (r c:Int) (fr fc:Bool):
  Hid ((Instr.storeAt 156 (pt w.heap.size) (.agg (tcs k n s b' h' r c fr fc))).run Tryz.prog u=.ok () (u.setRow w.heap.size (tcs k n s b' h' r c fr fc))):=
 sto h.z nZ rfl (oZ k n s b' h' r c fr fc)
theorem TX.ans {W w u:World} {b:Nat} {m acc:List UInt8} (h:TX W b w m acc u) (es:Array Value) (he:es.size=9) {fn:Func} {p q:Tmp} (hr:fn.results=#[.cell p 156,.tmp q]) {tmps:Array Value} {v2:Value}
  (hp:tmps.getD p undef=pt w.heap.size) (hv:tmps.getD q undef=v2):(results fn tmps).run Tryz.prog (u.setRow w.heap.size es)=.ok (.tuple #[.agg es,v2]) (u.setRow w.heap.size es):=
 kF hr hp (setRow_heap _ _ _ es _ _ h.z) rfl Tryz.underlying156 (by rw [he];exact nZ) hv
theorem TX.fin {W w u:World} {b:Nat} {m acc:List UInt8} (hb:b < w.heap.size) (h:TX W b w m acc u) (es:Array Value):St W b m w (u.setRow w.heap.size es):=
 h.st.grown (aL _ _ _) (Nat.le_refl _) hb
def aFk (b:Nat) (u:World):Nat:=match u.cell? ⟨b,0,none⟩ with
 | some (.string s)=>s.size
 | _=>0
theorem tF {W u:World} {b:Nat} {l:List UInt8} (X:LX W b l u):aFk b u=l.length:=by unfold aFk;rw [X.cells.1];exact size_mk l
theorem aD9 {W w u:World} {b:Nat} {m acc:List UInt8} (hb:b < w.heap.size) (h:TX W b w m acc u) (s:List UInt8) (hs:acc.length+s.length<=1000):
  Calls Tryz.prog 133 #[.pointer (some ⟨w.heap.size+1,0,none⟩),.string (ba s)] u fun e w'=>e=.returned (.tuple #[.int .i64 (s.length:Nat),.nilIface])/\TX W b w m (acc++s) w':=by
 have:=Tryz.Builder_WriteString_k (w.heap.size+1) (w.heap.size+1) (Lib.byteCells acc) (ba s) u h.bd (by rw [Lib.byteCells_length,size_mk];omega) (by have:=aZ h.z;omega);refine this.mono ?_;rintro e w' ⟨rfl,h1,h2,_⟩;exact⟨by rw [size_mk],h.write hb h1 h2⟩
theorem aM8 {W w u:World} {b:Nat} {m acc:List UInt8} (hb:b < w.heap.size) (h:TX W b w m acc u):
  Calls Tryz.prog 135 #[.pointer (some ⟨w.heap.size+1,0,none⟩)] u fun e w'=>e=.returned (.string (ba acc))/\TX W b w m acc w':=by
 have:=Tryz.Builder_String_any_k (w.heap.size+1) (w.heap.size+1) acc u h.bd (by have:=aZ h.z;omega);refine this.mono ?_;rintro e w' ⟨rfl,h1,h2,_⟩;exact⟨rfl,h.st.low hb h2,(h2.block _ (by omega)).trans h.z,h1⟩
theorem aIW {W w:World} {b:Nat} {r:List UInt8} (X:LX W b (34:: r) w) (hl:(34:: r).length<=255):Calls Tryz.prog 189 #[pt b] w (Ans W b w ((Tk.bX r).map fun p=>(.str p.1,p.2))):=by
 have hb:=X.lt;have H0:Hid (TX W b w (34:: r) [] ((w.alloc tkO).alloc (.cells #[.pointer none,.slice none 0 0] 163))):=TX.begin X;have SK0:=fun u (Y:LX W b (34:: r) u)=>jT Y [34];have SK1:∀u,LX W b (34:: r) u->Calls Tryz.prog 228 #[pt b,.string ⟨#[34]⟩] u fun e w'=>e=.returned (.bool true)/\St W b r u w':=SK0;generalize ho:(Tk.bX r).map (fun p=>((.str p.1,p.2):Tk.Tok × List UInt8))=o;have HO:Hid ((Tk.bX r).map (fun p=>((.str p.1,p.2):Tk.Tok × List UInt8))=o):=ho;have hr:r.length<=254:=by simpa using hl
 clear ho X SK0 hl;go_enter Tryz.func189,Tryz.ntmps189;go_wp2_with (go_at_call 228;refine (SK1 _ H0.out.st.1).mono ?_;rintro e w1 ⟨rfl,hs⟩;have H1:Hid (TX W b w r [] w1):=H0.out.method hb hs;clear hs)
 clear H0 SK1;go_loopw [7] (fun _ wr=>∃m acc:List UInt8,acc.length+m.length<=254/\Hid ((Tk.bX r)=(Tk.bX m).map fun p=>(acc++p.1,p.2))/\Hid (TX W b w m acc wr)) (fun _ wr=>aFk b wr)
 case atStart=>exact⟨r,[],by simpa using hr,by show Tk.bX r=_;cases Tk.bX r <;> rfl,H1⟩
 case round=>
  obtain⟨m,acc,hlen,HQ,HX⟩:=hrel;clear H1;have hm:m.length<=255:=by omega
  have hlm:=tF HX.out.st.1;have TK:=fun u (Y:LX W b m u)=>oD Y hm aDW e53;have hA:∀x ∈ m.takeWhile nq,nq x=true:=aIV;have hsplit:=vX nq m;have hh:=fun {c:UInt8} {q:List UInt8} (h:m.dropWhile nq=c:: q)=>uX h;have TK':∀u,LX W b m u->Calls Tryz.prog 194 #[pt b,.func (.func 229) #[] #[]] u fun e w'=>e=.returned (.string (ba (m.takeWhile nq)))/\St W b (m.dropWhile nq) u w':=TK;clear TK;generalize m.takeWhile nq=A at *;cases hD:m.dropWhile nq with
  | nil=>
   rw [hD] at TK' hsplit;have hAm:A.length+0=m.length:=by rw [<-hsplit];simp
   have HN:Hid (o=none):=by show _=_;rw [<-HO.out,HQ.out,<-hsplit,pG A [] hA];rfl
   have SK:=fun u (Y:LX W b [] u)=>jT Y [34];have SK':∀u,LX W b [] u->Calls Tryz.prog 228 #[pt b,.string ⟨#[34]⟩] u fun e w'=>e=.returned (.bool false)/\St W b [] u w':=SK;clear HO HQ hsplit hA hh SK;have WR:=fun u (Y:TX W b w [] acc u)=>aD9 hb Y A (by omega);go_wp2_with (first|(go_at_call 194;refine (TK' _ HX.out.st.1).mono ?_;rintro e w2 ⟨rfl,hs⟩;have H2:Hid (TX W b w [] acc w2):=HX.out.method hb hs;clear hs)|(go_at_call 133;refine (WR _ H2.out).mono ?_;rintro e w3 ⟨rfl,hs⟩;have H3:Hid (TX W b w [] (acc++A) w3):=hs;clear hs)|(go_at_call 228;refine (SK' _ H3.out.st.1).mono ?_;rintro e w4 ⟨rfl,hs⟩;have H4:Hid (TX W b w [] (acc++A) w4):=H3.out.method hb hs;have RR:=H4.out.put 0 0 noB noB noB 0 0 false false;clear hs)|(refine aB rfl 156 _ _ rfl _ _ _ rfl rfl RR.out ?_))
   refine bodyPost_ret (H4.out.ans (tcs 0 0 noB noB noB 0 0 false false) rfl rfl rfl rfl) rfl ?_;rw [HN.out];exact⟨⟨⟨0,0,noB,noB,noB,0,0,false,false⟩,rfl⟩,_,H4.out.fin hb _⟩
  | cons c D=>
   have hc:c=34:=by have:=hh hD;simpa [nq] using this
   subst hc;rw [hD] at TK' hsplit;have hAm:A.length+(D.length+1)=m.length:=by rw [<-hsplit];simp
   have SK:=fun u (Y:LX W b (34:: D) u)=>jT Y [34];have SK':∀u,LX W b (34:: D) u->Calls Tryz.prog 228 #[pt b,.string ⟨#[34]⟩] u fun e w'=>e=.returned (.bool true)/\St W b D u w':=SK;have WR:=fun u (Y:TX W b w (34:: D) acc u)=>aD9 hb Y A (by omega);have hq:=pG A (34:: D) hA;clear SK hA hh;by_cases h2:∃E,D=34:: E
   ·obtain ⟨E,rfl⟩:=h2;have SKE:=fun u (Y:LX W b (34:: E) u)=>jT Y [34];have aM9:∀u,LX W b (34:: E) u->Calls Tryz.prog 228 #[pt b,.string ⟨#[34]⟩] u fun e w'=>e=.returned (.bool true)/\St W b E u w':=SKE;have WQ:=fun u (Y:TX W b w E (acc++A) u)=>aD9 hb Y [34] (by simp;simp at hAm;omega);have HN:Hid (Tk.bX r=(Tk.bX E).map fun p=>((acc++A++ [34])++p.1,p.2)):=by show _=_;rw [HQ.out,<-hsplit,hq,aCK];cases Tk.bX E <;> simp
    have aMw:(acc++A++ [34]).length+E.length<=254:=by simp;simp at hAm;omega
    have hme:E.length < m.length:=by simp at hAm;omega
    clear SKE HQ hq hsplit;go_wp2_with (first|(go_at_call 194;refine (TK' _ HX.out.st.1).mono ?_;rintro e w2 ⟨rfl,hs⟩;have H2:Hid (TX W b w (34:: 34:: E) acc w2):=HX.out.method hb hs;clear hs)|(go_at_call 133;refine (WR _ H2.out).mono ?_;rintro e w3 ⟨rfl,hs⟩;have H3:Hid (TX W b w (34:: 34:: E) (acc++A) w3):=hs;clear hs H2)|(go_at_call 228;refine (SK' _ H3.out.st.1).mono ?_;rintro e w4 ⟨rfl,hs⟩;have H4:Hid (TX W b w (34:: E) (acc++A) w4):=H3.out.method hb hs;clear hs H3)|(go_at_call 228;refine (aM9 _ H4.out.st.1).mono ?_;rintro e w5 ⟨rfl,hs⟩;have H5:Hid (TX W b w E (acc++A) w5):=H4.out.method hb hs;clear hs H4)|(go_at_call 133;refine (WQ _ H5.out).mono ?_;rintro e w6 ⟨rfl,hs⟩;have H6:Hid (TX W b w E (acc++A++ [34]) w6):=hs;clear hs))
    go_roundw
    case rel=>exact⟨E,acc++A++ [34],aMw,HN,H6⟩
    case measure=>rw [tF H6.out.st.1,hlm];exact hme
   ·have hno:∀q,D ≠ 34:: q:=fun q e=>h2 ⟨q,e⟩;have hpn: [34].isPrefixOf D=false:=by
     cases D with
     | nil=>rfl
     | cons x q=>simp [List.isPrefixOf];rintro rfl;exact hno q rfl
    have SKE:=fun u (Y:LX W b D u)=>jT Y [34];simp only [hpn,aBb hpn] at SKE;have aM9:∀u,LX W b D u->Calls Tryz.prog 228 #[pt b,.string ⟨#[34]⟩] u fun e w'=>e=.returned (.bool false)/\St W b D u w':=SKE;have HN:Hid (o=some (.str (acc++A),D)):=by show _=_;rw [<-HO.out,HQ.out,<-hsplit,hq,aBm hno];simp
    have SG:=fun u (Y:TX W b w D (acc++A) u)=>aM8 hb Y;clear SKE HQ hq hsplit HO h2 hno hpn;generalize hac:acc++A=F at *;go_wp2_with (first|(go_at_call 194;refine (TK' _ HX.out.st.1).mono ?_;rintro e w2 ⟨rfl,hs⟩;have H2:Hid (TX W b w (34:: D) acc w2):=HX.out.method hb hs;clear hs)|(go_at_call 133;refine (WR _ H2.out).mono ?_;rintro e w3 ⟨rfl,hs⟩;have H3:Hid (TX W b w (34:: D) F w3):=hs;clear hs H2)|(go_at_call 228;refine (SK' _ H3.out.st.1).mono ?_;rintro e w4 ⟨rfl,hs⟩;have H4:Hid (TX W b w D F w4):=H3.out.method hb hs;clear hs H3)|(go_at_call 228;refine (aM9 _ H4.out.st.1).mono ?_;rintro e w5 ⟨rfl,hs⟩;have H5:Hid (TX W b w D F w5):=H4.out.method hb hs;clear hs H4)|(go_at_call 135;refine (SG _ H5.out).mono ?_;rintro e w6 ⟨rfl,hs⟩;have H6:Hid (TX W b w D F w6):=hs;have RR:=H6.out.put 2 0 (ba F) noB noB 0 0 false false;clear hs)|(refine aB rfl 156 _ _ rfl _ _ _ rfl rfl RR.out ?_))
    refine bodyPost_ret (H6.out.ans (tcs 2 0 (ba F) noB noB 0 0 false false) rfl rfl rfl rfl) rfl ?_;rw [HN.out];exact⟨rfl,H6.out.fin hb _⟩
def aOb (W:World) (b:Nat) (w:World) (o:Option (Tk.Tok × List UInt8)) (e:Ending) (w':World):Prop:=
 ∃(t:TT) (ok:Bool) (m:List UInt8),e=.returned (.tuple #[.agg (tcs t.k t.n t.s t.b t.h t.r t.c t.fr t.fc),.bool ok])/\St W b m w w'/\∀v v',St W b m v v'->Ans W b v o (.returned (.tuple #[.agg (tcs t.k t.n t.s t.b t.h t.r t.c t.fr t.fc),.bool ok])) v'
theorem Ans.e {W:World} {b:Nat} {w:World} {o:Option (Tk.Tok × List UInt8)} {e:Ending} {w':World} (h:Ans W b w o e w'):aOb W b w o e w':=by
 rcases o with _ | ⟨t,m⟩
 ·obtain ⟨⟨t,rfl⟩,m,hs⟩:=h;exact⟨t,false,m,rfl,hs,fun v v' hv=>⟨⟨t,rfl⟩,m,hv⟩⟩
 ·obtain ⟨rfl,hs⟩:=h;exact⟨tk t,true,m,rfl,hs,fun v v' hv=>⟨rfl,hv⟩⟩
theorem e13:∀args u,(callFunc 149 args).run Tryz.prog u=.ok (.enter 149 args) u:=enters_of Tryz.func149 (by kernel_rfl) rfl
theorem eM (c:UInt8):∀args u,(callFunc (aCG c) args).run Tryz.prog u=.ok (.enter (aCG c) args) u:=by
 unfold aCG;split
 ·exact enters_of Tryz.func188 (by kernel_rfl) rfl
 ·split
  ·exact enters_of Tryz.func189 (by kernel_rfl) rfl
  ·split
   ·exact enters_of Tryz.func190 (by kernel_rfl) rfl
   ·split
    ·exact enters_of Tryz.func192 (by kernel_rfl) rfl
    ·exact enters_of Tryz.func193 (by kernel_rfl) rfl
theorem aIX {W w:World} {b:Nat} {c:UInt8} {r:List UInt8} (X:LX W b (c:: r) w) (hl:(c:: r).length<=255):
  Calls Tryz.prog (aCG c) #[pt b] w (Ans W b w (Tk.one gnF trB pnF (c:: r))):=by
 unfold aCG Tk.one;simp only;by_cases hd:Ad.isD c=true
 ·rw [if_pos hd,if_pos hd];exact aDX X hl
 rw [if_neg hd,if_neg hd];by_cases h34:c=34
 ·rw [if_pos h34,if_pos h34];subst h34;exact aIW X hl
 rw [if_neg h34,if_neg h34];by_cases h35:c=35
 ·rw [if_pos h35,if_pos h35];exact aF8 X
 rw [if_neg h35,if_neg h35];by_cases hn:c=91\/c=36\/Ad.isL c=true
 ·rw [if_pos hn,if_pos hn];exact aIU X hl
 rw [if_neg hn,if_neg hn];exact aBe X
theorem aGr {W w:World} {b k n:Nat} {l:List UInt8} {A:ByteArray} {o:Option (Tk.Tok × List UInt8)} (X:LX W b l w) (hA:A=ba l) (hz:0 < A.size) (hn:(A[0].toNat:Int)=(n:Int)) (h8:n < 256)
  (hE:∀args u,(callFunc k args).run Tryz.prog u=.ok (.enter k args) u)
  (SG:∀u,CW 149 #[.int .i32 (n:Int)] u (.func (.func k) #[] #[]))
  (M:∀u,LX W b l u->Calls Tryz.prog k #[pt b] u (aOb W b u o)):
  Calls Tryz.prog 151 #[pt b] w (Ans W b w o):=by
 have hb:=X.lt;have e13:=e13;obtain⟨c0,c1,f0⟩:=X.cells;obtain⟨a0,a1,a2⟩:=(X.alloc tkO).cells;have H0:Hid (LX W b l (w.alloc tkO)):=X.alloc tkO;have SG2:∀u,CW 149 #[.int .i32 (A[0].toNat:Int)] u (.func (.func k) #[] #[]):=by rw [hn];exact SG
 rw [<-hA] at c0 a0;have HA:Hid (A=ba l):=hA;have hwr:IntKind.i32.wrap (A[0].toNat:Int)=(A[0].toNat:Int):=by rw [hn];unfold IntKind.wrap;simp [IntKind.bits,IntKind.signed];omega
 have H1:Hid (St W b l (w.alloc tkO) (w.alloc tkO).drew):=(St.refl H0.out).drew;clear X hA hn SG;go_enter Tryz.func151,Tryz.ntmps151;go_wp2;have HC:Hid ((w.alloc tkO).drew.cell? ⟨b,0,none⟩=some (.string A)/\(w.alloc tkO).drew.cell? ⟨b,1,none⟩=some sM):=⟨a0,a1⟩
 refine aP (fun u=>u.cell? ⟨b,0,none⟩=some (.string A)/\u.cell? ⟨b,1,none⟩=some sM) (fun _=>false) (by kernel_rfl) ?_;refine dwp 0 (pt b) ?_;refine dwp 1 (pt b) ?_;refine dwp 2 (.pointer (some ⟨b,1,none⟩)) ?_;refine dwl 3 (sM) ?_ (hS:=HC.out) (hy:=(fun u hSu=>by obtain⟨k0,k1⟩:=hSu;go_simp));refine dwp 4 (pt b) ?_;refine dwp 5 (pt b) ?_;refine dwp 6 (pt b) ?_;refine dwl 7 (.string A) ?_ (hS:=HC.out) (hy:=(fun u hSu=>by obtain⟨k0,k1⟩:=hSu;go_simp));refine dwp 8 (.int .u8 (A[0].toNat:Int)) ?_;refine dwp 9 (.int .i32 (A[0].toNat:Int)) ?_;refine aJ (i:=10) (by kernel_rfl) rfl ?_;intro K hK;go_simp;refine (SG2 _).mono ?_;rintro e w' ⟨rfl,hw⟩;obtain rfl:=hw.symm;clear hw;refine hK _ _ (.inr fun h=>h) ?_;clear hK;try simp only [Act.put,List.setIfInBounds_toArray,List.set_cons_zero,List.set_cons_succ]
 refine dwp 11 (.func (.func k) #[] #[]) ?_;refine aR (by kernel_rfl) ?_ _;go_wp2_with (first|(go_at_fn k;refine (M _ H1.out.1).mono ?_;rintro e w2 ⟨t,ok,m,rfl,hs,ha⟩;have H2:Hid (St W b m (w.alloc tkO) w2):=H1.out.step hs;have HF:Hid (∀v v',St W b m v v'->Ans W b v o (.returned (.tuple #[.agg (tcs t.k t.n t.s t.b t.h t.r t.c t.fr t.fc),.bool ok])) v'):=ha;have RR:=H2.out.put hb t.k t.n t.s t.b t.h t.r t.c t.fr t.fc;clear hs ha)|(refine aB rfl 156 _ _ rfl _ _ _ rfl rfl RR.out ?_))
 exact bodyPost_ret (v:=.tuple #[.agg (tcs t.k t.n t.s t.b t.h t.r t.c t.fr t.fc),.bool ok]) (H2.out.ans hb (tcs t.k t.n t.s t.b t.h t.r t.c t.fr t.fc) rfl rfl rfl rfl) rfl (HF.out _ _ (H2.out.fin hb _))
theorem aIY {W w:World} {b:Nat} {c:UInt8} {r:List UInt8} (X:LX W b (c:: r) w) (hl:(c:: r).length<=255):
  Calls Tryz.prog 151 #[pt b] w (Ans W b w (Tk.one gnF trB pnF (c:: r))):=by
 have hz:0 < (ba (c:: r)).size:=by rw [size_mk];simp
 refine aGr (A:=ba (c:: r)) X rfl hz (n:=c.toNat) ?_ c.toNat_lt (eM c) (fun u=>aIP c u) (fun u Y=>(aIX Y hl).mono fun e w' h=>h.e);rw [mZ (c:: r) 0 (by simp) hz];rfl
def TT.cl (t:TT):List Value:=[.int .i64 t.k,.int .i64 t.n,.string t.s,.string t.b,.string t.h,.int .i64 t.r,.int .i64 t.c,.bool t.fr,.bool t.fc]
theorem aEa (t:TT):t.cl.length=9:=rfl
theorem aNa (t:TT):∀u ∈ t.cl,u.oneCell'=true:=by intro u hu;simp only [TT.cl,List.mem_cons,List.not_mem_nil,or_false] at hu;rcases hu with rfl | rfl | rfl | rfl | rfl | rfl | rfl | rfl | rfl <;> rfl
theorem mK:∀L:List TT,(L.flatMap TT.cl).length=L.length * 9
 | []=>rfl
 | t:: L=>by rw [List.flatMap_cons,List.length_append,mK L,aEa,List.length_cons];omega
theorem aFl:∀(L:List TT) (i j:Nat) (v:Value) (hi:i < L.length),L[i].cl[j]? =some v->(L.flatMap TT.cl)[i * 9+j]? =some v
 | t:: L,0,j,v,_,h=>by have hj:j < t.cl.length:=(List.getElem?_eq_some_iff.1 h).1;rw [List.flatMap_cons,Nat.zero_mul,Nat.zero_add,List.getElem?_append_left hj];exact h
 | t:: L,i+1,j,v,hi,h=>by rw [List.flatMap_cons,List.getElem?_append_right (by rw [aEa];omega),aEa,show (i+1) * 9+j - 9=i * 9+j by omega];exact aFl L i j v (by simpa using hi) h
def fJ (e:TypeId) (base:Nat) (w:World) (v:Value) (L:List TT):Prop:=w.ownsRow base e 9 v L.length (L.flatMap TT.cl)
theorem fJ.nil (e:TypeId) (base:Nat) (w:World):fJ e base w (.slice none 0 0) []:=World.ownsRow_nil w base e 9
theorem fJ.slice {e:TypeId} {base:Nat} {w:World} {v:Value} {L:List TT} (h:fJ e base w v L):∃a c,v=.slice a L.length c:=by
 rcases h.2 with ⟨rfl,h0⟩ | ⟨g,cap,cur,rfl,_⟩
 ·exact ⟨none,0,by rw [h0]⟩
 ·exact ⟨_,_,rfl⟩
theorem fJ.ne {e:TypeId} {base:Nat} {w:World} {v:Value} {L:List TT} (h:fJ e base w v L) {b:Nat} {o:Obj} (hb:w.heap[b]? =some o) (ho:∀c z,o ≠ .cells c e z):v.ownBlock=none\/v.ownBlock ≠ some b:=by
 rcases h.2 with ⟨rfl,_⟩ | ⟨g,cap,cur,rfl,_,hg,_⟩
 ·exact .inl rfl
 ·refine .inr fun e=> ?_;have:g=b:=by simpa [Value.ownBlock] using e
  subst this;rw [hb] at hg;cases hg
  exact ho _ _ rfl
theorem fJ.kept {e:TypeId} {base:Nat} {w w':World} {v:Value} {L:List TT} {row:Option Nat} (h:fJ e base w v L) (hg:w.grownBy w' row) (hne:v.ownBlock=none\/v.ownBlock ≠ row):fJ e base w' v L:=World.ownsRow.kept h hg hne
theorem fJ.below {e:TypeId} {base:Nat} {w w':World} {v:Value} {L:List TT} (h:fJ e base w v L) (hb:Below w.heap.size w w'):fJ e base w' v L:=
 h.kept (bD (row:=none) hb) (by cases v.ownBlock <;> simp)
theorem aNb:(Tryz.prog.info? 156).map (fun i=>(i.zero,i.size,i.bytes))=some (some (.agg tk0),9,88):=by kernel_rfl
theorem aNc:(Tryz.prog.info? 188).map (fun i=>(i.zero,i.size,i.bytes))=some (some (.agg tk0),9,88):=by kernel_rfl
theorem aCL {e st:TypeId} (hst:Tryz.prog.underlying st=some (.slice e)) (aCx:(Tryz.prog.info? e).map (fun i=>(i.zero,i.size,i.bytes))=some (some (.agg tk0),9,88))
  {base:Nat} {w:World} {v:Value} {L:List TT} (h:fJ e base w v L) {g:Nat} {t:TT} {z:Nat × Nat} {e':TypeId} (hg:w.heap[g]? =some (.cells t.cs e' z)) (hn:L.length+1<=1000000) (hbase:base<=w.heap.size):
  ∃v' w',Hid ((Builtin.append_ #[st,st] st #[v,.slice (some ⟨g,0,none⟩) 1 1]).run Tryz.prog w=.ok v' w')/\fJ e base w' v' (L++ [t])/\w.grownBy w' v.ownBlock/\Below base w w':=by
 obtain⟨i0,hi,hz0,hz1,hz2⟩:=info_parts aCx;have hadd:∀k,(⟨g,0,none⟩:Addr).add k=⟨g,k,none⟩:=fun k=>by unfold Addr.add;split <;> simp_all
 obtain⟨v',w',r1,o1,g1,_,_⟩:=run_append_own_at w base st st e i0 _ 9 88 hst hi hz0 hz1 hz2 rfl (by decide) v _ _ h ⟨g,0,none⟩ 1 1 t.cl rfl
  (fun j u hj=>by rw [hadd,cell_of_row w g j _ _ _ hg,<-hj];simp [TT.cs,TT.cl]) (aNa t) (by simp only [maxLen];omega) (by omega) hbase
 refine ⟨v',w',r1, ?_,g1,(Below.refl base w).grown g1 hbase fun k hk=>(World.ownsRow.lt h k hk).1⟩;unfold fJ;rw [List.length_append,List.flatMap_append];simpa using o1
theorem wpList_append_run {P:Program} {w:World} {ops:Array Oper} {rest:List Oper} {o:Oper} {a:Act} {Q:Exit->Act->World->Prop} (hgd:o.guard=none) (s x:Operand) (t:TypeId)
  (ho:o.op=.call { callee:=.builtin .append,args:=#[s,x],argTypes:=#[t,t] }) (v bv v':Value) (w':World) (hs:a.eval s=v) (hx:a.eval x=bv) (hrun:(Builtin.append_ #[t,t] o.type #[v,bv]).run P w=.ok v' w')
  (h:wpList P ops Q rest (a.put o.dst v') w'):wpList P ops Q (o:: rest) a w:=by
 refine wpList_plain hgd fun K hK=> ?_;unfold Oper.wp;simp [execOp,ho,resolve,invoke,builtin,hs,hx,hrun,Result.andThen];exact hK _ _ h
theorem pI {l m:List UInt8} {t:Tk.Tok} (h:Tk.one gnF trB pnF l=some (t,m)):m.length < l.length:=by
 cases l with
 | nil=>cases h
 | cons c r=>
  unfold Tk.one at h;simp only at h;split at h
  ·rename_i hd
   cases hp:pnF ((c:: r).takeWhile Tk.cB) with
   | none=>rw [hp] at h;cases h
   | some n=>
    rw [hp] at h;cases h
    exact Tk.aE4 _ (by unfold Tk.cB;rw [hd];rfl)
  ·split at h
   ·cases hq:Tk.bX r with
    | none=>rw [hq] at h;cases h
    | some p=>
     rw [hq] at h;cases h
     have:=Tk.aA9 r.length r p.1 p.2 (Nat.le_refl _) hq;simp only [List.length_cons];omega
   ·split at h
    ·exact Tk.aKM h
    ·split at h
     ·rename_i hn
      unfold Tk.named at h;split at h
      ·rename_i m' he
       cases he
       cases ha:Ad.at_ 93 r with
       | none=>rw [ha] at h;cases h
       | some p=>
        obtain⟨a,q⟩:=p;rw [ha] at h;simp only at h;split at h
        ·have h1:=Tk.xL h;have h2:=congrArg List.length (at_eq ha);simp at h2 ⊢;omega
        ·cases h
      ·rename_i hne
       have hrun:Tk.aQ c=true:=by
        rcases hn with h1 | h1 | h1
        ·subst h1;exact absurd rfl (hne r)
        ·subst h1;rfl
        ·exact Tk.aKN h1
       unfold Tk.gI at h;have hlt:=Tk.aE4 (p:=Tk.aQ) (c:=c) (r:=r) hrun;split at h
       ·rename_i q hq
        rw [hq] at hlt;have hd:=Tk.lH Tk.aQ q;cases hp:Ad.lY gnF ([]++(c:: r).takeWhile Tk.aQ++33:: q.takeWhile Tk.aQ) with
        | none=>rw [hp] at h;cases h
        | some x=>
         rw [hp] at h;cases h
         simp only [List.length_cons] at hlt ⊢;omega
       ·rw [if_pos rfl] at h;split at h
        ·cases h;exact hlt
        ·split at h
         ·cases h;exact hlt
         ·cases h
     ·exact Tk.aMX h
def gP (l:List UInt8):Option (List Tk.Tok):=Tk.nY gnF trB pnF (l.length+1) l
theorem tH:∀(k:Nat) (l:List UInt8),l.length < k->∀k',l.length < k'->Tk.nY gnF trB pnF k l=Tk.nY gnF trB pnF k' l
 | 0,l,h,_,_=>absurd h (Nat.not_lt_zero _)
 | k+1,[],_,0,h=>absurd h (Nat.not_lt_zero _)
 | k+1,[],_,k'+1,_=>rfl
 | k+1,c:: r,h,0,h'=>absurd h' (Nat.not_lt_zero _)
 | k+1,c:: r,h,k'+1,h'=>by
  simp only [List.length_cons] at h h';unfold Tk.nY;split
  ·exact tH k r (by omega) k' (by omega)
  ·cases ho:Tk.one gnF trB pnF (c:: r) with
   | none=>rfl
   | some p=>
    have:=pI (t:=p.1) (m:=p.2) ho;simp only [List.length_cons] at this;simp only;rw [tH k p.2 (by omega) k' (by omega)]
theorem aAD {c:UInt8} {r:List UInt8} (h:Tk.blank c=true):gP (c:: r)=gP r:=by
 unfold gP
 conv=>lhs;unfold Tk.nY
 rw [if_pos h];exact tH _ r (by simp) _ (by simp)
theorem aCM {c:UInt8} {r:List UInt8} (h:Tk.blank c=false):gP (c:: r)=match Tk.one gnF trB pnF (c:: r) with
  | none=>none
  | some (t,m)=>(gP m).map (t:: ·):=by
 conv=>lhs;unfold gP Tk.nY
 rw [if_neg (by rw [h];decide)];cases ho:Tk.one gnF trB pnF (c:: r) with
 | none=>rfl
 | some p=>
  have:=pI (t:=p.1) (m:=p.2) ho;simp only;unfold gP;rw [tH _ p.2 this _ (Nat.lt_succ_self _)]
theorem yS:∀l:List UInt8,gP (l.dropWhile Tk.blank)=gP l
 | []=>rfl
 | c:: r=>by
  rw [List.dropWhile_cons];split
  ·rename_i h;rw [yS r,aAD h]
  ·rfl
theorem lT {P:Program} {ev:Operand->Value} {o:Oper} {ty:TypeId} {x:Operand} {p v:Value} {u:World} (ho:o.op=.load ty x) (hx:ev x=p) (hrun:(Instr.loadAt ty p).run P u=.ok v u):(execOp ev o).run P u=.ok (.value v) u:=by unfold execOp;simp only [ho,hx,Sem.run_bind,Sem.run_pure,hrun,Result.andThen_ok]
end Go.Proofs.YtlhoklhjbpkgpaaGreatDoor
