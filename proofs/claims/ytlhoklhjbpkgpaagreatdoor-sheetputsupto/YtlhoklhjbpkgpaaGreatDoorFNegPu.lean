/- BPure, PTok, FPar1, FPar2, FPar3, FStr, FPar4, FRow, FLev, FNeg. -/
import Derived.Lib.IndexBytes
import Derived.Lib.Replace
import Derived.Lib.SplitLaws
import Derived.Test.YtlhoklhjbpkgpaaGreatDoorTSamePu
set_option linter.unusedVariables false
set_option linter.unusedSimpArgs false
set_option maxHeartbeats 16000000
set_option maxRecDepth 100000
namespace Go.Proofs.YtlhoklhjbpkgpaaGreatDoor
open Go.RowKit
def okN (n:Int):Prop:=0<=n/\n<=100000000000
theorem aCN {l:List UInt8} (h:gnF l=true):l.length<=16/\nQ l=true/\l.all okC=true/\lcF l=false:=by unfold gnF at h;simp only [Bool.and_eq_true,Bool.not_eq_true'] at h;obtain⟨a,b,c⟩:=xU h.1.1;exact⟨a,b,c,h.1.2⟩
theorem aLj (n:Nat):aBS (n:Int) false=n:=rfl
theorem aNd {c:UInt8} {r:List UInt8} {n:Int} (hc:Ad.isD c=true) (h:pnF (c:: r)=some n):okN n:=by
 unfold pnF at h;split at h
 ·rename_i h2
  have hg:=aCc (c:: r);cases h
  unfold gd at hg;simp only [Bool.and_eq_true,decide_eq_true_eq] at hg;refine ⟨?_,hg.2⟩;have hd:dash (c:: r)=false:=by unfold dash;rw [List.head?_cons];simp only [beq_eq_false_iff_ne,ne_eq,Option.some.injEq];rintro rfl;exact absurd hc (by decide)
  unfold bS;split
  ·rw [hd,aLj];unfold ans;split
   ·exact Int.natCast_nonneg _
   ·exact Int.le_refl _
  ·exact Int.le_refl _
 ·cases h
theorem aFm {b pre l m:List UInt8} {t:Tk.Tok} (hb:b=[]\/gnF b=true) (h:Tk.gI gnF trB b pre l=some (t,m)):Tk.okT gnF trB okN t:=by
 unfold Tk.gI at h;split at h
 ·rename_i q hq
  cases hp:Ad.lY gnF (pre++l.takeWhile Tk.aQ++33:: q.takeWhile Tk.aQ) with
  | none=>rw [hp] at h;cases h
  | some x=>
   rw [hp] at h;cases h
   exact(Ad.aMF aCe hp).1
 ·split at h
  ·split at h
   ·rename_i c hc
    cases h
    exact⟨(Ad.cell_of hc).1,.inl rfl,.inl rfl⟩
   ·split at h
    ·rename_i hw
     cases h
     exact .inl ⟨rfl,hw⟩
    ·cases h
  ·rename_i hne
   split at h
   ·rename_i hw
    cases h
    exact .inr ⟨hb.resolve_left hne,hw⟩
   ·cases h
theorem aNe {l m:List UInt8} {t:Tk.Tok} (h:Tk.one gnF trB pnF l=some (t,m)):Tk.okT gnF trB okN t:=by
 cases l with
 | nil=>cases h
 | cons c r=>
  unfold Tk.one at h;simp only at h;split at h
  ·rename_i hd
   cases hp:pnF ((c:: r).takeWhile Tk.cB) with
   | none=>rw [hp] at h;cases h
   | some n=>
    rw [hp] at h;cases h
    rw [List.takeWhile_cons,if_pos (by unfold Tk.cB;rw [hd];rfl)] at hp;exact aNd hd hp
  ·split at h
   ·cases hq:Tk.bX r with
    | none=>rw [hq] at h;cases h
    | some p=>rw [hq] at h;cases h;exact trivial
   ·split at h
    ·unfold Tk.qC at h;cases hf: [1,2,3,4,5,6,7,8].find? fun i=>(Tk.dX i).isPrefixOf (c:: r) with
     | none=>rw [hf] at h;cases h
     | some i=>
      rw [hf] at h;cases h
      have:=List.mem_of_find?_eq_some hf;simp only [List.mem_cons,List.not_mem_nil,or_false] at this;show 1<=i/\i<=8;omega
    ·split at h
     ·unfold Tk.named at h;split at h
      ·rename_i m' he
       cases he
       cases ha:Ad.at_ 93 r with
       | none=>rw [ha] at h;cases h
       | some p=>
        obtain⟨a,q⟩:=p;rw [ha] at h;simp only at h;split at h
        ·rename_i hg;exact aFm (.inr hg) h
        ·cases h
      ·exact aFm (.inl rfl) h
     ·rcases r with _ | ⟨d,r⟩
      ·simp only [Tk.opF] at h;split at h
       ·rename_i hm;cases h;exact .inl ⟨c,hm,rfl⟩
       ·cases h
      ·simp only [Tk.opF] at h;split at h
       ·rename_i hm;cases h;exact .inr ⟨c,d,hm,rfl⟩
       ·split at h
        ·rename_i hm;cases h;exact .inl ⟨c,hm,rfl⟩
        ·cases h
theorem aBn:∀(k:Nat) (l:List UInt8) (L:List Tk.Tok),Tk.nY gnF trB pnF k l=some L->∀t ∈ L,Tk.okT gnF trB okN t
 | 0,l,L,h=>by cases h
 | k+1,[],L,h=>by cases h;intro t ht;cases ht
 | k+1,c:: r,L,h=>by
  unfold Tk.nY at h;split at h
  ·exact aBn k r L h
  ·cases ho:Tk.one gnF trB pnF (c:: r) with
   | none=>rw [ho] at h;cases h
   | some p=>
    rw [ho] at h;simp only at h;cases hk:Tk.nY gnF trB pnF k p.2 with
    | none=>rw [hk] at h;cases h
    | some M=>
     rw [hk] at h;cases h
     intro t ht;rcases List.mem_cons.1 ht with rfl | ht
     ·exact aNe (m:=p.2) ho
     ·exact aBn k p.2 M hk t ht
theorem aIZ {l:List UInt8} {L:List Tk.Tok} (h:gP l=some L):∀t ∈ L,Tk.okT gnF trB okN t:=aBn _ _ _ h
theorem yT:∀(a r:List UInt8),(∀x ∈ a,x ≠ 34)->Tk.aDT (a++r)=a++Tk.aDT r
 | [],r,_=>rfl
 | x:: a,r,h=>by show (if x=34 then _ else x:: Tk.aDT (a++r))=_;rw [if_neg (h x (by simp)),yT a r (fun y hy=>h y (by simp [hy]))];rfl
theorem aI0 {c:UInt8}:∀{l a r:List UInt8},Ad.at_ c l=some (a,r)->∀x ∈ a,x ≠ c
 | [],a,r,h=>by cases h
 | y:: l,a,r,h=>by
  unfold Ad.at_ at h;split at h
  ·cases h;intro x hx;cases hx
  ·rename_i hy
   cases hq:Ad.at_ c l with
   | none=>rw [hq] at h;cases h
   | some p=>
    rw [hq] at h;cases h
    intro x hx;rcases List.mem_cons.1 hx with rfl | hx
    ·exact hy
    ·exact aI0 (a:=p.1) (r:=p.2) hq x hx
theorem aCO {c:UInt8}:∀{l:List UInt8},Ad.at_ c l=none->∀x ∈ l,x ≠ c
 | [],_=>fun x hx=>by cases hx
 | y:: l,h=>by
  unfold Ad.at_ at h;split at h
  ·cases h
  ·rename_i hy
   cases hq:Ad.at_ c l with
   | some p=>rw [hq] at h;cases h
   | none=>
    intro x hx;rcases List.mem_cons.1 hx with rfl | hx
    ·exact hy
    ·exact aCO hq x hx
theorem aOF:∀(k:Nat) (s:List UInt8),s.length<=k->Lib.replaceK [34] [34,34] (Lib.count s [34]) s++ [34]=Tk.aDT s:=by
 intro k;induction k with
 | zero=>
  intro s hs;have:s=[]:=List.eq_nil_of_length_eq_zero (by omega);subst this;rw [Lib.count_one];rfl
 | succ k ih=>
  intro s hs;cases ha:Ad.at_ 34 s with
  | none=>
   have hno:=aCO ha;rw [Lib.count_one,List.count_eq_zero_of_not_mem (fun h=>hno 34 h rfl)];have:=yT s [] hno;rw [List.append_nil] at this;rw [this];rfl
  | some p=>
   obtain⟨a,r⟩:=p;have hno:=aI0 ha;have he:s=a++34:: r:=at_eq ha;have hix:Lib.index s [34]=(a.length:Nat):=by
    rw [Lib.index_one];have hge:=Lib.indexByte_ge s 34;by_cases h1:Lib.indexByte s 34= -1
    ·rw [(nW 34 s).1 h1] at ha;cases ha
    ·obtain ⟨i,hi⟩:∃i:Nat,Lib.indexByte s 34=i:=⟨(Lib.indexByte s 34).toNat,by omega⟩
     have h2:=(nW 34 s).2 i hi;rw [ha] at h2;cases h2
     rw [hi,List.length_take];have:=congrArg List.length he;simp at this;omega
   have hc:Lib.count s [34]=Lib.count r [34]+1:=by rw [Lib.count_one,Lib.count_one,he,List.count_append,List.count_eq_zero_of_not_mem (fun h=>hno 34 h rfl)];simp
   have hr:r.length<=k:=by have:=congrArg List.length he;simp at this;omega
   rw [hc,Lib.replaceK_hit _ _ _ _ _ hix];have e1:s.take a.length=a:=by rw [he];exact List.take_left
   have e2:s.drop (a.length+([34]:List UInt8).length)=r:=by rw [he];show (a++34:: r).drop (a.length+1)=r;rw [<-List.drop_drop];rw [List.drop_left];rfl
   rw [e1,e2,List.append_assoc,List.append_assoc,ih r hr,he,yT a (34:: r) hno];rfl
def smT:Tk.Tok->Prop
 | .inr (.inl s)=>s.length<=255
 | _=>True
theorem yU:∀(k:Nat) (l s r:List UInt8),l.length<=k->Tk.bX l=some (s,r)->s.length<=l.length
 | 0,l,s,r,hk,h=>by have:l=[]:=List.eq_nil_of_length_eq_zero (by omega);subst this;cases h
 | k+1,[],s,r,hk,h=>by cases h
 | k+1,[c],s,r,hk,h=>by
  unfold Tk.bX at h;split at h
  ·cases h;simp
  ·cases h
 | k+1,c:: d:: l,s,r,hk,h=>by
  unfold Tk.bX at h;simp only [List.length_cons] at hk ⊢;split at h
  ·split at h
   ·cases hq:Tk.bX l with
    | none=>rw [hq] at h;cases h
    | some p=>
     rw [hq] at h;cases h
     have:=yU k l p.1 p.2 (by omega) hq;simp only [List.length_cons];omega
   ·cases h;simp
  ·cases hq:Tk.bX (d:: l) with
   | none=>rw [hq] at h;cases h
   | some p=>
    rw [hq] at h;cases h
    have:=yU k (d:: l) p.1 p.2 (by simp only [List.length_cons];omega) hq;simp only [List.length_cons] at this ⊢;omega
theorem aNf {l m:List UInt8} {t:Tk.Tok} (hl:l.length<=255) (h:Tk.one gnF trB pnF l=some (t,m)):smT t:=by
 cases t using Tk.Tok.cs with
 | str s=>
  cases l with
  | nil=>cases h
  | cons c r=>
   unfold Tk.one at h;simp only at h;split at h
   ·cases hp:pnF ((c:: r).takeWhile Tk.cB) with
    | none=>rw [hp] at h;cases h
    | some n=>rw [hp] at h;cases h
   ·split at h
    ·cases hq:Tk.bX r with
     | none=>rw [hq] at h;cases h
     | some p=>
      rw [hq] at h;cases h
      have:=yU r.length r p.1 p.2 (Nat.le_refl _) hq;show p.1.length<=255;simp only [List.length_cons] at hl;omega
    ·split at h
     ·unfold Tk.qC at h;cases hf: [1,2,3,4,5,6,7,8].find? fun i=>(Tk.dX i).isPrefixOf (c:: r) with
      | none=>rw [hf] at h;cases h
      | some i=>rw [hf] at h;cases h
     ·have tl:∀{b pre q:List UInt8},Tk.gI gnF trB b pre q=some (.str s,m)->False:=fun {b pre q} h=>by
       unfold Tk.gI at h;split at h
       ·rename_i z hz
        cases hp:Ad.lY gnF (pre++q.takeWhile Tk.aQ++33:: z.takeWhile Tk.aQ) with
        | none=>rw [hp] at h;cases h
        | some x=>rw [hp] at h;cases h
       ·split at h
        ·split at h
         ·cases h
         ·split at h <;> cases h
        ·split at h <;> cases h
      split at h
      ·unfold Tk.named at h;split at h
       ·rename_i m' he
        cases he
        cases ha:Ad.at_ 93 r with
        | none=>rw [ha] at h;cases h
        | some p=>
         obtain⟨a,q⟩:=p;rw [ha] at h;simp only at h;split at h
         ·exact (tl h).elim
         ·cases h
       ·exact (tl h).elim
      ·rcases r with _ | ⟨d,r⟩
       ·simp only [Tk.opF] at h;split at h <;> cases h
       ·simp only [Tk.opF] at h;split at h
        ·cases h
        ·split at h <;> cases h
 | num n=>trivial
 | ref r=>trivial
 | word b s=>trivial
 | op x=>trivial
 | bad n=>trivial
theorem aBo:∀(k:Nat) (l:List UInt8) (L:List Tk.Tok),l.length<=255->Tk.nY gnF trB pnF k l=some L->∀t ∈ L,smT t
 | 0,l,L,_,h=>by cases h
 | k+1,[],L,_,h=>by cases h;intro t ht;cases ht
 | k+1,c:: r,L,hl,h=>by
  unfold Tk.nY at h;split at h
  ·exact aBo k r L (by simp only [List.length_cons] at hl;omega) h
  ·cases ho:Tk.one gnF trB pnF (c:: r) with
   | none=>rw [ho] at h;cases h
   | some p=>
    rw [ho] at h;simp only at h;cases hk:Tk.nY gnF trB pnF k p.2 with
    | none=>rw [hk] at h;cases h
    | some M=>
     rw [hk] at h;cases h
     intro t ht;rcases List.mem_cons.1 ht with rfl | ht
     ·exact aNf (m:=p.2) hl ho
     ·exact aBo k p.2 M (by have:=pI (t:=p.1) (m:=p.2) ho;omega) hk t ht
theorem aI1 {l:List UInt8} {L:List Tk.Tok} (hl:l.length<=255) (h:gP l=some L):∀t ∈ L,smT t:=aBo _ _ _ hl h
end Go.Proofs.YtlhoklhjbpkgpaaGreatDoor
namespace Go.Proofs.YtlhoklhjbpkgpaaGreatDoor
open Go.RowKit Go.Fm
abbrev aI2 (v:Value):Obj:=.cells #[v] 138
def TS (w:World) (v:Value) (L:List TT):Prop:=(L=[]/\∃a c,v=.slice a 0 c)\/∃g o c,v=.slice (some ⟨g,o,none⟩) L.length c/\0 < L.length/\L.length<=c/\∀i j x (hi:i < L.length),L[i].cl[j]? =some x->w.cell? ⟨g,o+(i * 9+j),none⟩=some x
theorem TS.of {e:TypeId} {base:Nat} {w:World} {v:Value} {L:List TT} (h:fJ e base w v L):TS w v L:=by
 have hc:=fun g (hg:v.ownBlock=some g)=>World.ownsRow.cells h hg;rcases h.2 with ⟨rfl,h0⟩ | ⟨g,cap,cur,rfl,_,_,h1,h2,_⟩
 ·have:L=[]:=List.eq_nil_of_length_eq_zero h0;exact .inl ⟨this,none,0,rfl⟩
 ·by_cases hl:L=[]
  ·subst hl;exact .inl ⟨rfl,_,_,rfl⟩
  ·refine .inr ⟨g,0,cap,rfl,List.length_pos_iff.2 hl,h1,fun i j x hi hx=> ?_⟩;have hadd:∀k,(⟨g,0,none⟩:Addr).add k=⟨g,k,none⟩:=fun k=>by unfold Addr.add;split <;> simp_all
   have:=hc g rfl (i * 9+j) x (aFl L i j x hi hx);rw [hadd] at this;rw [Nat.zero_add];exact this
theorem TS.slice {w:World} {v:Value} {L:List TT} (h:TS w v L):∃a c,v=.slice a L.length c:=by
 rcases h with ⟨rfl,a,c,rfl⟩ | ⟨g,o,c,rfl,_⟩
 ·exact ⟨a,c,rfl⟩
 ·exact ⟨_,c,rfl⟩
theorem TS.cons {w:World} {v:Value} {t:TT} {L:List TT} (h:TS w v (t:: L)):∃g o c,v=.slice (some ⟨g,o,none⟩) (L.length+1) c/\L.length+1<=c/\(∀j x,t.cl[j]? =some x->w.cell? ⟨g,o+j,none⟩=some x)/\
  TS w (.slice (if c=1 then some ⟨g,o,none⟩ else some ⟨g,o+9,none⟩) L.length (c - 1)) L:=by
 rcases h with ⟨h,_⟩ | ⟨g,o,c,h1,h2,h3,h4⟩
 ·cases h
 ·refine ⟨g,o,c,h1,h3,fun j x hx=>by simpa using h4 0 j x (by simp) hx, ?_⟩;by_cases hl:L=[]
  ·subst hl;exact .inl ⟨rfl,_,_,rfl⟩
  ·have hp:=List.length_pos_iff.2 hl;simp only [List.length_cons] at h3;rw [if_neg (by omega)];refine .inr ⟨g,o+9,c - 1,rfl,hp,by omega,fun i j x hi hx=> ?_⟩;have:=h4 (i+1) j x (by simpa using hi) hx;rw [show o+9+(i * 9+j)=o+((i+1) * 9+j) by omega];exact this
def OkL (L:List Tk.Tok):Prop:=∀t ∈ L,Tk.okT gnF trB okN t/\smT t
structure PR (W:World) (b:Nat) (L:List Tk.Tok) (w:World):Prop where
 tab:dD W
 bel:Below W.heap.size W w
 lo:W.heap.size<=b
 ok:OkL L
 blk:∃v,w.heap[b]? =some (aI2 v)/\TS W v (L.map tk)
theorem PR.lt {W w:World} {b:Nat} {L:List Tk.Tok} (h:PR W b L w):b < w.heap.size:=by obtain⟨v,h1,_⟩:=h.blk;exact aZ h1
theorem PR.t {W w:World} {b:Nat} {L:List Tk.Tok} (h:PR W b L w):dD w:=h.tab.below h.bel
theorem PR.grown {W w w':World} {b:Nat} {L:List Tk.Tok} (h:PR W b L w) {row:Option Nat} (hg:w.grownBy w' row) (hr:∀k,row=some k->W.heap.size<=k/\k ≠ b):PR W b L w':=by obtain⟨v,h1,h2⟩:=h.blk;exact⟨h.tab,h.bel.grown hg h.bel.size (fun k hk=>(hr k hk).1),h.lo,h.ok,v,(hg.block b h.lt (fun e=>(hr b e.symm).2 rfl)).trans h1,h2⟩
theorem PR.below {W w w':World} {b:Nat} {L:List Tk.Tok} (h:PR W b L w) (hb:Below w.heap.size w w'):PR W b L w':=h.grown (bD (row:=none) hb) (fun k e=>by cases e)
theorem PR.alloc {W w:World} {b:Nat} {L:List Tk.Tok} (h:PR W b L w) (o:Obj):PR W b L (w.alloc o):=h.below (aD (Below.refl _ _) o)
theorem PR.drew {W w:World} {b:Nat} {L:List Tk.Tok} (h:PR W b L w):PR W b L w.drew:=h.below (Below.refl _ _).drew
def Sp (W:World) (b:Nat) (L:List Tk.Tok) (w w':World):Prop:=PR W b L w'/\w.grownBy w' (some b)
theorem Sp.refl {W w:World} {b:Nat} {L:List Tk.Tok} (h:PR W b L w):Sp W b L w w:=⟨h,World.grownBy.refl _ _⟩
theorem Sp.step {W w w1 w2:World} {b:Nat} {L M:List Tk.Tok} (h:Sp W b L w w1) (k:Sp W b M w1 w2):Sp W b M w w2:=⟨k.1,aI h.2 k.2⟩
theorem Sp.bel {W w w1 w2:World} {b:Nat} {L:List Tk.Tok} (h:Sp W b L w w1) (hb:Below w1.heap.size w1 w2):Sp W b L w w2:=⟨h.1.below hb,aI h.2 (bD hb)⟩
theorem Sp.alloc {W w w1:World} {b:Nat} {L:List Tk.Tok} (h:Sp W b L w w1) (o:Obj):Sp W b L w (w1.alloc o):=h.bel (aD (Below.refl _ _) o)
theorem Sp.dQ {W w w1:World} {b:Nat} {L:List Tk.Tok} {o:Obj} (h:Sp W b L (w.alloc o) w1):Sp W b L w w1:=⟨h.1,aI (World.grownBy_alloc w o _) h.2⟩
theorem Sp.kept {W w w1:World} {b:Nat} {L:List Tk.Tok} (h:Sp W b L w w1) {i:Nat} {o:Obj} (hi:w.heap[i]? =some o) (hb:i ≠ b):w1.heap[i]? =some o:=
 (h.2.block i (aZ hi) (fun e=>hb (Option.some.inj e))).trans hi
theorem Sp.grown {W w w1 w2:World} {b g:Nat} {L:List Tk.Tok} (h:Sp W b L w w1) (hg:w1.grownBy w2 (some g)) (h1:w.heap.size<=g) (h2:b < w.heap.size):Sp W b L w w2:=
 ⟨h.1.grown hg (fun k hk=>by cases hk;exact⟨by have:=h.1.lo;omega,by omega⟩),World.grownBy.andThen h.2 hg (fun j hj=>by cases hj;exact .inl h1)⟩
abbrev dA:List PanicEntry:=[{ v:=.iface 33 (.int .i64 10),recovered:=false }]
theorem aNg {W w:World} {b:Nat} (X:PR W b [] w):CW 235 #[pt b] w (.string noB):=by
 obtain⟨v,hv,hs⟩:=X.blk;obtain⟨a,c,rfl⟩:=hs.slice;have hc:w.cell? ⟨b,0,none⟩=some (.slice a 0 c):=by rw [cell_of_row w b 0 _ 138 (0,0) hv];rfl
 go_enter Tryz.func235,Tryz.ntmps235;go_wp2;go_ret;exact⟨rfl,rfl⟩
theorem aLk {W w:World} {b:Nat} {t:Tk.Tok} {L:List Tk.Tok} (X:PR W b (t:: L) w) (hn:L.length<=255):CW 235 #[pt b] w (.string (if (tk t).k=5 then (tk t).s else noB)):=by
 obtain⟨v,hv,hs⟩:=X.blk;rw [List.map_cons] at hs;obtain⟨g,o,c,rfl,hlc,hcs,_⟩:=hs.cons;rw [List.length_map] at hv hlc;have hc:w.cell? ⟨b,0,none⟩=some (.slice (some ⟨g,o,none⟩) (L.length+1) c):=by rw [cell_of_row w b 0 _ 138 (0,0) hv];rfl
 have h0:w.cell? ⟨g,o,none⟩=some (.int .i64 (tk t).k):=iN X.bel (hcs 0 _ rfl);have h2:w.cell? ⟨g,o+2,none⟩=some (.string (tk t).s):=iN X.bel (hcs 2 _ rfl);have hl:(((L.length:Int)+1)==0)=false:=by simp;omega
 generalize (tk t).k=k at *;generalize (tk t).s=s at *;generalize L.length=n at *;clear hs hcs X hv;by_cases h5:k=5
 ·subst h5;rw [if_pos rfl];go_enter Tryz.func235,Tryz.ntmps235;go_wp2;all_goals (go_ret;exact⟨rfl,rfl⟩)
 ·rw [if_neg h5];have h5b:(k !=5)=true:=by simpa using h5
  go_enter Tryz.func235,Tryz.ntmps235;go_wp2;all_goals (go_ret;exact⟨rfl,rfl⟩)
theorem aI3 (L:List Tk.Tok):(match L with | []=>noB | t:: _=>if (tk t).k=5 then (tk t).s else noB)=ba (aV L):=by
 cases L with
 | nil=>rfl
 | cons t L=>cases t using Tk.Tok.cs <;> rfl
theorem aEb {W w:World} {b:Nat} {L:List Tk.Tok} (X:PR W b L w) (hn:L.length<=256):CW 235 #[pt b] w (.string (ba (aV L))):=by
 rw [<-aI3 L];cases L with
 | nil=>exact aNg X
 | cons t L=>exact aLk X (by simpa using hn)
theorem take_nil {W w:World} {b:Nat} (X:PR W b [] w):Calls Tryz.prog 236 #[pt b] w fun e w'=>e=.panicked dA/\w.grownBy w' (some b):=by
 obtain⟨v,hv,hs⟩:=X.blk;obtain⟨a,c,rfl⟩:=hs.slice;have hc:(w.alloc (.cells tk0 156)).cell? ⟨b,0,none⟩=some (.slice a 0 c):=by rw [cell_of_row _ b 0 _ 138 (0,0) ((Below.heap_alloc _ _ _ X.lt).trans hv)];rfl
 go_enter Tryz.func236,Tryz.ntmps236;go_wp2;exact⟨rfl,rfl,World.grownBy_alloc _ _ _⟩
theorem take_cons {W w:World} {b:Nat} {t:Tk.Tok} {L:List Tk.Tok} (X:PR W b (t:: L) w) (hn:L.length<=255):Calls Tryz.prog 236 #[pt b] w fun e w'=>e=.returned (.agg (tk t).cs)/\Sp W b L w w':=by
 obtain⟨v,hv,hs⟩:=X.blk;rw [List.map_cons] at hs;obtain⟨g,o,c,rfl,hlc,hcs,hts⟩:=hs.cons;rw [List.length_map] at hv hlc hts;have hb:=X.lt;have hc:∀u,Below w.heap.size w u->u.cell? ⟨b,0,none⟩=some (.slice (some ⟨g,o,none⟩) (L.length+1) c):=fun u hu=>by rw [cell_of_row u b 0 _ 138 (0,0) ((hu.block _ hb).trans hv)];rfl
 have hf:∀u,Below w.heap.size w u->u.frozen? ⟨b,0,none⟩=false:=fun u hu=>by unfold World.frozen?;rw [(hu.block _ hb).trans hv];rfl
 have B1:Below w.heap.size w (w.alloc (.cells tk0 156)):=aD (Below.refl _ _) _;have RL:Hid ((Instr.loadAt 156 (.pointer (some ⟨g,o,none⟩))).run Tryz.prog (w.alloc (.cells tk0 156))=.ok (.agg (tk t).cs) (w.alloc (.cells tk0 156))):=
  run_loadAt_mid (P:=Tryz.prog) _ g o 156 (tk t).cl _ (fun j x hx=>iN (aF X.bel B1) (hcs j x hx)) Tryz.underlying156 rfl nZ
 have hl:(((L.length:Int)+1)==0)=false:=by simp;omega
 generalize htt:(tk t).cs=es at *;have hes:es.size=9:=by rw [<-htt];rfl
 have hone:es.all (·.oneCell')=true:=by rw [<-htt];exact oZ _ _ _ _ _ _ _ _ _
 obtain⟨k,n,s,bk,h,r,cc,fr,fc,hE⟩:∃k n s bk h r cc fr fc,es=tcs k n s bk h r cc fr fc:=⟨_,_,_,_,_,_,_,_,_,htt.symm⟩
 have B2:Below w.heap.size w ((w.alloc (.cells tk0 156)).alloc (.cells (tcs k n s bk h r cc fr fc) 156)):=aD B1 _;have hc1:=hc _ B1;have hc2:=hc _ B2;have hf2:=hf _ B2;obtain⟨A,hA⟩:∃A,(if c=1 then some (⟨g,o,none⟩:Addr) else some ⟨g,o+9,none⟩)=A:=⟨_,rfl⟩
 rw [hA] at hts;obtain⟨w3,hw3⟩:∃w3,((w.alloc (.cells tk0 156)).alloc (.cells (tcs k n s bk h r cc fr fc) 156)).setCell ⟨b,0,none⟩ (.slice A L.length (c - 1))=w3:=⟨_,rfl⟩
 have G3:((w.alloc (.cells tk0 156)).alloc (.cells (tcs k n s bk h r cc fr fc) 156)).grownBy w3 (some b):=by rw [<-hw3];exact Lib.grownBy_setCell _ _ _ _
 have H3a:w3.heap[w.heap.size]? =some (.cells tk0 156):=(G3.block _ (by simp;omega) (by intro e;have:=Option.some.inj e;omega)).trans ((Below.heap_alloc _ _ _ (by simp)).trans (heap_alloc_new w _));have H3b:w3.heap[w.heap.size+1]? =some (.cells (tcs k n s bk h r cc fr fc) 156):=(G3.block _ (by simp) (by intro e;have:=Option.some.inj e;omega)).trans (by
  have:=heap_alloc_new (w.alloc (.cells tk0 156)) (.cells (tcs k n s bk h r cc fr fc) 156);simpa using this)
 have P3:PR W b L w3:=by
  refine ⟨X.tab, ?_,X.lo,fun x hx=>X.ok x (List.mem_cons_of_mem _ hx),_, ?_,hts⟩
  ·rw [<-hw3];exact(aF X.bel B2).setCell X.lo _
  ·rw [<-hw3];have:((w.alloc (.cells tk0 156)).alloc (.cells (tcs k n s bk h r cc fr fc) 156)).heap[b]? =some (aI2 (.slice (some ⟨g,o,none⟩) (L.length+1) c)):=(B2.block _ hb).trans hv;simp [World.setCell,Array.getElem?_modify,this]
 have RL3:Hid ((Instr.loadAt 156 (.pointer (some ⟨w.heap.size+1,0,none⟩))).run Tryz.prog w3=.ok (.agg (tcs k n s bk h r cc fr fc)) w3):=lod H3b rfl Tryz.underlying156 nZ;have RS3:Hid ((Instr.storeAt 156 (pt w.heap.size) (.agg (tcs k n s bk h r cc fr fc))).run Tryz.prog w3=.ok () (w3.setRow w.heap.size (tcs k n s bk h r cc fr fc))):=sto H3a nZ rfl (oZ k n s bk h r cc fr fc);have S3:Sp W b L w w3:=⟨P3,aI (aI (World.grownBy_alloc _ _ _) (World.grownBy_alloc _ _ _)) G3⟩
 have HF:Hid (Sp W b L w (w3.setRow w.heap.size (tcs k n s bk h r cc fr fc))):=S3.grown (aL _ _ _) (Nat.le_refl _) hb;have HR:Hid ((w3.setRow w.heap.size (tcs k n s bk h r cc fr fc)).heap[w.heap.size]? =some (.cells (tcs k n s bk h r cc fr fc) 156)):=setRow_heap _ _ _ _ _ _ H3a;rw [hE] at RL ⊢;clear hE hone hes htt S3 P3 H3a H3b G3 hts hv hs hcs hc hf X B1 B2;have hcl:L.length+1<=c:=hlc;have hci:(L.length:Int)+1<=c:=by omega
 go_enter Tryz.func236,Tryz.ntmps236;go_wp2_with (first|(refine aC rfl 156 _ rfl _ _ rfl RL.out ?_)|(refine aC rfl 156 _ rfl _ _ rfl RL3.out ?_)|(refine aB rfl 156 _ _ rfl _ _ _ rfl rfl RS3.out ?_))
 exact bodyPost_ret (results_cell_row rfl _ _ w.heap.size 156 _ (0,0) _ rfl HR.out Tryz.underlying156 rfl nZ) rfl ⟨rfl,HF.out⟩
theorem iU {W w:World} {b:Nat} {L:List Tk.Tok} (X:PR W b L w) (hn:L.length<=256) (s:List UInt8) (h:aV L ≠ s):CW 311 #[pt b,.string (ba s)] w (.bool false):=by
 have O:=aEb X hn;have hne:((ba (aV L)).toList==(ba s).toList)=false:=by rw [ByteArray.toList_eq,ByteArray.toList_eq];simpa using h
 generalize ba (aV L)=A at *;generalize ba s=S at *;clear h X;go_enter Tryz.func311,Tryz.ntmps311;go_wp2_with (go_at_call 235;refine mw O ?_)
 go_ret;exact⟨rfl,rfl⟩
theorem fK {W w:World} {b:Nat} {L:List Tk.Tok} (X:PR W b L w) (hn:L.length<=256) (s:List UInt8) (hs:s ≠ []) (h:aV L=s):Calls Tryz.prog 311 #[pt b,.string (ba s)] w fun e w'=>e=.returned (.bool true)/\Sp W b L.tail w w':=by
 have O:=aEb X hn;obtain⟨h1,h2⟩:=bA (ts:=L) h hs;have TK:Calls Tryz.prog 236 #[pt b] w fun e w'=>e=.returned (.agg (tk (Tk.Tok.op s)).cs)/\Sp W b L.tail w w':=by rw [h2] at X;exact take_cons X (by omega)
 rw [h] at O;generalize (tk (Tk.Tok.op s)).cs=es at *;generalize ba s=S at *;clear h h2 X h1;go_enter Tryz.func311,Tryz.ntmps311;go_wp2_with (first|(go_at_call 235;refine mw O ?_)|(go_at_call 236;refine TK.mono ?_;rintro e w1 ⟨rfl,hw⟩;have HS:Hid (Sp W b L.tail w w1):=hw;clear hw))
 go_ret;exact⟨rfl,HS.out⟩
theorem aFo {W w:World} {b:Nat} {L:List Tk.Tok} (X:PR W b L w) (hn:L.length<=256) (s:List UInt8) (h:aV L ≠ s):Calls Tryz.prog 322 #[pt b,.string (ba s)] w fun e w'=>e=.panicked dA/\w'=w:=by
 have O:=iU X hn s h;generalize ba s=S at *;clear h X;go_enter Tryz.func322,Tryz.ntmps322;go_wp2_with (go_at_call 311;refine mw O ?_)
 exact⟨rfl,rfl,rfl⟩
theorem aCP {W w:World} {b:Nat} {L:List Tk.Tok} (X:PR W b L w) (hn:L.length<=256) (s:List UInt8) (hs:s ≠ []) (h:aV L=s):Calls Tryz.prog 322 #[pt b,.string (ba s)] w fun e w'=>e=.returned (.tuple #[])/\Sp W b L.tail w w':=by
 have O:=fK X hn s hs h;generalize ba s=S at *;clear h X;go_enter Tryz.func322,Tryz.ntmps322;go_wp2_with (go_at_call 311;refine O.mono ?_;rintro e w1 ⟨rfl,hw⟩;have HS:Hid (Sp W b L.tail w w1):=hw;clear hw)
 go_end0
 exact⟨rfl,HS.out⟩
theorem mM (w:World) (k:Int) (s:ByteArray) (p:Option Addr) (n c:Nat):(Instr.build 67 #[(0,.int .i64 k),(1,.string s),(5,.slice p n c)]).run Tryz.prog w=.ok (.agg (lcs (bG k s) (.slice p n c))) w:=by kernel_rfl
theorem mO (w:World) (k n:Int) (s:ByteArray):(Instr.build 67 #[(0,.int .i64 1),(2,.agg #[.int .i64 k,.int .i64 n,.string s])]).run Tryz.prog w=.ok (.agg (lcs (fM k n s) (.slice none 0 0))) w:=by kernel_rfl
theorem pJ (w:World) (a:Lab) (p:Option Addr) (n c:Nat):(Instr.buildSlice 65 1 #[(0,.agg (lcs a (.slice p n c)))]).run Tryz.prog w=.ok (.slice (some ⟨w.heap.size,0,none⟩) 1 1) (w.alloc (.cells (lcs a (.slice p n c)) 67)):=by kernel_rfl
theorem aAE (w:World) (a a':Lab) (p p':Option Addr) (n c n' c':Nat):(Instr.buildSlice 65 2 #[(0,.agg (lcs a (.slice p n c))),(1,.agg (lcs a' (.slice p' n' c')))]).run Tryz.prog w=.ok (.slice (some ⟨w.heap.size,0,none⟩) 2 2) (w.alloc (.cells (lcl a (.slice p n c)++lcl a' (.slice p' n' c')).toArray 67)):=by kernel_rfl
theorem aM {P:Program} {ops:Array Oper} {rest:List Oper} {o:Oper} {a:Act} {w:World} {Q:Exit->Act->World->Prop} (hgd:o.guard=none) (ty:TypeId) (xs:Array (Nat × Operand)) (ho:o.op=.build ty xs)
  (ps:Array (Nat × Value)) (v:Value) (hx:(xs.map fun (i,x)=>(i,a.eval x))=ps) (hrun:(Instr.build ty ps).run P w=.ok v w) (h:wpList P ops Q rest (a.put o.dst v) w):wpList P ops Q (o:: rest) a w:=by
 refine wpList_plain hgd fun K hK=> ?_;unfold Oper.wp execOp;simp only [ho,hx,Sem.run_bind,Sem.run_pure,hrun,Result.andThen_ok];exact hK _ _ h
theorem dL {P:Program} {ops:Array Oper} {rest:List Oper} {o:Oper} {a:Act} {w:World} {Q:Exit->Act->World->Prop} (hgd:o.guard=none) (ty:TypeId) (len:Nat) (xs:Array (Nat × Operand)) (ho:o.op=.buildSlice ty len xs)
  (ps:Array (Nat × Value)) (v:Value) (w':World) (hx:(xs.map fun (i,x)=>(i,a.eval x))=ps) (hrun:(Instr.buildSlice ty len ps).run P w=.ok v w') (h:wpList P ops Q rest (a.put o.dst v) w'):wpList P ops Q (o:: rest) a w:=by
 refine wpList_plain hgd fun K hK=> ?_;unfold Oper.wp execOp;simp only [ho,hx,Sem.run_bind,Sem.run_pure,hrun,Result.andThen_ok];exact hK _ _ h
theorem qX {u:World} {g:Nat} {zs:Array Value} (hg:u.heap[g]? =some (.cells zs 67)) (hz:zs.size=18) (a:Lab) (p:Option Addr) (n c:Nat):
  Hid ((Instr.storeAt 67 (pt g) (.agg (lcs a (.slice p n c)))).run Tryz.prog u=.ok () (u.setRow g (lcs a (.slice p n c)))):=
 sto hg (by rw [fB];exact iG) hz (nI _ _ _ _)
theorem aY {u:World} {g:Nat} {zs es:Array Value} (hg:u.heap[g]? =some (.cells zs 67)) (he:es.size=18) {fn:Func} {i:Tmp} (hr:fn.results=#[.cell i 67]) {tmps:Array Value} (hp:tmps.getD i undef=pt g):
  (results fn tmps).run Tryz.prog (u.setRow g es)=.ok (.agg es) (u.setRow g es):=
 results_cell_row hr _ _ g 67 _ (0,0) _ hp (setRow_heap _ _ _ _ _ _ hg) Tryz.underlying67 rfl (by rw [he];exact iG)
def InK (K:Nat->Prop) (w:World):Addr->F->Prop
 | _,.nil=>True
 | a,.node _ _ l f r=>(∃p n c,K a.block/\(∀j v,(lcl l (.slice p n c))[j]? =some v->w.cell? (a.add j)=some v)/\n=(kids f).length/\(f=.nil\/∃a',p=some a'/\InK K w a' f))/\InK K w (a.add 18) r
def NK (K:Nat->Prop) (w:World) (es:Array Value) (t:T):Prop:=∃p n c,es=lcs t.1 (.slice p n c)/\n=(kids t.2).length/\(t.2=.nil\/∃a,p=some a/\InK K w a t.2)
theorem InK.inf {K:Nat->Prop}:∀{f:F} {w:World} {a:Addr},InK K w a f->InF w a f:=by
 intro f;induction f with
 | nil=>intro w a _;trivial
 | node b o l f r ihf ihr=>
  intro w a h;obtain⟨⟨p,n,c,h0,h1,h2,h3⟩,h4⟩:=h;exact⟨⟨p,n,c,h1,h2,h3.imp id fun ⟨a',e,hi⟩=>⟨a',e,ihf hi⟩⟩,ihr h4⟩
theorem NK.nt {K:Nat->Prop} {w:World} {es:Array Value} {t:T} (h:NK K w es t):NT w es t:=by obtain⟨p,n,c,e,h1,h2⟩:=h;exact⟨p,n,c,e,h1,h2.imp id fun ⟨a,e,hi⟩=>⟨a,e,hi.inf⟩⟩
theorem InK.mono {K K':Nat->Prop}:∀{f:F} {w:World} {a:Addr},InK K w a f->(∀i,K i->i < w.heap.size->K' i)->InK K' w a f:=by
 intro f;induction f with
 | nil=>intro w a _ _;trivial
 | node b o l f r ihf ihr=>
  intro w a h hK;obtain⟨⟨p,n,c,h0,h1,h2,h3⟩,h4⟩:=h;have hlt:a.block < w.heap.size:=by
   have:=World.block_lt_of_cell? w (a.add 0) (h1 0 _ rfl)
   rwa [show (a.add 0).block=a.block by unfold Addr.add;split <;> rfl] at this
  exact⟨⟨p,n,c,hK _ h0 hlt,h1,h2,h3.imp id fun ⟨a',e,hi⟩=>⟨a',e,ihf hi hK⟩⟩,ihr h4 hK⟩
theorem NK.mono {K K':Nat->Prop} {w:World} {es:Array Value} {t:T} (h:NK K w es t) (hK:∀i,K i->i < w.heap.size->K' i):NK K' w es t:=by obtain⟨p,n,c,e,h1,h2⟩:=h;exact⟨p,n,c,e,h1,h2.imp id fun ⟨a,e,hi⟩=>⟨a,e,hi.mono hK⟩⟩
theorem InK.grown {K:Nat->Prop}:∀{f:F} {w w':World} {a:Addr} {row:Option Nat},InK K w a f->w.grownBy w' row->(∀g,row=some g->¬K g)->InK K w' a f:=by
 intro f;induction f with
 | nil=>intro w w' a row _ _ _;trivial
 | node b o l f r ihf ihr=>
  intro w w' a row h hg hr;obtain⟨⟨p,n,c,h0,h1,h2,h3⟩,h4⟩:=h;have hc:∀j x,w.cell? (a.add j)=some x->w'.cell? (a.add j)=some x:=fun j x hx=>by have hlt:=World.block_lt_of_cell? w _ hx;refine (World.cell?_of_block (hg.block _ hlt ?_)).trans hx;rw [show (a.add j).block=a.block by unfold Addr.add;split <;> rfl];intro e;exact hr _ e.symm h0
  exact⟨⟨p,n,c,h0,fun j x hj=>hc j x (h1 j x hj),h2,h3.imp id fun ⟨a',e,hi⟩=>⟨a',e,ihf hi hg hr⟩⟩,ihr h4 hg hr⟩
theorem NK.grown {K:Nat->Prop} {w w':World} {es:Array Value} {t:T} {row:Option Nat} (h:NK K w es t) (hg:w.grownBy w' row) (hr:∀g,row=some g->¬K g):NK K w' es t:=by obtain⟨p,n,c,e,h1,h2⟩:=h;exact⟨p,n,c,e,h1,h2.imp id fun ⟨a,e,hi⟩=>⟨a,e,hi.grown hg hr⟩⟩
theorem NK.below {K:Nat->Prop} {w w':World} {es:Array Value} {t:T} (h:NK K w es t) (hb:Below w.heap.size w w'):NK K w' es t:=h.grown (bD (row:=none) hb) (fun g e=>by cases e)
theorem InK.row {K:Nat->Prop} {u:World} {g:Nat} (hK:K g):∀(l:List (Array Value × T)) (o:Nat),(∀x ∈ l,NK K u x.1 x.2)->(∀j v,(l.flatMap (·.1.toList))[j]? =some v->u.cell? ⟨g,o+j,none⟩=some v)->InK K u ⟨g,o,none⟩ (mk (l.map (·.2)))
 | [],o,_,_=>trivial
 | x:: l,o,h1,h2=>by
  obtain⟨p,n,c,e,hs⟩:=h1 x (by simp);have hadd:∀k,(⟨g,o,none⟩:Addr).add k=⟨g,o+k,none⟩:=fun k=>by unfold Addr.add;split <;> simp_all
  have hlen:x.1.toList.length=18:=by rw [e];rfl
  rw [List.flatMap_cons] at h2;refine ⟨⟨p,n,c,hK,fun j v hj=> ?_,hs.1,hs.2⟩, ?_⟩
  ·rw [hadd];refine h2 j v ?_;have hjl:j < x.1.toList.length:=by rw [hlen];exact(List.getElem?_eq_some_iff.1 hj).1
   rw [List.getElem?_append_left hjl,e];exact hj
  ·rw [hadd];refine InK.row hK l (o+18) (fun y hy=>h1 y (by simp [hy])) (fun j v hj=> ?_);have:=h2 (18+j) v (by rw [List.getElem?_append_right (by omega),hlen,Nat.add_sub_cancel_left];exact hj);rw [Nat.add_assoc];exact this
theorem NK.newAt {K:Nat->Prop} {u:World} {g:Nat} (hK:K g) {k:Int} {s:ByteArray} (l:List (Array Value × T)) (h:∀x ∈ l,NK K u x.1 x.2) {es:Array Value} {z:Nat × Nat} (hg:u.heap[g]? =some (.cells es 67 z)) {o:Nat} (he:∀j v,(l.flatMap (·.1.toList))[j]? =some v->es[o+j]? =some v) (c:Nat):
  NK K u (lcs (bG k s) (.slice (some ⟨g,o,none⟩) l.length c)) (tree (bG k s) (l.map (·.2))):=by
 refine ⟨_,_,_,rfl, ?_,.inr ⟨_,rfl,InK.row hK l o h (fun j v hj=> ?_)⟩⟩
 ·show l.length=(kids (mk (l.map (·.2)))).length;rw [sZ,List.length_map]
 ·rw [cell_of_row _ _ _ es 67 z hg];exact he j v hj
theorem NK.leaf {K:Nat->Prop} {w:World} {a:Lab}:NK K w (lcs a (.slice none 0 0)) (tree a []):=⟨_,_,_,rfl,rfl,.inl rfl⟩
theorem NK.size {K:Nat->Prop} {w:World} {es:Array Value} {t:T} (h:NK K w es t):es.size=18:=by obtain⟨p,n,c,e,_⟩:=h;rw [e];rfl
theorem NK.one {K:Nat->Prop} {w:World} {es:Array Value} {t:T} (h:NK K w es t):es.all (·.oneCell')=true:=by obtain⟨p,n,c,e,_⟩:=h;rw [e];exact nI _ _ _ _
theorem NK.sto {K:Nat->Prop} {w u:World} {es:Array Value} {t:T} (h:NK K w es t) {g:Nat} {zs:Array Value} (hg:u.heap[g]? =some (.cells zs 67)) (hz:zs.size=18):
  Hid ((Instr.storeAt 67 (pt g) (.agg es)).run Tryz.prog u=.ok () (u.setRow g es)):=YtlhoklhjbpkgpaaGreatDoor.sto hg (by rw [h.size];exact iG) (by rw [h.size];exact hz) h.one
theorem NK.lod {K:Nat->Prop} {w u:World} {es:Array Value} {t:T} (h:NK K w es t) {g:Nat} (hg:u.heap[g]? =some (.cells es 67)):
  Hid ((Instr.loadAt 67 (pt g)).run Tryz.prog u=.ok (.agg es) u):=YtlhoklhjbpkgpaaGreatDoor.lod (z:=(0,0)) hg rfl Tryz.underlying67 (by rw [h.size];exact iG)
theorem mP (k n:Int) (s:ByteArray) (w:World):CR 323 #[.agg #[.int .i64 k,.int .i64 n,.string s]] w (.agg (lcs (fM k n s) (.slice none 0 0))):=by
 obtain⟨w2,hw2⟩:∃w2,(w.alloc (.cells #[.int .i64 k,.int .i64 n,.string s] 62)).alloc (.cells nd0 67)=w2:=⟨_,rfl⟩
 have H2:w2.heap[w.heap.size+1]? =some (.cells nd0 67):=by rw [<-hw2];have:=heap_alloc_new (w.alloc (.cells #[.int .i64 k,.int .i64 n,.string s] 62)) (.cells nd0 67);simpa using this
 have H1:w2.heap[w.heap.size]? =some (.cells #[.int .i64 k,.int .i64 n,.string s] 62):=by rw [<-hw2];exact(Below.heap_alloc _ _ _ (by simp)).trans (heap_alloc_new w _)
 have HB:Hid (Below w.heap.size w w2):=by show Below _ _ _;rw [<-hw2];exact aD (aD (Below.refl _ _) _) _
 have RL:Hid ((Instr.loadAt 62 (pt w.heap.size)).run Tryz.prog w2=.ok (.agg #[.int .i64 k,.int .i64 n,.string s]) w2):=lod H1 rfl Tryz.underlying62 (by kernel_rfl);have RB:Hid _:=mO w2 k n s;have RS:=qX H2 rfl (fM k n s) none 0 0;have HR:Hid (w2.heap[w.heap.size+1]? =some (.cells nd0 67)):=H2;have HF:Hid (Below w.heap.size w (w2.setRow (w.heap.size+1) (lcs (fM k n s) (.slice none 0 0)))):=HB.out.grown (aL _ _ _) HB.out.size (fun j e=>by cases e;omega);clear H1 H2 HB;have hes:=fB (fM k n s) (.slice none 0 0);go_enter Tryz.func323,Tryz.ntmps323;go_wp2_with (first|(refine aC rfl 62 _ rfl _ _ rfl RL.out ?_)|(refine aM rfl 67 _ rfl _ _ rfl RB.out ?_)|(refine aB rfl 67 _ _ rfl _ _ _ rfl rfl RS.out ?_))
 exact bodyPost_ret (aY HR.out hes rfl rfl) rfl ⟨rfl,HF.out⟩
theorem bI {s x:List UInt8} (h:s ≠ x):((ba s).toList==x)=false:=by rw [ByteArray.toList_eq];simpa using h
theorem yV (s:List UInt8):(s=[61]\/s=[60,62]\/s=[60]\/s=[60,61]\/s=[62]\/s=[62,61]\/s=[38]\/s=[43]\/s=[45]\/s=[42]\/s=[47]\/s=[94])\/
    (mJ s=0/\s ≠ [61]/\s ≠ [60,62]/\s ≠ [60]/\s ≠ [60,61]/\s ≠ [62]/\s ≠ [62,61]/\s ≠ [38]/\s ≠ [43]/\s ≠ [45]/\s ≠ [42]/\s ≠ [47]/\s ≠ [94]):=by
  by_cases h:s=[61]\/s=[60,62]\/s=[60]\/s=[60,61]\/s=[62]\/s=[62,61]\/s=[38]\/s=[43]\/s=[45]\/s=[42]\/s=[47]\/s=[94]
  · exact .inl h
  · simp only [not_or] at h
    obtain⟨h1,h2,h3,h4,h5,h6,h7,h8,h9,h10,h11,h12⟩:=h;refine .inr ⟨?_,h1,h2,h3,h4,h5,h6,h7,h8,h9,h10,h11,h12⟩;unfold mJ;simp [h1,h2,h3,h4,h5,h6,h7,h8,h9,h10,h11,h12]
theorem aBp (s:List UInt8) (w:World):CW 169 #[.string (ba s)] w (.int .i64 (mJ s:Nat)):=by
  rcases yV s with h | ⟨h0,h1,h2,h3,h4,h5,h6,h7,h8,h9,h10,h11,h12⟩
  · rcases h with rfl | rfl | rfl | rfl | rfl | rfl | rfl | rfl | rfl | rfl | rfl | rfl <;>
      (go_enter Tryz.func169,Tryz.ntmps169
       go_wp2;go_ret;exact⟨rfl,rfl⟩)
  · rw [h0]
    have k1:=bI h1;have k2:=bI h2;have k3:=bI h3;have k4:=bI h4;have k5:=bI h5;have k6:=bI h6;have k7:=bI h7;have k8:=bI h8;have k9:=bI h9;have k10:=bI h10;have k11:=bI h11;have k12:=bI h12;clear h0 h1 h2 h3 h4 h5 h6 h7 h8 h9 h10 h11 h12;generalize ba s=S at *;go_enter Tryz.func169,Tryz.ntmps169;go_wp2;go_ret;exact⟨rfl,rfl⟩
theorem aAF (s:List UInt8) {w:World} {K:Nat->Prop} {es:Array Value} {t:T} (h:NK K w es t):Calls Tryz.prog 312 #[.string (ba s),.agg es] w fun e w'=>∃fs,e=.returned (.agg fs)/\NK (fun i=>K i\/w.heap.size<=i) w' fs (unT s t)/\Below w.heap.size w w':=by
 obtain⟨w2,hw2⟩:∃w2,(w.alloc (.cells es 67)).alloc (.cells nd0 67)=w2:=⟨_,rfl⟩
 have H2:w2.heap[w.heap.size+1]? =some (.cells nd0 67):=by rw [<-hw2];have:=heap_alloc_new (w.alloc (.cells es 67)) (.cells nd0 67);simpa using this
 have H1:w2.heap[w.heap.size]? =some (.cells es 67):=by rw [<-hw2];exact(Below.heap_alloc _ _ _ (by simp)).trans (heap_alloc_new w _)
 have hz:w2.heap.size=w.heap.size+2:=by rw [<-hw2];simp
 have HB:Below w.heap.size w w2:=by rw [<-hw2];exact aD (aD (Below.refl _ _) _) _
 have hes:es.size=18:=by obtain⟨p,n,c,e,_⟩:=h;rw [e];rfl
 have RL:Hid ((Instr.loadAt 67 (pt w.heap.size)).run Tryz.prog w2=.ok (.agg es) w2):=lod H1 rfl Tryz.underlying67 (by rw [hes];exact iG);have RC:Hid ((Instr.buildSlice 65 1 #[(0,.agg es)]).run Tryz.prog w2=.ok (.slice (some ⟨w.heap.size+2,0,none⟩) 1 1) (w2.alloc (.cells es 67))):=by obtain⟨p,n,c,e,_⟩:=h;show _=_;rw [e,pJ,hz]
 have H3:(w2.alloc (.cells es 67)).heap[w.heap.size+1]? =some (.cells nd0 67):=(Below.heap_alloc _ _ _ (by omega)).trans H2;have RS:=qX H3 rfl (bG 5 (ba s)) (some ⟨w.heap.size+2,0,none⟩) 1 1;have HR:Hid ((w2.alloc (.cells es 67)).heap[w.heap.size+1]? =some (.cells nd0 67)):=H3;have HB3:Below w.heap.size w (w2.alloc (.cells es 67)):=aD HB _;have HF:Hid (Below w.heap.size w ((w2.alloc (.cells es 67)).setRow (w.heap.size+1) (lcs (bG 5 (ba s)) (.slice (some ⟨w.heap.size+2,0,none⟩) 1 1)))):=HB3.grown (aL _ _ _) HB3.size (fun j e=>by cases e;omega);have HN:Hid (NK (fun i=>K i\/w.heap.size<=i) ((w2.alloc (.cells es 67)).setRow (w.heap.size+1) (lcs (bG 5 (ba s)) (.slice (some ⟨w.heap.size+2,0,none⟩) 1 1))) (lcs (bG 5 (ba s)) (.slice (some ⟨w.heap.size+2,0,none⟩) 1 1)) (unT s t)):=by
  refine NK.newAt (.inr (by omega)) (k:=5) (s:=ba s) [(es,t)] (fun x hx=> ?_) (g:=w.heap.size+2) (es:=es) (z:=(0,0)) (o:=0) ?_ (fun j v hj=>by simpa using hj) 1
  ·simp only [List.mem_cons,List.not_mem_nil,or_false] at hx;subst hx;exact(h.below HF.out).mono (fun i hi _=> .inl hi)
  ·refine ((aL _ _ _).block _ (by simp [hz]) (by simp)).trans ?_;have:=heap_alloc_new w2 (.cells es 67);rw [hz] at this;exact this
 have RB:Hid _:=mM (w2.alloc (.cells es 67)) 5 (ba s) (some ⟨w.heap.size+2,0,none⟩) 1 1;have hfs:=fB (bG 5 (ba s)) (.slice (some ⟨w.heap.size+2,0,none⟩) 1 1);clear H1 H2 HB h H3 HB3;go_enter Tryz.func312,Tryz.ntmps312;go_wp2_with (first|(refine aC rfl 67 _ rfl _ _ rfl RL.out ?_)|(refine dL rfl 65 1 _ rfl _ _ _ (by go_simp) RC.out ?_)|(refine aM rfl 67 _ rfl _ _ (by go_simp) RB.out ?_)|(refine aB rfl 67 _ _ rfl _ _ _ rfl rfl RS.out ?_))
 exact bodyPost_ret (aY HR.out hfs rfl rfl) rfl ⟨_,rfl,HN.out,HF.out⟩
def upF (l:List UInt8):List UInt8:=szF 97 65 l
def trF (s:List UInt8):Option Int:=if (jR (ba s)).2=true then some (if (jR (ba s)).1=true then 1 else 0) else none
def PP (lv:Nat) (ts:List Tk.Tok):Option (T × List Tk.Tok):=ps upF trF lv ts
def PO (W:World) (b:Nat) (w:World) (o:Option (T × List Tk.Tok)) (e:Ending) (w':World):Prop:=
 match o with
 | none=>e=.panicked dA/\w.grownBy w' (some b)
 | some p=>∃es,e=.returned (.agg es)/\NK (fun i=>w.heap.size<=i) w' es p.1/\Sp W b p.2 w w'
def nS (b:Nat) (w:World):Nat:=match w.heap[b]? with
 | some (.cells cs _ _)=>(match (cs[0]? :Option Value) with
  | some (.slice _ n _)=>n
  | _=>0)
 | _=>0
theorem PR.left {W w:World} {b:Nat} {L:List Tk.Tok} (h:PR W b L w):nS b w=L.length:=by obtain⟨v,h1,h2⟩:=h.blk;obtain⟨a,c,rfl⟩:=h2.slice;unfold nS;rw [h1];simp
theorem aFp {part:Part} {lv:Nat} {n:T} {r:List Tk.Tok} (h:mJ (aV r) ≠ lv) (k:Nat):dV part lv k n r=some (n,r):=by
 cases k with
 | zero=>rfl
 | succ k=>unfold dV;rw [if_neg h]
theorem aCQ {lv:Nat} (h1:1<=lv) {n:T} {r:List Tk.Tok} (h:mJ (aV r)=lv):dV (PP (lv+1)) lv r.length n r=(PP (lv+1) r.tail).bind fun p=>dV (PP (lv+1)) lv p.2.length (yQ (aV r) n p.1) p.2:=by
 have h2:=(bA (ts:=r) rfl (nG (by omega))).1;rw [<-h2]
 conv=>lhs;unfold dV
 rw [if_pos h];cases hq:PP (lv+1) r.tail with
 | none=>rfl
 | some p=>
  simp only [Option.bind_some];have h3:=jB upF trF (by omega) _ p.1 p.2 hq;exact uV (by omega) (jB upF trF (by omega)) _ _ _ _ (by omega) (Nat.le_refl _)
theorem aPd (W:World) (k n:Int) (s b h:ByteArray) (r c:Int) (fr fc:Bool):(Instr.field 156 (.agg (tcs k n s b h r c fr fc)) 2).run Tryz.prog W=.ok (.string s) W:=by kernel_rfl
theorem aI4 {W:World} {b:Nat} {lv pf:Nat} (hE:∀args u,(callFunc pf args).run Tryz.prog u=.ok (.enter pf args) u) {w:World} (hb:b < w.heap.size)
  (C:Calls Tryz.prog pf #[pt b] (w.alloc (.cells nd0 67)) fun e w'=>e=.panicked dA/\(w.alloc (.cells nd0 67)).grownBy w' (some b)):
  Calls Tryz.prog 196 #[pt b,.int .i64 (lv:Nat),.func (.func pf) #[] #[]] w fun e w'=>e=.panicked dA/\w.grownBy w' (some b):=by
 go_enter Tryz.func196,Tryz.ntmps196;go_wp2_with (go_at_fn pf;refine C.mono ?_;rintro e w1 ⟨rfl,hg⟩)
 exact⟨rfl,rfl,aI (World.grownBy_alloc _ _ _) hg⟩
section
variable {P:Program} {o:Oper} {a:Act} {w w':World} {K:Act->World->Prop} {Q:Exit->Act->World->Prop}
theorem aBq (d:Option Tmp) (hd:o.dst=d) (ty:TypeId) (xs:Array (Nat × Operand)) (ho:o.op=.build ty xs) (ps:Array (Nat × Value)) (v:Value) (hx:(xs.map fun (i,x)=>(i,a.eval x))=ps) (hrun:(Instr.build ty ps).run P w=.ok v w) (h:K (a.put d v) w):Oper.wp P o a w K Q:=by subst hd;unfold Oper.wp execOp;simp only [ho,hx,Sem.run_bind,Sem.run_pure,hrun,Result.andThen_ok];exact h
theorem qH (d:Option Tmp) (hd:o.dst=d) (ty:TypeId) (len:Nat) (xs:Array (Nat × Operand)) (ho:o.op=.buildSlice ty len xs) (ps:Array (Nat × Value)) (v:Value) (hx:(xs.map fun (i,x)=>(i,a.eval x))=ps) (hrun:(Instr.buildSlice ty len ps).run P w=.ok v w') (h:K (a.put d v) w'):Oper.wp P o a w K Q:=by subst hd;unfold Oper.wp execOp;simp only [ho,hx,Sem.run_bind,Sem.run_pure,hrun,Result.andThen_ok];exact h
theorem kG (d:Option Tmp) (hd:o.dst=d) (ty:TypeId) (x y:Operand) (ho:o.op=.store ty x y) (p v:Value) (hx:a.eval x=p) (hy:a.eval y=v) (hrun:(Instr.storeAt ty p v).run P w=.ok () w') (h:K (a.put d undef) w'):Oper.wp P o a w K Q:=by subst hd;unfold Oper.wp execOp;simp only [ho,hx,hy,Sem.run_bind,Sem.run_pure,hrun,Result.andThen_ok];exact h
end
theorem aGs {K K':Nat->Prop} {w w1 u:World} {es es2:Array Value} {t t2:T} (h:NK K w es t) (h2:NK K' w1 es2 t2):(Instr.buildSlice 65 2 #[(0,.agg es),(1,.agg es2)]).run Tryz.prog u=.ok (.slice (some ⟨u.heap.size,0,none⟩) 2 2) (u.alloc (.cells (es.toList++es2.toList).toArray 67)):=by obtain⟨p,n,c,rfl,_⟩:=h;obtain⟨p',n',c',rfl,_⟩:=h2;exact aAE u _ _ _ _ _ _ _ _
theorem aI5 {W:World} {b:Nat} {lv pf:Nat} (h1:1<=lv) (h5:lv<=5) (hE:∀args u,(callFunc pf args).run Tryz.prog u=.ok (.enter pf args) u) {n0:T} {r0:List Tk.Tok} (hn:r0.length<=256)
  (C:∀ts' u,ts'.length<=r0.length->PR W b ts' u->Calls Tryz.prog pf #[pt b] u (PO W b u (PP (lv+1) ts'))) {w:World} (hb:b < w.heap.size)
  (C0:Calls Tryz.prog pf #[pt b] (w.alloc (.cells nd0 67)) fun e w'=>∃es,e=.returned (.agg es)/\NK (fun i=>(w.alloc (.cells nd0 67)).heap.size<=i) w' es n0/\Sp W b r0 (w.alloc (.cells nd0 67)) w'):
  Calls Tryz.prog 196 #[pt b,.int .i64 (lv:Nat),.func (.func pf) #[] #[]] w (PO W b w (dV (PP (lv+1)) lv r0.length n0 r0)):=by
 have C0':Calls Tryz.prog pf #[pt b] (w.alloc (.cells nd0 67)) fun e w1=>∃es,e=.returned (.agg es)/\
   Hid ((Instr.storeAt 67 (pt w1.heap.size) (.agg es)).run Tryz.prog (w1.alloc (.cells nd0 67))=.ok () (w1.alloc (.cells es 67)))/\Hid (NK (fun i=>w.heap.size < i/\i ≠ w1.heap.size) (w1.alloc (.cells es 67)) es n0)/\Hid (Sp W b r0 w (w1.alloc (.cells es 67)))/\
   Hid ((w1.alloc (.cells es 67)).heap[w.heap.size]? =some (.cells nd0 67))/\Hid ((w1.alloc (.cells es 67)).heap[w1.heap.size]? =some (.cells es 67))/\Hid (w.heap.size < w1.heap.size):=by
  refine C0.mono ?_;rintro e w1 ⟨es,rfl,h1,h2⟩;have hlt:w.heap.size < w1.heap.size:=by have:=h2.2.size;simp at this;omega
  refine ⟨es,rfl,(aCE w1 h1.nt).1, ?_,h2.dQ.alloc _, ?_,heap_alloc_new _ _,hlt⟩
  ·have:=h1.below (aD (Below.refl _ _) (.cells es 67));refine NK.below (K:=fun i=>w.heap.size < i/\i ≠ w1.heap.size) (h1.mono (fun i hi hl=> ?_)) (aD (Below.refl _ _) (.cells es 67));simp at hi;exact⟨by omega,by omega⟩
  ·exact (Below.heap_alloc _ _ _ hlt).trans (h2.kept (heap_alloc_new w _) (by omega))
 clear C0;generalize ho:dV (PP (lv+1)) lv r0.length n0 r0=o;have HO:Hid (dV (PP (lv+1)) lv r0.length n0 r0=o):=ho;have HC:Hid (∀ts' u,ts'.length<=r0.length->PR W b ts' u->Calls Tryz.prog pf #[pt b] u (PO W b u (PP (lv+1) ts'))):=C;clear ho C;go_enter Tryz.func196,Tryz.ntmps196;go_wp2_with (first|(go_at_fn pf;refine C0'.mono ?_;rintro e w1 ⟨es0,rfl,RS0,HN0,HS0,HG0,HG7,HLT⟩)|(refine aB rfl 67 _ _ rfl _ _ _ rfl rfl RS0.out ?_))
 clear C0';try simp only [Act.put,List.setIfInBounds_toArray,List.set_cons_zero,List.set_cons_succ]
 generalize hg7:w1.heap.size=g7 at *;clear hg7;go_loopw [8] (fun _ wr=>∃(nT:T) (r:List Tk.Tok) (es:Array Value),Hid (dV (PP (lv+1)) lv r.length nT r=o)/\r.length<=r0.length/\Hid (wr.heap[g7]? =some (.cells es 67))/\Hid (NK (fun i=>w.heap.size < i/\i ≠ g7) wr es nT)/\Hid (Sp W b r w wr)/\Hid (wr.heap[w.heap.size]? =some (.cells nd0 67))) (fun _ wr=>nS b wr)
 case atStart=>exact⟨n0,r0,es0,HO,Nat.le_refl _,HG7,HN0,HS0,HG0⟩
 case round=>
  obtain⟨nT,r,es,HL,hr,H7,HN,HS,H0⟩:=hrel;clear HO HG7 HN0 HS0 HG0 RS0;have OP:=aEb HS.out.1 (by omega);have ST:=fun u=>aBp (aV r) u;have hleft:=HS.out.1.left;by_cases hq:mJ (aV r)=lv
  ·have hne:=nG (s:=aV r) (by omega);obtain⟨hrt,hrc⟩:=bA (ts:=r) rfl hne;have HQ:Hid (o=(PP (lv+1) r.tail).bind fun p=>dV (PP (lv+1)) lv p.2.length (yQ (aV r) nT p.1) p.2):=by show _=_;rw [<-HL.out];exact aCQ h1 hq
   have TK:Calls Tryz.prog 236 #[pt b] wr fun e w'=>e=.returned (.agg (tcs 5 0 (ba (aV r)) noB noB 0 0 false false))/\Sp W b r.tail wr w':=by have X:=HS.out.1;rw [hrc] at X;exact take_cons X (by omega)
   have hqi:(((mJ (aV r):Nat):Int)==((lv:Nat):Int))=true:=by simp [hq]
   have aPe:g7 < wr.heap.size:=aZ H7.out;have aPf:r.tail.length < r.length:=by omega
   have FL:=fun u=>aPd u 5 0 (ba (aV r)) noB noB 0 0 false false;clear HL hq hrc;generalize hrr:r.tail=r' at *;generalize mJ (aV r)=sv at *;generalize hss:aV r=sg at *;clear hrr hss;go_wp2_with (first|(go_at_call 235;refine mw OP ?_)|(go_at_call 169;refine mw (ST _) ?_)|(go_at_call 236;refine TK.mono ?_;rintro e w2 ⟨rfl,hw⟩;have HS2:Hid (Sp W b r' wr w2):=hw;clear hw TK))
   have H72:w2.heap[g7]? =some (.cells es 67):=HS2.out.kept H7.out (by have:=HLT.out;omega);have H02:w2.heap[w.heap.size]? =some (.cells nd0 67):=HS2.out.kept H0.out (by omega);have hz2:wr.heap.size<=w2.heap.size:=HS2.out.2.size;have C1:=HC.out r' w2.drew (by omega) HS2.out.1.drew;have RLS:Hid ((Instr.loadAt 67 (pt g7)).run Tryz.prog w2.drew=.ok (.agg es) w2.drew):=HN.out.lod (u:=w2.drew) H72;have K1:∀i,(fun i=>w.heap.size < i/\i ≠ g7) i->i ≠ b:=fun i hi e=>by have:=hi.1;omega
   have HN2:Hid (NK (fun i=>w.heap.size < i/\i ≠ g7) w2.drew es nT):=(HN.out.grown HS2.out.2 (fun g e hk=>by cases e;exact K1 _ hk rfl)).below (Below.refl _ _).drew;cases hP:PP (lv+1) r' with
   | none=>
    rw [hP] at C1 HQ;have HQ2:Hid (o=none):=HQ.out;have C1':Calls Tryz.prog pf #[pt b] w2.drew fun e w'=>e=.panicked dA/\w2.drew.grownBy w' (some b):=C1;clear C1 HQ;refine aP (fun u=>(Instr.loadAt 67 (pt g7)).run Tryz.prog u=.ok (.agg es) u) (fun j=>j==7) (by kernel_rfl) ?_;refine dwp 0 (.string (ba sg)) ?_;refine dwl 1 (.agg es) ?_ (hS:=RLS.out) (hy:=(fun u hSu=>lT rfl rfl hSu));refine dwp 2 (.func (.func pf) #[] #[]) ?_;refine dwp 3 (pt b) ?_;refine aJ (i:=4) (by kernel_rfl) rfl ?_;intro K hK;go_simp;refine C1'.mono ?_;rintro e w3 ⟨rfl,hg3⟩;refine ⟨rfl, ?_⟩;rw [HQ2.out];exact⟨rfl,aI HS.out.2 (aI HS2.out.2 (aI (bD (Below.refl _ _).drew) hg3))⟩
   | some p=>
    obtain⟨m,r2⟩:=p;have hr2:=jB upF trF (by omega) _ m r2 hP;rw [hP] at C1 HQ;have HQ2:Hid (dV (PP (lv+1)) lv r2.length (yQ sg nT m) r2=o):=HQ.out.symm;have C1':Calls Tryz.prog pf #[pt b] w2.drew fun e w3=>∃es2,e=.returned (.agg es2)/\Hid (Sp W b r2 w2.drew w3)/\Hid (NK (fun i=>w2.drew.heap.size<=i) w3 es2 m)/\
      Hid ((Instr.buildSlice 65 2 #[(0,.agg es),(1,.agg es2)]).run Tryz.prog w3=.ok (.slice (some ⟨w3.heap.size,0,none⟩) 2 2) (w3.alloc (.cells (es.toList++es2.toList).toArray 67))):=C1.mono (by
     rintro e w3 ⟨es2,rfl,h1,h2⟩;exact⟨es2,rfl,h2,h1,aGs HN.out h1⟩)
    clear C1 HQ hP;refine aP (fun u=>(Instr.loadAt 67 (pt g7)).run Tryz.prog u=.ok (.agg es) u) (fun j=>j==7) (by kernel_rfl) ?_;refine dwp 0 (.string (ba sg)) ?_;refine dwl 1 (.agg es) ?_ (hS:=RLS.out) (hy:=(fun u hSu=>lT rfl rfl hSu));refine dwp 2 (.func (.func pf) #[] #[]) ?_;refine dwp 3 (pt b) ?_;refine aJ (i:=4) (by kernel_rfl) rfl ?_;intro K hK;go_simp;refine C1'.mono ?_;rintro e w3 ⟨es2,rfl,HS3,HM,RC⟩;have H73:w3.heap[g7]? =some (.cells es 67):=HS3.out.kept (w:=w2.drew) H72 (by have:=HLT.out;omega);have H03:w3.heap[w.heap.size]? =some (.cells nd0 67):=HS3.out.kept (w:=w2.drew) H02 (by omega);have hz3:w2.heap.size<=w3.heap.size:=HS3.out.2.size;have RL3:Hid ((Instr.loadAt 67 (pt g7)).run Tryz.prog w3=.ok (.agg es) w3):=HN.out.lod H73;refine hK _ _ (.inr fun _=>RL3.out) ?_;clear hK C1';try simp only [Act.put,List.setIfInBounds_toArray,List.set_cons_zero,List.set_cons_succ]
    obtain⟨w4,hw4⟩:∃w4,w3.alloc (.cells (es.toList++es2.toList).toArray 67)=w4:=⟨_,rfl⟩
    rw [hw4] at RC;have H74:w4.heap[g7]? =some (.cells es 67):=by rw [<-hw4];exact(Below.heap_alloc _ _ _ (aZ H73)).trans H73
    have H04:w4.heap[w.heap.size]? =some (.cells nd0 67):=by rw [<-hw4];exact(Below.heap_alloc _ _ _ (aZ H03)).trans H03
    have H4:w4.heap[w3.heap.size]? =some (.cells (es.toList++es2.toList).toArray 67):=by rw [<-hw4];exact heap_alloc_new _ _
    have hz4:w4.heap.size=w3.heap.size+1:=by rw [<-hw4];simp
    have B4:Below w3.heap.size w3 w4:=by rw [<-hw4];exact aD (Below.refl _ _) _
    have RL4:Hid ((Instr.loadAt 67 (pt g7)).run Tryz.prog w4=.ok (.agg es) w4):=HN.out.lod H74;have RB:=mM w4 6 (ba sg) (some ⟨w3.heap.size,0,none⟩) 2 2;have RS:=qX H74 HN.out.size (bG 6 (ba sg)) (some ⟨w3.heap.size,0,none⟩) 2 2;generalize hfs:lcs (bG 6 (ba sg)) (.slice (some ⟨w3.heap.size,0,none⟩) 2 2)=fs at *;have G5:=aL w4 g7 fs;have K4:∀g,(some g7:Option Nat)=some g->¬(fun i=>w.heap.size < i/\i ≠ g7) g:=fun g e hk=>by cases e;exact hk.2 rfl
    have HA:NK (fun i=>w.heap.size < i/\i ≠ g7) (w4.setRow g7 fs) es nT:=(((HN2.out.grown HS3.out.2 (fun g e hk=>by cases e;exact K1 _ hk rfl)).below B4).grown G5 K4)
    have HBm:NK (fun i=>w.heap.size < i/\i ≠ g7) (w4.setRow g7 fs) es2 m:=((HM.out.mono (K':=fun i=>w.heap.size < i/\i ≠ g7) (fun i hi _=>by
     have hi':w2.heap.size<=i:=hi;have:=HLT.out;exact⟨by omega,by omega⟩)).below B4).grown G5 K4
    have HN5:Hid (NK (fun i=>w.heap.size < i/\i ≠ g7) (w4.setRow g7 fs) fs (yQ sg nT m)):=by
     have:=HLT.out;rw [<-hfs] at HA HBm ⊢;refine NK.newAt (g:=w3.heap.size) ⟨by omega,by omega⟩ (k:=6) (s:=ba sg) [(es,nT),(es2,m)] (fun x hx=> ?_) (es:=(es.toList++es2.toList).toArray) (z:=(0,0)) (o:=0) (((aL w4 g7 _).block _ (by omega) (by intro e;have:=Option.some.inj e;omega)).trans H4) (fun j v hj=>by simpa using hj) 2;simp only [List.mem_cons,List.not_mem_nil,or_false] at hx;rcases hx with rfl | rfl
     ·exact HA
     ·exact HBm
    have aPU:fs.size=18:=by rw [<-hfs];rfl
    have H75:Hid ((w4.setRow g7 fs).heap[g7]? =some (.cells fs 67)):=setRow_heap _ _ _ _ _ _ H74;have H05:Hid ((w4.setRow g7 fs).heap[w.heap.size]? =some (.cells nd0 67)):=(G5.block _ (aZ H04) (by intro e;have:=Option.some.inj e;have:=HLT.out;omega)).trans H04;have HS5:Hid (Sp W b r2 w (w4.setRow g7 fs)):=by
     have s1:Sp W b r2 wr w3:=⟨HS3.out.1,aI HS2.out.2 (aI (bD (Below.refl _ _).drew) HS3.out.2)⟩
     exact((HS.out.step s1).bel B4).grown G5 (by have:=HLT.out;omega) hb
    clear HA HBm G5 K4 hfs;refine aJ (i:=5) (by kernel_rfl) rfl ?_;intro K hK;rw [if_pos (by go_simp)];refine qH (some 25) rfl 65 2 _ rfl _ _ (by go_simp) RC.out (hK _ _ (.inr fun _=>RL4.out) ?_);clear hK;try simp only [Act.put,List.setIfInBounds_toArray,List.set_cons_zero,List.set_cons_succ]
    refine aJ (i:=6) (by kernel_rfl) rfl ?_;intro K hK;rw [if_pos (by go_simp)];refine aBq (some 26) rfl 67 _ rfl _ _ (by go_simp) RB (hK _ _ (.inr id) ?_);clear hK;try simp only [Act.put,List.setIfInBounds_toArray,List.set_cons_zero,List.set_cons_succ]
    refine aJ (i:=7) (by kernel_rfl) rfl ?_;intro K hK;rw [if_pos (by go_simp)];refine kG none rfl 67 _ _ rfl _ _ rfl rfl RS.out (hK _ _ (.inl rfl) ?_);clear hK;try simp only [Act.put,List.setIfInBounds_toArray,List.set_cons_zero,List.set_cons_succ]
    refine aR (by kernel_rfl) ?_ _;go_wp2;go_roundw
    case rel=>exact⟨yQ sg nT m,r2,fs,HQ2,by omega,H75,HN5,HS5,H05⟩
    case measure=>rw [HS5.out.1.left,hleft];omega
  ·have HQ:Hid (o=some (nT,r)):=by show _=_;rw [<-HL.out];exact aFp hq _
   have hqi:(((mJ (aV r):Nat):Int)==((lv:Nat):Int))=false:=by simp;omega
   generalize mJ (aV r)=sv at *;generalize ba (aV r)=A at *;have RL:=HN.out.lod H7.out;have RS:=HN.out.sto H0.out rfl;have HF:Hid (Sp W b r w (wr.setRow w.heap.size es)):=HS.out.grown (aL _ _ _) (Nat.le_refl _) hb;have HNF:Hid (NK (fun i=>w.heap.size<=i) (wr.setRow w.heap.size es) es nT):=(HN.out.grown (aL _ _ _) (fun g e hk=>by cases e;have:=hk.1;omega)).mono (fun i hi _=>by have:=hi.1;omega);have hes:=HN.out.size;clear hq HL hleft;go_wp2_with (first|(go_at_call 235;refine mw OP ?_)|(go_at_call 169;refine mw (ST _) ?_)|(refine aC rfl 67 _ rfl _ _ rfl RL.out ?_)|(refine aB rfl 67 _ _ rfl _ _ _ rfl rfl RS.out ?_))
   refine bodyPost_ret (aY H0.out hes rfl rfl) rfl ?_;rw [HQ.out];exact⟨es,rfl,HNF.out,HF.out⟩
theorem fZ {W w w1:World} {b:Nat} {es:Array Value} {t:T} {r:List Tk.Tok} (hb:b < w.heap.size) (h1:NK (fun i=>w.heap.size < i) w1 es t) (h2:Sp W b r (w.alloc (.cells nd0 67)) w1):
  Hid ((Instr.storeAt 67 (pt w.heap.size) (.agg es)).run Tryz.prog w1=.ok () (w1.setRow w.heap.size es))/\Hid (w1.heap[w.heap.size]? =some (.cells nd0 67))/\Hid (es.size=18)/\
  Hid (NK (fun i=>w.heap.size<=i) (w1.setRow w.heap.size es) es t/\Sp W b r w (w1.setRow w.heap.size es)):=by
 have hg:=h2.kept (heap_alloc_new w _) (by omega);exact⟨h1.sto hg rfl,hg,h1.size,(h1.grown (aL _ _ _) (fun g e hk=>by cases e;exact Nat.lt_irrefl _ hk)).mono (fun i hi _=>Nat.le_of_lt hi),(h2.dQ).grown (aL _ _ _) (Nat.le_refl _) hb⟩
theorem qY {w w1:World} {es:Array Value} {t:T} (h:NK (fun i=>(w.alloc (.cells nd0 67)).heap.size<=i) w1 es t):NK (fun i=>w.heap.size < i) w1 es t:=
 h.mono (fun i hi _=>by simp at hi;omega)
theorem tJ {W:World} {b:Nat} {lv pf:Nat} (h1:1<=lv) (h5:lv<=5) (hE:∀args u,(callFunc pf args).run Tryz.prog u=.ok (.enter pf args) u) {ts:List Tk.Tok} (hn:ts.length<=256)
  (C:∀ts' u,ts'.length<=ts.length->PR W b ts' u->Calls Tryz.prog pf #[pt b] u (PO W b u (PP (lv+1) ts'))) {w:World} (X:PR W b ts w):
  Calls Tryz.prog 196 #[pt b,.int .i64 (lv:Nat),.func (.func pf) #[] #[]] w (PO W b w (PP lv ts)):=by
 have C0:=C ts (w.alloc (.cells nd0 67)) (Nat.le_refl _) (X.alloc _);have e:PP lv ts=(PP (lv+1) ts).bind fun p=>dV (PP (lv+1)) lv p.2.length p.1 p.2:=aIJ upF trF h1 h5 ts;rw [e];cases hP:PP (lv+1) ts with
 | none=>
  rw [hP] at C0;exact aI4 (W:=W) hE X.lt C0
 | some p=>
  rw [hP] at C0;have:=jB upF trF (by omega) _ p.1 p.2 hP;exact aI5 h1 h5 hE (by omega) (fun ts' u hl hx=>C ts' u (by omega) hx) X.lt C0
theorem e82:∀args u,(callFunc 197 args).run Tryz.prog u=.ok (.enter 197 args) u:=enters_of Tryz.func197 (by kernel_rfl) rfl
theorem aLl {W:World} {b:Nat} {ts:List Tk.Tok} (hn:ts.length<=256) (C:∀ts' u,ts'.length<=ts.length->PR W b ts' u->Calls Tryz.prog 197 #[pt b] u (PO W b u (PP 2 ts'))) {w:World} (X:PR W b ts w):
  Calls Tryz.prog 152 #[pt b] w (PO W b w (PP 1 ts)):=by
 have R:=tJ (lv:=1) (by decide) (by decide) e82 hn C (X.alloc (.cells nd0 67));have hb:=X.lt;clear C X;cases hP:PP 1 ts with
 | none=>
  rw [hP] at R;have R':Calls Tryz.prog 196 #[pt b,.int .i64 1,.func (.func 197) #[] #[]] (w.alloc (.cells nd0 67)) fun e w'=>e=.panicked dA/\(w.alloc (.cells nd0 67)).grownBy w' (some b):=R;clear R hP;go_enter Tryz.func152,Tryz.ntmps152;go_wp2_with (go_at_call 196;refine R'.mono ?_;rintro e w1 ⟨rfl,hg⟩)
  exact⟨rfl,rfl,aI (World.grownBy_alloc _ _ _) hg⟩
 | some p=>
  rw [hP] at R;have R':Calls Tryz.prog 196 #[pt b,.int .i64 1,.func (.func 197) #[] #[]] (w.alloc (.cells nd0 67)) fun e w1=>∃es,e=.returned (.agg es)/\Hid ((Instr.storeAt 67 (pt w.heap.size) (.agg es)).run Tryz.prog w1=.ok () (w1.setRow w.heap.size es))/\Hid (w1.heap[w.heap.size]? =some (.cells nd0 67))/\Hid (es.size=18)/\
    Hid (NK (fun i=>w.heap.size<=i) (w1.setRow w.heap.size es) es p.1/\Sp W b p.2 w (w1.setRow w.heap.size es)):=R.mono (by
   rintro e w1 ⟨es,rfl,h1,h2⟩;exact⟨es,rfl,fZ hb (qY h1) h2⟩)
  clear R hP;go_enter Tryz.func152,Tryz.ntmps152;go_wp2_with (first|(go_at_call 196;refine R'.mono ?_;rintro e w1 ⟨es,rfl,RS,HG,HZ,HF⟩)|(refine aB rfl 67 _ _ rfl _ _ _ rfl rfl RS.out ?_))
  exact bodyPost_ret (aY HG.out HZ.out rfl rfl) rfl ⟨es,rfl,HF.out.1,HF.out.2⟩
theorem e125:∀args u,(callFunc 237 args).run Tryz.prog u=.ok (.enter 237 args) u:=enters_of Tryz.func237 (by kernel_rfl) rfl
theorem aLm {W:World} {b:Nat} {ts:List Tk.Tok} (hn:ts.length<=256) (C:∀ts' u,ts'.length<=ts.length->PR W b ts' u->Calls Tryz.prog 237 #[pt b] u (PO W b u (PP 3 ts'))) {w:World} (X:PR W b ts w):
  Calls Tryz.prog 197 #[pt b] w (PO W b w (PP 2 ts)):=by
 have R:=tJ (lv:=2) (by decide) (by decide) e125 hn C (X.alloc (.cells nd0 67));have hb:=X.lt;clear C X;cases hP:PP 2 ts with
 | none=>
  rw [hP] at R;have R':Calls Tryz.prog 196 #[pt b,.int .i64 2,.func (.func 237) #[] #[]] (w.alloc (.cells nd0 67)) fun e w'=>e=.panicked dA/\(w.alloc (.cells nd0 67)).grownBy w' (some b):=R;clear R hP;go_enter Tryz.func197,Tryz.ntmps197;go_wp2_with (go_at_call 196;refine R'.mono ?_;rintro e w1 ⟨rfl,hg⟩)
  exact⟨rfl,rfl,aI (World.grownBy_alloc _ _ _) hg⟩
 | some p=>
  rw [hP] at R;have R':Calls Tryz.prog 196 #[pt b,.int .i64 2,.func (.func 237) #[] #[]] (w.alloc (.cells nd0 67)) fun e w1=>∃es,e=.returned (.agg es)/\Hid ((Instr.storeAt 67 (pt w.heap.size) (.agg es)).run Tryz.prog w1=.ok () (w1.setRow w.heap.size es))/\Hid (w1.heap[w.heap.size]? =some (.cells nd0 67))/\Hid (es.size=18)/\
    Hid (NK (fun i=>w.heap.size<=i) (w1.setRow w.heap.size es) es p.1/\Sp W b p.2 w (w1.setRow w.heap.size es)):=R.mono (by
   rintro e w1 ⟨es,rfl,h1,h2⟩;exact⟨es,rfl,fZ hb (qY h1) h2⟩)
  clear R hP;go_enter Tryz.func197,Tryz.ntmps197;go_wp2_with (first|(go_at_call 196;refine R'.mono ?_;rintro e w1 ⟨es,rfl,RS,HG,HZ,HF⟩)|(refine aB rfl 67 _ _ rfl _ _ _ rfl rfl RS.out ?_))
  exact bodyPost_ret (aY HG.out HZ.out rfl rfl) rfl ⟨es,rfl,HF.out.1,HF.out.2⟩
theorem e167:∀args u,(callFunc 268 args).run Tryz.prog u=.ok (.enter 268 args) u:=enters_of Tryz.func268 (by kernel_rfl) rfl
theorem aLn {W:World} {b:Nat} {ts:List Tk.Tok} (hn:ts.length<=256) (C:∀ts' u,ts'.length<=ts.length->PR W b ts' u->Calls Tryz.prog 268 #[pt b] u (PO W b u (PP 4 ts'))) {w:World} (X:PR W b ts w):
  Calls Tryz.prog 237 #[pt b] w (PO W b w (PP 3 ts)):=by
 have R:=tJ (lv:=3) (by decide) (by decide) e167 hn C (X.alloc (.cells nd0 67));have hb:=X.lt;clear C X;cases hP:PP 3 ts with
 | none=>
  rw [hP] at R;have R':Calls Tryz.prog 196 #[pt b,.int .i64 3,.func (.func 268) #[] #[]] (w.alloc (.cells nd0 67)) fun e w'=>e=.panicked dA/\(w.alloc (.cells nd0 67)).grownBy w' (some b):=R;clear R hP;go_enter Tryz.func237,Tryz.ntmps237;go_wp2_with (go_at_call 196;refine R'.mono ?_;rintro e w1 ⟨rfl,hg⟩)
  exact⟨rfl,rfl,aI (World.grownBy_alloc _ _ _) hg⟩
 | some p=>
  rw [hP] at R;have R':Calls Tryz.prog 196 #[pt b,.int .i64 3,.func (.func 268) #[] #[]] (w.alloc (.cells nd0 67)) fun e w1=>∃es,e=.returned (.agg es)/\Hid ((Instr.storeAt 67 (pt w.heap.size) (.agg es)).run Tryz.prog w1=.ok () (w1.setRow w.heap.size es))/\Hid (w1.heap[w.heap.size]? =some (.cells nd0 67))/\Hid (es.size=18)/\
    Hid (NK (fun i=>w.heap.size<=i) (w1.setRow w.heap.size es) es p.1/\Sp W b p.2 w (w1.setRow w.heap.size es)):=R.mono (by
   rintro e w1 ⟨es,rfl,h1,h2⟩;exact⟨es,rfl,fZ hb (qY h1) h2⟩)
  clear R hP;go_enter Tryz.func237,Tryz.ntmps237;go_wp2_with (first|(go_at_call 196;refine R'.mono ?_;rintro e w1 ⟨es,rfl,RS,HG,HZ,HF⟩)|(refine aB rfl 67 _ _ rfl _ _ _ rfl rfl RS.out ?_))
  exact bodyPost_ret (aY HG.out HZ.out rfl rfl) rfl ⟨es,rfl,HF.out.1,HF.out.2⟩
theorem aPg:∀args u,(callFunc 282 args).run Tryz.prog u=.ok (.enter 282 args) u:=enters_of Tryz.func282 (by kernel_rfl) rfl
theorem aLo {W:World} {b:Nat} {ts:List Tk.Tok} (hn:ts.length<=256) (C:∀ts' u,ts'.length<=ts.length->PR W b ts' u->Calls Tryz.prog 282 #[pt b] u (PO W b u (PP 5 ts'))) {w:World} (X:PR W b ts w):
  Calls Tryz.prog 268 #[pt b] w (PO W b w (PP 4 ts)):=by
 have R:=tJ (lv:=4) (by decide) (by decide) aPg hn C (X.alloc (.cells nd0 67));have hb:=X.lt;clear C X;cases hP:PP 4 ts with
 | none=>
  rw [hP] at R;have R':Calls Tryz.prog 196 #[pt b,.int .i64 4,.func (.func 282) #[] #[]] (w.alloc (.cells nd0 67)) fun e w'=>e=.panicked dA/\(w.alloc (.cells nd0 67)).grownBy w' (some b):=R;clear R hP;go_enter Tryz.func268,Tryz.ntmps268;go_wp2_with (go_at_call 196;refine R'.mono ?_;rintro e w1 ⟨rfl,hg⟩)
  exact⟨rfl,rfl,aI (World.grownBy_alloc _ _ _) hg⟩
 | some p=>
  rw [hP] at R;have R':Calls Tryz.prog 196 #[pt b,.int .i64 4,.func (.func 282) #[] #[]] (w.alloc (.cells nd0 67)) fun e w1=>∃es,e=.returned (.agg es)/\Hid ((Instr.storeAt 67 (pt w.heap.size) (.agg es)).run Tryz.prog w1=.ok () (w1.setRow w.heap.size es))/\Hid (w1.heap[w.heap.size]? =some (.cells nd0 67))/\Hid (es.size=18)/\
    Hid (NK (fun i=>w.heap.size<=i) (w1.setRow w.heap.size es) es p.1/\Sp W b p.2 w (w1.setRow w.heap.size es)):=R.mono (by
   rintro e w1 ⟨es,rfl,h1,h2⟩;exact⟨es,rfl,fZ hb (qY h1) h2⟩)
  clear R hP;go_enter Tryz.func268,Tryz.ntmps268;go_wp2_with (first|(go_at_call 196;refine R'.mono ?_;rintro e w1 ⟨es,rfl,RS,HG,HZ,HF⟩)|(refine aB rfl 67 _ _ rfl _ _ _ rfl rfl RS.out ?_))
  exact bodyPost_ret (aY HG.out HZ.out rfl rfl) rfl ⟨es,rfl,HF.out.1,HF.out.2⟩
theorem e206:∀args u,(callFunc 296 args).run Tryz.prog u=.ok (.enter 296 args) u:=enters_of Tryz.func296 (by kernel_rfl) rfl
theorem aLp {W:World} {b:Nat} {ts:List Tk.Tok} (hn:ts.length<=256) (C:∀ts' u,ts'.length<=ts.length->PR W b ts' u->Calls Tryz.prog 296 #[pt b] u (PO W b u (PP 6 ts'))) {w:World} (X:PR W b ts w):
  Calls Tryz.prog 282 #[pt b] w (PO W b w (PP 5 ts)):=by
 have R:=tJ (lv:=5) (by decide) (by decide) e206 hn C (X.alloc (.cells nd0 67));have hb:=X.lt;clear C X;cases hP:PP 5 ts with
 | none=>
  rw [hP] at R;have R':Calls Tryz.prog 196 #[pt b,.int .i64 5,.func (.func 296) #[] #[]] (w.alloc (.cells nd0 67)) fun e w'=>e=.panicked dA/\(w.alloc (.cells nd0 67)).grownBy w' (some b):=R;clear R hP;go_enter Tryz.func282,Tryz.ntmps282;go_wp2_with (go_at_call 196;refine R'.mono ?_;rintro e w1 ⟨rfl,hg⟩)
  exact⟨rfl,rfl,aI (World.grownBy_alloc _ _ _) hg⟩
 | some p=>
  rw [hP] at R;have R':Calls Tryz.prog 196 #[pt b,.int .i64 5,.func (.func 296) #[] #[]] (w.alloc (.cells nd0 67)) fun e w1=>∃es,e=.returned (.agg es)/\Hid ((Instr.storeAt 67 (pt w.heap.size) (.agg es)).run Tryz.prog w1=.ok () (w1.setRow w.heap.size es))/\Hid (w1.heap[w.heap.size]? =some (.cells nd0 67))/\Hid (es.size=18)/\
    Hid (NK (fun i=>w.heap.size<=i) (w1.setRow w.heap.size es) es p.1/\Sp W b p.2 w (w1.setRow w.heap.size es)):=R.mono (by
   rintro e w1 ⟨es,rfl,h1,h2⟩;exact⟨es,rfl,fZ hb (qY h1) h2⟩)
  clear R hP;go_enter Tryz.func282,Tryz.ntmps282;go_wp2_with (first|(go_at_call 196;refine R'.mono ?_;rintro e w1 ⟨es,rfl,RS,HG,HZ,HF⟩)|(refine aB rfl 67 _ _ rfl _ _ _ rfl rfl RS.out ?_))
  exact bodyPost_ret (aY HG.out HZ.out rfl rfl) rfl ⟨es,rfl,HF.out.1,HF.out.2⟩
theorem aLq {W:World} {b:Nat} {ts:List Tk.Tok} (hn:ts.length<=256) (C6:∀u,aV ts=[45]->PR W b ts.tail u->Calls Tryz.prog 296 #[pt b] u (PO W b u (PP 6 ts.tail)))
  (C7:∀u,PR W b ts u->Calls Tryz.prog 313 #[pt b] u (PO W b u (PP 7 ts))) {w:World} (X:PR W b ts w):
  Calls Tryz.prog 296 #[pt b] w (PO W b w (PP 6 ts)):=by
 have hb:=X.lt;have e:PP 6 ts=if aV ts=[45] then (PP 6 ts.tail).map fun p=>(unT [45] p.1,p.2) else PP 7 ts:=aIK upF trF ts;rw [e];by_cases h:aV ts=[45]
 ·rw [if_pos h];have SK:Calls Tryz.prog 311 #[pt b,.string ⟨#[45]⟩] (w.alloc (.cells nd0 67)) fun e w'=>e=.returned (.bool true)/\Sp W b ts.tail (w.alloc (.cells nd0 67)) w':=fK (X.alloc (.cells nd0 67)) (by omega) [45] (by decide) h;have C:=fun u=>C6 u h;clear C6 C7 X e;cases hP:PP 6 ts.tail with
  | none=>
   rw [hP] at C;have C':∀u,PR W b ts.tail u->Calls Tryz.prog 296 #[pt b] u fun e w'=>e=.panicked dA/\u.grownBy w' (some b):=C;clear C hP h;go_enter Tryz.func296,Tryz.ntmps296;go_wp2_with (first|(go_at_call 311;refine SK.mono ?_;rintro e w1 ⟨rfl,hs⟩;have HS:Hid (Sp W b ts.tail (w.alloc (.cells nd0 67)) w1):=hs;clear hs)|(go_at_call 296;refine (C' _ HS.out.1).mono ?_;rintro e w2 ⟨rfl,hg⟩))
   exact⟨rfl,rfl,aI (World.grownBy_alloc _ _ _) (aI HS.out.2 hg)⟩
  | some p=>
   obtain⟨m,r⟩:=p;rw [hP] at C;have C':∀u,PR W b ts.tail u->Calls Tryz.prog 296 #[pt b] u fun e w'=>∃es,e=.returned (.agg es)/\NK (fun i=>u.heap.size<=i) w' es m/\Sp W b r u w':=C;have C2:∀u,Sp W b ts.tail (w.alloc (.cells nd0 67)) u->Calls Tryz.prog 296 #[pt b] u fun e w'=>∃es,e=.returned (.agg es)/\Hid (NK (fun i=>w.heap.size < i) w' es m)/\Hid (Sp W b r (w.alloc (.cells nd0 67)) w'):=fun u hu=>(C' u hu.1).mono (by
    rintro e w' ⟨es,rfl,h1,h2⟩;exact⟨es,rfl,h1.mono (fun i hi _=>by have:=hu.2.size;simp at this;omega),hu.step h2⟩)
   have UN:∀(u:World) (es:Array Value),NK (fun i=>w.heap.size < i) u es m->Sp W b r (w.alloc (.cells nd0 67)) u->Calls Tryz.prog 312 #[.string ⟨#[45]⟩,.agg es] u fun e w'=>∃fs,e=.returned (.agg fs)/\Hid ((Instr.storeAt 67 (pt w.heap.size) (.agg fs)).run Tryz.prog w'=.ok () (w'.setRow w.heap.size fs))/\Hid (w'.heap[w.heap.size]? =some (.cells nd0 67))/\Hid (fs.size=18)/\
     Hid (NK (fun i=>w.heap.size<=i) (w'.setRow w.heap.size fs) fs (unT [45] m)/\Sp W b r w (w'.setRow w.heap.size fs)):=fun u es hN hS=>(aAF [45] hN).mono (by
    rintro e w' ⟨fs,rfl,h1,h2⟩;exact⟨fs,rfl,fZ hb (h1.mono (fun i hi _=>by have:=hS.2.size;simp at this;rcases hi with hi | hi <;> omega)) (hS.bel h2)⟩)
   clear C C' hP h;go_enter Tryz.func296,Tryz.ntmps296;go_wp2_with (first|(go_at_call 311;refine SK.mono ?_;rintro e w1 ⟨rfl,hs⟩;have HS:Hid (Sp W b ts.tail (w.alloc (.cells nd0 67)) w1):=hs;clear hs)|(go_at_call 296;refine (C2 _ HS.out).mono ?_;rintro e w2 ⟨es,rfl,HN,HS2⟩)|(go_at_call 312;refine (UN _ _ HN.out HS2.out).mono ?_;rintro e w3 ⟨fs,rfl,RS,HG,HZ,HF⟩)|(refine aB rfl 67 _ _ rfl _ _ _ rfl rfl RS.out ?_))
   exact bodyPost_ret (aY HG.out HZ.out rfl rfl) rfl ⟨fs,rfl,HF.out.1,HF.out.2⟩
 ·rw [if_neg h];have SK:Calls Tryz.prog 311 #[pt b,.string ⟨#[45]⟩] (w.alloc (.cells nd0 67)) fun e w'=>e=.returned (.bool false)/\w'=w.alloc (.cells nd0 67):=iU (X.alloc (.cells nd0 67)) (by omega) [45] h;have C:=C7 _ (X.alloc (.cells nd0 67));clear C6 C7 X e;cases hP:PP 7 ts with
  | none=>
   rw [hP] at C;have C':Calls Tryz.prog 313 #[pt b] (w.alloc (.cells nd0 67)) fun e w'=>e=.panicked dA/\(w.alloc (.cells nd0 67)).grownBy w' (some b):=C;clear C hP h;go_enter Tryz.func296,Tryz.ntmps296;go_wp2_with (first|(go_at_call 311;refine SK.mono ?_;rintro e w1 ⟨rfl,hs⟩;obtain rfl:=hs.symm;clear hs)|(go_at_call 313;refine C'.mono ?_;rintro e w2 ⟨rfl,hg⟩))
   exact⟨rfl,rfl,aI (World.grownBy_alloc _ _ _) hg⟩
  | some p=>
   obtain⟨m,r⟩:=p;rw [hP] at C;have C':Calls Tryz.prog 313 #[pt b] (w.alloc (.cells nd0 67)) fun e w'=>∃fs,e=.returned (.agg fs)/\Hid ((Instr.storeAt 67 (pt w.heap.size) (.agg fs)).run Tryz.prog w'=.ok () (w'.setRow w.heap.size fs))/\Hid (w'.heap[w.heap.size]? =some (.cells nd0 67))/\Hid (fs.size=18)/\
     Hid (NK (fun i=>w.heap.size<=i) (w'.setRow w.heap.size fs) fs m/\Sp W b r w (w'.setRow w.heap.size fs)):=C.mono (by
    rintro e w' ⟨fs,rfl,h1,h2⟩;exact⟨fs,rfl,fZ hb (qY h1) h2⟩)
   clear C hP h;go_enter Tryz.func296,Tryz.ntmps296;go_wp2_with (first|(go_at_call 311;refine SK.mono ?_;rintro e w1 ⟨rfl,hs⟩;obtain rfl:=hs.symm;clear hs)|(go_at_call 313;refine C'.mono ?_;rintro e w2 ⟨fs,rfl,RS,HG,HZ,HF⟩)|(refine aB rfl 67 _ _ rfl _ _ _ rfl rfl RS.out ?_))
   exact bodyPost_ret (aY HG.out HZ.out rfl rfl) rfl ⟨fs,rfl,HF.out.1,HF.out.2⟩
theorem aNh {n:T} {r:List Tk.Tok} (h:aV r ≠ [37]) (k:Nat):gM k n r=(n,r):=by
 cases k with
 | zero=>rfl
 | succ k=>unfold gM;rw [if_neg h]
theorem aLr {n:T} {r:List Tk.Tok} (h:aV r=[37]):gM r.length n r=gM r.tail.length (unT [37] n) r.tail:=by
 have h2:=(bA (ts:=r) h (by decide)).1;rw [<-h2]
 conv=>lhs;unfold gM
 rw [if_pos h]
theorem aLs {W:World} {b:Nat} {ts:List Tk.Tok} (hn:ts.length<=256) (C8:∀u,PR W b ts u->Calls Tryz.prog 319 #[pt b] u (PO W b u (PP 8 ts))) {w:World} (X:PR W b ts w):
  Calls Tryz.prog 313 #[pt b] w (PO W b w (PP 7 ts)):=by
 have hb:=X.lt;have e:PP 7 ts=(PP 8 ts).map fun p=>gM p.2.length p.1 p.2:=aIL upF trF ts;rw [e];have C:=C8 _ (X.alloc (.cells nd0 67));clear C8 X e;cases hP:PP 8 ts with
 | none=>
  rw [hP] at C;have C':Calls Tryz.prog 319 #[pt b] (w.alloc (.cells nd0 67)) fun e w'=>e=.panicked dA/\(w.alloc (.cells nd0 67)).grownBy w' (some b):=C;clear C hP;go_enter Tryz.func313,Tryz.ntmps313;go_wp2_with (go_at_call 319;refine C'.mono ?_;rintro e w2 ⟨rfl,hg⟩)
  exact⟨rfl,rfl,aI (World.grownBy_alloc _ _ _) hg⟩
 | some p=>
  obtain⟨n0,r0⟩:=p;have hr0:=jB upF trF (by omega) _ n0 r0 hP;rw [hP] at C;have C0':Calls Tryz.prog 319 #[pt b] (w.alloc (.cells nd0 67)) fun e w1=>∃es,e=.returned (.agg es)/\
    Hid ((Instr.storeAt 67 (pt w1.heap.size) (.agg es)).run Tryz.prog (w1.alloc (.cells nd0 67))=.ok () (w1.alloc (.cells es 67)))/\Hid (NK (fun i=>w.heap.size < i/\i ≠ w1.heap.size) (w1.alloc (.cells es 67)) es n0)/\Hid (Sp W b r0 w (w1.alloc (.cells es 67)))/\
    Hid ((w1.alloc (.cells es 67)).heap[w.heap.size]? =some (.cells nd0 67))/\Hid ((w1.alloc (.cells es 67)).heap[w1.heap.size]? =some (.cells es 67))/\Hid (w.heap.size < w1.heap.size):=by
   refine C.mono ?_;rintro e w1 ⟨es,rfl,h1,h2⟩;have hlt:w.heap.size < w1.heap.size:=by have:=h2.2.size;simp at this;omega
   refine ⟨es,rfl,(aCE w1 h1.nt).1, ?_,h2.dQ.alloc _, ?_,heap_alloc_new _ _,hlt⟩
   ·refine NK.below (K:=fun i=>w.heap.size < i/\i ≠ w1.heap.size) (h1.mono (fun i hi hl=> ?_)) (aD (Below.refl _ _) (.cells es 67));simp at hi;exact⟨by omega,by omega⟩
   ·exact (Below.heap_alloc _ _ _ hlt).trans (h2.kept (heap_alloc_new w _) (by omega))
  clear C hP;rw [Option.map_some];generalize ho:gM r0.length n0 r0=o;have HO:Hid (gM r0.length n0 r0=o):=ho;clear ho;go_enter Tryz.func313,Tryz.ntmps313;go_wp2_with (first|(go_at_call 319;refine C0'.mono ?_;rintro e w1 ⟨es0,rfl,RS0,HN0,HS0,HG0,HG7,HLT⟩)|(refine aB rfl 67 _ _ rfl _ _ _ rfl rfl RS0.out ?_))
  clear C0';try simp only [Act.put,List.setIfInBounds_toArray,List.set_cons_zero,List.set_cons_succ]
  generalize hg7:w1.heap.size=g7 at *;clear hg7;go_loopw [7] (fun _ wr=>∃(nT:T) (r:List Tk.Tok) (es:Array Value),Hid (gM r.length nT r=o)/\r.length<=r0.length/\Hid (wr.heap[g7]? =some (.cells es 67))/\Hid (NK (fun i=>w.heap.size < i/\i ≠ g7) wr es nT)/\Hid (Sp W b r w wr)/\Hid (wr.heap[w.heap.size]? =some (.cells nd0 67))) (fun _ wr=>nS b wr)
  case atStart=>exact⟨n0,r0,es0,HO,Nat.le_refl _,HG7,HN0,HS0,HG0⟩
  case round=>
   obtain⟨nT,r,es,HL,hr,H7,HN,HS,H0⟩:=hrel;clear HO HG7 HN0 HS0 HG0 RS0;have hleft:=HS.out.1.left;by_cases hq:aV r=[37]
   ·have SK:Calls Tryz.prog 311 #[pt b,.string ⟨#[37]⟩] wr fun e w'=>e=.returned (.bool true)/\Sp W b r.tail wr w':=fK HS.out.1 (by omega) [37] (by decide) hq;have hrt:=(bA (ts:=r) hq (by decide)).1;have HQ:Hid (gM r.tail.length (unT [37] nT) r.tail=o):=by show _=_;rw [<-HL.out];exact(aLr hq).symm
    have aPe:g7 < wr.heap.size:=aZ H7.out;have SK2:Calls Tryz.prog 311 #[pt b,.string ⟨#[37]⟩] wr fun e w2=>e=.returned (.bool true)/\Hid (Sp W b r.tail w w2)/\Hid (NK (fun i=>w.heap.size < i/\i ≠ g7) w2 es nT)/\Hid ((Instr.loadAt 67 (pt g7)).run Tryz.prog w2=.ok (.agg es) w2)/\Hid (w2.heap[g7]? =some (.cells es 67))/\Hid (w2.heap[w.heap.size]? =some (.cells nd0 67))/\Hid (g7 < w2.heap.size):=SK.mono (by
     rintro e w2 ⟨rfl,h⟩;have h7:w2.heap[g7]? =some (.cells es 67):=h.kept H7.out (by have:=HLT.out;omega);exact⟨rfl,HS.out.step h,HN.out.grown h.2 (fun g e hk=>by cases e;have:=hk.1;omega),HN.out.lod h7,h7,h.kept H0.out (by omega),aZ h7⟩)
    have UN:∀u:World,NK (fun i=>w.heap.size < i/\i ≠ g7) u es nT->Sp W b r.tail w u->u.heap[g7]? =some (.cells es 67)->u.heap[w.heap.size]? =some (.cells nd0 67)->Calls Tryz.prog 312 #[.string ⟨#[37]⟩,.agg es] u fun e w'=>∃fs,e=.returned (.agg fs)/\Hid ((Instr.storeAt 67 (pt g7) (.agg fs)).run Tryz.prog w'=.ok () (w'.setRow g7 fs))/\Hid ((w'.setRow g7 fs).heap[g7]? =some (.cells fs 67))/\Hid ((w'.setRow g7 fs).heap[w.heap.size]? =some (.cells nd0 67))/\
      Hid (NK (fun i=>w.heap.size < i/\i ≠ g7) (w'.setRow g7 fs) fs (unT [37] nT))/\Hid (Sp W b r.tail w (w'.setRow g7 fs)):=fun u hN hS h7 h0=>(aAF [37] hN).mono (by
     rintro e w' ⟨fs,rfl,h1,h2⟩;have hl:=HLT.out;have h7':w'.heap[g7]? =some (.cells es 67):=(h2.block _ (aZ h7)).trans h7;have h0':w'.heap[w.heap.size]? =some (.cells nd0 67):=(h2.block _ (aZ h0)).trans h0;have hN':NK (fun i=>w.heap.size < i/\i ≠ g7) w' fs (unT [37] nT):=h1.mono (fun i hi _=>by
      have:=aZ h7;rcases hi with hi | hi
      ·exact hi
      ·exact ⟨by omega,by omega⟩)
     exact⟨fs,rfl,h1.sto h7' hN.size,setRow_heap _ _ _ _ _ _ h7',((aL _ _ _).block _ (aZ h0') (by intro e;have:=Option.some.inj e;omega)).trans h0',hN'.grown (aL _ _ _) (fun g e hk=>by cases e;exact hk.2 rfl),(hS.bel h2).grown (aL _ _ _) (by omega) hb⟩)
    clear SK hq HL;generalize hrr:r.tail=r' at *;clear hrr;go_wp2_with (first|(go_at_call 311;refine SK2.mono ?_;rintro e w2 ⟨rfl,HS2,HN2,RL,H72,H02,_⟩)|(refine aC rfl 67 _ rfl _ _ rfl RL.out ?_)|(go_at_call 312;refine (UN _ HN2.out HS2.out H72.out H02.out).mono ?_;rintro e w3 ⟨fs,rfl,RS,H75,H05,HN5,HS5⟩)|(refine aB rfl 67 _ _ rfl _ _ _ rfl rfl RS.out ?_))
    try simp only [Act.put,List.setIfInBounds_toArray,List.set_cons_zero,List.set_cons_succ]
    go_roundw
    case rel=>exact⟨unT [37] nT,r',fs,HQ,by omega,H75,HN5,HS5,H05⟩
    case measure=>rw [HS5.out.1.left,hleft];omega
   ·have SK:CW 311 #[pt b,.string ⟨#[37]⟩] wr (.bool false):=iU HS.out.1 (by omega) [37] hq;have HQ:Hid (o=(nT,r)):=by show _=_;rw [<-HL.out];exact aNh hq _
    have RL:=HN.out.lod H7.out;have RS:=HN.out.sto H0.out rfl;have HF:Hid (Sp W b r w (wr.setRow w.heap.size es)):=HS.out.grown (aL _ _ _) (Nat.le_refl _) hb;have HNF:Hid (NK (fun i=>w.heap.size<=i) (wr.setRow w.heap.size es) es nT):=(HN.out.grown (aL _ _ _) (fun g e hk=>by cases e;have:=hk.1;omega)).mono (fun i hi _=>by have:=hi.1;omega);have hes:=HN.out.size;clear hq HL hleft;go_wp2_with (first|(go_at_call 311;refine SK.mono ?_;rintro e w1 ⟨rfl,hs⟩;obtain rfl:=hs.symm;clear hs)|(refine aC rfl 67 _ rfl _ _ rfl RL.out ?_)|(refine aB rfl 67 _ _ rfl _ _ _ rfl rfl RS.out ?_))
    refine bodyPost_ret (aY H0.out hes rfl rfl) rfl ?_;rw [HQ.out];exact⟨es,rfl,HNF.out,HF.out⟩
end Go.Proofs.YtlhoklhjbpkgpaaGreatDoor
