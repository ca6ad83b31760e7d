/- TTake, TSkip, TFault, TOp, TLaid, SPure, SMem, SRow, SCop, SFun, SIdx, SGet, SOrd, VDraw. -/
import Derived.Deep.RegionHeld
import Derived.Deep.Slices
import Derived.Handed
import Derived.HandedShaped
import Derived.LaidMore
import Derived.LaidSub
import Derived.Laws.CopyRow
import Derived.Laws.MakeOwn
import Derived.Lay
import Derived.Lib.SmallJoins
import Derived.OpenShut
import Derived.OrdersHeld
import Derived.OwnWalk
import Derived.ProofKit
import Derived.Stop.Joined
import Derived.Stop.LaidErr
import Derived.Test.YtfedoljlipfhdaaGreatDoorRows
import Derived.Test.YtfedoljlipfhdaaGreatDoorTRunePw
set_option linter.unusedVariables false
set_option linter.unusedSimpArgs false
set_option maxHeartbeats 16000000
set_option maxRecDepth 100000
open Go.Proofs.Tryz renaming prog->Z,underlying9->z0
open Go renaming World->U,Value->G,heap_alloc_new->ε,TypeId->μ,Addr->π,Oper->ρ,Calls->τ,Act->Γ,maxLen->Θ,execOp->z4,bodyPost_ret->z5,wpList_plain->y2,wpList->y3,cell_of_row->y5,Program->y7,callFunc->y8,rounds_succ->y9,DataW->x3,Operand->x4
open Bool renaming true->J,false->M,and_eq_true->υ
open Go.RowKit renaming Hid->I,Below->γ
open List renaming isPrefixOf->N,getElem?_eq_getElem->E,flatMap_cons->ο,range->σ,setIfInBounds_toArray->φ,take_of_length_le->Ψ,not_mem_nil->z2,takeWhile_cons->z7,dropWhile_cons->z8,set_cons_zero->z9,set_cons_succ->y0,mem_cons->y1
open Go.Instr renaming loadAt->O,index->β,storeAt->ξ,sureAddr->x5
open Nat renaming le_refl->δ,le_trans->ω,add_mul->Φ,zero_le->y6,zero_add->x6
open Go.Region renaming ready->ζ,noSelect->θ,wanted->ι
open Go.MakeChecks renaming laidMetH_plain->η
open Go.Value renaming oneCell'->κ
open Go.RowKit.Below renaming refl->ν,heap_alloc->x0
open Option renaming map_some->χ
open Go.Sem renaming run_bind->ψ,run_pure->y4
open Go.Result renaming andThen_ok->Δ
open Go.Utf8 renaming decode->Ξ
open Go.Builtin renaming copy_->Ω
open Array renaming getElem?_setIfInBounds_ne->z3
open Option.some renaming inj->z6
namespace Go.Proofs.YtfedoljlipfhdaaGreatDoor
open Go.RowKit
theorem oQ {p:UInt8->Bool}:∀{l:List UInt8},l.all p=J->l.takeWhile p=l/\l.dropWhile p=[]
 | [],_=>⟨rfl,rfl⟩
 | c:: r,h=>by rw [List.all_cons,υ] at h;obtain⟨a,b⟩:=oQ h.2;rw [z7,z8,if_pos h.1,if_pos h.1,a,b];exact⟨rfl,rfl⟩
theorem nU {p:UInt8->Bool}:∀{l:List UInt8} {k:Nat} (hk:k < l.length),(l.take k).all p=J->p l[k]=M->l.takeWhile p=l.take k/\l.dropWhile p=l.drop k
 | c:: r,0,_,_,h=>by have h':p c=M:=h;rw [z7,z8,h'];exact⟨rfl,rfl⟩
 | c:: r,k+1,hk,ha,h=>by
  rw [List.take_succ_cons,List.all_cons,υ] at ha;have hk':k < r.length:=by simpa using hk
  obtain⟨a,b⟩:=nU hk' ha.2 (by simpa using h);rw [z7,z8,if_pos ha.1,if_pos ha.1,a,b];exact⟨rfl,rfl⟩
theorem sI {p:UInt8->Bool} (l:List UInt8) (k d:Nat) (ha:(l.take k).all p=J) (hd:∀j,j < d->∀h:k+j < l.length,p l[k+j]=J):(l.take (k+d)).all p=J:=by
 rw [List.all_eq_true] at ha ⊢;intro x hx;obtain⟨i,hi,rfl⟩:=List.getElem_of_mem hx;rw [List.length_take] at hi;rw [List.getElem_take];by_cases h:i < k
 ·exact ha _ (List.mem_take_iff_getElem.2 ⟨i,by omega,rfl⟩)
 ·have:=hd (i - k) (by omega) (by omega);simp only [show k+(i - k)=i by omega] at this;exact this
theorem mW (l:List UInt8) (k:Nat) (h:k < l.length) (h2:k < (ba l).size):(ba l)[k]=l[k]:=by simp [ba];rfl
theorem aLa (l:List UInt8) (k:Nat) (h:k < l.length):(ba l).get! k=l[k]:=by have:=aCi (ba l) k h;exact this
theorem sJ (l:List UInt8) (k:Nat):(ba l).extract 0 k=ba (l.take k):=by apply ByteArray.ext;simp [ba]
theorem aBa (l:List UInt8) (k:Nat):(ba l).extract k l.length=ba (l.drop k):=by apply ByteArray.ext;simp [ba];rw [Ψ (by simp)]
structure TW (W:U) (b:Nat) (l:List UInt8) (w:U) (q:Nat) (u:U):Prop where
 it:u.heap[w.heap.size]? =some (.stringIter (ba l) q)
 bel:γ w.heap.size w u
 lx:LX W b l u
theorem TW.next {W w u:U} {b q:Nat} {l:List UInt8} (h:TW W b l w q u) (hb:b < w.heap.size) (hp:q < l.length):
  ∃u1,(∀ty,(Instr.next (pt w.heap.size) J ty).run Z u=.ok (.tuple #[.bool J,.int .i64 q,.int .i32 (Ξ (ba l) q).1]) u1)/\TW W b l w (q+(Ξ (ba l) q).2) u1:=by
 have hq:q < (ba l).size:=by rw [size_mk];exact hp
 have hlt:w.heap.size < u.heap.size:=(Array.getElem?_eq_some_iff.1 h.it).1;have hB:γ w.heap.size w { u with heap:=u.heap.setIfInBounds w.heap.size (.stringIter (ba l) (q+(Ξ (ba l) q).2)) }:=by
  obtain⟨a,c,d,e,f⟩:=h.bel;refine ⟨a,c,d, ?_,fun i hi=> ?_⟩
  ·show w.heap.size<=(u.heap.setIfInBounds _ _).size;simp;omega
  ·show (u.heap.setIfInBounds _ _)[i]? =_;rw [z3 (by omega)];exact f i hi
 have hG:u.grownBy { u with heap:=u.heap.setIfInBounds w.heap.size (.stringIter (ba l) (q+(Ξ (ba l) q).2)) } (some w.heap.size):=by
  refine ⟨rfl,rfl,rfl, ?_,fun i hi hne=> ?_⟩
  ·show u.heap.size<=(u.heap.setIfInBounds _ _).size;simp
  ·show (u.heap.setIfInBounds _ _)[i]? =_;rw [z3 (fun e=>hne (by rw [e]))]
 refine ⟨_,fun ty=>run_next_at h.it ty hq, ?_,hB,h.lx.grown hG (fun k hk=> ?_)⟩
 ·show (u.heap.setIfInBounds w.heap.size _)[w.heap.size]? =_;rw [Array.getElem?_setIfInBounds_self_of_lt hlt]
 ·cases hk
  exact⟨by have:=h.lx.lo;omega,by omega⟩
theorem TW.pos {W w u:U} {b q:Nat} {l:List UInt8} (h:TW W b l w q u):u.iterPos w.heap.size=q:=by simp [World.iterPos,h.it]
theorem TW.begin {W w:U} {b:Nat} {l:List UInt8} (X:LX W b l w):TW W b l w 0 (w.iter (ba l) 0):=
 ⟨by simpa using World.iter_heap w (ba l) 0,(ν _ _).alloc (δ _) _,X.below ((ν _ _).alloc (δ _) _)⟩
theorem TW.st {W w u:U} {b q:Nat} {l:List UInt8} (h:TW W b l w q u) (m:List UInt8):St W b m w (u.setCell ⟨b,0,none⟩ (.string (ba m))):=
 St.set (l:=l) ⟨h.lx,bH h.bel⟩ m
theorem nV {W w:U} {b:Nat} {l:List UInt8} (X:LX W b l w) (hl:l.length<=255) {f:Nat} {p:UInt8->Bool} {hi:Bool} (A:aGp f p hi)
  (hE:∀args u,(y8 f args).run Z u=.ok (.enter f args) u):
  τ Z 194 #[pt b,.func (.func f) #[] #[]] w fun e w'=>e=.returned (.string (ba (l.takeWhile p)))/\St W b (l.dropWhile p) w w':=by
 obtain⟨c0,c1,f0⟩:=X.cells;have hlt:=X.lt;have HX:I (LX W b l w):=X;have HA:I (aGp f p hi):=A;have hs':(ba l).size=l.length:=size_mk l;have HB:I _:=TW.begin X;clear X A;go_enter Tryz.func194,Tryz.ntmps194;go_wp2;go_loopw [5,6] (fun v i w'=>v=.int .i64 l.length/\∃(q:Nat),q<=l.length/\I ((l.take q).all p=J)/\TW W b l w q w') (fun _ _ w'=>l.length - w'.iterPos w.heap.size)
 case atStart=>exact⟨rfl,0,y6 _,by simp [I],HB.out⟩
 case round=>
  obtain⟨rfl,q,hq,ha,hR⟩:=hrel;have hpos:=hR.pos;by_cases hq2:q < l.length
  ·obtain ⟨u1,hnx,hR1⟩:=hR.next hlt hq2;have hqs:q < (ba l).size:=by rw [hs'];exact hq2
   have hqi:(q:Int)<=l.length:=by omega
   by_cases hasc:((ba l)[q]'hqs).toNat < 128
   ·rw [decode_ascii (ba l) q hqs hasc] at hnx hR1;have hc:=mW l q hq2 hqs;have AL:=fun u=>HA.out.low _ u hasc;rw [hc] at hnx AL;obtain⟨d0,d1,g0⟩:=hR1.lx.cells;cases hp:p l[q]
    ·rw [hp] at AL;obtain⟨e1,e2⟩:=nU hq2 ha.out hp;have HE:I ((ba l).extract 0 q=ba (l.takeWhile p)/\(ba l).extract q l.length=ba (l.dropWhile p)):=⟨by rw [sJ,e1],by rw [aBa,e2]⟩
     have HF:I (∀v,v=ba (l.dropWhile p)->St W b (l.dropWhile p) w (u1.setCell ⟨b,0,none⟩ (.string v))):=fun v hv=>by rw [hv];exact hR1.st _
     clear hR hR1 e1 e2 hasc;generalize l[q]=c at *;go_wp2_with (go_at_fn f;refine mw (AL _) ?_)
     go_ret;exact⟨by rw [<-HE.out.1];rfl,HF.out _ HE.out.2⟩
    ·rw [hp] at AL;have HN:I ((l.take (q+1)).all p=J):=sI l q 1 ha.out (fun j hj h=>by
      obtain rfl:j=0:=by omega
      exact hp)
     have HR1:I (TW W b l w (q+1) u1):=hR1;clear hR hR1 hasc d0 d1 g0;generalize l[q]=c at *;go_wp2_with (go_at_fn f;refine mw (AL _) ?_)
     go_roundw
     case rel=>exact⟨rfl,q+1,by omega,HN,HR1.out⟩
     case measure=> have:=HR1.out.pos;rw [hpos,this];omega
   ·have dh:=decode_high (ba l) q hqs (by omega);have db:=rY (ba l) q hqs (by omega);rw [hs'] at db;obtain⟨r,hr,hr2⟩:∃r:Nat,(Ξ (ba l) q).1=r/\128<=r:=⟨_,rfl,dh.1⟩
    have AL:=fun u=>HA.out.high r u hr2;rw [hr] at hnx;obtain⟨d0,d1,g0⟩:=hR1.lx.cells;have hd1:=dh.2;have hd2:=db.1;have hby:=db.2;clear hr dh db;generalize (Ξ (ba l) q).2=d at *;have hc:=mW l q hq2 hqs;have hb8:=HA.out.byte l[q] (by rw [<-hc];omega);cases hi
    ·obtain ⟨e1,e2⟩:=nU hq2 ha.out hb8;have HE:I ((ba l).extract 0 q=ba (l.takeWhile p)/\(ba l).extract q l.length=ba (l.dropWhile p)):=⟨by rw [sJ,e1],by rw [aBa,e2]⟩
     have HF:I (∀v,v=ba (l.dropWhile p)->St W b (l.dropWhile p) w (u1.setCell ⟨b,0,none⟩ (.string v))):=fun v hv=>by rw [hv];exact hR1.st _
     clear hR hR1 e1 e2 hasc hby hc hb8;go_wp2_with (go_at_fn f;refine mw (AL _) ?_)
     go_ret;exact⟨by rw [<-HE.out.1];rfl,HF.out _ HE.out.2⟩
    ·have HN:I ((l.take (q+d)).all p=J):=sI l q d ha.out (fun j hj h=>by
      have:=hby j hj;rw [aLa l (q+j) h] at this;exact HA.out.byte _ this)
     have HR1:I (TW W b l w (q+d) u1):=hR1;clear hR hR1 hasc hby hc hb8 d0 d1 g0;go_wp2_with (go_at_fn f;refine mw (AL _) ?_)
     go_roundw
     case rel=>exact⟨rfl,q+d,hd2,HN,HR1.out⟩
     case measure=> have:=HR1.out.pos;rw [hpos,this];omega
  ·have hnx:∀ty,(Instr.next (pt w.heap.size) J ty).run Z wr=.ok (.tuple #[.bool M]) wr:=fun ty=>pX hR.it ty (by rw [hs'];exact hq2);obtain⟨d0,d1,g0⟩:=hR.lx.cells;have hall:l.all p=J:=by have:=ha.out;rw [Ψ (by omega)] at this;exact this
   obtain⟨e1,e2⟩:=oQ hall;have HE:I ((ba l).extract 0 l.length=ba (l.takeWhile p)/\ByteArray.empty=ba (l.dropWhile p)):=⟨by rw [sJ,e1,List.take_length],by rw [e2];rfl⟩
   have HF:I (∀v,v=ba (l.dropWhile p)->St W b (l.dropWhile p) w (wr.setCell ⟨b,0,none⟩ (.string v))):=fun v hv=>by rw [hv];exact hR.st _
   clear hR e1 e2 hall;go_wp2;go_ret;exact⟨by rw [<-HE.out.1];rfl,HF.out _ HE.out.2⟩
def skF (s l:List UInt8):List UInt8:=if s.isPrefixOf l=J then l.drop s.length else l
theorem jS {W w:U} {b:Nat} {l:List UInt8} (X:LX W b l w) (s:List UInt8):
  τ Z 228 #[pt b,.string (ba s)] w fun e w'=>e=.returned (.bool (s.isPrefixOf l))/\St W b (skF s l) w w':=by
 have CP:∀u,CW 73 #[.string (ba l),.string (ba s)] u (.tuple #[.string (ba (skF s l)),.bool (s.isPrefixOf l)]):=fun u=>Tryz.strings_CutPrefix (ba l) (ba s) u;obtain⟨c0,c1,f0⟩:=X.cells;have HS:I (St W b (skF s l) w (w.setCell ⟨b,0,none⟩ (.string (ba (skF s l))))):=(St.refl X).set _;clear X;generalize ba (skF s l)=A at *;generalize s.isPrefixOf l=q at *;generalize ba l=L at *;generalize ba s=S at *;go_enter Tryz.func228,Tryz.ntmps228;go_wp2_with (go_at_call 73;refine mw (CP _) ?_)
 go_ret;exact⟨rfl,HS.out⟩
theorem e32:∀args u,(y8 195 args).run Z u=.ok (.enter 195 args) u:=enters_of Tryz.func195 (by kernel_rfl) rfl
theorem e51:∀args u,(y8 227 args).run Z u=.ok (.enter 227 args) u:=enters_of Tryz.func227 (by kernel_rfl) rfl
theorem e53:∀args u,(y8 229 args).run Z u=.ok (.enter 229 args) u:=enters_of Tryz.func229 (by kernel_rfl) rfl
theorem e56:∀args u,(y8 231 args).run Z u=.ok (.enter 231 args) u:=enters_of Tryz.func231 (by kernel_rfl) rfl
theorem wD (l:List UInt8):((ba l).toList==[])=l.isEmpty:=by rw [ByteArray.toList_eq];cases l <;> rfl
theorem aIN {W w:U} {b:Nat} {l:List UInt8} (X:LX W b l w) (hl:l.length<=255):
  τ Z 150 #[pt b] w fun e w'=>e=.returned (.bool (!(l.dropWhile Tk.blank).isEmpty))/\St W b (l.dropWhile Tk.blank) w w':=by
 have T:=nV X hl aD7 e32;have HE:=wD (l.dropWhile Tk.blank);generalize l.takeWhile Tk.blank=A at *;generalize l.dropWhile Tk.blank=m at *;cases hq:m.isEmpty
 all_goals
  rw [hq] at HE;have HT:I _:=T;clear T;go_enter Tryz.func150,Tryz.ntmps150;go_wp2_with (go_at_call 194;refine Calls.mono HT.out ?_;rintro e w1 ⟨rfl,hs⟩;have HS:I (St W b m w w1):=hs;obtain⟨d0,d1,g0⟩:=hs.1.cells;clear hs)
  go_ret;exact⟨rfl,HS.out⟩
def Ans (W:U) (b:Nat) (w:U) (o:Option (Tk.Tok × List UInt8)) (e:Ending) (w':U):Prop:=
 match o with
 | some (t,m)=>e=.returned (.tuple #[.agg (tk t).cs,.bool J])/\St W b m w w'
 | none=>(∃t:TT,e=.returned (.tuple #[.agg t.cs,.bool M]))/\∃m,St W b m w w'
theorem St.fin {W w w1:U} {b:Nat} {l:List UInt8} {o:Obj} (hb:b < w.heap.size) (h:St W b l (w.alloc o) w1) (es:Array G):St W b l w (w1.setRow w.heap.size es):=
 St.grown (l:=l) (w1:=w1) ⟨h.1,aG (World.grownBy_alloc w o _) h.2⟩ (aK _ _ _) (δ _) hb
theorem St.res {W w w1:U} {b:Nat} {l:List UInt8} {o:Obj} (hb:b < w.heap.size) (h:St W b l (w.alloc o) w1):w1.heap[w.heap.size]? =some o:=h.kept (ε w o) (by omega)
theorem oU (k n:Int) (s b h:ByteArray) (r c:Int) (fr fc:Bool):(tcs k n s b h r c fr fc).all (·.oneCell')=J:=by simp [κ]
abbrev tkO:Obj:=.cells tk0 156
theorem St.put {W w w1:U} {b:Nat} {l:List UInt8} (hb:b < w.heap.size) (h:St W b l (w.alloc tkO) w1) (k n:Int) (s b' h':ByteArray) (r c:Int) (fr fc:Bool):
  I ((ξ 156 (pt w.heap.size) (.agg (tcs k n s b' h' r c fr fc))).run Z w1=.ok () (w1.setRow w.heap.size (tcs k n s b' h' r c fr fc))):=
 sto (h.res hb) nS rfl (oU k n s b' h' r c fr fc)
theorem St.ans {W w w1:U} {b:Nat} {l:List UInt8} (hb:b < w.heap.size) (h:St W b l (w.alloc tkO) w1) (es:Array G) (he:es.size=9) {fn:Func} {p u:Tmp} (hr:fn.results=#[.cell p 156,.tmp u]) {tmps:Array G} {v2:G}
  (hp:tmps.getD p undef=pt w.heap.size) (hv:tmps.getD u undef=v2):(results fn tmps).run Z (w1.setRow w.heap.size es)=.ok (.tuple #[.agg es,v2]) (w1.setRow w.heap.size es):=
 kJ hr hp (setRow_heap _ _ _ es _ _ (h.res hb)) rfl Tryz.underlying156 (by rw [he];exact nS) hv
def pnF (l:List UInt8):Option Int:=if (cK l).2=J then some (cK l).1 else none
theorem aCH {W w:U} {b:Nat} {l:List UInt8} (X:LX W b l w) (hl:l.length<=255):
  τ Z 188 #[pt b] w fun e w'=>e=.returned (.tuple #[.agg (tcs 1 (cK (l.takeWhile Tk.dB)).1 noB noB noB 0 0 M M),.bool (cK (l.takeWhile Tk.dB)).2])/\St W b (l.dropWhile Tk.dB) w w':=by
 have HT:I _:=nV (X.alloc tkO) hl aD8 e51;have hlen:(l.takeWhile Tk.dB).length<=255:=ω (List.takeWhile_sublist _).length_le hl;have PA:∀u,CR 203 #[.string (ba (l.takeWhile Tk.dB))] u (.tuple #[.int .i64 (cK (l.takeWhile Tk.dB)).1,.bool (cK (l.takeWhile Tk.dB)).2]):=fun u=>aFf (ba (l.takeWhile Tk.dB)) (by rw [size_mk];omega) u;have hb:=X.lt;clear X;generalize (cK (l.takeWhile Tk.dB)).1=n at *;generalize (cK (l.takeWhile Tk.dB)).2=ok at *;generalize ba (l.takeWhile Tk.dB)=A at *;generalize l.dropWhile Tk.dB=m at *;go_enter Tryz.func188,Tryz.ntmps188;go_wp2_with (first|(go_at_call 194;refine Calls.mono HT.out ?_;rintro e w1 ⟨rfl,hs⟩;have HS:I (St W b m (w.alloc tkO) w1):=hs;clear hs)|(go_at_call 203;refine (PA _).mono ?_;rintro e w2 ⟨rfl,hs⟩;have HS2:I (St W b m (w.alloc tkO) w2):=HS.out.bel hs;have R:=HS2.out.put hb 1 n noB noB noB 0 0 M M;clear hs HS)|(refine aA rfl 156 _ _ rfl _ _ _ rfl rfl R.out ?_))
 exact z5 (HS2.out.ans hb (tcs 1 n noB noB noB 0 0 M M) rfl rfl rfl rfl) rfl ⟨rfl,HS2.out.fin hb _⟩
theorem aEa {W w:U} {b:Nat} {l:List UInt8} (X:LX W b l w) (hl:l.length<=255):
  τ Z 188 #[pt b] w (Ans W b w ((pnF (l.takeWhile Tk.dB)).map fun n=>(.num n,l.dropWhile Tk.dB))):=by
 refine (aCH X hl).mono ?_;rintro e w' ⟨rfl,h⟩;unfold pnF;cases hq:(cK (l.takeWhile Tk.dB)).2
 ·exact ⟨⟨⟨1,_,noB,noB,noB,0,0,M,M⟩,rfl⟩,_,h⟩
 ·exact ⟨rfl,h⟩
theorem aFm:∀i,i < 9->fnm i=ba (Tk.eP i):=by decide
theorem aFo {l:List UInt8} {i:Nat} (h1:1<=i) (h8:i<=8) (hb:∀j,1<=j->j < i->(Tk.eP j).isPrefixOf l=M) (hp:(Tk.eP i).isPrefixOf l=J):Tk.pV l=some (.bad i,l.drop (Tk.eP i).length):=by
 have hf:([1,2,3,4,5,6,7,8].find? fun i=>(Tk.eP i).isPrefixOf l)=some i:=by
  have:i=1\/i=2\/i=3\/i=4\/i=5\/i=6\/i=7\/i=8:=by omega
  rcases this with rfl | rfl | rfl | rfl | rfl | rfl | rfl | rfl
  ·simp [List.find?,hp]
  ·simp [List.find?,hp,hb 1 (by decide) (by decide)]
  ·simp [List.find?,hp,hb 1 (by decide) (by decide),hb 2 (by decide) (by decide)]
  ·simp [List.find?,hp,hb 1 (by decide) (by decide),hb 2 (by decide) (by decide),hb 3 (by decide) (by decide)]
  ·simp [List.find?,hp,hb 1 (by decide) (by decide),hb 2 (by decide) (by decide),hb 3 (by decide) (by decide),hb 4 (by decide) (by decide)]
  ·simp [List.find?,hp,hb 1 (by decide) (by decide),hb 2 (by decide) (by decide),hb 3 (by decide) (by decide),hb 4 (by decide) (by decide),hb 5 (by decide) (by decide)]
  ·simp [List.find?,hp,hb 1 (by decide) (by decide),hb 2 (by decide) (by decide),hb 3 (by decide) (by decide),hb 4 (by decide) (by decide),hb 5 (by decide) (by decide),hb 6 (by decide) (by decide)]
  ·simp [List.find?,hp,hb 1 (by decide) (by decide),hb 2 (by decide) (by decide),hb 3 (by decide) (by decide),hb 4 (by decide) (by decide),hb 5 (by decide) (by decide),hb 6 (by decide) (by decide),hb 7 (by decide) (by decide)]
 unfold Tk.pV;rw [hf];rfl
theorem aCI {l:List UInt8} (hb:∀j,1<=j->j < 9->(Tk.eP j).isPrefixOf l=M):Tk.pV l=none:=by unfold Tk.pV;simp [List.find?,hb 1 (by decide) (by decide),hb 2 (by decide) (by decide),hb 3 (by decide) (by decide),hb 4 (by decide) (by decide),hb 5 (by decide) (by decide),hb 6 (by decide) (by decide),hb 7 (by decide) (by decide),hb 8 (by decide) (by decide)]
theorem aBb {s l:List UInt8} (h:s.isPrefixOf l=M):skF s l=l:=by unfold skF;rw [h];rfl
theorem aFp {s l:List UInt8} (h:s.isPrefixOf l=J):skF s l=l.drop s.length:=by unfold skF;rw [h];rfl
theorem aLb (i:Nat) (h1:1<=i) (h8:i<=8) (w:U) (T:xB w):CR 174 #[.agg #[.int .i64 4,.int .i64 (i:Nat),.string noB]] w (.string (ba (Tk.eP i))):=by
 have:=aGj 4 i noB ⟨by omega,by omega⟩ w T;rw [show aFg 4 (i:Int) noB=ba (Tk.eP i) by
  rw [<-aFm i (by omega),<-aFe i h1 h8];rfl] at this
 exact this
theorem aNc (i:Nat) (h1:1<=i) (h8:i<=8) (w:U):CR 208 #[.int .i64 (i:Nat)] w (.agg #[.int .i64 4,.int .i64 (i:Nat),.string noB]):=by have:=rZ (i:Int) w;rw [show xA (i:Int)=(i:Nat) by unfold xA;rw [aA0 i h1 h8];rfl] at this;exact this
theorem aGq {W w:U} {b:Nat} {l:List UInt8} (X:LX W b l w):τ Z 190 #[pt b] w (Ans W b w (Tk.pV l)):=by
 have hb:=X.lt;have H0:I (St W b l (w.alloc tkO) (w.alloc tkO)):=St.refl (X.alloc tkO);generalize ho:Tk.pV l=o;have HO:I (Tk.pV l=o):=ho;clear ho X;go_enter Tryz.func190,Tryz.ntmps190;go_wp2;go_loopw [4] (fun v wr=>∃i:Nat,1<=i/\i<=9/\v=.int .i64 (i:Nat)/\I (∀j,1<=j->j < i->(Tk.eP j).isPrefixOf l=M)/\I (St W b l (w.alloc tkO) wr)) (fun v _=>9 - (intOf v).toNat)
 case atStart=>exact⟨1,δ _,by decide,rfl,fun j h1 h2=>by omega,H0⟩
 case round=>
  obtain⟨i,h1,h9,rfl,HJ,HS⟩:=hrel;clear H0;by_cases h8:i<=8
  ·have hi:(i:Int)<=8:=by omega
   have BV:=fun u=>aNc i h1 h8 u;have BT:=fun u (T:xB u)=>aLb i h1 h8 u T;have SK:=fun u (Y:LX W b l u)=>jS Y (Tk.eP i);cases hp:(Tk.eP i).isPrefixOf l
   ·rw [hp] at SK;have HN:I (∀j,1<=j->j < i+1->(Tk.eP j).isPrefixOf l=M):=fun j h2 h3=>by
     by_cases e:j=i
     ·rw [e];exact hp
     ·exact HJ.out j h2 (by omega)
    simp only [aBb hp] at SK;clear HJ HO;generalize ba (Tk.eP i)=A at *;go_wp2_with (first|(go_at_call 208;refine (BV _).mono ?_;rintro e w1 ⟨rfl,hs⟩;have HS1:I (St W b l (w.alloc tkO) w1):=HS.out.bel hs;clear hs)|(go_at_call 174;refine (BT _ HS1.out.1.t.t.t).mono ?_;rintro e w2 ⟨rfl,hs⟩;have HS2:I (St W b l (w.alloc tkO) w2):=HS1.out.bel hs;clear hs)|(go_at_call 228;refine (SK _ HS2.out.1).mono ?_;rintro e w3 ⟨rfl,hs⟩;have HS3:I (St W b l (w.alloc tkO) w3):=HS2.out.step hs;clear hs))
    go_roundw
    case rel=>exact⟨i+1,by omega,by omega,by simp,HN,HS3⟩
    case measure=>simp [intOf];omega
   ·rw [hp] at SK;have HN:I (o=some (.bad i,l.drop (Tk.eP i).length)):=by show _=_;rw [<-HO.out,aFo h1 h8 HJ.out hp]
    simp only [aFp hp] at SK;clear HJ HO;generalize ba (Tk.eP i)=A at *;generalize l.drop (Tk.eP i).length=m at *;go_wp2_with (first|(go_at_call 208;refine (BV _).mono ?_;rintro e w1 ⟨rfl,hs⟩;have HS1:I (St W b l (w.alloc tkO) w1):=HS.out.bel hs;clear hs)|(go_at_call 174;refine (BT _ HS1.out.1.t.t.t).mono ?_;rintro e w2 ⟨rfl,hs⟩;have HS2:I (St W b l (w.alloc tkO) w2):=HS1.out.bel hs;clear hs)|(go_at_call 228;refine (SK _ HS2.out.1).mono ?_;rintro e w3 ⟨rfl,hs⟩;have HS3:I (St W b m (w.alloc tkO) w3):=HS2.out.step hs;have R:=HS3.out.put hb 6 (i:Nat) noB noB noB 0 0 M M;clear hs)|(refine aA rfl 156 _ _ rfl _ _ _ rfl rfl R.out ?_))
    refine z5 (HS3.out.ans hb (tcs 6 (i:Nat) noB noB noB 0 0 M M) rfl rfl rfl rfl) rfl ?_;rw [HN.out];exact⟨rfl,HS3.out.fin hb _⟩
  ·have hi:¬(i:Int)<=8:=by omega
   have HN:I (o=none):=by show _=_;rw [<-HO.out,aCI (fun j h2 h3=>HJ.out j h2 (by omega))]
   have R:=HS.out.put hb 0 0 noB noB noB 0 0 M M;clear HJ HO;go_wp2_with (refine aA rfl 156 _ _ rfl _ _ _ rfl rfl R.out ?_)
   refine z5 (HS.out.ans hb (tcs 0 0 noB noB noB 0 0 M M) rfl rfl rfl rfl) rfl ?_;rw [HN.out];exact⟨⟨⟨0,0,noB,noB,noB,0,0,M,M⟩,rfl⟩,l,HS.out.fin hb _⟩
def opn:Nat->List UInt8
 | 0=> [60,62]
 | 1=> [60,61]
 | 2=> [62,61]
 | 3=> [43]
 | 4=> [45]
 | 5=> [42]
 | 6=> [47]
 | 7=> [94]
 | 8=> [38]
 | 9=> [61]
 | 10=> [60]
 | 11=> [62]
 | 12=> [37]
 | 13=> [40]
 | 14=> [41]
 | 15=> [44]
 | 16=> [58]
 | _=> []
def opsV:Array G:=#[.string (ba [60,62]),.string (ba [60,61]),.string (ba [62,61]),.string (ba [43]),.string (ba [45]),.string (ba [42]),.string (ba [47]),.string (ba [94]),.string (ba [38]),.string (ba [61]),.string (ba [60]),.string (ba [62]),.string (ba [37]),.string (ba [40]),.string (ba [41]),.string (ba [44]),.string (ba [58])]
theorem aPd (W:U):(β 236 (.agg opsV) (.int .i64 0)).run Z W=.ok (.string (ba [60,62])) W:=by kernel_rfl
theorem aPe (W:U):(β 236 (.agg opsV) (.int .i64 1)).run Z W=.ok (.string (ba [60,61])) W:=by kernel_rfl
theorem aPf (W:U):(β 236 (.agg opsV) (.int .i64 2)).run Z W=.ok (.string (ba [62,61])) W:=by kernel_rfl
theorem aPg (W:U):(β 236 (.agg opsV) (.int .i64 3)).run Z W=.ok (.string (ba [43])) W:=by kernel_rfl
theorem aPh (W:U):(β 236 (.agg opsV) (.int .i64 4)).run Z W=.ok (.string (ba [45])) W:=by kernel_rfl
theorem aPi (W:U):(β 236 (.agg opsV) (.int .i64 5)).run Z W=.ok (.string (ba [42])) W:=by kernel_rfl
theorem aPj (W:U):(β 236 (.agg opsV) (.int .i64 6)).run Z W=.ok (.string (ba [47])) W:=by kernel_rfl
theorem aPk (W:U):(β 236 (.agg opsV) (.int .i64 7)).run Z W=.ok (.string (ba [94])) W:=by kernel_rfl
theorem aPl (W:U):(β 236 (.agg opsV) (.int .i64 8)).run Z W=.ok (.string (ba [38])) W:=by kernel_rfl
theorem aPm (W:U):(β 236 (.agg opsV) (.int .i64 9)).run Z W=.ok (.string (ba [61])) W:=by kernel_rfl
theorem aN7 (W:U):(β 236 (.agg opsV) (.int .i64 10)).run Z W=.ok (.string (ba [60])) W:=by kernel_rfl
theorem aN8 (W:U):(β 236 (.agg opsV) (.int .i64 11)).run Z W=.ok (.string (ba [62])) W:=by kernel_rfl
theorem aN9 (W:U):(β 236 (.agg opsV) (.int .i64 12)).run Z W=.ok (.string (ba [37])) W:=by kernel_rfl
theorem aOa (W:U):(β 236 (.agg opsV) (.int .i64 13)).run Z W=.ok (.string (ba [40])) W:=by kernel_rfl
theorem aOb (W:U):(β 236 (.agg opsV) (.int .i64 14)).run Z W=.ok (.string (ba [41])) W:=by kernel_rfl
theorem aOc (W:U):(β 236 (.agg opsV) (.int .i64 15)).run Z W=.ok (.string (ba [44])) W:=by kernel_rfl
theorem aOd (W:U):(β 236 (.agg opsV) (.int .i64 16)).run Z W=.ok (.string (ba [58])) W:=by kernel_rfl
theorem aGr (i:Nat) (h:i < 17) (W:U):(β 236 (.agg opsV) (.int .i64 (i:Int))).run Z W=.ok (.string (ba (opn i))) W:=by
 have:i=0\/i=1\/i=2\/i=3\/i=4\/i=5\/i=6\/i=7\/i=8\/i=9\/i=10\/i=11\/i=12\/i=13\/i=14\/i=15\/i=16:=by omega
 rcases this with rfl | rfl | rfl | rfl | rfl | rfl | rfl | rfl | rfl | rfl | rfl | rfl | rfl | rfl | rfl | rfl | rfl
 ·exact aPd W
 ·exact aPe W
 ·exact aPf W
 ·exact aPg W
 ·exact aPh W
 ·exact aPi W
 ·exact aPj W
 ·exact aPk W
 ·exact aPl W
 ·exact aPm W
 ·exact aN7 W
 ·exact aN8 W
 ·exact aN9 W
 ·exact aOa W
 ·exact aOb W
 ·exact aOc W
 ·exact aOd W
theorem aIO (w:U) (T:dS w) (i:Nat) (h:i < 17):w.cell? ⟨0,i,none⟩=some (.string (ba (opn i))):=by
 rw [T.ops i h];have:i=0\/i=1\/i=2\/i=3\/i=4\/i=5\/i=6\/i=7\/i=8\/i=9\/i=10\/i=11\/i=12\/i=13\/i=14\/i=15\/i=16:=by omega
 rcases this with rfl | rfl | rfl | rfl | rfl | rfl | rfl | rfl | rfl | rfl | rfl | rfl | rfl | rfl | rfl | rfl | rfl <;> rfl
theorem aIP (w:U) (T:dS w):(O 236 (.pointer (some ⟨0,0,none⟩))).run Z w=.ok (.agg opsV) w:=by
 have:=run_loadAt_mid (P:=Z) w 0 0 236 opsV.toList _ (fun j v hj=>by
  have hj2:j < 17:=by
   rcases Nat.lt_or_ge j 17 with h | h
   ·exact h
   ·rw [List.getElem?_eq_none (by simpa [opsV] using h)] at hj;cases hj
  rw [x6,aIO w T j hj2,<-hj];have:j=0\/j=1\/j=2\/j=3\/j=4\/j=5\/j=6\/j=7\/j=8\/j=9\/j=10\/j=11\/j=12\/j=13\/j=14\/j=15\/j=16:=by omega
  rcases this with rfl | rfl | rfl | rfl | rfl | rfl | rfl | rfl | rfl | rfl | rfl | rfl | rfl | rfl | rfl | rfl | rfl <;> rfl) Tryz.underlying236 rfl (by kernel_rfl)
 simpa using this
theorem gB (c:UInt8) (l:List UInt8): [c].isPrefixOf l=J↔∃t,l=c:: t:=by
 cases l with
 | nil=>simp [N]
 | cons d t=>
  simp only [N,Bool.and_true,beq_iff_eq];exact⟨fun h=>⟨t,by rw [h]⟩,fun ⟨_,h⟩=>by cases h;rfl⟩
theorem aBd (c d:UInt8) (l:List UInt8): [c,d].isPrefixOf l=J↔∃t,l=c:: d:: t:=by
 rcases l with _ | ⟨a,_ | ⟨e,t⟩⟩
 ·simp [N]
 ·simp [N]
 ·simp only [N,Bool.and_true,υ,beq_iff_eq];exact⟨fun h=>⟨t,by rw [h.1,h.2]⟩,fun ⟨_,h⟩=>by cases h;exact⟨rfl,rfl⟩⟩
theorem aEb {c d:UInt8} {t:List UInt8} (h:Tk.two c d=J):Tk.opF (c:: d:: t)=some (.op [c,d],t):=by simp [Tk.opF,h]
theorem iV {c:UInt8} {t:List UInt8} (hm:c ∈ Tk.ones) (h0: [60,62].isPrefixOf (c:: t)=M) (h1: [60,61].isPrefixOf (c:: t)=M) (h2: [62,61].isPrefixOf (c:: t)=M):Tk.opF (c:: t)=some (.op [c],t):=by
 cases t with
 | nil=>show (if c ∈ Tk.ones then _ else none)=_;rw [if_pos hm]
 | cons d t=>
  have:Tk.two c d=M:=by
   simp [N] at h0 h1 h2;unfold Tk.two;simp only [Bool.or_eq_false_iff,Bool.and_eq_false_iff,beq_eq_false_iff_ne];refine ⟨⟨?_, ?_⟩, ?_⟩
   ·by_cases e:c=60
    ·exact .inr fun e2=>h0 e.symm e2.symm
    ·exact .inl e
   ·by_cases e:c=60
    ·exact .inr fun e2=>h1 e.symm e2.symm
    ·exact .inl e
   ·by_cases e:c=62
    ·exact .inr fun e2=>h2 e.symm e2.symm
    ·exact .inl e
  show (if Tk.two c d=J then _ else if c ∈ Tk.ones then _ else none)=_;rw [this,if_neg (by decide),if_pos hm]
theorem aEc {l:List UInt8} {i:Nat} (hi:i < 17) (hb:∀j,j < i->(opn j).isPrefixOf l=M) (hp:(opn i).isPrefixOf l=J):Tk.opF l=some (.op (opn i),l.drop (opn i).length):=by
 have:i=0\/i=1\/i=2\/i=3\/i=4\/i=5\/i=6\/i=7\/i=8\/i=9\/i=10\/i=11\/i=12\/i=13\/i=14\/i=15\/i=16:=by omega
 rcases this with rfl | rfl | rfl | rfl | rfl | rfl | rfl | rfl | rfl | rfl | rfl | rfl | rfl | rfl | rfl | rfl | rfl
 ·obtain ⟨t,rfl⟩:=(aBd 60 62 l).1 hp;exact aEb rfl
 ·obtain ⟨t,rfl⟩:=(aBd 60 61 l).1 hp;exact aEb rfl
 ·obtain ⟨t,rfl⟩:=(aBd 62 61 l).1 hp;exact aEb rfl
 ·obtain ⟨t,rfl⟩:=(gB 43 l).1 hp;exact iV (by decide) (hb 0 (by decide)) (hb 1 (by decide)) (hb 2 (by decide))
 ·obtain ⟨t,rfl⟩:=(gB 45 l).1 hp;exact iV (by decide) (hb 0 (by decide)) (hb 1 (by decide)) (hb 2 (by decide))
 ·obtain ⟨t,rfl⟩:=(gB 42 l).1 hp;exact iV (by decide) (hb 0 (by decide)) (hb 1 (by decide)) (hb 2 (by decide))
 ·obtain ⟨t,rfl⟩:=(gB 47 l).1 hp;exact iV (by decide) (hb 0 (by decide)) (hb 1 (by decide)) (hb 2 (by decide))
 ·obtain ⟨t,rfl⟩:=(gB 94 l).1 hp;exact iV (by decide) (hb 0 (by decide)) (hb 1 (by decide)) (hb 2 (by decide))
 ·obtain ⟨t,rfl⟩:=(gB 38 l).1 hp;exact iV (by decide) (hb 0 (by decide)) (hb 1 (by decide)) (hb 2 (by decide))
 ·obtain ⟨t,rfl⟩:=(gB 61 l).1 hp;exact iV (by decide) (hb 0 (by decide)) (hb 1 (by decide)) (hb 2 (by decide))
 ·obtain ⟨t,rfl⟩:=(gB 60 l).1 hp;exact iV (by decide) (hb 0 (by decide)) (hb 1 (by decide)) (hb 2 (by decide))
 ·obtain ⟨t,rfl⟩:=(gB 62 l).1 hp;exact iV (by decide) (hb 0 (by decide)) (hb 1 (by decide)) (hb 2 (by decide))
 ·obtain ⟨t,rfl⟩:=(gB 37 l).1 hp;exact iV (by decide) (hb 0 (by decide)) (hb 1 (by decide)) (hb 2 (by decide))
 ·obtain ⟨t,rfl⟩:=(gB 40 l).1 hp;exact iV (by decide) (hb 0 (by decide)) (hb 1 (by decide)) (hb 2 (by decide))
 ·obtain ⟨t,rfl⟩:=(gB 41 l).1 hp;exact iV (by decide) (hb 0 (by decide)) (hb 1 (by decide)) (hb 2 (by decide))
 ·obtain ⟨t,rfl⟩:=(gB 44 l).1 hp;exact iV (by decide) (hb 0 (by decide)) (hb 1 (by decide)) (hb 2 (by decide))
 ·obtain ⟨t,rfl⟩:=(gB 58 l).1 hp;exact iV (by decide) (hb 0 (by decide)) (hb 1 (by decide)) (hb 2 (by decide))
theorem aFq {l:List UInt8} (hb:∀j,j < 17->(opn j).isPrefixOf l=M):Tk.opF l=none:=by
 rcases l with _ | ⟨c,t⟩
 ·rfl
 ·have hm:c ∉ Tk.ones:=by
   intro h;simp only [Tk.ones,y1,z2,or_false] at h;rcases h with rfl | rfl | rfl | rfl | rfl | rfl | rfl | rfl | rfl | rfl | rfl | rfl | rfl | rfl
   ·exact absurd (hb 3 (by decide)) (by simp [opn,N])
   ·exact absurd (hb 4 (by decide)) (by simp [opn,N])
   ·exact absurd (hb 5 (by decide)) (by simp [opn,N])
   ·exact absurd (hb 6 (by decide)) (by simp [opn,N])
   ·exact absurd (hb 7 (by decide)) (by simp [opn,N])
   ·exact absurd (hb 8 (by decide)) (by simp [opn,N])
   ·exact absurd (hb 9 (by decide)) (by simp [opn,N])
   ·exact absurd (hb 10 (by decide)) (by simp [opn,N])
   ·exact absurd (hb 11 (by decide)) (by simp [opn,N])
   ·exact absurd (hb 12 (by decide)) (by simp [opn,N])
   ·exact absurd (hb 13 (by decide)) (by simp [opn,N])
   ·exact absurd (hb 14 (by decide)) (by simp [opn,N])
   ·exact absurd (hb 15 (by decide)) (by simp [opn,N])
   ·exact absurd (hb 16 (by decide)) (by simp [opn,N])
  cases t with
  | nil=>show (if c ∈ Tk.ones then _ else none)=_;rw [if_neg hm]
  | cons d t=>
   have:Tk.two c d=M:=by
    cases h:Tk.two c d
    ·rfl
    ·unfold Tk.two at h;simp only [Bool.or_eq_true,υ,beq_iff_eq] at h;rcases h with (⟨rfl,rfl⟩ | ⟨rfl,rfl⟩) | ⟨rfl,rfl⟩
     ·exact absurd (by decide) hm
     ·exact absurd (by decide) hm
     ·exact absurd (by decide) hm
   show (if Tk.two c d=J then _ else if c ∈ Tk.ones then _ else none)=_;rw [this,if_neg (by decide),if_neg hm]
theorem aBe {W w:U} {b:Nat} {l:List UInt8} (X:LX W b l w):τ Z 193 #[pt b] w (Ans W b w (Tk.opF l)):=by
 have hb:=X.lt;have H0:I (St W b l (w.alloc tkO) (w.alloc tkO)):=St.refl (X.alloc tkO);have L0:I _:=aIP (w.alloc tkO) H0.out.1.t;generalize ho:Tk.opF l=o;have HO:I (Tk.opF l=o):=ho;have HI:I (∀(i:Nat) (h:i < 17) (W:U),(β 236 (.agg opsV) (.int .i64 (i:Int))).run Z W=.ok (.string (ba (opn i))) W):=aGr;clear ho X;generalize opsV=V at *;go_enter Tryz.func193,Tryz.ntmps193;go_wp2_with (refine aB rfl 236 _ rfl _ _ rfl L0.out ?_)
 go_loopw [5,7] (fun _ v wr=>∃i:Nat,i<=17/\v=.int .i64 (i:Nat)/\I (∀j,j < i->(opn j).isPrefixOf l=M)/\I (St W b l (w.alloc tkO) wr)) (fun _ v _=>17 - (intOf v).toNat)
 case atStart=>exact⟨0,by decide,rfl,fun j h=>by omega,H0⟩
 case round=>
  obtain⟨i,h17,rfl,HJ,HS⟩:=hrel;clear H0 L0;by_cases hi:i < 17
  ·have hi2:(i:Int) < 17:=by omega
   have IX:=HI.out i hi;have SK:=fun u (Y:LX W b l u)=>jS Y (opn i);cases hp:(opn i).isPrefixOf l
   ·rw [hp] at SK;have HN:I (∀j,j < i+1->(opn j).isPrefixOf l=M):=fun j h3=>by
     by_cases e:j=i
     ·rw [e];exact hp
     ·exact HJ.out j (by omega)
    simp only [aBb hp] at SK;clear HJ HO HI;generalize ba (opn i)=A at *;go_wp2_with (go_at_call 228;refine (SK _ HS.out.1).mono ?_;rintro e w3 ⟨rfl,hs⟩;have HS3:I (St W b l (w.alloc tkO) w3):=HS.out.step hs;clear hs)
    go_roundw
    case rel=>exact⟨i+1,by omega,by simp,HN,HS3⟩
    case measure=>simp [intOf];omega
   ·rw [hp] at SK;have HN:I (o=some (.op (opn i),l.drop (opn i).length)):=by show _=_;rw [<-HO.out,aEc hi HJ.out hp]
    simp only [aFp hp] at SK;clear HJ HO HI;obtain⟨A,hA⟩:∃A,A=ba (opn i):=⟨_,rfl⟩
    rw [<-hA] at SK IX;have HA2:I (tcs 5 0 A noB noB 0 0 M M=(tk (.op (opn i))).cs):=by show _=_;rw [hA];rfl
    clear hA;generalize l.drop (opn i).length=m at *;go_wp2_with (first|(go_at_call 228;refine (SK _ HS.out.1).mono ?_;rintro e w3 ⟨rfl,hs⟩;have HS3:I (St W b m (w.alloc tkO) w3):=HS.out.step hs;have R:=HS3.out.put hb 5 0 A noB noB 0 0 M M;clear hs)|(refine aA rfl 156 _ _ rfl _ _ _ rfl rfl R.out ?_))
    refine z5 (HS3.out.ans hb (tcs 5 0 A noB noB 0 0 M M) rfl rfl rfl rfl) rfl ?_;rw [HN.out];exact⟨by rw [<-HA2.out];rfl,HS3.out.fin hb _⟩
  ·have hi2:¬(i:Int) < 17:=by omega
   have HN:I (o=none):=by show _=_;rw [<-HO.out,aFq (fun j h=>HJ.out j (by omega))]
   have R:=HS.out.put hb 0 0 noB noB noB 0 0 M M;clear HJ HO HI;go_wp2_with (refine aA rfl 156 _ _ rfl _ _ _ rfl rfl R.out ?_)
   refine z5 (HS.out.ans hb (tcs 0 0 noB noB noB 0 0 M M) rfl rfl rfl rfl) rfl ?_;rw [HN.out];exact⟨⟨⟨0,0,noB,noB,noB,0,0,M,M⟩,rfl⟩,l,HS.out.fin hb _⟩
end Go.Proofs.YtfedoljlipfhdaaGreatDoor
namespace Go.Proofs.YtfedoljlipfhdaaGreatDoor
open Go.ChangeShapes Go.WideShapes Go.ChangeAt Go.WideElems Go.RowKit
abbrev lG:List (String × x3 Unit):=[("math/bits.deBruijn32tab",Rows.laid_math_bits_deBruijn32tab),("math/bits.deBruijn64tab",Rows.laid_math_bits_deBruijn64tab),("internal/strconv.uint64pow10",Rows.laid_internal_strconv_uint64pow10),("unicode/utf8.acceptRanges",Rows.laid_unicode_utf8_acceptRanges),("strconv.ErrRange",Rows.laid_strconv_ErrRange),("strconv.ErrSyntax",Rows.laid_strconv_ErrSyntax),("octavo/value.faults",Rows.laid_octavo_value_faults),("octavo/token.operators",Rows.laid_octavo_token_operators),("unicode/utf8.first",Rows.laid_unicode_utf8_first)]
theorem own:ownKnob Tryz.prog.godebug=none:=by kernel_rfl
theorem aLc (os:Os) (args:Array G):laidMetH Z lG ((World.laidAll Z os lG).forCall (fun _ _=>0) ⟨#[],args,[]⟩).memory:=by rw [η _ _ _ (by kernel_rfl)];exact laidMet_laidAll _ (by kernel_rfl) (by kernel_rfl)
theorem aIQ:(Rows.laid_internal_strconv_uint64pow10:x3 Unit)=Lib.tabData .u64 Lib.pow10Tab:=by kernel_rfl
theorem aGs {W:U} (h:laidMetH Z lG W):pR W:=by
 have h1:=laidMetH.filter (fun x=>x.1== "internal/strconv.uint64pow10") h
 have e:lG.filter (fun x=>x.1== "internal/strconv.uint64pow10")=[("internal/strconv.uint64pow10",Lib.tabData .u64 Lib.pow10Tab)]:=by
  rw [<-aIQ]
  kernel_rfl
 rw [e,η _ _ _ (by kernel_rfl)] at h1;exact Lib.tabIs_of_head (g:=5) (t:=281) (e:=178) (n:=20) (by kernel_rfl) (by kernel_rfl) Tryz.underlying281 Tryz.underlying178 (by kernel_rfl) (by kernel_rfl) h1
theorem aLd:Tryz.prog.globalNamed "octavo/value.faults" =some 1:=by kernel_rfl
theorem aLe:(Tryz.prog.globals[1]?).map (·.type)=some 200:=by kernel_rfl
theorem aGt {W:U} (h0:laidMetH Z lG W):wZ W:=by
 have h:=laidMetH.filter (fun x=>x.1== "octavo/value.faults") h0
 have e:lG.filter (fun x=>x.1== "octavo/value.faults")=[("octavo/value.faults",Rows.laid_octavo_value_faults)]:=by kernel_rfl
 rw [e,η _ _ _ (by kernel_rfl)] at h;obtain⟨ps,⟨g0,t0,cs0,f0,p0,q0,hg0,ht0,hv0,hd0,_,_⟩,_,_⟩:=h;obtain rfl:=z6 (aLd.symm.trans hg0);obtain rfl:=z6 (aLe.symm.trans ht0);obtain⟨xs,m1,rfl,hx1,hlen,hn3,hel⟩:=DataW.trod_array Tryz.underlying200 hd0;have c9:Tryz.prog.cellsOf 9=1:=by kernel_rfl
 simp only [Prod.mk.injEq] at hx1;intro i hi;have h1:=hel i hi;have hxi:xs[i]? =some xs[i]:=E (by omega);rw [hxi] at h1;obtain⟨b,e1,e2,_⟩:=DataW.trod_string z0 h1;rw [c9,Nat.mul_one] at e1;have hk:b=fnm i:=by
  have hy:(Rows.laid_octavo_value_faults:x3 Unit)=.agg ((σ 9).map fun n=> .lit (.string (fnm n).data.toList)):=by kernel_rfl
  have hz:=hx1.1;rw [hy] at hz;have hz2:((σ 9).map fun n=>(DataW.lit (.string (fnm n).data.toList):x3 Unit))=xs.map (·.1):=by injection hz
  have hz3:=congrArg (fun l=>l[i]?) hz2;simp only [List.getElem?_map,hxi,χ,e2] at hz3;rw [List.getElem?_range hi] at hz3;simp at hz3;exact(bytes_inj (congrArg Array.toList hz3)).symm
 have hc:=World.var?_cell hg0 hv0 i;rw [hc,<-hk];have:(cs0.toList.drop i)[0]? =some (.string b):=by have:=congrArg (fun l=>l[0]?) e1;simpa using this
 simpa using this
theorem aPn:Tryz.prog.globalNamed "octavo/token.operators" =some 0:=by kernel_rfl
theorem aPo:(Tryz.prog.globals[0]?).map (·.type)=some 236:=by kernel_rfl
theorem aGu {W:U} (h0:laidMetH Z lG W):∀i,i < 17->W.cell? ⟨0,i,none⟩=some (.string (ba (opn i))):=by
 have h:=laidMetH.filter (fun x=>x.1== "octavo/token.operators") h0
 have e:lG.filter (fun x=>x.1== "octavo/token.operators")=[("octavo/token.operators",Rows.laid_octavo_token_operators)]:=by kernel_rfl
 rw [e,η _ _ _ (by kernel_rfl)] at h;obtain⟨ps,⟨g0,t0,cs0,f0,p0,q0,hg0,ht0,hv0,hd0,_,_⟩,_,_⟩:=h;obtain rfl:=z6 (aPn.symm.trans hg0);obtain rfl:=z6 (aPo.symm.trans ht0);obtain⟨xs,m1,rfl,hx1,hlen,hn3,hel⟩:=DataW.trod_array Tryz.underlying236 hd0;have c9:Tryz.prog.cellsOf 9=1:=by kernel_rfl
 simp only [Prod.mk.injEq] at hx1;intro i hi;have h1:=hel i hi;have hxi:xs[i]? =some xs[i]:=E (by omega);rw [hxi] at h1;obtain⟨b,e1,e2,_⟩:=DataW.trod_string z0 h1;rw [c9,Nat.mul_one] at e1;have hk:b=ba (opn i):=by
  have hy:(Rows.laid_octavo_token_operators:x3 Unit)=.agg ((σ 17).map fun n=> .lit (.string (ba (opn n)).data.toList)):=by kernel_rfl
  have hz:=hx1.1;rw [hy] at hz;have hz2:((σ 17).map fun n=>(DataW.lit (.string (ba (opn n)).data.toList):x3 Unit))=xs.map (·.1):=by injection hz
  have hz3:=congrArg (fun l=>l[i]?) hz2;simp only [List.getElem?_map,hxi,χ,e2] at hz3;rw [List.getElem?_range hi] at hz3;simp at hz3;exact(bytes_inj (show (ba (opn i)).data.toList=b.data.toList from hz3)).symm
 have hc:=World.var?_cell hg0 hv0 i;rw [hc,<-hk];have:(cs0.toList.drop i)[0]? =some (.string b):=by have:=congrArg (fun l=>l[0]?) e1;simpa using this
 simpa using this
theorem gES:Tryz.prog.globalNamed "strconv.ErrSyntax" =some 6:=by kernel_rfl
theorem aLf:(Tryz.prog.globals[6]?).map (·.type)=some 166:=by kernel_rfl
theorem gER:Tryz.prog.globalNamed "strconv.ErrRange" =some 7:=by kernel_rfl
theorem aLg:(Tryz.prog.globals[7]?).map (·.type)=some 166:=by kernel_rfl
theorem aFr:Tryz.prog.cellsOf 305=1:=by kernel_rfl
theorem aIR:Tryz.prog.cellsOf 9=1:=by kernel_rfl
theorem star: "*" ++ "errors.errorString" = "*errors.errorString" :=by decide
theorem aIS (u:μ) (h:Tryz.prog.typeName? 3 u=some "*errors.errorString"):u=303:=
 typeName_ptr_named (nm:= "errors.errorString") (by rw [star];kernel_rfl) (by kernel_rfl) (by decide) u (by rw [star];exact h)
theorem aGv {W:U} (h0:laidMetH Z lG W):aIx W:=by
 have h1:=laidMetH.filter (fun x=>x.1== "strconv.ErrSyntax") h0
 have e1:lG.filter (fun x=>x.1== "strconv.ErrSyntax")=[("strconv.ErrSyntax",Rows.laid_strconv_ErrSyntax)]:=by kernel_rfl
 rw [e1,η _ _ _ (by kernel_rfl)] at h1
 have h2:=laidMetH.filter (fun x=>x.1== "strconv.ErrRange") h0
 have e2:lG.filter (fun x=>x.1== "strconv.ErrRange")=[("strconv.ErrRange",Rows.laid_strconv_ErrRange)]:=by kernel_rfl
 rw [e2,η _ _ _ (by kernel_rfl)] at h2;obtain⟨a1,_,v1, -, -, -⟩:=laid_sentinel h1 gES aLf Tryz.underlying166 aIS Tryz.underlying303 Tryz.underlying305 rfl rfl z0 aFr aIR;obtain⟨a2,_,v2, -, -, -⟩:=laid_sentinel h2 gER aLg Tryz.underlying166 aIS Tryz.underlying303 Tryz.underlying305 rfl rfl z0 aFr aIR;exact⟨_,_,_,_,by have h0:=World.var?_cell gES v1 0;simpa using h0,by have h0:=World.var?_cell gER v2 0;simpa using h0⟩
theorem aEd {W:U} (h:W.ShapedOpen Z):∃m,W.cell? ⟨2,0,none⟩=some (.int .i64 m):=
 Go.Proofs.cell_of_shapedOpen_int (zero:=#[.int .i64 0]) (t:=3) h (of_decide_eq_true (by kernel_rfl)) (by kernel_rfl) rfl (by kernel_rfl) (by kernel_rfl) Tryz.underlying3
theorem aIT (i:Nat) (h:i < 17):opn i=(([[60,62],[60,61],[62,61],[43],[45],[42],[47],[94],[38],[61],[60],[62],[37],[40],[41],[44],[58]]:List (List UInt8))[i]'h):=by
 have:i=0\/i=1\/i=2\/i=3\/i=4\/i=5\/i=6\/i=7\/i=8\/i=9\/i=10\/i=11\/i=12\/i=13\/i=14\/i=15\/i=16:=by omega
 rcases this with rfl | rfl | rfl | rfl | rfl | rfl | rfl | rfl | rfl | rfl | rfl | rfl | rfl | rfl | rfl | rfl | rfl <;> rfl
theorem aLh {W:U} (h:laidMetH Z lG W) (hsh:W.ShapedOpen Z):dS W:=⟨⟨⟨aGs h,aGt h⟩,aGv h⟩,fun i hi=>by rw [<-aIT i hi];exact aGu h i hi,aEd hsh⟩
end Go.Proofs.YtfedoljlipfhdaaGreatDoor
namespace Go.Proofs.YtfedoljlipfhdaaGreatDoor.Sh
open Go.RowKit
structure aN where
 row:Int
 col:Int
 text:ByteArray
structure fD where
 scope:ByteArray
 name:ByteArray
 text:ByteArray
structure sK where
 kind:Int
 n:Int
 s:ByteArray
structure eO where
 book:ByteArray
 fA:ByteArray
 row:Int
 col:Int
 value:sK
def aN.Ok (c:aN):Prop:=In64 c.row/\In64 c.col
def sK.Ok (v:sK):Prop:=In64 v.kind/\In64 v.n
def eO.Ok (x:eO):Prop:=In64 x.row/\In64 x.col/\x.value.Ok
structure aT where
 name:ByteArray
 cells:List aN
structure aP where
 sheets:List aT
 names:List fD
 links:List eO
def aT.Ok (s:aT):Prop:=∀c ∈ s.cells,c.Ok
def aP.Ok (x:aP):Prop:=(∀s ∈ x.sheets,s.Ok)/\∀y ∈ x.links,y.Ok
abbrev dP:G:=.string ⟨#[]⟩
abbrev iI:G:=.int .i64 0
theorem jG (a:π) (n:Nat):(a.add n).block=a.block:=by unfold Addr.add;split <;> rfl
theorem bT {w w':U} {base:Nat} {e:μ} {size:Nat} {v:G} {n:Nat} {xs:List G} (h:w.ownsRow base e size v n xs)
  (hk:∀g,v.ownBlock=some g->w'.heap[g]? =w.heap[g]?):w'.ownsRow base e size v n xs:=by
 refine ⟨h.1, ?_⟩;rcases h.2 with hn | ⟨g,cap,cur,rfl,hb,hgg,rest⟩
 ·exact .inl hn
 ·exact .inr ⟨g,cap,cur,rfl,hb,by rw [hk g rfl];exact hgg,rest⟩
abbrev cellV (c:aN):G:=.agg #[.int .i64 c.row,.int .i64 c.col,.string c.text]
abbrev kC (x:fD):G:=.agg #[.string x.scope,.string x.name,.string x.text]
abbrev aLi (v:sK):G:=.agg #[.int .i64 v.kind,.int .i64 v.n,.string v.s]
abbrev kD (x:eO):G:=.agg #[.string x.book,.string x.fA,.int .i64 x.row,.int .i64 x.col,.int .i64 x.value.kind,.int .i64 x.value.n,.string x.value.s]
def cellC (c:aN):List G:=[.int .i64 c.row,.int .i64 c.col,.string c.text]
def Rws (lo hi sz:Nat) (w:U) (v:G) (n:Nat) (C:Nat->List G):Prop:=
 (v=.slice none 0 0/\n=0)\/∃a cap,v=.slice (some a) n cap/\n<=cap/\cap<=Θ/\(0 < n->lo<=a.block/\a.block < hi)/\∀j i u,j < n->(C j)[i]? =some u->w.cell? (a.add (j * sz+i))=some u
theorem Rws.kept {lo hi sz:Nat} {w w':U} {v:G} {n:Nat} {C:Nat->List G} (h:Rws lo hi sz w v n C) (hk:∀i,lo<=i->i < hi->w'.heap[i]? =w.heap[i]?):Rws lo hi sz w' v n C:=by
 rcases h with h | ⟨a,cap,h1,h2,h3,h4,h5⟩
 ·exact .inl h
 ·refine .inr ⟨a,cap,h1,h2,h3,h4,fun j i u hj hu=> ?_⟩;rw [<-h5 j i u hj hu];obtain⟨q1,q2⟩:=h4 (by omega);exact World.cell?_of_block (hk _ (by rw [jG];exact q1) (by rw [jG];exact q2))
theorem Rws.mono {lo hi lo' hi' sz:Nat} {w:U} {v:G} {n:Nat} {C:Nat->List G} (h:Rws lo hi sz w v n C) (h1:lo'<=lo) (h2:hi<=hi'):Rws lo' hi' sz w v n C:=by
 rcases h with h | ⟨a,cap,g1,g2,g3,g4,g5⟩
 ·exact .inl h
 ·exact .inr ⟨a,cap,g1,g2,g3,fun hn=>by have:=g4 hn;omega,g5⟩
theorem Rws.slice {lo hi sz:Nat} {w:U} {v:G} {n:Nat} {C:Nat->List G} (h:Rws lo hi sz w v n C):∃a c,v=.slice a n c/\n<=c/\c<=Θ:=by
 rcases h with ⟨rfl,rfl⟩ | ⟨a,cap,rfl,h1,h2,_⟩
 ·exact ⟨none,0,rfl,δ _,by decide⟩
 ·exact ⟨_,_,rfl,h1,h2⟩
theorem Rws.congr {lo hi sz:Nat} {w:U} {v:G} {n:Nat} {C D:Nat->List G} (h:Rws lo hi sz w v n C) (hc:∀j,j < n->D j=C j):Rws lo hi sz w v n D:=by
 rcases h with h | ⟨a,cap,g1,g2,g3,g4,g5⟩
 ·exact .inl h
 ·exact .inr ⟨a,cap,g1,g2,g3,g4,fun j i u hj hu=>g5 j i u hj (by rw [<-hc j hj];exact hu)⟩
def Cls (lo hi:Nat) (w:U) (v:G) (L:List aN):Prop:=Rws lo hi 3 w v L.length fun j=>(L[j]?.map cellC).getD []
section
variable {lo hi:Nat} {w w':U} {v:G}
theorem Cls.kept {L:List aN} (h:Cls lo hi w v L) (hk:∀i,lo<=i->i < hi->w'.heap[i]? =w.heap[i]?):Cls lo hi w' v L:=Rws.kept h hk
theorem Cls.mono {L:List aN} {lo' hi':Nat} (h:Cls lo hi w v L) (h1:lo'<=lo) (h2:hi<=hi'):Cls lo' hi' w v L:=Rws.mono h h1 h2
theorem Cls.below {base:Nat} {L:List aN} (h:Cls lo hi w v L) (hh:hi<=base) (hb:γ base w w'):Cls lo hi w' v L:=h.kept fun i _ hi=>hb.block i (by omega)
theorem Cls.slice {L:List aN} (h:Cls lo hi w v L):∃a c,v=.slice a L.length c/\L.length<=c/\c<=Θ:=Rws.slice h
theorem Cls.nil (w:U) (lo hi:Nat):Cls lo hi w (.slice none 0 0) []:=.inl ⟨rfl,rfl⟩
end
theorem aLj (a:π) (m i:Nat) (hi:0 < i):(⟨(a.add m).block,(a.add m).off+i,none⟩:π)=a.add (m+i):=by
 unfold Addr.add;by_cases hm:m=0
 ·subst hm;simp;omega
 ·simp [hm];omega
theorem Rws.at {lo hi sz:Nat} {w:U} {a:Option π} {n c:Nat} {C:Nat->List G} (h:Rws lo hi sz w (.slice a n c) n C) {k:Nat} (hk:k < n):
  ∃a',a=some a'/\(∀u,(C k)[0]? =some u->w.cell? (a'.add (k * sz))=some u)/\∀i u,0 < i->(C k)[i]? =some u->w.cell? ⟨(a'.add (k * sz)).block,(a'.add (k * sz)).off+i,none⟩=some u:=by
 rcases h with ⟨_,e2⟩ | ⟨a',cap,g1,g2,g3,g4,g5⟩
 ·omega
 ·cases g1
  refine ⟨a',rfl,fun u hu=>by simpa using g5 k 0 u hk hu,fun i u hi hu=> ?_⟩;rw [aLj _ _ _ hi];exact g5 k i u hk hu
theorem aOe:(Tryz.prog.info? 57).map (fun i=>(i.zero,i.size,i.bytes))=some (some (.agg #[.int .i64 0,.int .i64 0,.string ⟨#[]⟩]),3,32):=by kernel_rfl
theorem fM {P:y7} (w:U) (x:π) (ty:μ) (cs:List G) (d:TypeDesc) (hc:∀j v,cs[j]? =some v->w.cell? (x.add j)=some v)
  (hu:P.underlying ty=some d) (hd:d.isRow=J) (hi:(P.info? ty).map (·.size)=some cs.length):
  (O ty (.pointer (some x))).run P w=.ok (.agg cs.toArray) w:=by
 have hl:(loadCells x cs.length).run P w=.ok cs.toArray w:=run_loadCells_list (P:=P) w x cs hc;cases hq:P.info? ty with
 | none=>simp [hq] at hi
 | some i=>
  have hs:i.size=cs.length:=by simpa [hq] using hi
  have hagg:(isAgg ty).run P w=.ok J w:=by unfold isAgg;rw [ψ,run_underlying hu w];cases d <;> simp_all
  simp [O,x5,loadVar,ψ,hagg,sizeOf,typeInfo,hq,hs,hl]
theorem aB {P:y7} {ops:Array ρ} {rest:List ρ} {o:ρ} {a:Γ} {w:U} {Q:Exit->Γ->U->Prop} (hgd:o.guard=none) (ty:μ) (x:x4) (ho:o.op=.load ty x)
  (p v:G) (hx:a.eval x=p) (hrun:(O ty p).run P w=.ok v w) (h:y3 P ops Q rest (a.put o.dst v) w):y3 P ops Q (o:: rest) a w:=by
 refine y2 hgd fun K hK=> ?_;unfold Oper.wp z4;simp only [ho,hx,ψ,y4,hrun,Δ];exact hK _ _ h
theorem aA {P:y7} {ops:Array ρ} {rest:List ρ} {o:ρ} {a:Γ} {w:U} {Q:Exit->Γ->U->Prop} (hgd:o.guard=none) (ty:μ) (x y:x4) (ho:o.op=.store ty x y)
  (p v:G) (w':U) (hx:a.eval x=p) (hy:a.eval y=v) (hrun:(ξ ty p v).run P w=.ok () w') (h:y3 P ops Q rest (a.put o.dst undef) w'):y3 P ops Q (o:: rest) a w:=by
 refine y2 hgd fun K hK=> ?_;unfold Oper.wp z4;simp only [ho,hx,hy,ψ,y4,hrun,Δ];exact hK _ _ h
theorem aIU {t:μ} {zv:G} {sz bytes:Nat} {d:TypeDesc} (hu:Tryz.prog.underlying t=some d) (hd:d.isRow=J) (aCJ:(Tryz.prog.info? t).map (fun i=>(i.zero,i.size,i.bytes))=some (some zv,sz,bytes)) (w:U) (zs es:Array G) (hz:zs.size=sz) (he:es.size=sz) (h1:es.all (·.oneCell')=J):
  (ξ t (pt w.heap.size) (.agg es)).run Z (w.alloc (.cells zs t))=.ok () (w.alloc (.cells es t))/\
  (O t (pt w.heap.size)).run Z (w.alloc (.cells es t))=.ok (.agg es) (w.alloc (.cells es t)):=by
 have hi:(Tryz.prog.info? t).map (·.size)=some es.size:=by
  cases hq:Tryz.prog.info? t with
  | none=>simp [hq] at aCJ
  | some i=>simp [hq] at aCJ ⊢;omega
 refine ⟨run_storeAt_new w t zs es hi (by omega) h1, ?_⟩;have:=fM (P:=Z) (w.alloc (.cells es t)) ⟨w.heap.size,0,none⟩ t es.toList d (fun j v hv=>by
  have hadd:(⟨w.heap.size,0,none⟩:π).add j=⟨w.heap.size,j,none⟩:=by unfold Addr.add;split <;> simp_all
  rw [hadd,y5 _ _ j es t (0,0) (ε w _)];simpa using hv) hu hd (by simpa using hi)
 simpa using this
theorem Rws.load {lo hi sz:Nat} {w:U} {a:Option π} {n c:Nat} {C:Nat->List G} (h:Rws lo hi sz w (.slice a n c) n C) {k:Nat} (hk:k < n) {t:μ} {d:TypeDesc} (hu:Tryz.prog.underlying t=some d) (hd:d.isRow=J) (hi:(Tryz.prog.info? t).map (·.size)=some (C k).length):
  ∃a',a=some a'/\(O t (.pointer (some (a'.add (k * sz))))).run Z w=.ok (.agg (C k).toArray) w:=by
 rcases h with ⟨_,e2⟩ | ⟨a',cap,g1,g2,g3,g4,g5⟩
 ·omega
 ·cases g1
  refine ⟨a',rfl,fM w _ t (C k) d (fun j v hv=> ?_) hu hd hi⟩;rw [Go.Deep.add_add];exact g5 k j v hk hv
def kE (x:fD):List G:=[.string x.scope,.string x.name,.string x.text]
def kF (x:eO):List G:=[.string x.book,.string x.fA,.int .i64 x.row,.int .i64 x.col,.int .i64 x.value.kind,.int .i64 x.value.n,.string x.value.s]
def bY (s:aT) (cv:G):List G:=[.string s.name,cv]
abbrev aEe (s:aT) (cv:G):G:=.agg #[.string s.name,cv]
def aNd (L:List fD):Nat->List G:=fun j=>(L[j]?.map kE).getD []
def aNe (L:List eO):Nat->List G:=fun j=>(L[j]?.map kF).getD []
def iG (L:List aT) (cv:Nat->G):Nat->List G:=fun j=>(L[j]?.map fun o=>bY o (cv j)).getD []
def Nms (lo hi:Nat) (w:U) (v:G) (L:List fD):Prop:=Rws lo hi 3 w v L.length (aNd L)
def Lks (lo hi:Nat) (w:U) (v:G) (L:List eO):Prop:=Rws lo hi 7 w v L.length (aNe L)
def Shs (lo hi:Nat) (w:U) (v:G) (L:List aT):Prop:=∃cv:Nat->G,Rws lo hi 2 w v L.length (iG L cv)/\∀j o,L[j]? =some o->Cls lo hi w (cv j) o.cells
structure BkM (lo hi:Nat) (w:U) (sv nv lv:G) (x:aP):Prop where
 sh:Shs lo hi w sv x.sheets
 nm:Nms lo hi w nv x.names
 lk:Lks lo hi w lv x.links
section
variable {lo hi:Nat} {w w':U} {v:G}
theorem Nms.kept {L:List fD} (h:Nms lo hi w v L) (hk:∀i,lo<=i->i < hi->w'.heap[i]? =w.heap[i]?):Nms lo hi w' v L:=Rws.kept h hk
theorem Lks.kept {L:List eO} (h:Lks lo hi w v L) (hk:∀i,lo<=i->i < hi->w'.heap[i]? =w.heap[i]?):Lks lo hi w' v L:=Rws.kept h hk
theorem Shs.kept {L:List aT} (h:Shs lo hi w v L) (hk:∀i,lo<=i->i < hi->w'.heap[i]? =w.heap[i]?):Shs lo hi w' v L:=by obtain⟨cv,h1,h2⟩:=h;exact⟨cv,h1.kept hk,fun j o hj=>(h2 j o hj).kept hk⟩
theorem Nms.mono {L:List fD} {lo' hi':Nat} (h:Nms lo hi w v L) (h1:lo'<=lo) (h2:hi<=hi'):Nms lo' hi' w v L:=Rws.mono h h1 h2
theorem Lks.mono {L:List eO} {lo' hi':Nat} (h:Lks lo hi w v L) (h1:lo'<=lo) (h2:hi<=hi'):Lks lo' hi' w v L:=Rws.mono h h1 h2
theorem Shs.mono {L:List aT} {lo' hi':Nat} (h:Shs lo hi w v L) (h1:lo'<=lo) (h2:hi<=hi'):Shs lo' hi' w v L:=by obtain⟨cv,g1,g2⟩:=h;exact⟨cv,g1.mono h1 h2,fun j o hj=>(g2 j o hj).mono h1 h2⟩
theorem Nms.below {base:Nat} {L:List fD} (h:Nms lo hi w v L) (hh:hi<=base) (hb:γ base w w'):Nms lo hi w' v L:=h.kept fun i _ hi=>hb.block i (by omega)
theorem Lks.below {base:Nat} {L:List eO} (h:Lks lo hi w v L) (hh:hi<=base) (hb:γ base w w'):Lks lo hi w' v L:=h.kept fun i _ hi=>hb.block i (by omega)
theorem Shs.below {base:Nat} {L:List aT} (h:Shs lo hi w v L) (hh:hi<=base) (hb:γ base w w'):Shs lo hi w' v L:=h.kept fun i _ hi=>hb.block i (by omega)
theorem Nms.slice {L:List fD} (h:Nms lo hi w v L):∃a c,v=.slice a L.length c/\L.length<=c/\c<=Θ:=Rws.slice h
theorem Lks.slice {L:List eO} (h:Lks lo hi w v L):∃a c,v=.slice a L.length c/\L.length<=c/\c<=Θ:=Rws.slice h
theorem Shs.slice {L:List aT} (h:Shs lo hi w v L):∃a c,v=.slice a L.length c/\L.length<=c/\c<=Θ:=by obtain⟨_,h,_⟩:=h;exact h.slice
theorem BkM.below {base:Nat} {sv nv lv:G} {x:aP} (h:BkM lo hi w sv nv lv x) (hh:hi<=base) (hb:γ base w w'):BkM lo hi w' sv nv lv x:=⟨h.sh.below hh hb,h.nm.below hh hb,h.lk.below hh hb⟩
theorem BkM.mono {sv nv lv:G} {x:aP} {lo' hi':Nat} (h:BkM lo hi w sv nv lv x) (h1:lo'<=lo) (h2:hi<=hi'):BkM lo' hi' w sv nv lv x:=⟨h.sh.mono h1 h2,h.nm.mono h1 h2,h.lk.mono h1 h2⟩
end
theorem aMF:(Tryz.prog.info? 78).map (fun i=>(i.zero,i.size,i.bytes))=some (some (.agg #[dP,.slice none 0 0]),2,40):=by kernel_rfl
theorem aOf:(Tryz.prog.info? 89).map (fun i=>(i.zero,i.size,i.bytes))=some (some (.agg #[dP,dP,dP]),3,48):=by kernel_rfl
theorem aOg:(Tryz.prog.info? 91).map (fun i=>(i.zero,i.size,i.bytes))=some (some (.agg #[dP,dP,iI,iI,iI,iI,dP]),7,80):=by kernel_rfl
theorem Rws.runs {lo hi sz:Nat} {w:U} {a:Option π} {n c:Nat} {C:Nat->List G} (h:Rws lo hi sz w (.slice a n c) n C) {k:Nat} (hk:k < n) {t:μ} {d:TypeDesc} (hu:Tryz.prog.underlying t=some d) (hd:d.isRow=J) {zv:G} {bytes:Nat}
  (aCJ:(Tryz.prog.info? t).map (fun i=>(i.zero,i.size,i.bytes))=some (some zv,sz,bytes)) {cs:List G} (hC:C k=cs) (hl:cs.length=sz) (h1:cs.toArray.all (·.oneCell')=J) (zs:Array G) (hz:zs.size=sz):
  ∃a' ov W,a=some a'/\ov=.agg cs.toArray/\W=w.alloc (.cells cs.toArray t)/\
   I ((O t (.pointer (some (a'.add (k * sz))))).run Z w=.ok ov w)/\
   I ((ξ t (pt w.heap.size) ov).run Z (w.alloc (.cells zs t))=.ok () W)/\
   I ((O t (pt w.heap.size)).run Z W=.ok ov W):=by
 have hi:(Tryz.prog.info? t).map (·.size)=some cs.length:=by
  cases hq:Tryz.prog.info? t with
  | none=>simp [hq] at aCJ
  | some i=>simp [hq] at aCJ ⊢;omega
 obtain⟨a',e1,e2⟩:=Rws.load h hk (t:=t) hu hd (by rw [hC];exact hi);rw [hC] at e2;obtain⟨b1,b2⟩:=aIU hu hd aCJ w zs cs.toArray hz (by simpa using hl) h1;exact⟨a',_,_,e1,rfl,rfl,e2,b1,b2⟩
theorem getD_some {α:Type} {L:List α} {f:α->List G} {k:Nat} (hk:k < L.length):(L[k]?.map f).getD []=f L[k]:=by simp [E hk]
theorem Nms.runs {lo hi:Nat} {w:U} {a:Option π} {c:Nat} {L:List fD} (h:Nms lo hi w (.slice a L.length c) L) {k:Nat} (hk:k < L.length):
  ∃a' ov W,a=some a'/\ov=kC L[k]/\W=w.alloc (.cells (kE L[k]).toArray 89)/\
   I ((O 89 (.pointer (some (a'.add (k * 3))))).run Z w=.ok ov w)/\
   I ((ξ 89 (pt w.heap.size) ov).run Z (w.alloc (.cells #[dP,dP,dP] 89))=.ok () W)/\
   I ((O 89 (pt w.heap.size)).run Z W=.ok ov W):=
 Rws.runs h hk Tryz.underlying89 rfl aOf (getD_some hk) rfl (by simp [kE,κ]) _ rfl
theorem Lks.runs {lo hi:Nat} {w:U} {a:Option π} {c:Nat} {L:List eO} (h:Lks lo hi w (.slice a L.length c) L) {k:Nat} (hk:k < L.length):
  ∃a' ov W,a=some a'/\ov=kD L[k]/\W=w.alloc (.cells (kF L[k]).toArray 91)/\
   I ((O 91 (.pointer (some (a'.add (k * 7))))).run Z w=.ok ov w)/\
   I ((ξ 91 (pt w.heap.size) ov).run Z (w.alloc (.cells #[dP,dP,iI,iI,iI,iI,dP] 91))=.ok () W)/\
   I ((O 91 (pt w.heap.size)).run Z W=.ok ov W):=
 Rws.runs h hk Tryz.underlying91 rfl aOg (getD_some hk) rfl (by simp [kF,κ]) _ rfl
theorem Shs.runs {lo hi:Nat} {w:U} {a:Option π} {c:Nat} {L:List aT} (h:Shs lo hi w (.slice a L.length c) L) {k:Nat} (hk:k < L.length):
  ∃a' cv ov W,a=some a'/\ov=aEe L[k] cv/\Cls lo hi w cv L[k].cells/\W=w.alloc (.cells (bY L[k] cv).toArray 78)/\
   I ((O 78 (.pointer (some (a'.add (k * 2))))).run Z w=.ok ov w)/\
   I ((ξ 78 (pt w.heap.size) ov).run Z (w.alloc (.cells #[dP,.slice none 0 0] 78))=.ok () W)/\
   I ((O 78 (pt w.heap.size)).run Z W=.ok ov W):=by
 obtain⟨cv,hr,hc⟩:=h;have hcs:=hc k _ (E hk);obtain⟨ca,cc,e1,_,_⟩:=hcs.slice;obtain⟨a',ov,W,q⟩:=Rws.runs hr hk Tryz.underlying78 rfl aMF (getD_some (f:=fun o=>bY o (cv k)) hk) rfl (by rw [e1];simp [bY,κ]) #[dP,.slice none 0 0] rfl;exact⟨a',cv k,ov,W,q.1,q.2.1,hcs,q.2.2⟩
theorem aI {w:U} {b j:Nat} {xs:Array G} {t:μ} {z:Nat × Nat} {v:G} (h:w.heap[b]? =some (.cells xs t z)) (hj:xs[j]? =some v):w.cell? ⟨b,j,none⟩=some v:=by rw [y5 w b j xs t z h];exact hj
theorem Cls.runs {lo hi:Nat} {w:U} {a:Option π} {c:Nat} {L:List aN} (h:Cls lo hi w (.slice a L.length c) L) {k:Nat} (hk:k < L.length):
  ∃a' ov W,a=some a'/\ov=cellV L[k]/\W=w.alloc (.cells (cellC L[k]).toArray 57)/\
   I ((O 57 (.pointer (some (a'.add (k * 3))))).run Z w=.ok ov w)/\
   I ((ξ 57 (pt w.heap.size) ov).run Z (w.alloc (.cells #[iI,iI,dP] 57))=.ok () W)/\
   I ((O 57 (pt w.heap.size)).run Z W=.ok ov W):=
 Rws.runs h hk Tryz.underlying57 rfl aOe (getD_some hk) rfl (by simp [cellC,κ]) _ rfl
theorem aF {w:U} {g:Nat} {o:Obj} (h:w.heap[g]? =some o):g < w.heap.size:=(Array.getElem?_eq_some_iff.1 h).1
theorem aC {base:Nat} {w u:U} (h:γ base w u) (hb:base<=w.heap.size) (o:Obj):γ base w (u.alloc o):=h.alloc (ω hb h.size) o
theorem aD {base:Nat} {w u w':U} (h:γ base w u) (hb:base<=u.heap.size) (h2:γ u.heap.size u w'):γ base w w':=h.trans (h2.mono hb)
structure RT (S t:μ) (sz bytes:Nat) (zv:G):Prop where
 st:Tryz.prog.underlying S=some (.slice t)
 inf:(Tryz.prog.info? t).map (fun i=>(i.zero,i.size,i.bytes))=some (some zv,sz,bytes)
 zs:zv.cells.size=sz
 pos:0 < sz
 z1:∀u ∈ zv.cells.toList,u.oneCell'=J
 zr:∀w,(zeroValue t).run Z w=.ok zv w
theorem rtC:RT 27 57 3 32 (.agg #[iI,iI,dP]):=⟨Tryz.underlying27,by kernel_rfl,rfl,by decide,by simp [Value.cells,κ],fun w=>by kernel_rfl⟩
theorem rtS:RT 22 78 2 40 (.agg #[dP,.slice none 0 0]):=⟨Tryz.underlying22,by kernel_rfl,rfl,by decide,by simp [Value.cells,κ],fun w=>by kernel_rfl⟩
theorem rtN:RT 23 89 3 48 (.agg #[dP,dP,dP]):=⟨Tryz.underlying23,by kernel_rfl,rfl,by decide,by simp [Value.cells,κ],fun w=>by kernel_rfl⟩
theorem rtL:RT 24 91 7 80 (.agg #[dP,dP,iI,iI,iI,iI,dP]):=⟨Tryz.underlying24,by kernel_rfl,rfl,by decide,by simp [Value.cells,κ],fun w=>by kernel_rfl⟩
section
variable {S t:μ} {sz bytes:Nat} {zv:G}
theorem RT.size (R:RT S t sz bytes zv):∃i,Tryz.prog.info? t=some i/\i.zero=some zv/\i.size=sz/\i.bytes=bytes:=by obtain⟨i,hi,h⟩:=Option.map_eq_some_iff.1 R.inf;simp only [Prod.mk.injEq] at h;exact⟨i,hi,h.1,h.2.1,h.2.2⟩
theorem aIV (R:RT S t sz bytes zv) (n:Nat) (hb:bytes * n<=281474976710656) (h63:n<=9223372036854775807) (w:U):
  (Instr.makeSlice S (.int .i64 (n:Int)) (.int .i64 (n:Int))).run Z w=.ok (.slice (some ⟨w.heap.size,0,none⟩) n n) (w.alloc (.cells (madeCells zv.cells (n * sz)) t)):=by
 obtain⟨i,hi,hz,hs,hby⟩:=R.size;have hb':(i.bytes:Int) * (n:Int)<=281474976710656:=by
  have h:((i.bytes * n:Nat):Int)<=281474976710656:=by rw [hby];omega
  rwa [Int.natCast_mul] at h
 have hr:=run_make (P:=Z) w S t i zv R.st hi hz .i64 .i64 n n (by omega) (Int.le_refl _) hb' (by omega);simp only [Int.toNat_natCast,hs] at hr;exact hr
theorem nW (R:RT S t sz bytes zv) (w:U) (ty:μ) (g o dLen dCap:Nat) (a:π) (sLen sCap:Nat) (cur:Array G) (t':μ) (cs:List G)
  (hg:w.heap[g]? =some (.cells cur t' (0,0))) (hn:cs.length=Nat.min sLen dLen * sz)
  (hsrc:∀j v,cs[j]? =some v->w.cell? (a.add j)=some v) (hfit:o+cs.length<=cur.size) (h1:∀v ∈ cs,v.oneCell'=J):
  (Ω #[S,S] ty #[.slice (some ⟨g,o,none⟩) dLen dCap,.slice (some a) sLen sCap]).run Z w=
   .ok (goInt (Nat.min sLen dLen)) (w.setRow g (cur.toList.take o++cs++cur.toList.drop (o+cs.length)).toArray):=by
 have hl:=run_loadCells_list (P:=Z) w a cs hsrc;have hst:=run_storeCells_at Z g o t' cs 0 cur w hg (by simpa using hfit) h1;obtain⟨i,hi,hz,hs,hby⟩:=R.size;simp [Ω,run_underlying R.st,Builtin.lenOf,Builtin.firstCells,sizeOf,typeInfo,hi,hs,<-hn,hl,hst]
theorem aIW (R:RT S t sz bytes zv) (w:U) (ty:μ) (a:π) (dLen dCap:Nat):
  (Ω #[S,S] ty #[.slice (some a) dLen dCap,.slice none 0 0]).run Z w=.ok (goInt 0) w:=by
 obtain⟨i,hi,hz,hs,hby⟩:=R.size;simp [Ω,run_underlying R.st,Builtin.lenOf,Builtin.firstCells,sizeOf,typeInfo,hi,storeCells]
theorem aGw (R:RT S t sz bytes zv) (w:U) (ty:μ) (g o n c:Nat) (cur:Array G) (t':μ) (hg:w.heap[g]? =some (.cells cur t' (0,0))) (hn:0 < n) (hfit:o+n * sz<=cur.size):
  ∃zs:List G,zs.length=n * sz/\(Builtin.clear_ #[S] ty #[.slice (some ⟨g,o,none⟩) n c]).run Z w=.ok (.tuple #[]) (w.setRow g (cur.toList.take o++zs++cur.toList.drop (o+zs.length)).toArray):=by
 have hzl:(Builtin.zeroCells zv.cells n).toList.length=n * sz:=by simp [Builtin.zeroCells,R.zs]
 have hz1:∀v ∈ (Builtin.zeroCells zv.cells n).toList,v.oneCell'=J:=by intro v hv;simp only [Builtin.zeroCells,Array.toList_map,List.mem_map] at hv;obtain⟨k,hk,rfl⟩:=hv;have hlt:k % zv.cells.size < zv.cells.size:=Nat.mod_lt _ (by rw [R.zs];exact R.pos);have hgp:zv.cells[k % zv.cells.size]! =zv.cells[k % zv.cells.size]:=getElem!_pos zv.cells _ hlt;rw [hgp];exact R.z1 _ (by simp)
 have hst:=run_storeCells_at Z g o t' (Builtin.zeroCells zv.cells n).toList 0 cur w hg (by rw [hzl];simpa using hfit) hz1;refine ⟨_,hzl, ?_⟩;obtain⟨m,rfl⟩:∃m,n=m+1:=⟨n - 1,by omega⟩
 simp only [Nat.add_zero] at hst;simp [Builtin.clear_,run_underlying R.st,R.zr,hst]
end
section
variable {α:Type} {enc:α->List G} {sz:Nat}
theorem bL (he:∀x,(enc x).length=sz):∀L:List α,(L.flatMap enc).length=L.length * sz
 | []=>by simp
 | x:: L=>by rw [ο,List.length_append,bL he L,he,List.length_cons,Φ];omega
theorem xR (he:∀x,(enc x).length=sz):∀(L:List α) (i j:Nat) (hi:i < L.length),j < sz->(L.flatMap enc)[i * sz+j]? =(enc L[i])[j]?
 | x:: L,0,j,_,h=>by rw [ο,Nat.zero_mul,x6,List.getElem?_append_left (by rw [he];exact h)];rfl
 | x:: L,i+1,j,hi,h=>by rw [ο,List.getElem?_append_right (by rw [he,Φ];omega),show (i+1) * sz+j - (enc x).length=i * sz+j by rw [he,Φ];omega];exact xR he L i j (by simpa using hi) h
theorem lH (he:∀x,(enc x).length=sz):∀(L:List α) (k:Nat),(L.drop k).flatMap enc=(L.flatMap enc).drop (k * sz)
 | L,0=>by simp
 | [],k+1=>by simp
 | x:: L,k+1=>by
  have e:(k+1) * sz=(enc x).length+k * sz:=by rw [he,Φ];omega
  rw [List.drop_succ_cons,lH he L k,ο,e,<-List.drop_drop,List.drop_left]
theorem lI (he:∀x,(enc x).length=sz):∀(L:List α) (k:Nat),(L.take k).flatMap enc=(L.flatMap enc).take (k * sz)
 | L,0=>by simp
 | [],k+1=>by simp
 | x:: L,k+1=>by
  have e:(k+1) * sz=(enc x).length+k * sz:=by rw [he,Φ];omega
  rw [List.take_succ_cons,ο,lI he L k,ο,e,List.take_length_add_append]
theorem Rws.flat {lo hi:Nat} {w:U} {a:π} {n c:Nat} {L:List α} (he:∀x,(enc x).length=sz) (hsz:0 < sz) (h:Rws lo hi sz w (.slice (some a) n c) L.length fun j=>(L[j]?.map enc).getD []):
  ∀j u,(L.flatMap enc)[j]? =some u->w.cell? (a.add j)=some u:=by
 intro j u hj;rcases h with ⟨e,_⟩ | ⟨a',cap,e,h2,h3,h4,h5⟩
 ·cases e
 ·cases e
  have hlt:j < (L.flatMap enc).length:=(List.getElem?_eq_some_iff.1 hj).1;rw [bL he] at hlt;have hq:j / sz < L.length:=(Nat.div_lt_iff_lt_mul hsz).2 hlt;have hr:j % sz < sz:=Nat.mod_lt _ hsz;have hd:j / sz * sz+j % sz=j:=by rw [Nat.mul_comm];exact Nat.div_add_mod j sz
  have:=xR he L (j / sz) (j % sz) hq hr;rw [hd,hj] at this;have h6:=h5 (j / sz) (j % sz) u hq (by simp only [E hq,χ,Option.getD_some];exact this.symm)
  rwa [hd] at h6
theorem aIX {w:U} {g:Nat} {cap:Nat} {cur:Array G} {t:μ} {z:Nat × Nat} {L:List α} (he:∀x,(enc x).length=sz) (hg:w.heap[g]? =some (.cells cur t z)) (hc:cur.toList.take (L.length * sz)=L.flatMap enc) (hn:L.length<=cap) (hm:cap<=Θ):
  Rws g (g+1) sz w (.slice (some ⟨g,0,none⟩) L.length cap) L.length fun j=>(L[j]?.map enc).getD []:=by
 refine .inr ⟨_,_,rfl,hn,hm,fun _=>⟨δ _,Nat.lt_succ_self _⟩,fun j i u hj hu=> ?_⟩;simp only [E hj,χ,Option.getD_some] at hu;have hi:i < sz:=by rw [<-he L[j]];exact(List.getElem?_eq_some_iff.1 hu).1
 have hadd:(⟨g,0,none⟩:π).add (j * sz+i)=⟨g,j * sz+i,none⟩:=by unfold Addr.add;split <;> simp_all
 rw [hadd,y5 w g _ _ _ _ hg,<-hu,<-xR he L j i hj hi,<-hc,List.getElem?_take_of_lt]
 ·simp
 ·have:(j+1) * sz<=L.length * sz:=Nat.mul_le_mul_right _ hj;rw [Φ] at this;omega
end
theorem bK (c:aN):(cellC c).length=3:=rfl
theorem gV (c:fD):(kE c).length=3:=rfl
theorem gW (c:eO):(kF c).length=7:=rfl
theorem bD (c:aT × G):(bY c.1 c.2).length=2:=rfl
theorem lS {α:Type} {enc:α->List G} (h:∀x,∀u ∈ enc x,u.oneCell'=J) (L:List α):∀u ∈ L.flatMap enc,u.oneCell'=J:=by intro u hu;obtain⟨x,_,hx⟩:=List.mem_flatMap.1 hu;exact h x u hx
theorem iN (c:aN):∀u ∈ cellC c,u.oneCell'=J:=by intro u hu;simp only [cellC,y1,z2,or_false] at hu;rcases hu with rfl | rfl | rfl <;> rfl
theorem aAu (c:fD):∀u ∈ kE c,u.oneCell'=J:=by intro u hu;simp only [kE,y1,z2,or_false] at hu;rcases hu with rfl | rfl | rfl <;> rfl
theorem aAv (c:eO):∀u ∈ kF c,u.oneCell'=J:=by intro u hu;simp only [kF,y1,z2,or_false] at hu;rcases hu with rfl | rfl | rfl | rfl | rfl | rfl | rfl <;> rfl
section
variable {P:y7} {ops:Array ρ} {rest:List ρ} {o:ρ} {a:Γ} {w:U} {Q:Exit->Γ->U->Prop}
theorem sM (hgd:o.guard=none) (ty:μ) (x y:x4) (ho:o.op=.makeSlice ty x y) (vx vy v:G) (w':U) (hx:a.eval x=vx) (hy:a.eval y=vy) (hrun:(Instr.makeSlice ty vx vy).run P w=.ok v w')
  (h:y3 P ops Q rest (a.put o.dst v) w'):y3 P ops Q (o:: rest) a w:=by
 refine y2 hgd fun K hK=> ?_;unfold Oper.wp z4;simp only [ho,hx,hy,ψ,y4,hrun,Δ];exact hK _ _ h
theorem eF (hgd:o.guard=none) (s x:x4) (t t2:μ) (ho:o.op=.call { callee:=.builtin .append,args:=#[s,x],argTypes:=#[t,t2] }) (v bv v':G) (w':U) (hs:a.eval s=v) (hx:a.eval x=bv) (hrun:(Builtin.append_ #[t,t2] o.type #[v,bv]).run P w=.ok v' w')
  (h:y3 P ops Q rest (a.put o.dst v') w'):y3 P ops Q (o:: rest) a w:=by
 refine y2 hgd fun K hK=> ?_;unfold Oper.wp;simp [z4,ho,resolve,invoke,builtin,hs,hx,hrun,Result.andThen];exact hK _ _ h
end
def Src (w:U) (a:Option π) (n c:Nat) (cs:List G):Prop:=(a=none/\n=0/\c=0/\cs=[])\/∃ad,a=some ad/\∀j v,cs[j]? =some v->w.cell? (ad.add j)=some v
theorem setRow_size (w:U) (g:Nat) (es:Array G):(w.setRow g es).heap.size=w.heap.size:=by simp [World.setRow]
theorem below_setRow {B g:Nat} {w0 w:U} (hb:γ B w0 w) (hBg:B<=g) (cs:Array G):γ B w0 (w.setRow g cs):=
 hb.trans ⟨rfl,rfl,rfl,by simp [World.setRow],fun k hk=>setRow_other w g k cs (by omega)⟩
theorem lJ {S t:μ} {sz bytes:Nat} {zv:G} (R:RT S t sz bytes zv) {w:U} {a:Option π} {n c:Nat} {cs:List G} (h:Src w a n c cs) (hl:cs.length=n * sz) (h1:∀u ∈ cs,u.oneCell'=J) (hb:bytes * n<=281474976710656) (h63:n<=9223372036854775807):
  ∃w1 w2 r,(Instr.makeSlice S (.int .i64 (n:Int)) (.int .i64 (n:Int))).run Z w=.ok (.slice (some ⟨w.heap.size,0,none⟩) n n) w1/\
   (∀ty,(Ω #[S,S] ty #[.slice (some ⟨w.heap.size,0,none⟩) n n,.slice a n c]).run Z w1=.ok r w2)/\
   w2.heap[w.heap.size]? =some (.cells cs.toArray t)/\w2.heap.size=w.heap.size+1/\γ w.heap.size w w2:=by
 have hm:=aIV R n hb h63 w;have hB:γ w.heap.size w (w.alloc (.cells (madeCells zv.cells (n * sz)) t)):=aC (ν _ _) (δ _) _;rcases h with ⟨rfl,rfl,rfl,rfl⟩ | ⟨ad,rfl,hc⟩
 ·refine ⟨_,_,_,hm,fun ty=>aIW R _ _ _ _ _, ?_,by simp,hB⟩;rw [ε];simp [madeCells]
 ·refine ⟨_,_,_,hm,fun ty=>nW R _ _ w.heap.size 0 n n ad n c (madeCells zv.cells (n * sz)) t cs (ε w _) (by rw [show Nat.min n n=n from Nat.min_self n];exact hl) (fun j v hj=> ?_) (by rw [size_madeCells];omega) h1, ?_,by rw [setRow_size];simp,below_setRow hB (δ _) _⟩
  ·rw [<-hc j v hj];exact World.cell?_of_block (x0 w _ _ (World.block_lt_of_cell? w _ (hc j v hj)))
  ·rw [setRow_heap _ _ _ _ _ _ (ε w _)];have e:(madeCells zv.cells (n * sz)).toList.drop (0+cs.length)=[]:=List.drop_of_length_le (by rw [Array.length_toList,size_madeCells];omega);rw [e];simp
theorem aGx {w:U} {a:Option π} {n c:Nat} {cs:List G} (h:Src w a n c cs) (hl:cs.length=n * 2) (h1:∀u ∈ cs,u.oneCell'=J) (hb:40 * n<=281474976710656):
  τ Z 61 #[.slice a n c] w fun e w'=>e=.returned (.slice (some ⟨w.heap.size,0,none⟩) n n)/\w'.heap[w.heap.size]? =some (.cells cs.toArray 78)/\w'.heap.size=w.heap.size+1/\γ w.heap.size w w':=by
 obtain⟨w1,w2,r,R1,R2,h3,h4,h5⟩:=lJ rtS h hl h1 hb (by omega);have R1h:I _:=R1;have R2:=R2 3;have h3h:I _:=h3;have h4h:I _:=h4;have h5h:I _:=h5;clear h hl h1 hb R1 h3 h4 h5;go_enter Tryz.func61,Tryz.ntmps61;go_wp2_with (refine sM rfl 22 _ _ rfl _ _ _ _ rfl rfl R1h.out ?_;clear R1h)
 go_ret;exact⟨rfl,h3h.out,h4h.out,h5h.out⟩
theorem aAw {w:U} {a:Option π} {n c:Nat} {cs:List G} (h:Src w a n c cs) (hl:cs.length=n * 3) (h1:∀u ∈ cs,u.oneCell'=J) (hb:32 * n<=281474976710656):
  τ Z 62 #[.slice a n c] w fun e w'=>e=.returned (.slice (some ⟨w.heap.size,0,none⟩) n n)/\w'.heap[w.heap.size]? =some (.cells cs.toArray 57)/\w'.heap.size=w.heap.size+1/\γ w.heap.size w w':=by
 obtain⟨w1,w2,r,R1,R2,h3,h4,h5⟩:=lJ rtC h hl h1 hb (by omega);have R1h:I _:=R1;have R2:=R2 3;have h3h:I _:=h3;have h4h:I _:=h4;have h5h:I _:=h5;clear h hl h1 hb R1 h3 h4 h5;go_enter Tryz.func62,Tryz.ntmps62;go_wp2_with (refine sM rfl 27 _ _ rfl _ _ _ _ rfl rfl R1h.out ?_;clear R1h)
 go_ret;exact⟨rfl,h3h.out,h4h.out,h5h.out⟩
theorem aGy {w:U} {a:Option π} {n c:Nat} {cs:List G} (h:Src w a n c cs) (hl:cs.length=n * 3) (h1:∀u ∈ cs,u.oneCell'=J) (hb:48 * n<=281474976710656):
  τ Z 63 #[.slice a n c] w fun e w'=>e=.returned (.slice (some ⟨w.heap.size,0,none⟩) n n)/\w'.heap[w.heap.size]? =some (.cells cs.toArray 89)/\w'.heap.size=w.heap.size+1/\γ w.heap.size w w':=by
 obtain⟨w1,w2,r,R1,R2,h3,h4,h5⟩:=lJ rtN h hl h1 hb (by omega);have R1h:I _:=R1;have R2:=R2 3;have h3h:I _:=h3;have h4h:I _:=h4;have h5h:I _:=h5;clear h hl h1 hb R1 h3 h4 h5;go_enter Tryz.func63,Tryz.ntmps63;go_wp2_with (refine sM rfl 23 _ _ rfl _ _ _ _ rfl rfl R1h.out ?_;clear R1h)
 go_ret;exact⟨rfl,h3h.out,h4h.out,h5h.out⟩
theorem aGz {w:U} {a:Option π} {n c:Nat} {cs:List G} (h:Src w a n c cs) (hl:cs.length=n * 7) (h1:∀u ∈ cs,u.oneCell'=J) (hb:80 * n<=281474976710656):
  τ Z 64 #[.slice a n c] w fun e w'=>e=.returned (.slice (some ⟨w.heap.size,0,none⟩) n n)/\w'.heap[w.heap.size]? =some (.cells cs.toArray 91)/\w'.heap.size=w.heap.size+1/\γ w.heap.size w w':=by
 obtain⟨w1,w2,r,R1,R2,h3,h4,h5⟩:=lJ rtL h hl h1 hb (by omega);have R1h:I _:=R1;have R2:=R2 3;have h3h:I _:=h3;have h4h:I _:=h4;have h5h:I _:=h5;clear h hl h1 hb R1 h3 h4 h5;go_enter Tryz.func64,Tryz.ntmps64;go_wp2_with (refine sM rfl 24 _ _ rfl _ _ _ _ rfl rfl R1h.out ?_;clear R1h)
 go_ret;exact⟨rfl,h3h.out,h4h.out,h5h.out⟩
def iQ:Option Nat->Int
 | some i=>i
 | none=> -1
def eH (L:List aT) (s:ByteArray):Option Nat:=L.findIdx? fun t=>t.name.toList==s.toList
def nX (L:List aT) (s:ByteArray):List aN:=match eH L s with
 | some i=>(L[i]?.map (·.cells)).getD []
 | none=> []
def atB (r c:Int) (d:aN):Bool:=d.row==r && d.col==c
def aGA (L:List aN) (r c:Int):ByteArray:=match L.find? (atB r c) with
 | some d=>d.text
 | none=>⟨#[]⟩
def dN (L:List aT):Nat:=(L.map fun s=>s.cells.length).sum
theorem sN {α:Type} {p:α->Bool} {L:List α} (h:∀j (hj:j < L.length),p L[j]=M):L.findIdx? p=none:=by rw [List.findIdx?_eq_none_iff];intro x hx;obtain⟨j,hj,rfl⟩:=List.mem_iff_getElem.1 hx;exact h j hj
theorem sP {α:Type} {p:α->Bool} {L:List α} {k:Nat} (hk:k < L.length) (h:∀j (hj:j < k),p (L[j]'(by omega))=M) (hp:p L[k]=J):L.findIdx? p=some k:=by rw [List.findIdx?_eq_some_iff_getElem];exact⟨hk,hp,fun j hj=>by simpa using h j hj⟩
theorem nY {L:List aT} {s:ByteArray} {i:Nat} (h:eH L s=some i):i < L.length:=by unfold eH at h;rw [List.findIdx?_eq_some_iff_getElem] at h;exact h.1
theorem aGB {α:Type} {p:α->Bool} {L:List α} (h:∀j (hj:j < L.length),p L[j]=M):L.find? p=none:=by rw [List.find?_eq_none];intro x hx;obtain⟨j,hj,rfl⟩:=List.mem_iff_getElem.1 hx;simpa using h j hj
theorem aGC {α:Type} {p:α->Bool} {L:List α} {k:Nat} (hk:k < L.length) (h:∀j (hj:j < k),p (L[j]'(by omega))=M) (hp:p L[k]=J):L.find? p=some L[k]:=by rw [List.find?_eq_some_iff_getElem];exact⟨hp,k,hk,rfl,fun j hj=>by simpa using h j hj⟩
def cpI (a b:Int):Int:=if a < b then -1 else if b < a then 1 else 0
def jT (a b:aN):Int:=if cpI a.row b.row ≠ 0 then cpI a.row b.row else cpI a.col b.col
def Lt (a b:aN):Prop:=a.row < b.row\/a.row=b.row/\a.col < b.col
theorem xS (a b:Int):(cpI a b= -1/\a < b)\/(cpI a b=0/\a=b)\/(cpI a b=1/\b < a):=by
 unfold cpI;split
 ·exact .inl ⟨rfl,by assumption⟩
 ·split
  ·exact .inr (.inr ⟨rfl,by assumption⟩)
  ·exact .inr (.inl ⟨rfl,by omega⟩)
theorem oV (a b:aN):(jT a b= -1/\Lt a b)\/(jT a b=0/\a.row=b.row/\a.col=b.col)\/(jT a b=1/\Lt b a):=by
 unfold jT Lt;rcases xS a.row b.row with ⟨h1,h2⟩ | ⟨h1,h2⟩ | ⟨h1,h2⟩
 ·rw [h1];exact .inl ⟨rfl,.inl h2⟩
 ·rw [h1];rcases xS a.col b.col with ⟨g1,g2⟩ | ⟨g1,g2⟩ | ⟨g1,g2⟩
  ·exact .inl ⟨by simpa using g1,.inr ⟨h2,g2⟩⟩
  ·exact .inr (.inl ⟨by simpa using g1,h2,g2⟩)
  ·exact .inr (.inr ⟨by simpa using g1,.inr ⟨h2.symm,g2⟩⟩)
 ·rw [h1];exact .inr (.inr ⟨rfl,.inl h2⟩)
theorem Lt.trans {a b c:aN} (h:Lt a b) (k:Lt b c):Lt a c:=by unfold Lt at *;omega
theorem Lt.irrefl {a b:aN} (h:Lt a b):¬Lt b a:=by unfold Lt at *;omega
theorem wE {a b:aN}:jT a b < 0↔Lt a b:=by
 rcases oV a b with ⟨h1,h2⟩ | ⟨h1,h2,h3⟩ | ⟨h1,h2⟩
 ·rw [h1];simp [h2]
 ·rw [h1];unfold Lt;omega
 ·rw [h1];have:=h2.irrefl;simp [this]
theorem aIY {a b:aN}:jT a b=0↔(a.row=b.row/\a.col=b.col):=by
 rcases oV a b with ⟨h1,h2⟩ | ⟨h1,h2,h3⟩ | ⟨h1,h2⟩
 ·rw [h1];unfold Lt at h2;omega
 ·rw [h1];simp [h2,h3]
 ·rw [h1];unfold Lt at h2;omega
def qO (L:List aN):Prop:=L.Pairwise Lt
def lT (r c:Int):Bool:=decide (1<=r/\r<=64/\1<=c/\c<=26)
def stB (L:List aN) (i:Nat):Bool:=match L[i]? with
 | none=>J
 | some d=>lT d.row d.col && (!(d.text.toList==[]) && (i==0 || match L[i - 1]? with
  | none=>J
  | some p=>decide (jT p d < 0)))
def laidB (L:List aN):Bool:=(σ L.length).all (stB L)
theorem aCK {L:List aN} (h:∀i,i < L.length->stB L i=J):laidB L=J:=by unfold laidB;rw [List.all_eq_true];intro i hi;exact h i (List.mem_range.1 hi)
theorem aFs {L:List aN} {i:Nat} (hi:i < L.length) (h:stB L i=M):laidB L=M:=by unfold laidB;rw [List.all_eq_false];exact⟨i,List.mem_range.2 hi,by simp [h]⟩
theorem aNf {w:U} {g:Nat} {s:ByteArray} (hg:w.heap[g]? =some (.cells #[.string s] 9)) (t:ByteArray) (p:Option π) (n c:Nat):
  CR 71 #[.agg #[.string t,.slice p n c],pt g] w (.bool (t.toList==s.toList)):=by
 have hlt:g < w.heap.size:=(Array.getElem?_eq_some_iff.1 hg).1;have c1:(w.alloc (.cells #[.string t,.slice p n c] 78)).cell? ⟨g,0,none⟩=some (.string s):=aI ((x0 w _ g hlt).trans hg) rfl;have c2:=aI (ε w (.cells #[.string t,.slice p n c] 78)) (j:=0) rfl;have HB:I (γ w.heap.size w (w.alloc (.cells #[.string t,.slice p n c] 78))):=(ν _ _).alloc (δ _) _;clear hg;go_enter Tryz.func71,Tryz.ntmps71;go_wp2;go_ret;exact⟨rfl,HB.out⟩
theorem aLk {lo hi:Nat} {w:U} {a:Option π} {c:Nat} {L:List aT} (h:Shs lo hi w (.slice a L.length c) L) (hhi:hi<=w.heap.size) (p:aT->Bool) (g:Nat)
  (HP:∀(k:Nat) (hk:k < L.length) (u:U) (q:Option π) (m d:Nat),γ w.heap.size w u->Cls lo hi u (.slice q m d) L[k].cells->CR 71 #[.agg #[.string L[k].name,.slice q m d],pt g] u (.bool (p L[k]))):
  CR 70 #[.slice a L.length c,.func (.func 71) #[] #[pt g]] w (.int .i64 (iQ (L.findIdx? p))):=by
 obtain⟨_,_,he,hz1,hz2⟩:=h.slice;cases he
 have hlen:L.length<=9223372036854775807:=by unfold Θ at hz2;omega
 have HS:I (Shs lo hi w (.slice a L.length c) L):=h;have HPh:I _:=HP;generalize hO:L.findIdx? p=o;have HO:I (L.findIdx? p=o):=hO;clear h HP hz1 hz2 hO;go_enter Tryz.func70,Tryz.ntmps70;go_wp2;go_loopw [8] (fun i wr=>∃(k:Nat),k<=L.length/\i=.int .i64 (k:Nat)/\I (∀j (hj:j < L.length),j < k->p L[j]=M)/\I (γ w.heap.size w wr)) (fun i _=>L.length - (intOf i).toNat)
 case atStart=>exact⟨0,y6 _,rfl,fun j _ hj=>by omega,ν _ _⟩
 case round=>
  obtain⟨k,hk,rfl,HA,HB⟩:=hrel;by_cases hkL:k < L.length
  ·have hki:(k:Int) < L.length:=by omega
   have HS2:=HS.out.below hhi HB.out;obtain⟨a',cv,ov,W,rfl,rfl,hcl,hW,R1, -, -⟩:=HS2.runs hkL;obtain⟨q,d,rfl,_,_⟩:=hcl.slice;have C:=HPh.out k hkL wr q _ d HB.out hcl;have mF:k < 9223372036854775807:=by omega
   have HX:I (p L[k]=J->o=some k):=fun e=>HO.out.symm.trans <| sP hkL (fun j hj=>HA.out j (by omega) hj) e;have HY:I (p L[k]=M->∀j (hj:j < L.length),j < k+1->p L[j]=M):=fun e j hj hlt=>by
    by_cases hjk:j=k
    ·subst hjk;exact e
    ·exact HA.out j hj (by omega)
   clear hcl hW HS2;cases hp:p L[k] with
   | true=>
    obtain rfl:=HX.out hp;rw [hp] at C;clear HX HY hp;generalize L[k]=y at *;obtain⟨yn,yc⟩:=y;dsimp only at *;go_wp2_with (first|(refine aB rfl 78 _ rfl _ _ rfl R1.out ?_;clear R1)|(go_at_call 71;refine C.mono ?_;rintro e w1 ⟨rfl,hb1⟩;have HB1:I _:=aD HB.out HB.out.size hb1;clear hb1))
    go_ret;exact⟨rfl,HB1.out⟩
   | false=>
    have HY2:I _:=HY.out hp;rw [hp] at C;clear HX HY hp;generalize L[k]=y at *;obtain⟨yn,yc⟩:=y;dsimp only at *;go_wp2_with (first|(refine aB rfl 78 _ rfl _ _ rfl R1.out ?_;clear R1)|(go_at_call 71;refine C.mono ?_;rintro e w1 ⟨rfl,hb1⟩;have HB1:I _:=aD HB.out HB.out.size hb1;clear hb1))
    go_roundw
    case rel=>exact⟨k+1,by omega,by go_num,HY2,HB1⟩
    case measure=>simp [intOf];omega
  ·have hki:¬(k:Int) < L.length:=by omega
   obtain rfl:o=none:=HO.out.symm.trans <| sN fun j hj=>HA.out j hj (by omega);go_wp2;go_ret;exact⟨rfl,HB.out⟩
abbrev bkO (sv nv lv:G):Obj:=.cells #[sv,nv,lv] 26
theorem ldB {w:U} {g:Nat} {sv nv lv:G} {z:Nat × Nat} (h:w.heap[g]? =some (.cells #[sv,nv,lv] 26 z)):(O 26 (pt g)).run Z w=.ok (.agg #[sv,nv,lv]) w:=by
 have hi:(Tryz.prog.info? 26).map (·.size)=some (#[sv,nv,lv]:Array G).size:=by kernel_rfl
 simp only [O,x5,ψ,y4,Δ,run_loadVar_row w g 26 26 _ z _ h Tryz.underlying26 rfl hi]
theorem fH {u:U} {g:Nat} {y:aN} {z:Nat × Nat} (h:u.heap[g]? =some (.cells (cellC y).toArray 57 z)):u.cell? ⟨g,0,none⟩=some (.int .i64 y.row)/\u.cell? ⟨g,1,none⟩=some (.int .i64 y.col)/\u.cell? ⟨g,2,none⟩=some (.string y.text):=
 ⟨aI h rfl,aI h rfl,aI h rfl⟩
theorem mG {lo hi:Nat} {w:U} {sv nv lv:G} {x:aP} (h:BkM lo hi w sv nv lv x) (hhi:hi<=w.heap.size) (s:ByteArray):
  CR 20 #[.agg #[sv,nv,lv],.string s] w (.int .i64 (iQ (eH x.sheets s))):=by
 obtain⟨sa,sc,rfl,_,_⟩:=h.sh.slice;obtain⟨na,nc,rfl,_,_⟩:=h.nm.slice;obtain⟨la,lc,rfl,_,_⟩:=h.lk.slice;obtain⟨W,hW⟩:∃W,W=(w.alloc (bkO (.slice sa x.sheets.length sc) (.slice na x.names.length nc) (.slice la x.links.length lc))).alloc (.cells #[.string s] 9):=⟨_,rfl⟩
 have HB:γ w.heap.size w W:=by rw [hW];exact aC (aC (ν _ _) (δ _) _) (δ _) _
 have hz:hi<=W.heap.size:=ω hhi HB.size;have HG:W.heap[w.heap.size+1]? =some (.cells #[.string s] 9):=by rw [hW];simpa using ε (w.alloc (bkO (.slice sa x.sheets.length sc) (.slice na x.names.length nc) (.slice la x.links.length lc))) (.cells #[.string s] 9)
 have C:=aLk (h.sh.below hhi HB) hz (fun t=>t.name.toList==s.toList) (w.heap.size+1) (fun k hk u q m d hu hc=>aNf (by rw [hu.block _ (aF HG)];exact HG) _ q m d);rw [hW] at C;have HBh:I (γ w.heap.size w W):=HB;have HW:I (W=_):=hW;have HE:I (eH x.sheets s=x.sheets.findIdx? fun t=>t.name.toList==s.toList):=rfl;rw [HE.out];generalize (x.sheets.findIdx? fun t=>t.name.toList==s.toList)=o at *;clear h HB HG hW hz HE;go_enter Tryz.func20,Tryz.ntmps20;go_wp2_with (go_at_call 70;refine C.mono ?_;rintro e w1 ⟨rfl,hb⟩;rw [<-HW.out] at hb;have HB2:I _:=aD HBh.out HBh.out.size hb;clear hb)
 go_ret;exact⟨rfl,HB2.out⟩
theorem aCL {lo hi:Nat} {w:U} {sv nv lv:G} {x:aP} (h:BkM lo hi w sv nv lv x) (hhi:hi<=w.heap.size) (s:ByteArray):
  τ Z 72 #[.agg #[sv,nv,lv],.string s] w fun e w'=>(∃v,e=.returned v/\Cls lo hi w' v (nX x.sheets s))/\γ w.heap.size w w':=by
 have h0:=h;obtain⟨sa,sc,rfl,hs1,hs2⟩:=h.sh.slice;obtain⟨na,nc,rfl,_,_⟩:=h.nm.slice;obtain⟨la,lc,rfl,_,_⟩:=h.lk.slice;obtain⟨W,hW⟩:∃W,W=w.alloc (bkO (.slice sa x.sheets.length sc) (.slice na x.names.length nc) (.slice la x.links.length lc)):=⟨_,rfl⟩
 have HB:γ w.heap.size w W:=by rw [hW];exact aC (ν _ _) (δ _) _
 have HG:W.heap[w.heap.size]? =some (bkO (.slice sa x.sheets.length sc) (.slice na x.names.length nc) (.slice la x.links.length lc)):=by rw [hW];exact ε w _
 have R1:I _:=ldB HG;have C0:=mG (h.below hhi HB) (ω hhi HB.size) s;have hlen:x.sheets.length<=9223372036854775807:=by unfold Θ at hs2;omega
 unfold nX;cases hO:eH x.sheets s with
 | none=>
  rw [hO] at C0;have C:τ Z 20 _ _ fun e w'=>e=.returned (.int .i64 (-1))/\I (γ w.heap.size w w'):=
   C0.mono (by
    rintro e w' ⟨rfl,hb⟩;exact⟨rfl,aD HB HB.size hb⟩)
  rw [hW] at C R1;clear h h0 HB HG hW hs1 hs2 C0;dsimp only;go_enter Tryz.func72,Tryz.ntmps72;go_wp2_with (first|(refine aB rfl 26 _ rfl _ _ rfl R1.out ?_;clear R1)|(go_at_call 20;refine C.mono ?_;clear C;rintro e w1 ⟨rfl,HB⟩))
  go_ret;exact⟨⟨_,rfl,Cls.nil _ _ _⟩,HB.out⟩
 | some i=>
  rw [hO] at C0;have hil:=nY hO;have C:τ Z 20 _ _ fun e w'=>e=.returned (.int .i64 (i:Nat))/\∃a' q d,sa=some a'/\w'.cell? ⟨w.heap.size,0,none⟩=some (.slice sa x.sheets.length sc)/\w'.cell? ⟨(a'.add (i * 2)).block,(a'.add (i * 2)).off+1,none⟩=some (.slice q x.sheets[i].cells.length d)/\I (Cls lo hi w' (.slice q x.sheets[i].cells.length d) x.sheets[i].cells)/\I (γ w.heap.size w w'):=
   C0.mono (by
    rintro e w' ⟨rfl,hb⟩;have hb2:=aD HB HB.size hb;obtain⟨cv,hr,hc⟩:=h.sh.below hhi hb2;have hcs:=hc i _ (E hil);obtain⟨a',rfl,h1,h2⟩:=Rws.at hr hil;obtain⟨q,d,hcv,_,_⟩:=hcs.slice;exact⟨rfl,a',q,d,rfl,aI ((hb.block _ (aF HG)).trans HG) rfl,h2 1 _ (by omega) (by simp [iG,E hil,bY,hcv]),by rw [<-hcv];exact hcs,hb2⟩)
  rw [hW] at C R1;have hni:¬(i:Int) < 0:=by omega
  have hii:(i:Int) < x.sheets.length:=by omega
  have HE:I ((x.sheets[i]?.map (·.cells)).getD []=x.sheets[i].cells):=by show _=_;simp [E hil]
  dsimp only;rw [HE.out];clear h h0 HB HG hW hs1 hs2 C0 HE;generalize x.sheets[i].cells=cl at *;go_enter Tryz.func72,Tryz.ntmps72;go_wp2_with (first|(refine aB rfl 26 _ rfl _ _ rfl R1.out ?_;clear R1)|(go_at_call 20;refine C.mono ?_;clear C;rintro e w1 ⟨rfl,a',q,d,rfl,c0,c1,HC,HB⟩))
  go_ret;exact⟨⟨_,rfl,HC.out⟩,HB.out⟩
theorem aLl {lo hi:Nat} {w:U} {sv nv lv:G} {x:aP} (h:BkM lo hi w sv nv lv x) (hhi:hi<=w.heap.size) (s:ByteArray) (r c:Int):
  CR 22 #[.agg #[sv,nv,lv],.string s,.int .i64 r,.int .i64 c] w (.string (aGA (nX x.sheets s) r c)):=by
 have h0:=h;obtain⟨sa,sc,rfl,hs1,hs2⟩:=h.sh.slice;obtain⟨na,nc,rfl,_,_⟩:=h.nm.slice;obtain⟨la,lc,rfl,_,_⟩:=h.lk.slice;obtain⟨W,hW⟩:∃W,W=w.alloc (bkO (.slice sa x.sheets.length sc) (.slice na x.names.length nc) (.slice la x.links.length lc)):=⟨_,rfl⟩
 have HB:γ w.heap.size w W:=by rw [hW];exact aC (ν _ _) (δ _) _
 have HG:W.heap[w.heap.size]? =some (bkO (.slice sa x.sheets.length sc) (.slice na x.names.length nc) (.slice la x.links.length lc)):=by rw [hW];exact ε w _
 have R1:I _:=ldB HG;generalize hL:nX x.sheets s=L;have C:τ Z 72 _ _ fun e w'=>∃q d,e=.returned (.slice q L.length d)/\L.length<=9223372036854775807/\I (Cls lo hi w' (.slice q L.length d) L)/\I (γ w.heap.size w w'):=
  (aCL (h.below hhi HB) (ω hhi HB.size) s).mono (by
   rintro e w' ⟨⟨v,rfl,hc⟩,hb⟩;rw [hL] at hc;obtain⟨q,d,rfl,h1,h2⟩:=hc.slice;exact⟨q,d,rfl,by unfold Θ at h2;omega,hc,aD HB HB.size hb⟩)
 rw [hW] at C R1;generalize hG:aGA L r c=gt;have HO:I (aGA L r c=gt):=hG;clear h h0 HB HG hW hs1 hs2 hL hG;go_enter Tryz.func22,Tryz.ntmps22;go_wp2_with (first|(refine aB rfl 26 _ rfl _ _ rfl R1.out ?_;clear R1)|(go_at_call 72;refine C.mono ?_;clear C;rintro e w1 ⟨q,d,rfl,hlen,HC,HB⟩))
 go_loopw [15] (fun i wr=>∃(k:Nat),k<=L.length/\i=.int .i64 (k:Nat)/\I (∀j (hj:j < L.length),j < k->atB r c L[j]=M)/\I (γ w1.heap.size w1 wr)) (fun i _=>L.length - (intOf i).toNat)
 case atStart=>exact⟨0,y6 _,rfl,fun j _ hj=>by omega,ν _ _⟩
 case round=>
  obtain⟨k,hk,rfl,HA,HD⟩:=hrel;have hhi1:hi<=w1.heap.size:=ω hhi HB.out.size;by_cases hkL:k < L.length
  ·have hki:(k:Int) < L.length:=by omega
   obtain⟨a',ov,W',rfl,rfl,hW',R2,R3, -⟩:=(HC.out.below hhi1 HD.out).runs hkL;obtain⟨c0,c1,c2⟩:=fH (show W'.heap[wr.heap.size]? =some (.cells (cellC L[k]).toArray 57) by rw [hW'];exact ε wr _);have HD2:I (γ w1.heap.size w1 W'):=by rw [hW'];exact aC HD.out (δ _) _
   have mF:k < 9223372036854775807:=by omega
   have HX:I (atB r c L[k]=J->gt=L[k].text):=fun e=>by rw [<-HO.out];unfold aGA;rw [aGC hkL (fun j hj=>HA.out j (by omega) hj) e]
   have HY:I (atB r c L[k]=M->∀j (hj:j < L.length),j < k+1->atB r c L[j]=M):=fun e j hj hlt=>by
    by_cases hjk:j=k
    ·subst hjk;exact e
    ·exact HA.out j hj (by omega)
   clear hW';have hat:atB r c L[k]=(L[k].row==r && L[k].col==c):=rfl;generalize L[k]=y at *;obtain⟨yr,yc,yt⟩:=y;dsimp only at *;by_cases e1:yr=r
   ·by_cases e2:yc=c
    ·obtain rfl:=HX.out (by rw [hat];simp [e1,e2]);subst e1 e2;clear HX HY hat HO;go_wp2_with (first|(refine aB rfl 57 _ rfl _ _ rfl R2.out ?_;clear R2)|(refine aA rfl 57 _ _ rfl _ _ _ rfl rfl R3.out ?_;clear R3))
     go_ret;exact⟨rfl,HB.out.trans (HD2.out.mono HB.out.size)⟩
    ·have HY2:I _:=HY.out (by rw [hat];simp [e2]);subst e1;clear HX HY hat HO;go_wp2_with (first|(refine aB rfl 57 _ rfl _ _ rfl R2.out ?_;clear R2)|(refine aA rfl 57 _ _ rfl _ _ _ rfl rfl R3.out ?_;clear R3))
     go_roundw
     case rel=>exact⟨k+1,by omega,by go_num,HY2,HD2⟩
     case measure=>simp [intOf];omega
   ·have HY2:I _:=HY.out (by rw [hat];simp [e1]);clear HX HY hat HO;go_wp2_with (first|(refine aB rfl 57 _ rfl _ _ rfl R2.out ?_;clear R2)|(refine aA rfl 57 _ _ rfl _ _ _ rfl rfl R3.out ?_;clear R3))
    go_roundw
    case rel=>exact⟨k+1,by omega,by go_num,HY2,HD2⟩
    case measure=>simp [intOf];omega
  ·have hki:¬(k:Int) < L.length:=by omega
   obtain rfl:gt=⟨#[]⟩:=by rw [<-HO.out];unfold aGA;rw [aGB fun j hj=>HA.out j hj (by omega)]
   go_wp2;go_ret;exact⟨rfl,HB.out.trans (HD.out.mono HB.out.size)⟩
theorem xU {L:List aT} {k:Nat} (hk:k < L.length):dN (L.take (k+1))=dN (L.take k)+L[k].cells.length:=by unfold dN;rw [List.take_succ_eq_append_getElem hk,List.map_append,List.sum_append];simp
theorem aEf {L:List aT} (k:Nat):dN (L.take k)<=dN L:=by
 unfold dN
 conv=>rhs;rw [<-List.take_append_drop k L,List.map_append,List.sum_append]
 omega
theorem oM {lo hi:Nat} {w:U} {sv nv lv:G} {x:aP} (h:BkM lo hi w sv nv lv x) (hhi:hi<=w.heap.size) (hz:dN x.sheets<=4611686018427387904):
  CR 24 #[.agg #[sv,nv,lv]] w (.int .i64 (dN x.sheets:Nat)):=by
 obtain⟨sa,sc,rfl,hs1,hs2⟩:=h.sh.slice;obtain⟨na,nc,rfl,_,_⟩:=h.nm.slice;obtain⟨la,lc,rfl,_,_⟩:=h.lk.slice;have HB:I (γ w.heap.size w (w.alloc (bkO (.slice sa x.sheets.length sc) (.slice na x.names.length nc) (.slice la x.links.length lc)))):=aC (ν _ _) (δ _) _;have c0:=aI (ε w (bkO (.slice sa x.sheets.length sc) (.slice na x.names.length nc) (.slice la x.links.length lc))) (j:=0) rfl;have HS:I (Shs lo hi w (.slice sa x.sheets.length sc) x.sheets):=h.sh;have hlen:x.sheets.length<=9223372036854775807:=by unfold Θ at hs2;omega
 generalize hT:dN x.sheets=tot at *;have HT:I (dN x.sheets=tot):=hT;clear h hs1 hs2 hT;go_enter Tryz.func24,Tryz.ntmps24;go_wp2;go_loopw [3,9] (fun m i wr=>∃(k q:Nat),k<=x.sheets.length/\i=.int .i64 (k:Nat)/\m=.int .i64 (q:Nat)/\q=dN (x.sheets.take k)/\I (γ w.heap.size w wr)) (fun _ i _=>x.sheets.length - (intOf i).toNat)
 case atStart=>exact⟨0,0,y6 _,rfl,rfl,rfl,HB⟩
 case round=>
  obtain⟨k,q,hk,rfl,rfl,hq,HD⟩:=hrel;clear HB;by_cases hkL:k < x.sheets.length
  ·have hki:(k:Int) < x.sheets.length:=by omega
   obtain⟨a',cv,ov,W,rfl,rfl,hcl,hW,R1,R2, -⟩:=(HS.out.below hhi HD.out).runs hkL;obtain⟨ca,cc,rfl,_,_⟩:=hcl.slice;have c1:=aI (show W.heap[wr.heap.size]? =some (.cells #[.string x.sheets[k].name,.slice ca x.sheets[k].cells.length cc] 78) by rw [hW];exact ε wr _) (j:=1) rfl;have HD2:I (γ w.heap.size w W):=by rw [hW];exact aC HD.out (δ _) _
   have mF:k < 9223372036854775807:=by omega
   have hs:=xU hkL;have hle:=aEf (L:=x.sheets) (k+1);rw [HT.out] at hle;clear hcl hW;generalize x.sheets[k]=y at *;obtain⟨yn,yc⟩:=y;dsimp only at *;have hw:(q:Int)+(yc.length:Nat)=((q+yc.length:Nat):Int):=by omega
   have hm:IntKind.i64.wrap ((q+yc.length:Nat):Int)=((q+yc.length:Nat):Int):=by rw [IntKind.wrap_i64];omega
   generalize hqq:q+yc.length=q2 at *;go_wp2_with (first|(refine aB rfl 78 _ rfl _ _ rfl R1.out ?_;clear R1)|(refine aA rfl 78 _ _ rfl _ _ _ rfl rfl R2.out ?_;clear R2))
   go_roundw
   case rel=>exact⟨k+1,q2,by omega,by go_num,by go_num,by omega,HD2⟩
   case measure=>simp [intOf];omega
  ·have hki:¬(k:Int) < x.sheets.length:=by omega
   obtain rfl:q=tot:=by rw [hq,Ψ (by omega)];exact HT.out
   go_wp2;go_ret;exact⟨rfl,HD.out⟩
theorem xV (x:Int) (w:U):CW 209 #[.int .i64 x] w (.bool M):=by go_enter Tryz.func209,Tryz.ntmps209;go_wp2;go_ret;exact⟨by simp,rfl⟩
theorem aFt (x y:Int) (w:U):CW 162 #[.int .i64 x,.int .i64 y] w (.int .i64 (cpI x y)):=by
 rcases xS x y with ⟨h1,h2⟩ | ⟨h1,h2⟩ | ⟨h1,h2⟩
 ·rw [h1];go_enter Tryz.func162,Tryz.ntmps162;go_wp2_with (go_at_call 209;refine mw (xV _ _) ?_)
  go_ret;exact⟨rfl,rfl⟩
 ·rw [h1];subst h2;go_enter Tryz.func162,Tryz.ntmps162;go_wp2_with (go_at_call 209;refine mw (xV _ _) ?_)
  go_ret;exact⟨rfl,rfl⟩
 ·rw [h1];have h3:¬x < y:=by omega
  go_enter Tryz.func162,Tryz.ntmps162;go_wp2_with (go_at_call 209;refine mw (xV _ _) ?_)
  go_ret;exact⟨rfl,rfl⟩
def or2 (a b:Int):Int:=if a ≠ 0 then a else b
theorem aGD (a b:Int):((a !=0)=J/\or2 a b=a)\/(a=0/\(b !=0)=J/\or2 a b=b)\/(a=0/\b=0/\or2 a b=0):=by
 unfold or2;by_cases ha:a=0
 ·by_cases hb:b=0 <;> simp [ha,hb]
 ·simp [ha]
theorem aLm {w:U} {g:Nat} {a b:Int} (h0:w.cell? ⟨g,0,none⟩=some (.int .i64 a)) (h1:w.cell? ⟨g,1,none⟩=some (.int .i64 b)):
  CW 161 #[.slice (some ⟨g,0,none⟩) 2 2] w (.int .i64 (or2 a b)):=by
 rcases aGD a b with ⟨t1,e⟩ | ⟨t1,t2,e⟩ | ⟨t1,t2,e⟩;all_goals
  rw [e];clear e;try subst t1
  try subst t2
  go_enter Tryz.func161,Tryz.ntmps161;go_wp2;refine wp_loop_rounds 6 ?_;rw [y9];go_wp2;try (rw [y9];go_wp2)
  try (rw [y9];go_wp2)
  go_ret;exact⟨rfl,rfl⟩
theorem aLn (u:U) (x y:Int):τ Z 161 #[.slice (some ⟨u.heap.size,0,none⟩) 2 2] (u.alloc (.cells #[.int .i64 x,.int .i64 y] 3)).drew fun e w'=>e=.returned (.int .i64 (or2 x y))/\w'=(u.alloc (.cells #[.int .i64 x,.int .i64 y] 3)).drew:=by have hz:(u.alloc (.cells #[.int .i64 x,.int .i64 y] 3)).drew.heap[u.heap.size]? =some (.cells #[.int .i64 x,.int .i64 y] 3 (0,0)):=ε u _;have c:=fun j=>y5 _ u.heap.size j _ 3 _ hz;exact aLm ((c 0).trans rfl) ((c 1).trans rfl)
abbrev ceO (y:aN):Obj:=.cells (cellC y).toArray 57
theorem uN (a b:aN) (w:U):CR 113 #[cellV a,cellV b] w (.int .i64 (jT a b)):=by
 obtain⟨r1,c1,t1⟩:=a;obtain⟨r2,c2,t2⟩:=b;have C1:=fun u=>aFt r1 r2 u;have C2:=fun u=>aFt c1 c2 u;have HK:I (jT ⟨r1,c1,t1⟩ ⟨r2,c2,t2⟩=or2 (cpI r1 r2) (cpI c1 c2)):=rfl;generalize jT ⟨r1,c1,t1⟩ ⟨r2,c2,t2⟩=R at *;generalize cpI r1 r2=x1 at *;generalize cpI c1 c2=x2 at *;obtain⟨V,hV⟩:∃V,V=(w.alloc (ceO ⟨r1,c1,t1⟩)).alloc (ceO ⟨r2,c2,t2⟩):=⟨_,rfl⟩
 have HC:I (∀u:U,γ V.heap.size V u->(u.cell? ⟨w.heap.size,0,none⟩=some (.int .i64 r1)/\u.cell? ⟨w.heap.size,1,none⟩=some (.int .i64 c1))/\(u.cell? ⟨w.heap.size+1,0,none⟩=some (.int .i64 r2)/\u.cell? ⟨w.heap.size+1,1,none⟩=some (.int .i64 c2))):=by intro u hu;rw [hV] at hu;obtain⟨q1,q2,_⟩:=fH (new2 hu).1;obtain⟨q3,q4,_⟩:=fH (new2 hu).2;exact⟨⟨q1,q2⟩,q3,q4⟩
 have HB:I (γ V.heap.size V V.drew):=(ν _ _).drew;have HO:I (γ V.heap.size V (V.alloc (.cells #[.int .i64 x1,.int .i64 x2] 3)).drew):=(Sh.aC (ν _ _) (δ _) _).drew;have OR:=aLn V x1 x2;rw [show V.heap.size=w.heap.size+2 by rw [hV];simp] at OR;rw [hV] at HC HB HO OR;simp only [ceO,cellC] at HC HB HO OR;clear hV;go_enter Tryz.func113,Tryz.ntmps113;go_wp2;go_region_held_law (fun u=>(u.cell? ⟨w.heap.size,0,none⟩=some (.int .i64 r1)/\u.cell? ⟨w.heap.size,1,none⟩=some (.int .i64 c1))/\(u.cell? ⟨w.heap.size+1,0,none⟩=some (.int .i64 r2)/\u.cell? ⟨w.heap.size+1,1,none⟩=some (.int .i64 c2)))
  (first | exact HC.out _ HB.out | exact HC.out _ HO.out) (first|(go_at_call_of 162 r1;refine mw (C1 _) ?_)|(go_at_call_of 162 c1;refine mw (C2 _) ?_)|(go_at_call 161;refine mw OR ?_))
 go_wp2;go_ret;exact⟨by rw [HK.out];rfl,rP HO.out⟩
theorem iJ (r c:Int) (w:U):CW 56 #[.int .i64 r,.int .i64 c] w (.bool (lT r c)):=by
 unfold lT;by_cases h1:1<=r
 ·by_cases h2:r<=64
  ·by_cases h3:1<=c
   ·by_cases h4:c<=26;all_goals
     go_enter Tryz.func56,Tryz.ntmps56;go_wp2;go_ret;exact⟨by congr 2;simp;omega,rfl⟩
   ·go_enter Tryz.func56,Tryz.ntmps56;go_wp2;go_ret;exact⟨by congr 2;simp;omega,rfl⟩
  ·go_enter Tryz.func56,Tryz.ntmps56;go_wp2;go_ret;exact⟨by congr 2;simp;omega,rfl⟩
 ·go_enter Tryz.func56,Tryz.ntmps56;go_wp2;go_ret;exact⟨by congr 2;simp;omega,rfl⟩
end Go.Proofs.YtfedoljlipfhdaaGreatDoor.Sh
namespace Go
section
variable {P:y7} {ops:Array ρ} {Q:Exit->Γ->U->Prop} {md:Region.Mode} {S S2:U->Prop} {D:Nat->Bool}
def dG (P:y7) (md:Region.Mode) (ops:Array ρ) (Q:Exit->Γ->U->Prop) (S:U->Prop) (D:Nat->Bool):Nat->Array Bool->Γ->U->Prop
 | 0,listed,a,w=>ζ md ops listed=[]/\Q .normal a w
 | fuel+1,listed,a,w=>
  (ζ md ops listed=[]->Q .normal a w)/\
  ∀i ∈ ζ md ops listed,wpOp P ops Q i (fun a' w'=>(D i=J\/(S w->S w'))/\dG P md ops Q S D fuel (listed.setIfInBounds i J) a' w') a w
theorem xW:∀(fuel:Nat) (listed:Array Bool) (a:Γ) (w:U),dG P md ops Q S D fuel listed a w->wpAny P md ops Q fuel listed a w
 | 0,_,_,_,h=>h
 | fuel+1,_,_,_,h=>⟨h.1,fun i hi=>wpOp_mono (fun a' w' h'=>xW fuel _ a' w' h'.2) (h.2 i hi)⟩
theorem mX {i:Nat} {oi:ρ} {v:G} (hi:ops[i]? =some oi) (hsel:∀(j:Nat) (o:ρ) cs b,ops[j]? =some o->o.op ≠ .select cs b)
  (hQ:∀c a w,Q (.panic c) (a.put oi.dst v) w->Q (.panic c) a w)
  (hk:∀(j:Nat) (oj:ρ),ops[j]? =some oj->(∀e ∈ oj.after,Region.binds md e=J->e.on ≠ i)->∀w w',S2 w->(D j=J\/(S w->S w'))->S2 w'):
  ∀(fuel:Nat) (listed:Array Bool) (a:Γ) (w:U),
   (∀j oj,ops[j]? =some oj->j ≠ i->listed.getD j J=M->(∀e ∈ oj.after,Region.binds md e=J->e.on ≠ i)->oi.apart ops oj=J)->
   i ∈ ζ md ops listed->YieldsIf P ops S2 oi v a->S2 w->
   dG P md ops Q S D fuel (listed.setIfInBounds i J) (a.put oi.dst v) w->dG P md ops Q S D (fuel+1) listed a w:=by
 intro fuel;induction fuel with
 | zero=>
  intro listed a w _ hr hy hS H;refine ⟨fun h=>(by rw [h] at hr;cases hr),fun j hj=> ?_⟩;by_cases hji:j=i
  ·subst hji;exact hy.wpOp hi hS ⟨.inr id,H⟩
  ·have:=ready_mono hj hji;rw [H.1] at this;cases this
 | succ fuel ih=>
  intro listed a w hfree hr hy hS H;refine ⟨fun h=>(by rw [h] at hr;cases hr),fun j hj=> ?_⟩;by_cases hji:j=i
  ·subst hji;exact hy.wpOp hi hS ⟨.inr id,H⟩
  ·have h1:=H.2 j (ready_mono hj hji);obtain⟨hjun,oj,hoj,hall⟩:=mem_ready.1 hj;have hnot:∀e ∈ oj.after,Region.binds md e=J->e.on ≠ i:=fun e he hb heq=>by
    have h1:=hall e he hb;have h0:=(mem_ready.1 hr).1;rw [heq] at h1;rcases Nat.lt_or_ge i listed.size with h' | h'
    ·simp [h'] at h0 h1;rw [h0] at h1;cases h1
    ·simp [Array.getElem?_eq_none h'] at h1
   have h2:=wpOp_putIf hoj (hfree j oj hoj hji hjun hnot) (fun cs b=>hsel i oi cs b hi) (fun cs b=>hsel j oj cs b hoj) hQ hy h1;have hfree':∀k ok,ops[k]? =some ok->k ≠ i->(listed.setIfInBounds j J).getD k J=M->
     (∀e ∈ ok.after,Region.binds md e=J->e.on ≠ i)->oi.apart ops ok=J:=fun k ok hk hki hun hno=>by
    refine hfree k ok hk hki ?_ hno;by_cases hjk:j=k
    ·subst hjk;exact hjun
    ·rw [getD_set_ne J hjk] at hun;exact hun
   refine wpOp_mono (fun a' w' h3=>⟨h3.2.1,ih (listed.setIfInBounds j J) a' w' hfree' (ready_mono hr (Ne.symm hji)) h3.1 (hk j oj hoj hnot w w' hS h3.2.1) ?_⟩) h2;rw [Array.setIfInBounds_comm _ _ hji];exact h3.2.2
theorem aCM {i:Nat} {oi:ρ} {v:G} {fuel:Nat} {listed:Array Bool} {a:Γ} {w:U} (hi:ops[i]? =some oi)
  (hs:θ ops=J) (hf:Region.free md ops listed i=J) (hr:(ζ md ops listed).contains i=J)
  (hQ:∀c a w,Q (.panic c) (a.put oi.dst v) w->Q (.panic c) a w) (hg:ι oi (yielded ops a.tmps)=J) (hy:∀w,(z4 a.eval oi).run P w=.ok (.value v) w)
  (h:dG P md ops Q S D fuel (listed.setIfInBounds i J) (a.put oi.dst v) w):dG P md ops Q S D (fuel+1) listed a w:=
 mX (S2:=fun _=>True) hi (Region.noSelect_spec hs) hQ (fun _ _ _ _ _ _ _ _=>trivial) fuel listed a w (Region.free_spec hi hf) (by simpa using hr) (.inl ⟨hg,fun w _=>hy w⟩) trivial h
theorem aCN {i:Nat} {oi:ρ} {v:G} {fuel:Nat} {listed:Array Bool} {a:Γ} {w:U} (hi:ops[i]? =some oi)
  (hs:θ ops=J) (hf:Region.free md ops listed i=J) (hr:(ζ md ops listed).contains i=J)
  (hD:((σ ops.size).all fun j=> !D j || ((ops[j]?.map fun o=>o.after.any fun e=>Region.binds md e && e.on==i).getD M))=J)
  (hQ:∀c a w,Q (.panic c) (a.put oi.dst v) w->Q (.panic c) a w) (hg:ι oi (yielded ops a.tmps)=J) (hy:∀w,S w->(z4 a.eval oi).run P w=.ok (.value v) w) (hS:S w)
  (h:dG P md ops Q S D fuel (listed.setIfInBounds i J) (a.put oi.dst v) w):dG P md ops Q S D (fuel+1) listed a w:=by
 refine mX (S2:=S) hi (Region.noSelect_spec hs) hQ (fun j oj hj hno w w' hS hc=> ?_) fuel listed a w (Region.free_spec hi hf) (by simpa using hr) (.inl ⟨hg,hy⟩) hS h;rcases hc with hc | hc
 ·exfalso
  rw [List.all_eq_true] at hD;have hlt:j < ops.size:=(Array.getElem?_eq_some_iff.1 hj).1;have:=hD j (by simpa using hlt);rw [hc,hj] at this;simp only [Bool.not_true,Bool.false_or,χ,Option.getD_some,Array.any_eq_true] at this;obtain⟨q,hq,hb⟩:=this;simp only [υ,beq_iff_eq] at hb;exact hno _ (Array.getElem_mem hq) hb.1 hb.2
 ·exact hc hS
theorem aCO {i:Nat} {oi:ρ} {fuel:Nat} {listed:Array Bool} {a:Γ} {w:U} (hi:ops[i]? =some oi)
  (hs:θ ops=J) (hf:Region.free md ops listed i=J) (hr:(ζ md ops listed).contains i=J)
  (hQ:∀c a w,Q (.panic c) (a.put oi.dst undef) w->Q (.panic c) a w) (hg:ι oi (yielded ops a.tmps)=M)
  (h:dG P md ops Q S D fuel (listed.setIfInBounds i J) (a.put oi.dst undef) w):dG P md ops Q S D (fuel+1) listed a w:=
 mX (S2:=fun _=>True) hi (Region.noSelect_spec hs) hQ (fun _ _ _ _ _ _ _ _=>trivial) fuel listed a w (Region.free_spec hi hf) (by simpa using hr) (.inr ⟨hg,rfl⟩) trivial h
theorem aH {i:Nat} {o:ρ} {fuel:Nat} {listed:Array Bool} {a:Γ} {w:U} (hr:ζ md ops listed=[i]) (ho:ops[i]? =some o)
  (h:∀K':Γ->U->Prop,(∀a' w',(D i=J\/(S w->S w'))->dG P md ops Q S D fuel (listed.setIfInBounds i J) a' w'->K' a' w')->if ι o (yielded ops a.tmps)=J then Oper.wp P o a w K' Q else K' (a.put o.dst undef) w):
  dG P md ops Q S D (fuel+1) listed a w:=by
 refine ⟨fun h0=>(by rw [hr] at h0;cases h0),fun j hj=> ?_⟩;rw [hr] at hj;obtain rfl:j=i:=by simpa using hj
 exact wpOp_step ho fun K' hK=>h K' fun a' w' h1 h2=>hK a' w' ⟨h1,h2⟩
theorem aM {listed:Array Bool} {a:Γ} {w:U} (hr:ζ md ops listed=[]) (h:Q .normal a w):
  ∀fuel,dG P md ops Q S D fuel listed a w
 | 0=>⟨hr,h⟩
 | _+1=>⟨fun _=>h,by rw [hr];simp⟩
theorem aO {id:Nat} {a:Γ} {w:U} (S:U->Prop) (D:Nat->Bool) (hm:P.follows .mixedOrders=J)
  (h:dG P .any ops Q S D ops.size (Array.replicate ops.size M) a w.drew):(Code.region id ops J).wp P Q a w:=
 wp_region_any hm (xW _ _ _ _ h)
theorem aBf {i d:Nat} {oi:ρ} {v:G} {fuel:Nat} {listed:Array Bool} {a:Γ} {w:U} (hi:ops[i]? =some oi)
  (hd:oi.dst=some d) (hs:θ ops=J) (hf:Region.free md ops listed i=J) (hr:(ζ md ops listed).contains i=J)
  (hQ:∀c a w,Q (.panic c) (a.put (some d) v) w->Q (.panic c) a w) (hg:ι oi (yielded ops a.tmps)=J) (hy:∀w,(z4 a.eval oi).run P w=.ok (.value v) w)
  (h:dG P md ops Q S D fuel (listed.setIfInBounds i J) (a.put (some d) v) w):dG P md ops Q S D (fuel+1) listed a w:=
 aCM hi hs hf hr (hd ▸ hQ) hg hy (hd ▸ h)
theorem aBg {i d:Nat} {oi:ρ} {v:G} {fuel:Nat} {listed:Array Bool} {a:Γ} {w:U} (hi:ops[i]? =some oi)
  (hd:oi.dst=some d) (hs:θ ops=J) (hf:Region.free md ops listed i=J) (hr:(ζ md ops listed).contains i=J)
  (hD:((σ ops.size).all fun j=> !D j || ((ops[j]?.map fun o=>o.after.any fun e=>Region.binds md e && e.on==i).getD M))=J)
  (hQ:∀c a w,Q (.panic c) (a.put (some d) v) w->Q (.panic c) a w) (hg:ι oi (yielded ops a.tmps)=J) (hy:∀w,S w->(z4 a.eval oi).run P w=.ok (.value v) w) (hS:S w)
  (h:dG P md ops Q S D fuel (listed.setIfInBounds i J) (a.put (some d) v) w):dG P md ops Q S D (fuel+1) listed a w:=
 aCN hi hs hf hr hD (hd ▸ hQ) hg hy hS (hd ▸ h)
theorem aBh {i d:Nat} {oi:ρ} {fuel:Nat} {listed:Array Bool} {a:Γ} {w:U} (hi:ops[i]? =some oi)
  (hd:oi.dst=some d) (hs:θ ops=J) (hf:Region.free md ops listed i=J) (hr:(ζ md ops listed).contains i=J)
  (hQ:∀c a w,Q (.panic c) (a.put (some d) undef) w->Q (.panic c) a w) (hg:ι oi (yielded ops a.tmps)=M)
  (h:dG P md ops Q S D fuel (listed.setIfInBounds i J) (a.put (some d) undef) w):dG P md ops Q S D (fuel+1) listed a w:=
 aCO hi hs hf hr (hd ▸ hQ) hg (hd ▸ h)
theorem dwp (i:Nat) (v:G) {d:Nat} {oi:ρ} {fuel:Nat} {listed:Array Bool} {a a':Γ} {w:U} (h:dG P md ops Q S D fuel (listed.setIfInBounds i J) a' w) (hi:ops[i]? =some oi:=by exact rfl)
  (hd:oi.dst=some d:=by exact rfl) (hs:Region.noSelect ops=true:=by kernel_rfl) (hf:Region.free md ops listed i=true:=by kernel_rfl) (hr:(Region.ready md ops listed).contains i=true:=by kernel_rfl)
  (hQ:∀c a w,Q (.panic c) (a.put (some d) v) w->Q (.panic c) a w:=by exact fun _ _ _ h=>h) (hg:Region.wanted oi (yielded ops a.tmps)=true:=by go_simp) (hy:∀w,(execOp a.eval oi).run P w=.ok (.value v) w:=by (intro u;go_simp))
  (ha:a.put (some d) v=a':=by (simp only [Act.put,List.setIfInBounds_toArray,List.set_cons_zero,List.set_cons_succ];rfl)):dG P md ops Q S D (fuel+1) listed a w:=
 aBf hi hd hs hf hr hQ hg hy (ha ▸ h)
theorem dws (i:Nat) {d:Nat} {oi:ρ} {fuel:Nat} {listed:Array Bool} {a a':Γ} {w:U} (h:dG P md ops Q S D fuel (listed.setIfInBounds i J) a' w) (hi:ops[i]? =some oi:=by exact rfl)
  (hd:oi.dst=some d:=by exact rfl) (hs:Region.noSelect ops=true:=by kernel_rfl) (hf:Region.free md ops listed i=true:=by kernel_rfl) (hr:(Region.ready md ops listed).contains i=true:=by kernel_rfl)
  (hQ:∀c a w,Q (.panic c) (a.put (some d) undef) w->Q (.panic c) a w:=by exact fun _ _ _ h=>h) (hg:Region.wanted oi (yielded ops a.tmps)=false:=by (go_simp <;> simp [undef]))
  (ha:a.put (some d) undef=a':=by (simp only [Act.put,List.setIfInBounds_toArray,List.set_cons_zero,List.set_cons_succ];rfl)):dG P md ops Q S D (fuel+1) listed a w:=
 aBh hi hd hs hf hr hQ hg (ha ▸ h)
theorem dwl (i:Nat) (v:G) {d:Nat} {oi:ρ} {fuel:Nat} {listed:Array Bool} {a a':Γ} {w:U} (h:dG P md ops Q S D fuel (listed.setIfInBounds i J) a' w) (hi:ops[i]? =some oi:=by exact rfl)
  (hd:oi.dst=some d:=by exact rfl) (hs:Region.noSelect ops=true:=by kernel_rfl) (hf:Region.free md ops listed i=true:=by kernel_rfl) (hr:(Region.ready md ops listed).contains i=true:=by kernel_rfl)
  (hD:((List.range ops.size).all fun j=> !D j || ((ops[j]?.map fun o=>o.after.any fun e=>Region.binds md e && e.on==i).getD false))=true:=by kernel_rfl)
  (hQ:∀c a w,Q (.panic c) (a.put (some d) v) w->Q (.panic c) a w:=by exact fun _ _ _ h=>h) (hg:Region.wanted oi (yielded ops a.tmps)=true:=by go_simp) (hS:S w) (hy:∀w,S w->(z4 a.eval oi).run P w=.ok (.value v) w)
  (ha:a.put (some d) v=a':=by (simp only [Act.put,List.setIfInBounds_toArray,List.set_cons_zero,List.set_cons_succ];rfl)):dG P md ops Q S D (fuel+1) listed a w:=
 aBg hi hd hs hf hr hD hQ hg hy hS (ha ▸ h)
end
end Go
