/- RLex, RParse, ARPrint, SR1, SIn, SRP, SR10, SRD, SI3, SIR, SRV, SSp. -/
import Derived.Deep.DeepCutAuto
import Derived.Lib.Overlaps
import Derived.Test.YtfedoljlipfhdaaGreatDoorROpsPw
import Derived.Test.YtfedoljlipfhdaaGreatDoorSR12Pw
set_option linter.unusedVariables false
set_option linter.unusedSimpArgs false
set_option maxHeartbeats 16000000
set_option maxRecDepth 100000
open Go.Proofs.Tryz renaming prog->U
open Go.RowKit renaming Hid->J,Below->H
open Nat renaming le_refl->G,zero_add->γ,zero_le->π,le_trans->Δ,mul_le_mul_right->x2
open Go renaming World->B,Value->M,heap_alloc_new->K,Calls->ι,setRow_other->μ,bodyPost_ret->ρ,setRow_heap->χ,Addr->Ψ,TypeId->Ω,cell_of_row->z8,run_loadVar_row->x6,maxLen->x9
open Go.RowKit.Below renaming refl->I,heap_alloc->y6
open Go.Instr renaming storeAt->N,sliceAt->ε,loadAt->ν,build->Ξ
open Bool renaming false->E,true->κ,eq_iff_iff->y8,and_eq_false_iff->x0,and_eq_true->x5
open List renaming getElem?_eq_getElem->O,length_take->α,suffix_cons->ζ,length_drop->η,length_cons->θ,length_append->ξ,getElem?_take_of_lt->σ,getElem?_drop->υ,append_nil->φ,take_of_length_le->ψ,drop_of_length_le->ω,nil_append->z3,mem_of_mem_drop->z4,eq_nil_of_length_eq_zero->z5,flatMap_append->z6,size_toArray->y3,append_assoc->y4,drop_eq_getElem_cons->y5,length_nil->y7,take_append_drop->y9,not_mem_nil->x4,mem_cons->x7
open Go.Builtin renaming append_->β,copy_->x8
open Array renaming length_toList->δ,getElem?_toList->Θ
open Go.Addr renaming add_mid->ο
open Go.ByteArray renaming toList_eq->τ
open Go.Value renaming oneCell'->Γ,slice->v4
open Go.IntKind renaming wrap_i64->Φ
open Go.Op renaming store->z7,build->x1
open Go.World renaming ownsRow_nil->z9,frozen?->x3
namespace Go.Proofs.YtfedoljlipfhdaaGreatDoor
open Go.RowKit
theorem aKj (c:UInt8) (r:List UInt8) (hl:(c:: r).length<=255) (w:B):ι U 154 #[.string (ba (c:: r))] w (fK w (c:: r) (Tk.one gnF trB pnF (c:: r))):=by
 have hz:0 < (ba (c:: r)).size:=by rw [size_mk];simp
 have h0:(ba (c:: r))[0]=c:=tQ (X:=[]) (Z:=r) rfl rfl hz;have D:∀u,CW 93 #[.int .u8 ((ba (c:: r))[0].toNat:Nat)] u (.bool (Ad.isD c)):=fun u=>by rw [h0];exact iH c u
 have L:∀u,CW 91 #[.int .u8 ((ba (c:: r))[0].toNat:Nat)] u (.bool (Ad.isL c)):=fun u=>by rw [h0];exact jO c u
 have no:∀d:UInt8,c ≠ d->(((ba (c:: r))[0].toNat:Int)==(d.toNat:Int))=E:=fun d h=>by rw [h0];exact int_ne h
 have yes:∀d:UInt8,c=d->(((ba (c:: r))[0].toNat:Int)==(d.toNat:Int))=κ:=fun d h=>by rw [h0,h];simp
 unfold Tk.one;simp only;by_cases hd:Ad.isD c=κ
 ·rw [if_pos hd];rw [hd] at D;have hsp:=vR Tk.dB (c:: r);have hlen:=congrArg List.length hsp;rw [ξ] at hlen;exact aKi (c:: r) (ba (c:: r)) (size_mk _) (fun k h h2=>mW _ k h h2) hl hz w D (kU (X:=[]) (Z:=(c:: r).dropWhile Tk.dB) (by rw [hsp];rfl) rfl (by simp)) (by omega)
   (fun u=>aIt (ba ((c:: r).takeWhile Tk.dB)) (by rw [size_mk];omega) u)
 have hd':Ad.isD c=E:=by simpa using hd
 rw [hd'] at D;rw [if_neg hd];by_cases h34:c=34
 ·rw [if_pos h34];subst h34;exact aG8 hz D (yes 34 rfl) ((aEH r hl _).mono fun e w' h=>h.q)
 rw [if_neg h34];by_cases h35:c=35
 ·rw [if_pos h35];exact aMg (c:: r) (ba (c:: r)) rfl (size_mk _) hl hz w D (no 34 h34) (yes 35 h35)
 rw [if_neg h35];by_cases hn:c=91\/c=36\/Ad.isL c=κ
 ·rw [if_pos hn];refine aAt hz D (no 34 h34) (no 35 h35) ?_ ((aEK hl).mono fun e w' h=>h.q);by_cases h91:c=91
  ·exact .inl (yes 91 h91)
  ·by_cases h36:c=36
   ·exact .inr (.inl ⟨no 91 h91,yes 36 h36⟩)
   ·rcases hn with h | h | h
    ·exact absurd h h91
    ·exact absurd h h36
    ·rw [h] at L;exact .inr (.inr ⟨no 91 h91,no 36 h36,L⟩)
 ·rw [if_neg hn];have hL:Ad.isL c=E:=by
   cases h:Ad.isL c
   ·rfl
   ·exact absurd (.inr (.inr h)) hn
  rw [hL] at L;exact aMj c r (c:: r) rfl (ba (c:: r)) rfl (size_mk _) hl hz w D (no 34 h34) (no 35 h35) (no 91 fun h=>hn (.inl h)) (no 36 fun h=>hn (.inr (.inl h))) L
theorem aBB:∀(k:Nat) (l s r:List UInt8),l.length<=k->Tk.cZ l=some (s,r)->r <:+l
 | 0,l,s,r,hk,h=>by have:l=[]:=z5 (by omega);subst this;cases h
 | k+1,[],s,r,hk,h=>by cases h
 | k+1,[c],s,r,hk,h=>by
  unfold Tk.cZ at h;split at h
  ·cases h;exact List.nil_suffix
  ·cases h
 | k+1,c:: d:: l,s,r,hk,h=>by
  unfold Tk.cZ at h;simp only [θ] at hk;split at h
  ·split at h
   ·cases hq:Tk.cZ l with
    | none=>rw [hq] at h;cases h
    | some p=>
     rw [hq] at h;cases h
     exact((aBB k l p.1 p.2 (by omega) hq).trans (ζ _ _)).trans (ζ _ _)
   ·cases h;exact ζ _ _
  ·cases hq:Tk.cZ (d:: l) with
   | none=>rw [hq] at h;cases h
   | some p=>
    rw [hq] at h;cases h
    exact(aBB k (d:: l) p.1 p.2 (by simp only [θ];omega) hq).trans (ζ _ _)
theorem aDo {b pre l m:List UInt8} {t:Tk.Tok} (h:Tk.gQ gnF trB b pre l=some (t,m)):m <:+l:=by
 unfold Tk.gQ at h;have hs:=List.dropWhile_suffix (p:=Tk.aQ) (l:=l);split at h
 ·rename_i q hq
  rw [hq] at hs;cases hp:Ad.lY gnF (pre++l.takeWhile Tk.aQ++33:: q.takeWhile Tk.aQ) with
  | none=>rw [hp] at h;cases h
  | some x=>
   rw [hp] at h;cases h
   exact((List.dropWhile_suffix _).trans (ζ _ _)).trans hs
 ·split at h
  ·split at h
   ·cases h;exact hs
   ·split at h
    ·cases h;exact hs
    ·cases h
  ·split at h
   ·cases h;exact hs
   ·cases h
theorem aMk {l m:List UInt8} {t:Tk.Tok} (h:Tk.one gnF trB pnF l=some (t,m)):m <:+l:=by
 cases l with
 | nil=>cases h
 | cons c r=>
  unfold Tk.one at h;simp only at h;split at h
  ·cases hp:pnF ((c:: r).takeWhile Tk.dB) with
   | none=>rw [hp] at h;cases h
   | some n=>
    rw [hp] at h;cases h
    exact List.dropWhile_suffix _
  ·split at h
   ·cases hq:Tk.cZ r with
    | none=>rw [hq] at h;cases h
    | some p=>
     rw [hq] at h;cases h
     exact(aBB r.length r p.1 p.2 (G _) hq).trans (ζ _ _)
   ·split at h
    ·unfold Tk.pV at h;cases hf: [1,2,3,4,5,6,7,8].find? fun i=>(Tk.eP i).isPrefixOf (c:: r) with
     | none=>rw [hf] at h;cases h
     | some i=>rw [hf] at h;cases h;exact List.drop_suffix _ _
    ·split at h
     ·unfold Tk.named at h;split at h
      ·rename_i m' he
       cases he
       cases ha:Ad.at_ 93 r with
       | none=>rw [ha] at h;cases h
       | some p=>
        obtain⟨a,q⟩:=p;rw [ha] at h;simp only at h;split at h
        ·have h1:=aDo h;have h2:q <:+r:=⟨a++ [93],by rw [at_eq ha];simp⟩
         exact(h1.trans h2).trans (ζ _ _)
        ·cases h
      ·exact aDo h
     ·rcases r with _ | ⟨d,r⟩
      ·simp only [Tk.opF] at h;split at h
       ·cases h;exact List.nil_suffix
       ·cases h
      ·simp only [Tk.opF] at h;split at h
       ·cases h;exact(ζ _ _).trans (ζ _ _)
       ·split at h
        ·cases h;exact ζ _ _
        ·cases h
theorem aKk {l m:List UInt8} (h:m <:+l):l.drop (l.length - m.length)=m:=by obtain⟨X,rfl⟩:=h;rw [ξ,show X.length+m.length - m.length=X.length by omega];exact List.drop_left
def aOF (w:B) (o:Option (List Tk.Tok)) (e:Ending) (w':B):Prop:=
 H w.heap.size w w'/\match o with
  | none=>e=.returned (.tuple #[.slice none 0 0,.int .i64 10])
  | some L=>∃v,e=.returned (.tuple #[v,.int .i64 0])/\fO 188 w.heap.size w' v (L.map tk)/\L.length<=255
def aMl (w:B) (l:List UInt8) (e:Ending) (w':B):Prop:=
 if 255 < l.length then e=.returned (.tuple #[.slice none 0 0,.int .i64 3])/\w'=w else aOF w (gY l) e w'
theorem aKl {W w2:B} {v:M} {L:List TT} (hb:H W.heap.size W w2) (ho:fO 188 W.heap.size w2 v L) (t:TT) (hn:L.length+1<=1000000):
  ∃v' w4,J ((β #[140,140] 140 #[v,.slice (some ⟨w2.heap.size+1,0,none⟩) 1 1]).run U ((w2.alloc (.cells (tcs t.k t.n t.s t.b t.h t.r t.c t.fr t.fc) 188)).alloc (.cells (tcs t.k t.n t.s t.b t.h t.r t.c t.fr t.fc) 188))=.ok v' w4)/\J (fO 188 W.heap.size w4 v' (L++ [t]))/\J (H W.heap.size W w4):=by
 have b3:H W.heap.size W ((w2.alloc (.cells (tcs t.k t.n t.s t.b t.h t.r t.c t.fr t.fc) 188)).alloc (.cells (tcs t.k t.n t.s t.b t.h t.r t.c t.fr t.fc) 188)):=aC (aC hb _) _;have o3:fO 188 W.heap.size ((w2.alloc (.cells (tcs t.k t.n t.s t.b t.h t.r t.c t.fr t.fc) 188)).alloc (.cells (tcs t.k t.n t.s t.b t.h t.r t.c t.fr t.fc) 188)) v L:=
  (ho.below (aC (I _ _) _)).below (aC (I _ _) _)
 obtain⟨v',w4,R,o4,g4,b4⟩:=aCZ (t:=t) (g:=w2.heap.size+1) (e':=188) (z:=(0,0)) Tryz.underlying140 aNq o3 (by
  have:=K (w2.alloc (.cells (tcs t.k t.n t.s t.b t.h t.r t.c t.fr t.fc) 188)) (.cells (tcs t.k t.n t.s t.b t.h t.r t.c t.fr t.fc) 188);rw [show (w2.alloc (.cells (tcs t.k t.n t.s t.b t.h t.r t.c t.fr t.fc) 188)).heap.size=w2.heap.size+1 by simp] at this;exact this) hn b3.size
 exact⟨v',w4,R,o4,b3.trans b4⟩
def aKm:M->Nat
 | .string A=>A.size
 | _=>0
theorem aHa (l:List UInt8) (w:B) (hl:255 < l.length):CW 108 #[.string (ba l)] w (.tuple #[.slice none 0 0,.int .i64 3]):=by
 have hs:(ba l).size=l.length:=size_mk l;have h1:(255:Int) < l.length:=by omega
 generalize ba l=A at *;generalize l.length=n at *;go_enter Tryz.func108,Tryz.ntmps108;go_wp2;go_ret2;exact⟨rfl,rfl⟩
theorem aEL (l:List UInt8) (w:B) (hl:l.length<=255):ι U 108 #[.string (ba l)] w (aOF w (gY l)):=by
 have hs:(ba l).size=l.length:=size_mk l;have h1:¬(255:Int) < l.length:=by omega
 generalize ho:gY l=o;have HO:J (gY l=o):=ho;clear ho;go_enter Tryz.func108,Tryz.ntmps108;go_wp2;clear hs h1;go_loopw [0,4] (fun s v wr=>∃(L:List Tk.Tok) (m:List UInt8),L.length+m.length<=255/\s=.string (ba m)/\J (o=(gY m).map (L++ ·))/\J (H w.heap.size w wr)/\J (fO 188 w.heap.size wr v (L.map tk))) (fun s _ _=>aKm s)
 case atStart=>exact⟨[],l,by simpa using hl,rfl,by show _=_;rw [<-HO.out];cases gY l <;> simp,I _ _,fO.nil _ _ _⟩
 case round=>
  obtain⟨L,m,hlen,rfl,HQ,HB,HW⟩:=hrel;clear HO;cases m with
  | nil=>
   have HN:J (o=some L):=by show _=_;rw [HQ.out];show some (L++ [])=_;rw [φ]
   have hem:(ba []).toList=[]:=by rw [τ]
   clear HQ;go_wp2;go_ret2;rw [HN.out];exact⟨HB.out,_,rfl,HW.out,by omega⟩
  | cons c r=>
   have hz:0 < (ba (c:: r)).size:=by rw [size_mk];simp
   have h0:(ba (c:: r))[0]=c:=tQ (X:=[]) (Z:=r) rfl rfl hz;have BL:∀u,CW 153 #[.int .u8 ((ba (c:: r))[0].toNat:Nat)] u (.bool (Tk.blank c)):=fun u=>by rw [h0];exact aEI c u
   have hne:((ba (c:: r)).toList==[])=E:=wD (c:: r);have hsz:(ba (c:: r)).size=r.length+1:=size_mk (c:: r);simp only [θ] at hlen;clear h0;cases hb:Tk.blank c with
   | true=>
    rw [hb] at BL;have HN:J (o=(gY r).map (L++ ·)):=by show _=_;rw [HQ.out,aAD hb]
    have HD:J ((ba (c:: r)).extract 1 (r.length+1)=ba r):=kU (X:=[c]) (Y:=r) (Z:=[]) (by simp) rfl (by simp;omega);have HD2:=HD.out;obtain⟨R,hR⟩:∃R,R=ba r:=⟨_,rfl⟩
    rw [<-hR] at HD2;have HR:J (R=ba r):=hR;have HM:J (aKm (.string R) < aKm (.string (ba (c:: r)))):=by show R.size < (ba (c:: r)).size;rw [hR,size_mk,size_mk];simp
    have hi1:(1:Int)<=(r.length:Int)+1:=by omega
    clear HQ HD hR;generalize ba (c:: r)=S at *;go_wp2_with (go_at_call 153;refine mw (BL _) ?_)
    go_roundw
    case rel=>exact⟨L,r,by omega,by rw [HR.out],HN,HB,HW⟩
    case measure=>exact HM.out
   | false=>
    rw [hb] at BL;have NX:=fun u=>aKj c r (by simp only [θ];omega) u;have hlx:=aC0 (r:=r) hb;cases h1:Tk.one gnF trB pnF (c:: r) with
    | none=>
     rw [h1] at NX hlx;have HN:J (o=none):=by show _=_;rw [HQ.out,hlx];rfl
     have NX':∀u,CR 154 #[.string (ba (c:: r))] u (.tuple #[.agg tk0,.int .i64 0]):=fun u=>(NX u).mono (by
      rintro e w' ⟨h,rfl⟩;exact⟨rfl,h⟩)
     clear NX HQ hlx;generalize ba (c:: r)=S at *;go_wp2_with (first|(go_at_call 153;refine mw (BL _) ?_)|(go_at_call 154;refine (NX' _).mono ?_;rintro e w3 ⟨rfl,hs⟩;have H3:J (H w.heap.size w w3):=aD HB.out hs;clear hs))
     go_ret2;rw [HN.out];exact⟨aC H3.out _,rfl⟩
    | some p=>
     obtain⟨t,q⟩:=p;have hql:=pE h1;have hqd:=aKk (aMk h1);rw [h1] at NX hlx;have HN:J (o=(gY q).map ((L++ [t])++ ·)):=by show _=_;rw [HQ.out,hlx];simp only;cases gY q <;> simp
     simp only [θ] at hql;have NX':∀u,CR 154 #[.string (ba (c:: r))] u (.tuple #[.agg (tcs (tk t).k (tk t).n (tk t).s (tk t).b (tk t).h (tk t).r (tk t).c (tk t).fr (tk t).fc),.int .i64 ((r.length+1 - q.length:Nat):Int)]):=fun u=>(NX u).mono (by
      rintro e w' ⟨h,rfl⟩;exact⟨rfl,h⟩)
     have HL:J ((L++ [t]).length+q.length<=255):=by show _<=_;simp;omega
     have HT:J (∀x,x=tk t->(L++ [t]).map tk=L.map tk++ [x]):=fun x e=>by rw [e];simp
     have HD:J ((ba (c:: r)).extract (r.length+1 - q.length) (r.length+1)=ba q):=by show _=_;have:=aBa (c:: r) (r.length+1 - q.length);simp only [θ] at this hqd;rw [this,hqd]
     obtain⟨R,hR⟩:∃R,R=ba q:=⟨_,rfl⟩
     have HD2:=HD.out;rw [<-hR] at HD2;have HR:J (R=ba q):=hR;have HM:J (aKm (.string R) < aKm (.string (ba (c:: r)))):=by show R.size < (ba (c:: r)).size;rw [hR,size_mk,size_mk];simp;omega
     clear NX HQ hlx h1 hqd HD hR;obtain⟨z,hz1⟩:∃z,z=r.length+1 - q.length:=⟨_,rfl⟩
     rw [<-hz1] at NX' HD2;have hz2:1<=z:=by omega
     have hz3:(z:Int)<=(r.length:Int)+1:=by omega
     have hz4:((z:Int)==0)=E:=by simp;omega
     clear hz1;generalize htt:tk t=tt at *;have HT2:J ((L++ [t]).map tk=L.map tk++ [tt]):=HT.out tt rfl;clear HT htt;generalize ba (c:: r)=S at *;go_wp2_with (first|(go_at_call 153;refine mw (BL _) ?_)|(go_at_call 154;refine (NX' _).mono ?_;rintro e w3 ⟨rfl,hs⟩;obtain⟨v',w4,RR,HO4,HB4⟩:=aKl (aD HB.out hs) (HW.out.below hs) tt (by have:=HL.out;simp at this ⊢;omega);clear hs)|(at_builtin;refine wpList_append_run rfl _ _ 140 rfl _ _ _ _ rfl rfl RR.out ?_))
     go_roundw
     case rel=>exact⟨L++ [t],q,HL.out,by rw [HR.out],HN,HB4,by show fO _ _ _ _ _;rw [HT2.out];exact HO4.out⟩
     case measure=>exact HM.out
theorem aKn (l:List UInt8) (w:B):ι U 108 #[.string (ba l)] w (aMl w l):=by
 unfold aMl;by_cases h:255 < l.length
 ·simp only [if_pos h];exact aHa l w h
 ·simp only [if_neg h];exact aEL l w (by omega)
end Go.Proofs.YtfedoljlipfhdaaGreatDoor
namespace Go.Proofs.YtfedoljlipfhdaaGreatDoor
open Go.RowKit Go.Fm
theorem kV {fn:Func} {p u:Tmp} (h:fn.results=#[.cell p 67,.tmp u]) {tmps:Array M} {w:B} {g:Nat} {es:Array M} {x:M}
  (hp:tmps.getD p undef=pt g) (hu:tmps.getD u undef=x) (h2:w.heap[g]? =some (.cells es 67)) (he:es.size=18):
  (results fn tmps).run U w=.ok (.tuple #[.agg es,x]) w:=by
 have hp':tmps[p]?.getD undef=pt g:=by simpa using hp
 have hu':tmps[u]?.getD undef=x:=by simpa using hu
 have r2:=x6 (P:=U) w g 67 67 es (0,0) _ h2 Tryz.underlying67 rfl (by rw [he];exact iO);simp [results,h,hp',hu',asAddr,r2]
def PB (w:B) (p:T × Int) (e:Ending) (w':B):Prop:=∃es,e=.returned (.tuple #[.agg es,.int .i64 p.2])/\NT w' es p.1/\H w.heap.size w w'
theorem tT {w u:B} {es:Array M} (hn:NA es) (h:u.heap[w.heap.size]? =some (.cells nd0 67)) (hb:H w.heap.size w u):J ((N 67 (pt w.heap.size) (.agg es)).run U u=.ok () (u.setRow w.heap.size es))/\J ((u.setRow w.heap.size es).heap[w.heap.size]? =some (.cells es 67))/\J (H w.heap.size w (u.setRow w.heap.size es))/\J (es.size=18):=
 ⟨hn.sto h rfl,χ _ _ _ _ _ _ h,hb.grown (aK _ _ _) hb.size (fun j e=>by cases e;exact G _),hn.size⟩
section
variable {w:B} {l:List UInt8}
theorem yZ {A:ByteArray} {c:Int} (hc:(c !=0)=κ) (L:CR 108 #[.string A] (w.alloc (.cells nd0 67)) (.tuple #[.slice none 0 0,.int .i64 c])):
  ι U 75 #[.string A] w (PB w (qC,c)):=by
 have L':ι U 108 #[.string A] (w.alloc (.cells nd0 67)) fun e w1=>e=.returned (.tuple #[.slice none 0 0,.int .i64 c])/\J ((N 67 (pt w.heap.size) (.agg nd0)).run U w1=.ok () (w1.setRow w.heap.size nd0))/\J ((w1.setRow w.heap.size nd0).heap[w.heap.size]? =some (.cells nd0 67))/\J (H w.heap.size w (w1.setRow w.heap.size nd0)):=L.mono (by
  rintro e w1 ⟨rfl,h⟩;obtain⟨a1,a2,a3,a4⟩:=tT (w:=w) NA.zero ((h.block _ (by simp)).trans (K w _)) (aD (aC (I _ _) _) h);exact⟨rfl,a1,a2,a3⟩)
 have RB:J (∀u,(Ξ 67 #[]).run U u=.ok (.agg nd0) u):=rA;clear L;go_enter Tryz.func75,Tryz.ntmps75;go_wp2_with (first|(go_at_call 108;refine L'.mono ?_;rintro e w1 ⟨rfl,RS,HG,HF⟩)|(refine aL rfl 67 _ rfl _ _ rfl (RB.out _) ?_)|(refine aA rfl 67 _ _ rfl _ _ _ rfl rfl RS.out ?_;clear RS))
 exact ρ (kV rfl rfl rfl HG.out rfl) rfl ⟨nd0,rfl,pI _,HF.out⟩
theorem aKo {w w1:B} {v:M} {ts:List Tk.Tok} (T:dS w1) (ho:fO 188 (w.alloc (.cells nd0 67)).heap.size w1 v (ts.map tk)) (hok:OkL ts):QR w1 w1.heap.size ts (w1.alloc (rpO v E)):=
 ⟨T,aC (I _ _) _,G _,hok,v,K _ _,TS.of ho⟩
theorem aMm (u:B) (a:Option Ψ) (n c:Nat):(Ξ 145 #[(0,.slice a n c)]).run U u=.ok (.agg #[.slice a n c,.bool E]) u:=by kernel_rfl
theorem aEM {w w1 w2:B} {v:M} {ts:List Tk.Tok} {o:Option (T × List Tk.Tok)} {es:Array M} (hb:H (w.alloc (.cells nd0 67)).heap.size (w.alloc (.cells nd0 67)) w1) (hn:NA es) (h:RA w1 w1.heap.size (w1.alloc (rpO v E)) o es w2):
  J ((N 67 (pt w2.heap.size) (.agg es)).run U (w2.alloc (.cells nd0 67))=.ok () (w2.alloc (.cells es 67)))/\(w2.alloc (.cells es 67)).heap[w.heap.size]? =some (.cells nd0 67)/\H w.heap.size w (w2.alloc (.cells es 67))/\(w2.alloc (.cells es 67)).heap[w2.heap.size]? =some (.cells es 67):=by
 have hg:=h.grow;have hz1:w.heap.size < w1.heap.size:=by have:=hb.size;simp at this;omega
 have B1:H w.heap.size w (w1.alloc (rpO v E)):=aC (aD (aC (I _ _) _) hb) _;have B2:H w.heap.size w w2:=B1.grown hg B1.size (fun k e=>by cases e;omega);have k0:(w1.alloc (rpO v E)).heap[w.heap.size]? =some (.cells nd0 67):=(y6 _ _ _ hz1).trans ((hb.block _ (by simp)).trans (K w _));have k2:w2.heap[w.heap.size]? =some (.cells nd0 67):=h.kept k0 (by omega);exact⟨run_storeAt_new w2 67 nd0 _ (by rw [hn.size];exact iO) (by rw [hn.size];rfl) hn.one,(y6 _ _ _ (bA k2)).trans k2,aC B2 _,K _ _⟩
theorem aDp {A:ByteArray} {ts:List Tk.Tok} (T:dS w) (hok:OkL ts) (hts:ts.length<=255) (L:ι U 108 #[.string A] (w.alloc (.cells nd0 67)) fun e w1=>∃v,e=.returned (.tuple #[v,.int .i64 0])/\fO 188 (w.alloc (.cells nd0 67)).heap.size w1 v (ts.map tk)/\H (w.alloc (.cells nd0 67)).heap.size (w.alloc (.cells nd0 67)) w1):
  ι U 75 #[.string A] w (PB w (match qX ts with
   | none=>(qC,10)
   | some t=>(t,0))):=by
 have L':ι U 108 #[.string A] (w.alloc (.cells nd0 67)) fun e w1=>∃a n c,e=.returned (.tuple #[.slice a n c,.int .i64 0])/\J (H (w.alloc (.cells nd0 67)).heap.size (w.alloc (.cells nd0 67)) w1)/\J (QR w1 w1.heap.size ts (w1.alloc (rpO (.slice a n c) E))):=L.mono (by
  rintro e w1 ⟨v,rfl,ho,hb⟩;obtain⟨a,c,rfl⟩:=ho.slice;exact⟨a,_,c,rfl,hb,aKo ((T.below (aC (I _ _) _)).below hb) ho hok⟩)
 have RB:J (∀u,(Ξ 67 #[]).run U u=.ok (.agg nd0) u):=rA;have RP:J (∀u a n c,(Ξ 145 #[(0,.slice a n c)]).run U u=.ok (.agg #[.slice a n c,.bool E]) u):=aMm;cases hP:PP 1 ts with
 | none=>
  have hall:qX ts=none:=by unfold qX;rw [hP]
  rw [hall];have C:J (∀w1 v,QR w1 w1.heap.size ts (w1.alloc (rpO v E))->H (w.alloc (.cells nd0 67)).heap.size (w.alloc (.cells nd0 67)) w1->ι U 109 #[pt w1.heap.size,.int .i64 1] (w1.alloc (rpO v E)) fun e w2=>∃es,e=.returned (.agg es)/\
    J ((N 67 (pt w2.heap.size) (.agg es)).run U (w2.alloc (.cells nd0 67))=.ok () (w2.alloc (.cells es 67)))/\(w2.alloc (.cells es 67)).cell? ⟨w1.heap.size,1,none⟩=some (.bool κ)/\
    J ((N 67 (pt w.heap.size) (.agg nd0)).run U (w2.alloc (.cells es 67))=.ok () ((w2.alloc (.cells es 67)).setRow w.heap.size nd0))/\J (((w2.alloc (.cells es 67)).setRow w.heap.size nd0).heap[w.heap.size]? =some (.cells nd0 67))/\J (H w.heap.size w ((w2.alloc (.cells es 67)).setRow w.heap.size nd0))):=fun w1 v hq hb=>(oI (by omega) hq).mono (by
   rintro e w2 ⟨es,rfl,hn,h⟩;rw [hP] at h;have h':Sw w1 w1.heap.size (w1.alloc (rpO v E)) w2:=h;obtain⟨r1,r2,r3,r4⟩:=aEM (ts:=ts) hb hn (o:=none) h;obtain⟨a1,a2,a3,a4⟩:=tT (w:=w) NA.zero r2 r3;exact⟨es,rfl,r1,(h'.alloc (.cells es 67)).1.yes,a1,a2,a3⟩)
  clear L hok T hts hall hP;go_enter Tryz.func75,Tryz.ntmps75;go_wp2_with (first|(go_at_call 108;refine L'.mono ?_;rintro e w1 ⟨a,n,c,rfl,HB,HQ⟩)|(refine aL rfl 145 _ rfl _ _ (by go_simp) (RP.out _ _ _ _) ?_)|(go_at_call 109;refine (C.out _ _ HQ.out HB.out).mono ?_;rintro e w2 ⟨es,rfl,RS1,hyes,RS,HG,HF⟩)|(refine aA rfl 67 _ _ rfl _ _ _ rfl rfl RS1.out ?_;clear RS1)|(refine aL rfl 67 _ rfl _ _ rfl (RB.out _) ?_)|(refine aA rfl 67 _ _ rfl _ _ _ rfl rfl RS.out ?_;clear RS))
  exact ρ (kV rfl rfl rfl HG.out rfl) rfl ⟨nd0,rfl,pI _,HF.out⟩
 | some p=>
  obtain⟨t,r⟩:=p;have hlt:=jC upF trF (by omega) _ t r hP;have hzt:zT t+r.length<=ts.length:=aJC upF trF (G _) _ _ _ hP;cases r with
  | cons x r=>
   have hall:qX ts=none:=by unfold qX;rw [hP]
   rw [hall];have C:J (∀w1 v,QR w1 w1.heap.size ts (w1.alloc (rpO v E))->H (w.alloc (.cells nd0 67)).heap.size (w.alloc (.cells nd0 67)) w1->ι U 109 #[pt w1.heap.size,.int .i64 1] (w1.alloc (rpO v E)) fun e w2=>∃es a n c,e=.returned (.agg es)/\
     J ((N 67 (pt w2.heap.size) (.agg es)).run U (w2.alloc (.cells nd0 67))=.ok () (w2.alloc (.cells es 67)))/\(w2.alloc (.cells es 67)).cell? ⟨w1.heap.size,1,none⟩=some (.bool E)/\(w2.alloc (.cells es 67)).cell? ⟨w1.heap.size,0,none⟩=some (.slice a n c)/\(0:Int) < (n:Int)/\
     J ((N 67 (pt w.heap.size) (.agg nd0)).run U (w2.alloc (.cells es 67))=.ok () ((w2.alloc (.cells es 67)).setRow w.heap.size nd0))/\J (((w2.alloc (.cells es 67)).setRow w.heap.size nd0).heap[w.heap.size]? =some (.cells nd0 67))/\J (H w.heap.size w ((w2.alloc (.cells es 67)).setRow w.heap.size nd0))):=fun w1 v hq hb=>(oI (by omega) hq).mono (by
    rintro e w2 ⟨es,rfl,hn,h⟩;rw [hP] at h;have h':Sq w1 w1.heap.size (x:: r) (w1.alloc (rpO v E)) w2:=h.2;obtain⟨r1,r2,r3,r4⟩:=aEM (ts:=ts) hb hn (o:=some (t,x:: r)) h;obtain⟨a1,a2,a3,a4⟩:=tT (w:=w) NA.zero r2 r3;obtain⟨u,hu,hs⟩:=(h'.alloc (.cells es 67)).1.blk;obtain⟨a,c,rfl⟩:=hs.slice;exact⟨es,a,_,c,rfl,r1,(bX hu).2.1,(bX hu).1,by simp,a1,a2,a3⟩)
   clear L hok T hts hall hP;go_enter Tryz.func75,Tryz.ntmps75;go_wp2_with (first|(go_at_call 108;refine L'.mono ?_;rintro e w1 ⟨a,n,c,rfl,HB,HQ⟩)|(refine aL rfl 145 _ rfl _ _ (by go_simp) (RP.out _ _ _ _) ?_)|(go_at_call 109;refine (C.out _ _ HQ.out HB.out).mono ?_;rintro e w2 ⟨es,a2,n2,c2,rfl,RS1,hno,hsl,hpos,RS,HG,HF⟩)|(refine aA rfl 67 _ _ rfl _ _ _ rfl rfl RS1.out ?_;clear RS1)|(refine aL rfl 67 _ rfl _ _ rfl (RB.out _) ?_)|(refine aA rfl 67 _ _ rfl _ _ _ rfl rfl RS.out ?_;clear RS))
   exact ρ (kV rfl rfl rfl HG.out rfl) rfl ⟨nd0,rfl,pI _,HF.out⟩
  | nil=>
   have C:J (∀w1 v,QR w1 w1.heap.size ts (w1.alloc (rpO v E))->H (w.alloc (.cells nd0 67)).heap.size (w.alloc (.cells nd0 67)) w1->ι U 109 #[pt w1.heap.size,.int .i64 1] (w1.alloc (rpO v E)) fun e w2=>∃es a c,e=.returned (.agg es)/\
     J ((N 67 (pt w2.heap.size) (.agg es)).run U (w2.alloc (.cells nd0 67))=.ok () (w2.alloc (.cells es 67)))/\(w2.alloc (.cells es 67)).cell? ⟨w1.heap.size,1,none⟩=some (.bool E)/\(w2.alloc (.cells es 67)).cell? ⟨w1.heap.size,0,none⟩=some (.slice a 0 c)/\
     J ((ν 67 (pt w2.heap.size)).run U (w2.alloc (.cells es 67))=.ok (.agg es) (w2.alloc (.cells es 67)))/\
     J (ι U 45 #[.agg es] (w2.alloc (.cells es 67)) fun e w4=>e=.returned (.int .i64 (dT t:Nat))/\J ((N 67 (pt w.heap.size) (.agg nd0)).run U w4=.ok () (w4.setRow w.heap.size nd0))/\J ((w4.setRow w.heap.size nd0).heap[w.heap.size]? =some (.cells nd0 67))/\J (H w.heap.size w (w4.setRow w.heap.size nd0))/\
      J ((ν 67 (pt w2.heap.size)).run U w4=.ok (.agg es) w4)/\J ((N 67 (pt w.heap.size) (.agg es)).run U w4=.ok () (w4.setRow w.heap.size es))/\J ((w4.setRow w.heap.size es).heap[w.heap.size]? =some (.cells es 67))/\J (H w.heap.size w (w4.setRow w.heap.size es))/\J (es.size=18)/\J (NT (w4.setRow w.heap.size es) es t))):=fun w1 v hq hb=>(oI (by omega) hq).mono (by
    rintro e w2 ⟨es,rfl,hn,h⟩;rw [hP] at h;have h':Sq w1 w1.heap.size [] (w1.alloc (rpO v E)) w2:=h.2;have hN:NK (fun i=>(w1.alloc (rpO v E)).heap.size<=i) w2 es t:=h.1;obtain⟨r1,r2,r3,r4⟩:=aEM (ts:=ts) hb hn (o:=some (t,[])) h;obtain⟨u,hu,hs⟩:=(h'.alloc (.cells es 67)).1.blk;obtain⟨a,c,rfl⟩:=hs.slice;have hN3:=hN.below (aC (I _ _) (.cells es 67));have hz1:w.heap.size < w1.heap.size:=by have:=hb.size;simp at this;omega
    refine ⟨es,a,c,rfl,r1,(bX hu).2.1,(bX hu).1,hn.lod r4,(aEG t (by omega) _ es hN3.nt).mono ?_⟩;rintro e w4 ⟨rfl,h4⟩;have k2:=(h4.block _ (bA r2)).trans r2;have k4:=(h4.block _ (bA r4)).trans r4;have B4:=aD r3 h4;obtain⟨a1,a2,a3,a4⟩:=tT (w:=w) NA.zero k2 B4;obtain⟨b1,b2,b3,b4⟩:=tT (w:=w) hn k2 B4;refine ⟨rfl,a1,a2,a3,hn.lod k4,b1,b2,b3,b4,((hN3.below h4).grown (aK _ _ _) (fun g e hk=> ?_)).nt⟩;cases e
    have hk':(w1.alloc (rpO v E)).heap.size<=w.heap.size:=hk;simp at hk';omega)
   by_cases hd:dT t<=24
   ·have hall:qX ts=some t:=by unfold qX;rw [hP];simp only;rw [if_pos hd]
    rw [hall];have hdi:¬(24:Int) < ((dT t:Nat):Int):=by omega
    clear L hok T hts hall hP hd;generalize ((dT t:Nat):Int)=dd at *;go_enter Tryz.func75,Tryz.ntmps75;go_wp2_with (first|(go_at_call 108;refine L'.mono ?_;rintro e w1 ⟨a,n,c,rfl,HB,HQ⟩)|(refine aL rfl 145 _ rfl _ _ (by go_simp) (RP.out _ _ _ _) ?_)|(go_at_call 109;refine (C.out _ _ HQ.out HB.out).mono ?_;rintro e w2 ⟨es,a2,c2,rfl,RS1,hno,hsl,RL3,CD⟩)|(refine aA rfl 67 _ _ rfl _ _ _ rfl rfl RS1.out ?_;clear RS1)|(refine jL 67 _ rfl _ _ rfl RL3.out (by go_simp) ?_;clear RL3)|(go_at_call 45;refine CD.out.mono ?_;rintro e w4 ⟨rfl,RSz,HGz,HFz,RL4,RS,HG,HF,HZ,HNT⟩)|(refine aB rfl 67 _ rfl _ _ rfl RL4.out ?_;clear RL4)|(refine aA rfl 67 _ _ rfl _ _ _ rfl rfl RS.out ?_;clear RS))
    exact ρ (kV rfl rfl rfl HG.out HZ.out) rfl ⟨_,rfl,HNT.out,HF.out⟩
   ·have hall:qX ts=none:=by unfold qX;rw [hP];simp only;rw [if_neg hd]
    rw [hall];have hdi:(24:Int) < ((dT t:Nat):Int):=by omega
    clear L hok T hts hall hP hd;generalize ((dT t:Nat):Int)=dd at *;go_enter Tryz.func75,Tryz.ntmps75;go_wp2_with (first|(go_at_call 108;refine L'.mono ?_;rintro e w1 ⟨a,n,c,rfl,HB,HQ⟩)|(refine aL rfl 145 _ rfl _ _ (by go_simp) (RP.out _ _ _ _) ?_)|(go_at_call 109;refine (C.out _ _ HQ.out HB.out).mono ?_;rintro e w2 ⟨es,a2,c2,rfl,RS1,hno,hsl,RL3,CD⟩)|(refine aA rfl 67 _ _ rfl _ _ _ rfl rfl RS1.out ?_;clear RS1)|(refine jL 67 _ rfl _ _ rfl RL3.out (by go_simp) ?_;clear RL3)|(go_at_call 45;refine CD.out.mono ?_;rintro e w4 ⟨rfl,RS,HG,HF,RL4,RSe,HGe,HFe,HZ,HNT⟩)|(refine aL rfl 67 _ rfl _ _ rfl (RB.out _) ?_)|(refine aA rfl 67 _ _ rfl _ _ _ rfl rfl RS.out ?_;clear RS))
    exact ρ (kV rfl rfl rfl HG.out rfl) rfl ⟨nd0,rfl,pI _,HF.out⟩
end
theorem aEN (l:List UInt8) (w:B) (T:dS w):ι U 75 #[.string (ba l)] w (PB w (uX l)):=by
 have R:=aKn l (w.alloc (.cells nd0 67));unfold uX;by_cases h:255 < l.length
 ·rw [if_pos h];unfold aMl at R;simp only [if_pos h] at R;exact yZ (by decide) (R.mono (by rintro e w1 ⟨rfl,rfl⟩;exact⟨rfl,I _ _⟩))
 ·rw [if_neg h];unfold aMl at R;simp only [if_neg h] at R;cases hx:gY l with
  | none=>
   rw [hx] at R;exact yZ (by decide) (R.mono (by rintro e w1 ⟨h1,rfl⟩;exact⟨rfl,h1⟩))
  | some ts=>
   rw [hx] at R;have hts:ts.length<=255:=aJF hx (by omega);exact aDp T (fun x hxm=>⟨aJl hx x hxm,aJn (by omega) hx x hxm⟩) hts (R.mono (by
    rintro e w1 ⟨h1,v,rfl,h2,h3⟩;exact⟨v,rfl,h2,h1⟩))
end Go.Proofs.YtfedoljlipfhdaaGreatDoor
namespace Go.Proofs.YtfedoljlipfhdaaGreatDoor
open Go.RowKit
theorem aNN (r c:Int) (hi:inB r c=E) (w:B):CR 97 #[.int .i64 r,.int .i64 c] w (.string ⟨#[]⟩):=by
 have IN:=fun u=>rO r c u;rw [hi] at IN;clear hi;go_enter Tryz.func97,Tryz.ntmps97;go_wp2_with (go_at_call 145;refine mw (IN _) ?_)
 go_ret;exact⟨rfl,I _ _⟩
theorem aMn (r c:Int) (w:B):CR 97 #[.int .i64 r,.int .i64 c] w (.string (ctB r c)):=by
 unfold ctB;cases hi:inB r c
 ·exact aNN r c hi w
 ·obtain ⟨R,C,rfl,rfl,q1,q2,q3,q4⟩:=aM2 hi;exact aK0 R C hi q1 q2 q3 q4 w
end Go.Proofs.YtfedoljlipfhdaaGreatDoor
namespace Go.Proofs.YtfedoljlipfhdaaGreatDoor.Sh
open Go.RowKit Go.Fm
theorem aKp (r c:Int):inB r c=lT r c:=by unfold inB lT;rw [y8];simp;omega
theorem aOG (r c:Int) (h:lT r c=κ):(ctB r c).toList ≠ []:=by rw [<-aKp] at h;unfold ctB;rw [if_pos h];unfold bV Ad.cellW;rw [τ];simp
theorem aDq (r c:Int) (w:B):CR 59 #[.int .i64 r,.int .i64 c] w (.bool (lT r c)):=by
 have C:=aMn r c w;cases hin:lT r c with
 | false=>
  have e:ctB r c=⟨#[]⟩:=by unfold ctB;rw [aKp,hin];rfl
  rw [e] at C;clear e hin;go_enter Tryz.func59,Tryz.ntmps59;go_wp2_with (go_at_call 97;refine C.mono ?_;clear C;rintro e w1 ⟨rfl,hb⟩;have HB:J _:=hb;clear hb)
  go_ret;exact⟨rfl,HB.out⟩
 | true=>
  have hne:=aOG r c hin;have hb0:((ctB r c).toList==[])=E:=by simpa using hne
  generalize ctB r c=s at *;clear hin hne;go_enter Tryz.func59,Tryz.ntmps59;go_wp2_with (go_at_call 97;refine C.mono ?_;clear C;rintro e w1 ⟨rfl,hb⟩;have HB:J _:=hb;clear hb)
  go_ret;exact⟨rfl,HB.out⟩
theorem aNO (a b:aN):decide (jT a b < 0)=ltB a b:=by rw [y8,oW,decide_eq_true_iff];exact wE
theorem aEO (x y:aN) (w:B):CR 94 #[cellV x,cellV y] w (.bool (ltB y x)):=by
 have HB:J (H w.heap.size w ((w.alloc (ceO x)).alloc (ceO y))):=Sh.aC (Sh.aC (I _ _) (G _) _) (G _) _;have h1:((w.alloc (ceO x)).alloc (ceO y)).heap[w.heap.size]? =some (ceO x):=by rw [((I (w.alloc (ceO x)).heap.size (w.alloc (ceO x))).alloc (G _) (ceO y)).block _ (by simp)];exact K w _
 have h2:((w.alloc (ceO x)).alloc (ceO y)).heap[w.heap.size+1]? =some (ceO y):=by have:=K (w.alloc (ceO x)) (ceO y);rw [show (w.alloc (ceO x)).heap.size=w.heap.size+1 by simp] at this;exact this
 obtain⟨a0,a1,a2⟩:=fH h1;obtain⟨b0,b1,b2⟩:=fH h2;have HL:J (ltB y x=decide (y.row < x.row\/y.row=x.row/\y.col < x.col)):=rfl;generalize ltB y x=r at *;obtain⟨xr,xc,xt⟩:=x;obtain⟨yr,yc,yt⟩:=y;dsimp only at *;clear h1 h2;by_cases e1:yr < xr
 ·obtain rfl:r=κ:=HL.out.trans (by simp [e1]);go_enter Tryz.func94,Tryz.ntmps94;go_wp2;go_ret;exact⟨rfl,HB.out⟩
 ·by_cases e2:xr=yr
  ·subst e2;by_cases e3:yc < xc
   ·obtain rfl:r=κ:=HL.out.trans (by simp [e3]);go_enter Tryz.func94,Tryz.ntmps94;go_wp2;go_ret;exact⟨rfl,HB.out⟩
   ·obtain rfl:r=E:=HL.out.trans (by simp;omega);go_enter Tryz.func94,Tryz.ntmps94;go_wp2;go_ret;exact⟨rfl,HB.out⟩
  ·obtain rfl:r=E:=HL.out.trans (by simp;omega);go_enter Tryz.func94,Tryz.ntmps94;go_wp2;go_ret;exact⟨rfl,HB.out⟩
theorem aMo (l:List UInt8) (h:l.length<=255):(uX l).2=0\/(uX l).2=10:=by
 unfold uX;rw [if_neg (by omega)];split
 ·exact .inr rfl
 ·split
  ·exact .inr rfl
  ·exact .inl rfl
theorem aEP (s:ByteArray):(s.data.toList=[]/\(Ad.strip 61 s.data.toList).1=E)\/∃x r,s.data.toList=x:: r/\((x=61/\Ad.strip 61 s.data.toList=(κ,r))\/(x ≠ 61/\(Ad.strip 61 s.data.toList).1=E)):=by
 cases h:s.data.toList with
 | nil=>exact .inl ⟨rfl,rfl⟩
 | cons x r=>
  refine .inr ⟨x,r,rfl, ?_⟩;by_cases e:x=61
  ·exact .inl ⟨e,by subst e;simp [Ad.strip]⟩
  ·exact .inr ⟨e,by simp [Ad.strip,e]⟩
theorem aKq (s:ByteArray) (w:B) (T:dS w):CR 27 #[.string s] w (.int .i64 (gJ s)):=by
 by_cases hlong:255 < s.size
 ·have hm:gJ s=3:=by unfold gJ;rw [if_pos hlong]
  rw [hm];have hli:(255:Int) < s.size:=by omega
  go_enter Tryz.func27,Tryz.ntmps27;go_wp2;go_ret;exact⟨rfl,I _ _⟩
 have hli:¬(255:Int) < s.size:=by omega
 have hsz:s.data.toList.length=s.size:=by cases s;simp [ByteArray.size]
 rcases aEP s with ⟨h1,h2⟩ | ⟨x,r,h1,⟨rfl,h2⟩ | ⟨h2,h3⟩⟩
 ·have hm:gJ s=0:=by unfold gJ;rw [if_neg hlong,h2];rfl
  rw [hm];have e0:(s.toList==[])=κ:=by rw [τ,h1];rfl
  clear h1 h2 hm hsz;go_enter Tryz.func27,Tryz.ntmps27;go_wp2;go_ret;exact⟨rfl,I _ _⟩
 ·have hpe:=aMo r (by rw [h1] at hsz;simp at hsz;omega);have hm:gJ s=(uX r).2:=by unfold gJ;rw [if_neg hlong,h2];rcases hpe with h | h <;> simp [h]
  rw [hm];have e0:(s.toList==[])=E:=by rw [τ,h1];rfl
  have hrl:r.length=s.size - 1:=by rw [<-hsz,h1];simp
  have hnn:0 < s.size:=by rw [<-hsz,h1];simp
  have hn0:(0:Int) < s.size:=by omega
  have hidx:s[0]'hnn=61:=by
   show s.data[0]'(by have:s.data.size=s.size:=rfl;omega)=61;have:s.data.toList[0]? =some 61:=by rw [h1];rfl
   rw [Θ] at this;exact(Array.getElem?_eq_some_iff.1 this).2
  have hcut:s.extract 1 s.size=ba r:=by apply ByteArray.ext;apply Array.ext';rw [ByteArray.data_extract,Array.toList_extract,h1];show (List.drop 1 (61:: r)).take (s.size - 1)=r;rw [List.drop_succ_cons,List.drop_zero,ψ (by omega)]
  have P2:ι U 75 #[.string (ba r)] w fun e w'=>∃es,e=.returned (.tuple #[.agg es,.int .i64 (uX r).2])/\J ((N 67 (pt w'.heap.size) (.agg es)).run U (w'.alloc (.cells nd0 67))=.ok () (w'.alloc (.cells es 67)))/\J (H w.heap.size w (w'.alloc (.cells es 67))):=(aEN r w T).mono (by
   rintro e w1 ⟨es,rfl,hN,hb⟩;exact⟨es,rfl,(aCS w1 hN).1,Sh.aC hb (G _) _⟩)
  clear h1 h2 hm hsz hpe hrl;generalize (uX r).2=pe at *;generalize ba r=rs at *;go_enter Tryz.func27,Tryz.ntmps27;go_wp2_with (first|(go_at_call 75;refine P2.mono ?_;clear P2;rintro e w1 ⟨es,rfl,RS,HB⟩)|(refine aA rfl 67 _ _ rfl _ _ _ rfl rfl RS.out ?_;clear RS))
  go_ret;exact⟨rfl,HB.out⟩
 ·have hm:gJ s=0:=by unfold gJ;rw [if_neg hlong,h3];rfl
  rw [hm];have e0:(s.toList==[])=E:=by rw [τ,h1];rfl
  have hnn:0 < s.size:=by rw [<-hsz,h1];simp
  have hn0:(0:Int) < s.size:=by omega
  have hidx:s[0]'hnn=x:=by
   show s.data[0]'(by have:s.data.size=s.size:=rfl;omega)=x;have:s.data.toList[0]? =some x:=by rw [h1];rfl
   rw [Θ] at this;exact(Array.getElem?_eq_some_iff.1 this).2
  have hx:((x.toNat:Int)==61)=E:=by have:x.toNat ≠ 61:=fun h=>h2 (UInt8.toNat_inj.1 h);simp;omega
  clear h1 h2 h3 hm hsz;go_enter Tryz.func27,Tryz.ntmps27;go_wp2;go_ret;exact⟨rfl,I _ _⟩
theorem aEQ {lo hi:Nat} {w:B} {a:Option Ψ} {c:Nat} {L:List aN} (h:Cls lo hi w (.slice a L.length c) L) (hhi:hi<=w.heap.size) (T:dS w):
  CR 50 #[.slice a L.length c] w (.int .i64 (dM L)):=by
 obtain⟨_,_,he,hz1,hz2⟩:=h.slice;cases he
 have hlen:L.length<=9223372036854775807:=by unfold x9 at hz2;omega
 have HS:J (Cls lo hi w (.slice a L.length c) L):=h;have HT:J (dS w):=T;generalize hO:dM L=tf;have HO:J (dM (L.drop 0)=tf):=by show _=_;rw [List.drop_zero];exact hO
 clear h hz1 hz2 hO T;go_enter Tryz.func50,Tryz.ntmps50;go_wp2;go_loopw [8] (fun i wr=>∃(k:Nat),k<=L.length/\i=.int .i64 (k:Nat)/\J (dM (L.drop k)=tf)/\J (H w.heap.size w wr)) (fun i _=>L.length - (intOf i).toNat)
 case atStart=>exact⟨0,π _,rfl,HO,I _ _⟩
 case round=>
  obtain⟨k,hk,rfl,HA,HD⟩:=hrel;clear HO;by_cases hkL:k < L.length
  ·have hki:(k:Int) < L.length:=by omega
   obtain⟨a',ov,W',rfl,rfl,hW',R2,R3, -⟩:=(HS.out.below hhi HD.out).runs hkL;obtain⟨_,_,c2⟩:=fH (show W'.heap[wr.heap.size]? =some (.cells (cellC L[k]).toArray 57) by rw [hW'];exact K wr _);have HD2:J (H w.heap.size w W'):=by rw [hW'];exact Sh.aC HD.out (G _) _
   have C:=aKq L[k].text W' (HT.out.below HD2.out);have mF:k < 9223372036854775807:=by omega
   have HX:J (gJ L[k].text ≠ 0->tf=gJ L[k].text):=fun e=>by rw [<-HA.out,y5 hkL];unfold dM;rw [if_pos e]
   have HY:J (gJ L[k].text=0->dM (L.drop (k+1))=tf):=fun e=>by rw [<-HA.out,y5 hkL,dM,if_neg (by simpa using e)]
   clear hW';generalize L[k]=y at *;obtain⟨yr,yc,yt⟩:=y;dsimp only at *;generalize gJ yt=me at *;by_cases e1:me=0
   ·have HY2:J _:=HY.out e1;subst e1;clear HX HY;go_wp2_with (first|(refine aB rfl 57 _ rfl _ _ rfl R2.out ?_;clear R2)|(refine aA rfl 57 _ _ rfl _ _ _ rfl rfl R3.out ?_;clear R3)|(go_at_call 27;refine C.mono ?_;clear C;rintro e w1 ⟨rfl,hb⟩;have HB1:J _:=Sh.aD HD2.out HD2.out.size hb;clear hb))
    go_roundw
    case rel=>exact⟨k+1,by omega,by go_num,HY2,HB1⟩
    case measure=>simp [intOf];omega
   ·have hpb:(me !=0)=κ:=by simpa using e1
    obtain rfl:=HX.out e1;clear HX HY;go_wp2_with (first|(refine aB rfl 57 _ rfl _ _ rfl R2.out ?_;clear R2)|(refine aA rfl 57 _ _ rfl _ _ _ rfl rfl R3.out ?_;clear R3)|(go_at_call 27;refine C.mono ?_;clear C;rintro e w1 ⟨rfl,hb⟩;have HB1:J _:=Sh.aD HD2.out HD2.out.size hb;clear hb))
    go_ret;exact⟨rfl,HB1.out⟩
  ·have hki:¬(k:Int) < L.length:=by omega
   obtain rfl:tf=0:=by rw [<-HA.out,ω (by omega)];rfl
   go_wp2;go_ret;exact⟨rfl,HD.out⟩
theorem aER {lo hi:Nat} {w:B} {sv nv lv:M} {x:aP} (h:BkM lo hi w sv nv lv x) (hhi:hi<=w.heap.size) (hz:dN x.sheets<=4611686018427387904):
  CR 25 #[.agg #[sv,nv,lv]] w (.int .i64 (dN x.sheets:Nat)):=by
 obtain⟨sa,sc,rfl,hs1,hs2⟩:=h.sh.slice;obtain⟨na,nc,rfl,_,_⟩:=h.nm.slice;obtain⟨la,lc,rfl,_,_⟩:=h.lk.slice;have HB:J (H w.heap.size w (w.alloc (bkO (.slice sa x.sheets.length sc) (.slice na x.names.length nc) (.slice la x.links.length lc)))):=aC (I _ _) (G _) _;have c0:=aI (K w (bkO (.slice sa x.sheets.length sc) (.slice na x.names.length nc) (.slice la x.links.length lc))) (j:=0) rfl;have HS:J (Shs lo hi w (.slice sa x.sheets.length sc) x.sheets):=h.sh;have hlen:x.sheets.length<=9223372036854775807:=by unfold x9 at hs2;omega
 generalize hT:dN x.sheets=tot at *;have HT:J (dN x.sheets=tot):=hT;clear h hs1 hs2 hT;go_enter Tryz.func25,Tryz.ntmps25;go_wp2;go_loopw [3,9] (fun m i wr=>∃(k q:Nat),k<=x.sheets.length/\i=.int .i64 (k:Nat)/\m=.int .i64 (q:Nat)/\q=dN (x.sheets.take k)/\J (H w.heap.size w wr)) (fun _ i _=>x.sheets.length - (intOf i).toNat)
 case atStart=>exact⟨0,0,π _,rfl,rfl,rfl,HB⟩
 case round=>
  obtain⟨k,q,hk,rfl,rfl,hq,HD⟩:=hrel;clear HB;by_cases hkL:k < x.sheets.length
  ·have hki:(k:Int) < x.sheets.length:=by omega
   obtain⟨a',cv,ov,W,rfl,rfl,hcl,hW,R1,R2, -⟩:=(HS.out.below hhi HD.out).runs hkL;obtain⟨ca,cc,rfl,_,_⟩:=hcl.slice;have c1:=aI (show W.heap[wr.heap.size]? =some (.cells #[.string x.sheets[k].name,.slice ca x.sheets[k].cells.length cc] 78) by rw [hW];exact K wr _) (j:=1) rfl;have HD2:J (H w.heap.size w W):=by rw [hW];exact aC HD.out (G _) _
   have mF:k < 9223372036854775807:=by omega
   have hs:=xU hkL;have hle:=aEf (L:=x.sheets) (k+1);rw [HT.out] at hle;clear hcl hW;generalize x.sheets[k]=y at *;obtain⟨yn,yc⟩:=y;dsimp only at *;have hw:(q:Int)+(yc.length:Nat)=((q+yc.length:Nat):Int):=by omega
   have hm:IntKind.i64.wrap ((q+yc.length:Nat):Int)=((q+yc.length:Nat):Int):=by rw [Φ];omega
   generalize hqq:q+yc.length=q2 at *;go_wp2_with (first|(refine aB rfl 78 _ rfl _ _ rfl R1.out ?_;clear R1)|(refine aA rfl 78 _ _ rfl _ _ _ rfl rfl R2.out ?_;clear R2))
   go_roundw
   case rel=>exact⟨k+1,q2,by omega,by go_num,by go_num,by omega,HD2⟩
   case measure=>simp [intOf];omega
  ·have hki:¬(k:Int) < x.sheets.length:=by omega
   obtain rfl:q=tot:=by rw [hq,ψ (by omega)];exact HT.out
   go_wp2;go_ret;exact⟨rfl,HD.out⟩
theorem nI {lo hi:Nat} {w:B} {sv nv lv:M} {x:aP} (h:BkM lo hi w sv nv lv x) (hhi:hi<=w.heap.size) (s:ByteArray):
  CR 21 #[.agg #[sv,nv,lv],.string s] w (.int .i64 (iQ (eH x.sheets s))):=by
 obtain⟨sa,sc,rfl,hs1,hs2⟩:=h.sh.slice;obtain⟨na,nc,rfl,_,_⟩:=h.nm.slice;obtain⟨la,lc,rfl,_,_⟩:=h.lk.slice;have HB:J (H w.heap.size w (w.alloc (bkO (.slice sa x.sheets.length sc) (.slice na x.names.length nc) (.slice la x.links.length lc)))):=Sh.aC (I _ _) (G _) _;have c0:=aI (K w (bkO (.slice sa x.sheets.length sc) (.slice na x.names.length nc) (.slice la x.links.length lc))) (j:=0) rfl;have HS:J (Shs lo hi w (.slice sa x.sheets.length sc) x.sheets):=h.sh;have hlen:x.sheets.length<=9223372036854775807:=by unfold x9 at hs2;omega
 generalize hT:iQ (eH x.sheets s)=tot at *;have HT:J (iQ (eH x.sheets s)=tot):=hT;clear h hs1 hs2 hT;go_enter Tryz.func21,Tryz.ntmps21;go_wp2;go_loopw [10] (fun i wr=>∃(k:Nat),k<=x.sheets.length/\i=.int .i64 (k:Nat)/\J (∀j (hj:j < x.sheets.length),j < k->(x.sheets[j].name.toList==s.toList)=E)/\J (H w.heap.size w wr)) (fun i _=>x.sheets.length - (intOf i).toNat)
 case atStart=>exact⟨0,π _,rfl,fun j _ hj=>by omega,HB⟩
 case round=>
  obtain⟨k,hk,rfl,HA,HD⟩:=hrel;clear HB;by_cases hkL:k < x.sheets.length
  ·have hki:(k:Int) < x.sheets.length:=by omega
   obtain⟨a',cv,ov,W,rfl,rfl,hcl,hW,R1,R2, -⟩:=(HS.out.below hhi HD.out).runs hkL;obtain⟨ca,cc,rfl,_,_⟩:=hcl.slice;have c1:=aI (show W.heap[wr.heap.size]? =some (.cells #[.string x.sheets[k].name,.slice ca x.sheets[k].cells.length cc] 78) by rw [hW];exact K wr _) (j:=0) rfl;have HD2:J (H w.heap.size w W):=by rw [hW];exact Sh.aC HD.out (G _) _
   have mF:k < 9223372036854775807:=by omega
   have HX:J ((x.sheets[k].name.toList==s.toList)=κ->tot=(k:Int)):=fun e=>by rw [<-HT.out];unfold eH;rw [sP hkL (fun j hj=>HA.out j (by omega) hj) e];rfl
   have HY:J ((x.sheets[k].name.toList==s.toList)=E->∀j (hj:j < x.sheets.length),j < k+1->(x.sheets[j].name.toList==s.toList)=E):=fun e j hj hlt=>by
    by_cases hjk:j=k
    ·subst hjk;exact e
    ·exact HA.out j hj (by omega)
   clear hcl hW;generalize x.sheets[k]=y at *;obtain⟨yn,yc⟩:=y;dsimp only at *;cases e1:yn.toList==s.toList with
   | true=>
    obtain rfl:=HX.out e1;clear HX HY HT;go_wp2_with (first|(refine aB rfl 78 _ rfl _ _ rfl R1.out ?_;clear R1)|(refine aA rfl 78 _ _ rfl _ _ _ rfl rfl R2.out ?_;clear R2))
    go_ret;exact⟨rfl,HD2.out⟩
   | false=>
    have HY2:J _:=HY.out e1;clear HX HY HT;go_wp2_with (first|(refine aB rfl 78 _ rfl _ _ rfl R1.out ?_;clear R1)|(refine aA rfl 78 _ _ rfl _ _ _ rfl rfl R2.out ?_;clear R2))
    go_roundw
    case rel=>exact⟨k+1,by omega,by go_num,HY2,HD2⟩
    case measure=>simp [intOf];omega
  ·have hki:¬(k:Int) < x.sheets.length:=by omega
   obtain rfl:tot= -1:=by rw [<-HT.out];unfold eH;rw [sN fun j hj=>HA.out j hj (by omega)];rfl
   go_wp2;go_ret;exact⟨rfl,HD.out⟩
end Go.Proofs.YtfedoljlipfhdaaGreatDoor.Sh
namespace Go.Proofs.YtfedoljlipfhdaaGreatDoor.Sh
open Go.RowKit Go.Fm Cm
def mO (r1 c1 r2 c2:Int) (d:aN):Bool:=decide (r1<=d.row) && decide (d.row<=r2) && decide (c1<=d.col) && decide (d.col<=c2)
def aHb (c1 r2 c2:Int) (d:aN):Bool:=decide (d.row<=r2) && (decide (c1<=d.col) && decide (d.col<=c2))
def inF (L:List aN) (r1 c1 r2 c2:Int):List aN:=L.filter (mO r1 c1 r2 c2)
theorem aKr {q:aN->Bool} {L:List aN} {k:Nat} (hk:k < L.length):(L.take (k+1)).filter q=(L.take k).filter q++if q L[k]=κ then [L[k]] else []:=by rw [List.take_succ_eq_append_getElem hk,List.filter_append];congr 1;by_cases h:q L[k]=κ <;> simp [h]
theorem aOY {L:List aN} {r1 c1:Int} {i:Nat} {b:Bool} (hR:qO L) (h:BsR L ⟨r1,c1,⟨#[]⟩⟩ i b) (r2 c2:Int):inF L r1 c1 r2 c2=(L.drop i).filter (aHb c1 r2 c2):=by
 obtain⟨h0,h1,h2,_⟩:=h;unfold inF
 conv=>lhs;rw [<-y9 i L]
 rw [List.filter_append];have hR2:=hR;unfold qO at hR2;rw [List.pairwise_iff_getElem] at hR2;have e1:(L.take i).filter (mO r1 c1 r2 c2)=[]:=by
  refine kP fun d hd=> ?_;obtain⟨j,hj,rfl⟩:=List.mem_iff_getElem.1 hd;rw [α] at hj;rw [List.getElem_take];have hlt:Lt L[j] ⟨r1,c1,⟨#[]⟩⟩:=by
   have h3:=wE.1 (h1 (by omega) (by omega));by_cases e:j=i - 1
   ·subst e;exact h3
   ·exact (hR2 j (i - 1) (by omega) (by omega) (by omega)).trans h3
  have hlt2:L[j].row < r1\/L[j].row=r1/\L[j].col < c1:=hlt;unfold mO;generalize L[j]=d at hlt2;simp only [x0,decide_eq_false_iff_not];omega
 rw [e1,z3];refine List.filter_congr fun d hd=> ?_;obtain⟨j,hj,rfl⟩:=List.mem_iff_getElem.1 hd;rw [η] at hj;rw [List.getElem_drop];have hge:¬Lt L[i+j] ⟨r1,c1,⟨#[]⟩⟩:=by
  have h3:¬Lt (L[i]'(by omega)) ⟨r1,c1,⟨#[]⟩⟩:=fun e=>by have:=wE.2 e;have:=h2 (by omega);omega
  by_cases e:j=0
  ·subst e;exact h3
  ·exact fun e2=>h3 ((hR2 i (i+j) (by omega) (by omega) (by omega)).trans e2)
 have aPL:¬(L[i+j].row < r1\/L[i+j].row=r1/\L[i+j].col < c1):=hge;unfold mO aHb;generalize L[i+j]=d at aPL;rw [y8];simp only [x5,decide_eq_true_eq];omega
theorem aOH {T:List aN} {c1 r2 c2:Int} (hR:qO T) {k:Nat} (hk:k < T.length) (h:r2 < T[k].row):T.filter (aHb c1 r2 c2)=(T.take k).filter (aHb c1 r2 c2):=by
 conv=>lhs;rw [<-y9 k T]
 rw [List.filter_append];have e:(T.drop k).filter (aHb c1 r2 c2)=[]:=by
  refine kP fun d hd=> ?_;obtain⟨j,hj,rfl⟩:=List.mem_iff_getElem.1 hd;rw [η] at hj;rw [List.getElem_drop];have hle:r2 < T[k+j].row:=by
   by_cases e:j=0
   ·subst e;exact h
   ·unfold qO at hR;rw [List.pairwise_iff_getElem] at hR;have:=hR k (k+j) hk (by omega) (by omega);have q:T[k].row < T[k+j].row\/T[k].row=T[k+j].row/\T[k].col < T[k+j].col:=this;omega
  unfold aHb;generalize T[k+j]=d at hle;simp only [x0,decide_eq_false_iff_not];omega
 rw [e,φ]
theorem aOZ {lo hi:Nat} {w:B} {p:Option Ψ} {c k:Nat} {L:List aN} (h:Cls lo hi w (.slice p L.length c) L) (hk:k<=L.length):
  ∃p2 c2,J (∀u,(ε 27 (.slice p L.length c) (some (.int .i64 (k:Nat))) none none).run U u=.ok (.slice p2 (L.drop k).length c2) u)/\Cls lo hi w (.slice p2 (L.drop k).length c2) (L.drop k):=by
 have h2:Tryz.prog.underlying 27=some (.slice (Tryz.prog.elem 27)):=by rw [rtC.elem];exact rtC.st
 have run:∀u,(ε 27 (.slice p L.length c) (some (.int .i64 (k:Nat))) none none).run U u=.ok (sliced p k L.length c 3) u:=fun u=>by rw [run_sliceAt_slice u 27 _ _ _ _ h2,run_slice_l u 27 _ L.length c h2 .i64 (k:Nat) (by omega) (by omega),rtC.elem,rtC.so u];rfl
 rcases h with ⟨e1,e2⟩ | ⟨a,cap,e1,g2,g3,g4,g5⟩
 ·have:L=[]:=z5 e2;subst this;cases e1
  have hk0:k=0:=by simpa using hk
  subst hk0;exact⟨none,0,fun u=>by rw [run u];simp [sliced],.inl ⟨rfl,rfl⟩⟩
 ·cases e1
  by_cases hc:c=k
  ·have hL:L.length=k:=by omega
   refine ⟨some a,c - k,fun u=> ?_,.inr ⟨a,c - k,rfl,by simp;omega,by omega,fun h0=>by simp at h0;omega,fun j i u hj=>by simp at hj;omega⟩⟩;rw [run u];simp [sliced,hc]
  ·refine ⟨some (a.add (k * 3)),c - k,fun u=> ?_,.inr ⟨a.add (k * 3),c - k,rfl,by simp;omega,by omega,fun h0=> ?_,fun j i u hj hu=> ?_⟩⟩
   ·rw [run u];simp [sliced,hc]
   ·rw [jG];exact g4 (by simp at h0;omega)
   ·rw [Go.Deep.add_add,show k * 3+(j * 3+i)=(k+j) * 3+i by omega];refine g5 (k+j) i u (by simp at hj;omega) ?_;dsimp only at hu ⊢;rw [υ] at hu;exact hu
theorem aOI (L:List aN) (k:Nat) (hR:qO L):qO (L.drop k):=List.Pairwise.sublist (List.drop_sublist k L) hR
end Go.Proofs.YtfedoljlipfhdaaGreatDoor.Sh
namespace Go.Proofs.YtfedoljlipfhdaaGreatDoor.Sh
open Go.RowKit Go.Fm
theorem dD.le {base base':Nat} {w:B} {sv nv lv:M} {x:aP} (h:dD base w sv nv lv x) (hb:base'<=base):dD base' w sv nv lv x:=by obtain⟨cv,h1,h2⟩:=h.sh;exact⟨⟨cv,jM h1 hb,fun j o hj=>jM (h2 j o hj) hb⟩,jM h.nm hb,jM h.lk hb⟩
end Go.Proofs.YtfedoljlipfhdaaGreatDoor.Sh
namespace Go.Proofs.YtfedoljlipfhdaaGreatDoor.Sh
open Go.RowKit
theorem aBC {base n i:Nat} {w:B} {v:M} {xs:List M} (h:w.ownsRow base 78 2 v n xs) (hi:i < n) (hn:n<=1000) (h1:∀u ∈ xs,u.oneCell'=κ):
  ι U 80 #[v,.int .i64 (i:Nat)] w fun e w'=>∃v',e=.returned v'/\w'.ownsRow w.heap.size 78 2 v' (n - 1) (xs.take (i * 2)++xs.drop ((i+1) * 2))/\H w.heap.size w w':=by
 have hc:=fun g (hg:v.ownBlock=some g)=>World.ownsRow.cells h hg;have hlen:=h.1;rcases h.2 with ⟨rfl,h0⟩ | ⟨g,cap,cur,rfl,_,_,hle,hm,_⟩
 ·omega
 have hc:=hc g rfl;obtain⟨v1,w1,RA,o1,g1,b1,_⟩:=rtS.cat (z9 w w.heap.size 78 2) (p:=some ⟨g,0,none⟩) (m:=i) (c:=cap) (news:=xs.take (i * 2)) (fun e=>by cases e) (by rw [α,hlen];omega) (fun a e j u hj=>by
  cases e
  have hj2:j < i * 2:=by have:=(List.getElem?_eq_some_iff.1 hj).1;rw [α] at this;omega
  exact hc j u (by rw [σ hj2] at hj;exact hj)) (fun u hu=>h1 u (List.mem_of_mem_take hu)) (by omega) (by decide) (G _)
 obtain⟨v2,w2,RA2,o2,g2,b2,_⟩:=rtS.cat o1 (p:=some (iB g 0 cap (i+1) 2)) (m:=n - (i+1)) (c:=cap - (i+1)) (news:=xs.drop ((i+1) * 2)) (fun e=>by cases e) (by rw [η,hlen];omega) (fun a e j u hj=>by
  cases e
  have hj2:(i+1) * 2+j < xs.length:=by have:=(List.getElem?_eq_some_iff.1 hj).1;rw [η] at this;omega
  rw [υ] at hj;have hcell:=hc _ u hj;have hne:¬cap=i+1:=by omega
  have:(iB g 0 cap (i+1) 2).add j=(⟨g,0,none⟩:Ψ).add ((i+1) * 2+j):=by unfold iB;rw [if_neg hne,ο,ο,γ,γ]
  rw [this];exact Cm.uP b1 hcell) (fun u hu=>h1 u (z4 hu)) (by omega) (by decide) b1.size
 have HF:J (w2.ownsRow w.heap.size 78 2 v2 (n - 1) (xs.take (i * 2)++xs.drop ((i+1) * 2))):=by
  have e:0+i+(n - (i+1))=n - 1:=by omega
  rw [e,z3] at o2;exact o2
 have HB:J (H w.heap.size w w2):=b1.trans b2;have S1:J (∀u,(ε 22 (.slice (some ⟨g,0,none⟩) n cap) none (some (.int .i64 (i:Nat))) none).run U u=.ok (.slice (some ⟨g,0,none⟩) i cap) u):=fun u=>qQ rtS g 0 n cap i (by omega) u;have S2:J (∀u,(ε 22 (.slice (some ⟨g,0,none⟩) n cap) (some (.int .i64 ((i+1:Nat):Int))) none none).run U u=.ok (.slice (some (iB g 0 cap (i+1) 2)) (n - (i+1)) (cap - (i+1))) u):=fun u=>iK rtS g 0 n cap (i+1) (by omega) u;have hi0:(i:Int)+1=((i+1:Nat):Int):=by omega
 have hi1:IntKind.i64.wrap ((i+1:Nat):Int)=((i+1:Nat):Int):=by rw [Φ];omega
 generalize hI:i+1=i1 at *;generalize iB g 0 cap i1 2=ca at *;clear h h1 hc o1 o2 g1 g2 b1 b2 hlen;go_enter Tryz.func80,Tryz.ntmps80;go_wp2_with (first|((with_reducible show wL (Op.slice 22 _ _ _ _));refine cB rfl 22 _ _ _ _ rfl _ (vl:=none) (vh:=some (.int .i64 (i:Nat))) (vm:=none) _ rfl rfl rfl rfl (S1.out _) ?_;clear S1)|((with_reducible show wL (Op.slice 22 _ _ _ _));refine cB rfl 22 _ _ _ _ rfl _ (vl:=some (.int .i64 (i1:Nat))) (vh:=none) (vm:=none) _ rfl rfl rfl rfl (S2.out _) ?_;clear S2)|(at_builtin;refine eF rfl _ _ 22 22 rfl _ _ _ _ rfl rfl RA.out ?_;clear RA)|(at_builtin;refine eF rfl _ _ 22 22 rfl _ _ _ _ rfl rfl RA2.out ?_;clear RA2))
 go_ret;exact⟨_,rfl,HF.out,HB.out⟩
end Go.Proofs.YtfedoljlipfhdaaGreatDoor.Sh
namespace Go.Proofs.YtfedoljlipfhdaaGreatDoor.Sh
open Go.RowKit Go.Fm
theorem dD.below {base:Nat} {w w':B} {sv nv lv:M} {x:aP} (h:dD base w sv nv lv x) (hb:H w.heap.size w w'):dD base w' sv nv lv x:=by obtain⟨cv,h1,h2⟩:=h.sh;exact⟨⟨cv,dY h1 fun g _ hg _=>hb.block g (aF hg),fun j o hj=>dY (h2 j o hj) fun g _ hg _=>hb.block g (aF hg)⟩,dY h.nm fun g _ hg _=>hb.block g (aF hg),dY h.lk fun g _ hg _=>hb.block g (aF hg)⟩
theorem tV {w w4:B} {g0 r0 n c:Nat} {p:Option Ψ} {s1 n1 l1:M} {y:aP} (h:dD w.heap.size w4 (.slice p n c) n1 l1 y) (hg:w4.heap[g0]? =some (bkO s1 n1 l1)) (hr:w4.heap[r0]? =some (bkO bI bI bI)) (hne:r0 ≠ g0) (hb:H w.heap.size w w4) (hg0:w.heap.size<=g0) (hr0:w.heap.size<=r0):
  ∃w6,w4.cell? ⟨g0,0,none⟩=some s1/\w4.frozen? ⟨g0,0,none⟩=E/\
   J ((ν 26 (pt g0)).run U (w4.setCell ⟨g0,0,none⟩ (.slice p n c))=.ok (.agg #[.slice p n c,n1,l1]) (w4.setCell ⟨g0,0,none⟩ (.slice p n c)))/\
   J ((N 26 (pt r0) (.agg #[.slice p n c,n1,l1])).run U (w4.setCell ⟨g0,0,none⟩ (.slice p n c))=.ok () w6)/\
   J (w6.heap[r0]? =some (.cells #[.slice p n c,n1,l1] 26))/\J (dD w.heap.size w6 (.slice p n c) n1 l1 y)/\J (H w.heap.size w w6):=by
 obtain⟨b1,d1,rfl⟩:=aW h.nm;obtain⟨b2,d2,rfl⟩:=aW h.lk;have hset:=uO (i:=0) (v:=.slice p n c) hg;have aEy:(w4.setCell ⟨g0,0,none⟩ (.slice p n c)).heap[g0]? =some (.cells #[.slice p n c,.slice b1 y.names.length d1,.slice b2 y.links.length d2] 26):=by rw [hset];exact χ _ _ _ _ _ _ hg
 have hres:(w4.setCell ⟨g0,0,none⟩ (.slice p n c)).heap[r0]? =some (bkO bI bI bI):=by rw [hset,μ _ _ _ _ hne];exact hr
 have keep:∀{t':Ω} {sz m:Nat} {val:M} {xs:List M},t' ≠ 26->w4.ownsRow w.heap.size t' sz val m xs->((w4.setCell ⟨g0,0,none⟩ (.slice p n c)).setRow r0 #[.slice p n c,.slice b1 y.names.length d1,.slice b2 y.links.length d2]).ownsRow w.heap.size t' sz val m xs:=fun ht ho=>dY ho fun k cu hk _=>by
  have e1:k ≠ g0:=fun eq=>by rw [eq,hg] at hk;cases hk;exact ht rfl
  have e2:k ≠ r0:=fun eq=>by rw [eq,hr] at hk;cases hk;exact ht rfl
  rw [μ _ _ _ _ e2,hset,μ _ _ _ _ e1]
 refine ⟨_,aI hg rfl,by simp [x3,hg],ldB aEy,xX hres rfl rfl (by simp [Γ]),χ _ _ _ _ _ _ hres, ?_, ?_⟩
 ·obtain ⟨cv,q1,q2⟩:=h.sh;exact⟨⟨cv,keep (by decide) q1,fun j o hj=>keep (by decide) (q2 j o hj)⟩,keep (by decide) h.nm,keep (by decide) h.lk⟩
 ·rw [hset];exact below_setRow (below_setRow hb hg0 _) hr0 _
theorem aHc {L:List aT} {cv:Nat->M} (h:∀j o,L[j]? =some o->∃a n c,cv j=.slice a n c):∀u ∈ (pairs L cv).flatMap bW,u.oneCell'=κ:=by
 intro u hu;obtain⟨p,hp,hu⟩:=List.mem_flatMap.1 hu;obtain⟨j,hj,rfl⟩:=List.mem_mapIdx.1 hp;simp only [bY,x7,x4,or_false] at hu;rcases hu with rfl | rfl
 ·rfl
 ·obtain ⟨a,n,c,e⟩:=h j _ (O hj);rw [e];rfl
theorem dD.one {base:Nat} {w:B} {cv:Nat->M} {x:aP} (h2:∀j o,x.sheets[j]? =some o->w.ownsRow base 57 3 (cv j) o.cells.length (o.cells.flatMap cellC)):∀u ∈ (pairs x.sheets cv).flatMap bW,u.oneCell'=κ:=
 aHc fun j o hj=>by obtain⟨a,c,e⟩:=aW (h2 j o hj);exact⟨a,_,c,e⟩
theorem vT {base:Nat} {V:B} {s1 n1 l1:M} {x:aP} {i:Nat} (h:dD base V s1 n1 l1 x) (hi:i < x.sheets.length) (hz:x.sheets.length<=1000) (hbase:base<=V.heap.size):
  ι U 80 #[s1,.int .i64 (i:Nat)] V fun e w'=>∃p c,e=.returned (.slice p (x.sheets.length - 1) c)/\dD base w' (.slice p (x.sheets.length - 1) c) n1 l1 (bJ x i)/\H V.heap.size V w':=by
 obtain⟨cv,h1,h2⟩:=h.sh;refine (aBC h1 hi hz (dD.one h2)).mono ?_;rintro e w' ⟨v',rfl,ho,hb⟩;have ho:=jM ho hbase;have k:∀{t:Ω} {sz n:Nat} {v:M} {xs:List M},V.ownsRow base t sz v n xs->w'.ownsRow base t sz v n xs:=fun q=>dY q fun g _ hg _=>hb.block g (aF hg);obtain⟨p,c,rfl⟩:=aW ho;have hxl:(bJ x i).sheets.length=x.sheets.length - 1:=by simp [bJ,List.length_eraseIdx,hi]
 refine ⟨p,c,rfl,⟨⟨fun j=>if j < i then cv j else cv (j+1), ?_,fun j o hj=> ?_⟩,k h.nm,k h.lk⟩,hb⟩
 ·rw [<-lI (enc:=bW) bD,<-lH (enc:=bW) bD,<-z6,oG] at ho;rw [hxl];exact ho
 ·simp only [bJ,List.getElem?_eraseIdx] at hj;try dsimp only
  by_cases e:j < i
  ·rw [if_pos e] at hj ⊢;exact k (h2 _ _ hj)
  ·rw [if_neg e] at hj ⊢;exact k (h2 _ _ hj)
theorem aHd {lo hi:Nat} {w:B} {sv nv lv:M} {x:aP} (h:BkM lo hi w sv nv lv x) (hhi:hi<=w.heap.size) (hz:Small x) (s:ByteArray):
  ι U 31 #[.agg #[sv,nv,lv],.string s] w (jI w (qD x s) (bJ x ((eH x.sheets s).getD 0))):=by
 obtain⟨sa,sc,rfl,hs1,hs2⟩:=h.sh.slice;obtain⟨na,nc,rfl,_,_⟩:=h.nm.slice;obtain⟨la,lc,rfl,_,_⟩:=h.lk.slice;obtain⟨W,hW⟩:∃W,W=(w.alloc (bkO (.slice sa x.sheets.length sc) (.slice na x.names.length nc) (.slice la x.links.length lc))).alloc (.cells #[.slice none 0 0,.slice none 0 0,.slice none 0 0] 26):=⟨_,rfl⟩
 have HB0:H w.heap.size w W:=by rw [hW];exact Sh.aC (Sh.aC (I _ _) (G _) _) (G _) _
 have hX0:W.heap[w.heap.size]? =some (bkO (.slice sa x.sheets.length sc) (.slice na x.names.length nc) (.slice la x.links.length lc)):=by rw [hW,y6 _ _ _ (by simp)];exact K w _
 have hX1:W.heap[w.heap.size+1]? =some (.cells #[.slice none 0 0,.slice none 0 0,.slice none 0 0] 26):=by rw [hW];simpa using K (w.alloc (bkO (.slice sa x.sheets.length sc) (.slice na x.names.length nc) (.slice la x.links.length lc))) (.cells #[.slice none 0 0,.slice none 0 0,.slice none 0 0] 26)
 have hlen:x.sheets.length<=1000:=hz.sh;have KX:∀u,H W.heap.size W u->u.heap[w.heap.size]? =some (bkO (.slice sa x.sheets.length sc) (.slice na x.names.length nc) (.slice la x.links.length lc))/\u.heap[w.heap.size+1]? =some (.cells #[.slice none 0 0,.slice none 0 0,.slice none 0 0] 26)/\H w.heap.size w u:=fun u hu=>⟨(hu.block _ (aF hX0)).trans hX0,(hu.block _ (aF hX1)).trans hX1,Sh.aD HB0 HB0.size hu⟩
 have C1:ι U 21 #[.agg #[.slice sa x.sheets.length sc,.slice na x.names.length nc,.slice la x.links.length lc],.string s] W fun e u=>e=.returned (.int .i64 (iQ (eH x.sheets s)))/\u.cell? ⟨w.heap.size,0,none⟩=some (.slice sa x.sheets.length sc)/\u.cell? ⟨w.heap.size,1,none⟩=some (.slice na x.names.length nc)/\u.cell? ⟨w.heap.size,2,none⟩=some (.slice la x.links.length lc)/\J (H W.heap.size W u):=(nI (h.below hhi HB0) (Δ hhi HB0.size) s).mono (by
  rintro e u ⟨rfl,hu⟩;obtain⟨c0,c1,c2⟩:=bE (KX u hu).1;exact⟨rfl,c0,c1,c2,hu⟩)
 have bU:J (∀u,H W.heap.size W u->_):=fun u hu=>lK (KX u hu).2.2 (KX u hu).2.1 (by omega);obtain⟨d0,d1,d2⟩:=bE hX0;have HKX:J _:=KX;have HH:J (BkM lo hi w (.slice sa x.sheets.length sc) (.slice na x.names.length nc) (.slice la x.links.length lc) x):=h;have HZz:J (Small x):=hz;rw [hW] at d0 d1 d2;have HW:J ((w.alloc (bkO (.slice sa x.sheets.length sc) (.slice na x.names.length nc) (.slice la x.links.length lc))).alloc (.cells #[.slice none 0 0,.slice none 0 0,.slice none 0 0] 26)=W):=hW.symm;clear h HB0 hX0 hX1 hW hs1 hs2 KX hz;unfold qD;cases hO:eH x.sheets s with
 | none=>
  rw [hO] at C1;simp only [iQ] at C1;go_enter Tryz.func31,Tryz.ntmps31;go_wp2_with (first|(go_at_call 21;rw [HW.out];refine C1.mono ?_;clear C1;rintro e w1 ⟨rfl,c0,c1,c2,HB1⟩;obtain⟨RS,HZ,HBz⟩:=bU.out w1 HB1.out;clear bU)|((with_reducible show wL (x1 26 _));refine aY rfl 26 _ rfl _ _ (by go_simp) (bQ _) ?_)|((with_reducible show wL (z7 26 _ _));refine aA rfl 26 _ _ rfl _ _ _ rfl rfl RS.out ?_))
  refine ρ (res2 rfl rfl HZ.out rfl rfl) rfl ?_;exact⟨by rw [if_neg (by decide)];rfl,HBz.out⟩
 | some i=>
  rw [hO] at C1;simp only [iQ] at C1;have hil:=nY hO;have hni:decide ((i:Int) < 0)=E:=by simp
  dsimp only [Option.getD];clear hO;by_cases h1:x.sheets.length=1
  ·rw [if_pos h1];have h1b:((x.sheets.length:Int)==1)=κ:=by rw [h1];rfl
   clear hil h1;generalize x.sheets.length=n at *;go_enter Tryz.func31,Tryz.ntmps31;go_wp2_with (first|(go_at_call 21;rw [HW.out];refine C1.mono ?_;clear C1;rintro e w1 ⟨rfl,c0,c1,c2,HB1⟩;obtain⟨RS,HZ,HBz⟩:=bU.out w1 HB1.out;clear bU)|((with_reducible show wL (x1 26 _));refine aY rfl 26 _ rfl _ _ (by go_simp) (bQ _) ?_)|((with_reducible show wL (z7 26 _ _));refine aA rfl 26 _ _ rfl _ _ _ rfl rfl RS.out ?_))
   refine ρ (res2 rfl rfl HZ.out rfl rfl) rfl ?_;exact⟨by rw [if_neg (by decide)];rfl,HBz.out⟩
  ·rw [if_neg h1];have h1b:((x.sheets.length:Int)==1)=E:=by simp only [beq_eq_false_iff_ne];omega
   have C5:J (∀u,H W.heap.size W u->ι U 12 #[.agg #[.slice sa x.sheets.length sc,.slice na x.names.length nc,.slice la x.links.length lc]] u fun e v=>∃p0 c0 p1 n1 c1 p2 n2 c2,e=.returned (.agg #[.slice p0 x.sheets.length c0,.slice p1 n1 c1,.slice p2 n2 c2])/\(v.alloc (.cells #[.slice p0 x.sheets.length c0,.slice p1 n1 c1,.slice p2 n2 c2] 26)).cell? ⟨v.heap.size,0,none⟩=some (.slice p0 x.sheets.length c0)/\
     J (ι U 80 #[.slice p0 x.sheets.length c0,.int .i64 (i:Nat)] (v.alloc (.cells #[.slice p0 x.sheets.length c0,.slice p1 n1 c1,.slice p2 n2 c2] 26)) fun e w4=>∃p c w6,e=.returned (.slice p (x.sheets.length - 1) c)/\w4.cell? ⟨v.heap.size,0,none⟩=some (.slice p0 x.sheets.length c0)/\w4.frozen? ⟨v.heap.size,0,none⟩=E/\
      J ((ν 26 (pt v.heap.size)).run U (w4.setCell ⟨v.heap.size,0,none⟩ (.slice p (x.sheets.length - 1) c))=.ok (.agg #[.slice p (x.sheets.length - 1) c,.slice p1 n1 c1,.slice p2 n2 c2]) (w4.setCell ⟨v.heap.size,0,none⟩ (.slice p (x.sheets.length - 1) c)))/\
      J ((N 26 (.pointer (some ⟨w.heap.size+1,0,none⟩)) (.agg #[.slice p (x.sheets.length - 1) c,.slice p1 n1 c1,.slice p2 n2 c2])).run U (w4.setCell ⟨v.heap.size,0,none⟩ (.slice p (x.sheets.length - 1) c))=.ok () w6)/\
      J (w6.heap[w.heap.size+1]? =some (.cells #[.slice p (x.sheets.length - 1) c,.slice p1 n1 c1,.slice p2 n2 c2] 26))/\
      J (dD w.heap.size w6 (.slice p (x.sheets.length - 1) c) (.slice p1 n1 c1) (.slice p2 n2 c2) (bJ x i))/\J (H w.heap.size w w6))):=fun u hu=>
    (pJ (HH.out.below hhi (HKX.out u hu).2.2) (Δ hhi (HKX.out u hu).2.2.size) HZz.out).mono (by
     rintro e v ⟨s1,m1,l1,rfl,hO,hb⟩;have hub:=(HKX.out u hu).2.2;have hx1:=(HKX.out u hu).2.1;have hl1:=aF hx1;have hO:=hO.le hub.size;obtain⟨cv,q1,_⟩:=hO.sh;obtain⟨p0,c0,rfl⟩:=aW q1;obtain⟨p1,c1,rfl⟩:=aW hO.nm;obtain⟨p2,c2,rfl⟩:=aW hO.lk;have hX:=K v (.cells #[.slice p0 x.sheets.length c0,.slice p1 x.names.length c1,.slice p2 x.links.length c2] 26);have hbV:H v.heap.size v (v.alloc (.cells #[.slice p0 x.sheets.length c0,.slice p1 x.names.length c1,.slice p2 x.links.length c2] 26)):=Sh.aC (I _ _) (G _) _;have hbw:H w.heap.size w (v.alloc (.cells #[.slice p0 x.sheets.length c0,.slice p1 x.names.length c1,.slice p2 x.links.length c2] 26)):=Sh.aD (Sh.aD hub hub.size hb) (Δ hub.size hb.size) hbV;have hX1:=(hbV.block _ (by have:=hb.size;omega)).trans ((hb.block _ hl1).trans hx1);have hne:w.heap.size+1 ≠ v.heap.size:=by have:=hb.size;omega
     refine ⟨p0,c0,p1,_,c1,p2,_,c2,rfl,aI hX rfl, ?_⟩;refine Calls.mono (vT (hO.below hbV) hil hlen hbw.size) ?_;rintro e w4 ⟨p,c,rfl,ho,hb4⟩;obtain⟨w6,f1,f2,f3,f4,f5,f6,f7⟩:=tV (g0:=v.heap.size) (r0:=w.heap.size+1) ho ((hb4.block _ (aF hX)).trans hX) ((hb4.block _ (aF hX1)).trans hX1) hne (Sh.aD hbw hbw.size hb4) (by have:=hub.size;have:=hb.size;omega) (by omega);exact⟨p,c,w6,rfl,f1,f2,f3,f4,f5,f6,f7⟩)
   have HOK:J (∀sv nv lv w6,dD w.heap.size w6 sv nv lv (bJ x i)->H w.heap.size w w6->jI w 0 (bJ x i) (.returned (.tuple #[.agg #[sv,nv,lv],.int .i64 0])) w6):=fun sv nv lv w6 h1 h2=>⟨by rw [if_pos rfl];exact⟨_,_,_,rfl,h1⟩,h2⟩
   generalize jI w 0 (bJ x i)=Q0 at *;obtain⟨m,hm⟩:∃m,m=x.sheets.length - 1:=⟨_,rfl⟩
   rw [<-hm] at C5;clear hil h1 bU HH HZz hm;go_enter Tryz.func31,Tryz.ntmps31;go_wp2_with (first|(go_at_call 21;rw [HW.out];refine C1.mono ?_;clear C1;rintro e w1 ⟨rfl,c0,c1,c2,HB1⟩)|(go_at_call 12;refine (C5.out _ HB1.out).mono ?_;clear C5;rintro e v ⟨p0,k0,p1,n1,k1,p2,n2,k2,rfl,cV,CW⟩)|(go_at_call 80;refine CW.out.mono ?_;clear CW;rintro e w5 ⟨p,k,w6,rfl,c50,f50,RL6,RS6,HG6,HO6,HB6⟩)|((with_reducible show wL (Op.load 26 _));refine aB rfl 26 _ rfl _ _ rfl RL6.out ?_;clear RL6)|((with_reducible show wL (z7 26 _ _));refine aA rfl 26 _ _ rfl _ _ _ rfl rfl RS6.out ?_;clear RS6))
   refine ρ (res2 rfl rfl HG6.out rfl rfl) rfl ?_;exact HOK.out _ _ _ _ HO6.out HB6.out
abbrev dF (s:ByteArray) (v:M):Obj:=.cells #[.string s,v] 78
theorem aNP {w:B} {g:Nat} {s:ByteArray} {v:M} {z:Nat × Nat} (h:w.heap[g]? =some (.cells #[.string s,v] 78 z)):(ν 78 (pt g)).run U w=.ok (.agg #[.string s,v]) w:=by
 have hi:(Tryz.prog.info? 78).map (·.size)=some (#[.string s,v]:Array M).size:=by kernel_rfl
 simp only [ν,Instr.sureAddr,Sem.run_bind,Sem.run_pure,Result.andThen_ok,x6 w g 78 78 _ z _ h Tryz.underlying78 rfl hi]
theorem aMp {base n j c:Nat} {w:B} {p:Option Ψ} {xs:List M} (h:w.ownsRow base 78 2 (.slice p n c) n xs) (hj:j<=n):
  ∃p1 c1 p2 c2,J (∀u,(ε 22 (.slice p n c) none (some (.int .i64 (j:Nat))) none).run U u=.ok (.slice p1 j c1) u)/\J (∀u,(ε 22 (.slice p n c) (some (.int .i64 (j:Nat))) none none).run U u=.ok (.slice p2 (n - j) c2) u)/\
   (p1=none->j=0/\c1=0)/\(p2=none->n - j=0/\c2=0)/\(∀a,p1=some a->∀k z,(xs.take (j * 2))[k]? =some z->w.cell? (a.add k)=some z)/\(∀a,p2=some a->∀k z,(xs.drop (j * 2))[k]? =some z->w.cell? (a.add k)=some z):=by
 have hc:=fun g (hg:(v4 p n c).ownBlock=some g)=>World.ownsRow.cells h hg;have hlen:=h.1;rcases h.2 with ⟨e,h0⟩ | ⟨g,cap,cur,e,_,_,hle,hm,_⟩
 ·cases e
  obtain rfl:j=0:=by omega
  exact⟨none,0,none,0,fun u=>by kernel_rfl,fun u=>by kernel_rfl,fun _=>⟨rfl,rfl⟩,fun _=>⟨rfl,rfl⟩,fun a e=>(by cases e),fun a e=>(by cases e)⟩
 ·cases e
  have hc:=hc g rfl;refine ⟨_,_,_,_,fun u=>qQ rtS g 0 n c j (by omega) u,fun u=>iK rtS g 0 n c j hj u,fun e=>(by cases e),fun e=>(by cases e),fun a e k z hk=> ?_,fun a e k z hk=> ?_⟩
  ·cases e
   have hj2:k < j * 2:=by have:=(List.getElem?_eq_some_iff.1 hk).1;rw [α] at this;omega
   exact hc k z (by rw [σ hj2] at hk;exact hk)
  ·cases e
   have hj2:j * 2+k < xs.length:=by have:=(List.getElem?_eq_some_iff.1 hk).1;rw [η] at this;omega
   rw [υ] at hk;have hcell:=hc _ z hk;have hne:¬c=j:=by omega
   have:(iB g 0 c j 2).add k=(⟨g,0,none⟩:Ψ).add (j * 2+k):=by unfold iB;rw [if_neg hne,ο,ο,γ,γ]
   rw [this];exact hcell
theorem aDr {base j c2 d:Nat} {u w2:B} {v2:M} {x:aP} {t:aT} {q p2:Option Ψ} {n1 l1:M} {cv:Nat->M}
  (h2:∀k o,x.sheets[k]? =some o->u.ownsRow base 57 3 (cv k) o.cells.length (o.cells.flatMap cellC)) (hnm:u.ownsRow base 89 3 n1 x.names.length (x.names.flatMap kE)) (hlk:u.ownsRow base 91 7 l1 x.links.length (x.links.flatMap kF)) (ht:u.ownsRow base 57 3 (.slice q t.cells.length d) t.cells.length (t.cells.flatMap cellC))
  (hj:j<=x.sheets.length) (hz:x.sheets.length<=1000) (hbase:base<=u.heap.size) (hp2:p2=none->x.sheets.length - j=0/\c2=0) (hc2:∀a,p2=some a->∀k z,(((pairs x.sheets cv).flatMap bW).drop (j * 2))[k]? =some z->u.cell? (a.add k)=some z)
  (o2:w2.ownsRow u.heap.size 78 2 v2 (j+1) (((pairs x.sheets cv).flatMap bW).take (j * 2)++ [.string t.name,.slice q t.cells.length d])) (hb:H u.heap.size u w2):
  ∃pa pc w3,J ((β #[22,22] 22 #[v2,.slice p2 (x.sheets.length - j) c2]).run U w2=.ok (.slice pa (x.sheets.length+1) pc) w3)/\dD base w3 (.slice pa (x.sheets.length+1) pc) n1 l1 (bZ x j t)/\H u.heap.size u w3:=by
 have hxs:((pairs x.sheets cv).flatMap bW).length=x.sheets.length * 2:=by rw [bL (enc:=bW) bD];simp
 obtain⟨v3,w3,RA,o3,g3,b3,_⟩:=rtS.cat o2 (p:=p2) (m:=x.sheets.length - j) (c:=c2) (news:=((pairs x.sheets cv).flatMap bW).drop (j * 2)) hp2 (by rw [η,hxs];omega) (fun a e k z hk=>Cm.uP hb (hc2 a e k z hk)) (fun z hz'=>dD.one h2 z (z4 hz')) (by omega) (by decide) hb.size;have e3:j+1+(x.sheets.length - j)=x.sheets.length+1:=by omega
 rw [e3] at o3;obtain⟨pa,pc,rfl⟩:=aW o3;have hb3:H u.heap.size u w3:=hb.trans b3;have k:∀{t:Ω} {sz n:Nat} {v:M} {xs:List M},u.ownsRow base t sz v n xs->w3.ownsRow base t sz v n xs:=fun q=>dY q fun g _ hg _=>hb3.block g (aF hg);have hxl:(bZ x j t).sheets.length=x.sheets.length+1:=by simp [bZ];omega
 refine ⟨pa,pc,w3,RA,⟨⟨fun k=>if k < j then cv k else if k=j then .slice q t.cells.length d else cv (k - 1), ?_,fun i o hi=> ?_⟩,k hnm,k hlk⟩,hb3⟩
 ·have ho:=jM o3 hbase;rw [<-lI (enc:=bW) bD,<-lH (enc:=bW) bD] at ho;have e0: [Value.string t.name,.slice q t.cells.length d]=[((t:aT),v4 q t.cells.length d)].flatMap bW:=rfl;rw [e0,<-z6,<-z6,y4,List.singleton_append,uZ hj] at ho;rw [hxl];exact ho
 ·rcases add_get hj hi with ⟨rfl,rfl⟩ | ⟨e,hk2⟩ | ⟨e,hk2⟩
  ·try dsimp only
   rw [if_neg (by omega),if_pos rfl];exact k ht
  ·try dsimp only
   rw [if_pos e];exact k (h2 _ _ hk2)
  ·try dsimp only
   rw [if_neg (by omega),if_neg (by omega)];exact k (h2 _ _ hk2)
theorem aOJ {base j c d:Nat} {u:B} {x:aP} {t:aT} {p q:Option Ψ} {n1 l1:M} (h:dD base u (.slice p x.sheets.length c) n1 l1 x) (ht:u.ownsRow base 57 3 (.slice q t.cells.length d) t.cells.length (t.cells.flatMap cellC)) (hj:j<=x.sheets.length) (hz:x.sheets.length<=1000) (hbase:base<=u.heap.size):
  ∃p1 c1 p2 c2,J (∀u,(ε 22 (.slice p x.sheets.length c) none (some (.int .i64 (j:Nat))) none).run U u=.ok (.slice p1 j c1) u)/\J (∀u,(ε 22 (.slice p x.sheets.length c) (some (.int .i64 (j:Nat))) none none).run U u=.ok (.slice p2 (x.sheets.length - j) c2) u)/\
   (∃v1 w1 v2 w2 pa pc w3,J ((β #[22,22] 22 #[bI,.slice p1 j c1]).run U u=.ok v1 w1)/\J ((β #[22,22] 22 #[v1,.slice (some ⟨w1.heap.size,0,none⟩) 1 1]).run U (w1.alloc (dF t.name (.slice q t.cells.length d)))=.ok v2 w2)/\
    J ((β #[22,22] 22 #[v2,.slice p2 (x.sheets.length - j) c2]).run U w2=.ok (.slice pa (x.sheets.length+1) pc) w3)/\J (H u.heap.size u w1)/\J (H u.heap.size u (w1.alloc (dF t.name (.slice q t.cells.length d))))/\J (H u.heap.size u w2)/\J (dD base w3 (.slice pa (x.sheets.length+1) pc) n1 l1 (bZ x j t))/\J (H u.heap.size u w3))/\
   (∃v1 w1 v2 w2 pa pc w3,J ((β #[22,22] 22 #[bI,.slice p1 j c1]).run U (u.alloc (dF t.name (.slice q t.cells.length d)))=.ok v1 w1)/\J ((β #[22,22] 22 #[v1,.slice (some ⟨u.heap.size,0,none⟩) 1 1]).run U w1=.ok v2 w2)/\
    J ((β #[22,22] 22 #[v2,.slice p2 (x.sheets.length - j) c2]).run U w2=.ok (.slice pa (x.sheets.length+1) pc) w3)/\J (H u.heap.size u (u.alloc (dF t.name (.slice q t.cells.length d))))/\J (H u.heap.size u w1)/\J (H u.heap.size u w2)/\J (dD base w3 (.slice pa (x.sheets.length+1) pc) n1 l1 (bZ x j t))/\J (H u.heap.size u w3)):=by
 obtain⟨cv,h1,h2⟩:=h.sh;obtain⟨p1,c1,p2,c2,S1,S2,e1,e2,hc1,hc2⟩:=aMp h1 hj;have hxs:((pairs x.sheets cv).flatMap bW).length=x.sheets.length * 2:=by rw [bL (enc:=bW) bD];simp
 have h1x:∀z ∈ ((pairs x.sheets cv).flatMap bW).take (j * 2),z.oneCell'=κ:=fun z hz'=>dD.one h2 z (List.mem_of_mem_take hz');have hs1:∀z ∈ ([.string t.name,.slice q t.cells.length d]:List M),z.oneCell'=κ:=fun z hz'=>by simp only [x7,x4,or_false] at hz';rcases hz' with rfl | rfl <;> rfl
 refine ⟨p1,c1,p2,c2,S1,S2, ?_, ?_⟩
 ·obtain ⟨v1,w1,RA,o1,g1,b1,_⟩:=rtS.cat (z9 u u.heap.size 78 2) (p:=p1) (m:=j) (c:=c1) (news:=((pairs x.sheets cv).flatMap bW).take (j * 2)) e1 (by rw [α,hxs];omega) (fun a e k z hk=>hc1 a e k z hk) h1x (by omega) (by decide) (G _);rw [γ,z3] at o1;have hbW:H w1.heap.size w1 (w1.alloc (dF t.name (.slice q t.cells.length d))):=Sh.aC (I _ _) (G _) _;have hbU:H u.heap.size u (w1.alloc (dF t.name (.slice q t.cells.length d))):=Sh.aD b1 b1.size hbW;have o1':=dY o1 fun g _ hg _=>hbW.block g (aF hg);have hX:=K w1 (dF t.name (.slice q t.cells.length d));obtain⟨v2,w2,RA2,o2,g2,b2,_⟩:=rtS.cat o1' (p:=some ⟨w1.heap.size,0,none⟩) (m:=1) (c:=1) (news:=[.string t.name,.slice q t.cells.length d]) (fun e=>by cases e) rfl (fun a e k z hk=>by
   cases e
   rw [ο,z8 _ w1.heap.size (0+k) _ _ _ hX,γ,<-hk];simp) hs1 (by omega) (by decide) hbU.size
  have hb2:H u.heap.size u w2:=hbU.trans b2;obtain⟨pa,pc,w3,RA3,HO,hb3⟩:=aDr h2 h.nm h.lk ht hj hz hbase e2 hc2 o2 hb2;exact⟨v1,w1,v2,w2,pa,pc,w3,RA,RA2,RA3,b1,hbU,hb2,HO,hb3⟩
 ·have hbW:H u.heap.size u (u.alloc (dF t.name (.slice q t.cells.length d))):=Sh.aC (I _ _) (G _) _;have hX:=K u (dF t.name (.slice q t.cells.length d));obtain⟨v1,w1,RA,o1,g1,b1,_⟩:=rtS.cat (z9 (u.alloc (dF t.name (.slice q t.cells.length d))) u.heap.size 78 2) (p:=p1) (m:=j) (c:=c1) (news:=((pairs x.sheets cv).flatMap bW).take (j * 2)) e1 (by rw [α,hxs];omega) (fun a e k z hk=>Cm.uP hbW (hc1 a e k z hk)) h1x (by omega) (by decide) hbW.size;rw [γ,z3] at o1;have hX1:w1.heap[u.heap.size]? =some (dF t.name (.slice q t.cells.length d)):=(g1.block _ (aF hX) (by simp [Value.ownBlock])).trans hX;obtain⟨v2,w2,RA2,o2,g2,b2,_⟩:=rtS.cat o1 (p:=some ⟨u.heap.size,0,none⟩) (m:=1) (c:=1) (news:=[.string t.name,.slice q t.cells.length d]) (fun e=>by cases e) rfl (fun a e k z hk=>by
   cases e
   rw [ο,z8 _ u.heap.size (0+k) _ _ _ hX1,γ,<-hk];simp) hs1 (by omega) (by decide) (hbW.trans b1).size
  have hb2:H u.heap.size u w2:=(hbW.trans b1).trans b2;obtain⟨pa,pc,w3,RA3,HO,hb3⟩:=aDr h2 h.nm h.lk ht hj hz hbase e2 hc2 o2 hb2;exact⟨v1,w1,v2,w2,pa,pc,w3,RA,RA2,RA3,hbW,hbW.trans b1,hb2,HO,hb3⟩
end Go.Proofs.YtfedoljlipfhdaaGreatDoor.Sh
namespace Go.Proofs.YtfedoljlipfhdaaGreatDoor.Sh
open Go.RowKit
theorem aNQ {w:B} {g h o n c:Nat} {cur es:Array M} {tA tB:Ω} (hne:h ≠ g) (hg:w.heap[g]? =some (.cells cur tB (0,0))) (hcur:cur.size ≠ 0) (hh:w.heap[h]? =some (.cells es tA (0,0))):
  (callFunc 114 #[.slice (some ⟨h,0,none⟩) 1 1,.slice (some ⟨g,o,none⟩) n c]).run U w=.ok (.value (.bool E)) w:=by
 have z78:∀w,(Go.sizeOf 78).run U w=.ok 2 w:=fun w=>rtS.so w;rw [run_callFunc_extern (fn:=Tryz.f114) (by kernel_rfl) (by kernel_rfl) (by kernel_rfl) (e:=Extern.SlicesOverlaps.overlaps #[22,22] #[4]) (by kernel_rfl) (by kernel_rfl),
  Lib.run_overlaps_apart w 22 4 78 rtS.st 2 z78 ⟨h,0,none⟩ ⟨g,o,none⟩ 1 1 n c hne tA tB es.size cur.size (by simp [World.shape?,hh]) (by simp [World.shape?,hg]) hcur (by simp [x3,hh]) (by simp [x3,hh])]
 rfl
theorem aDs {w:B} {g h n i:Nat} {cur:Array M} {xs es:List M} (hg:w.heap[g]? =some (.cells cur 78 (0,0))) (hs:cur.size=(n+1) * 2) (hx:cur.toList.take (n * 2)=xs) (hn:n<=1000) (hi:i<=n) (hh:w.heap[h]? =some (.cells es.toArray 78 (0,0))) (hne:h ≠ g) (hel:es.length=2) (h1:∀u ∈ es,u.oneCell'=κ) (h1x:∀u ∈ xs,u.oneCell'=κ):
  ι U 78 #[.slice (some ⟨g,0,none⟩) n (n+1),.int .i64 (i:Nat),.slice (some ⟨h,0,none⟩) 1 1] w fun e w'=>e=.returned (.slice (some ⟨g,0,none⟩) (n+1) (n+1))/\w'.heap[g]? =some (.cells (xs.take (i * 2)++es++xs.drop (i * 2)).toArray 78 (0,0))/\w.grownBy w' (some g):=by
 have hxl:xs.length=n * 2:=by rw [<-hx,α,δ,hs];omega
 have RS1:J _:=iK rtS g 0 n (n+1) i hi w;obtain⟨ca,hca⟩:∃ca,ca=iB g 0 (n+1) i 2:=⟨_,rfl⟩
 rw [<-hca] at RS1;by_cases he:i=n
 ·subst he;obtain⟨ti,hti,_,hsz,_⟩:=rtS.size;have hr:=run_append_room (P:=U) w 22 22 78 ti rtS.st hti g i (i+1) cur hg ⟨h,0,none⟩ 1 1 es (by rw [hel,hsz])
   (fun j u hj=>by rw [jX,z8 w h _ _ _ _ hh,γ,<-hj];simp) h1 (by omega) (by rw [hel,hsz,hs];omega)
  rw [hsz,hx,ω (by rw [δ,hs,hel];omega),φ] at hr;have RA:J _:=hr;have HF:J ((w.setRow g (xs++es).toArray).heap[g]? =some (.cells (xs.take (i * 2)++es++xs.drop (i * 2)).toArray 78 (0,0))):=by rw [show xs.take (i * 2)=xs from ψ (by omega),show xs.drop (i * 2)=[] from ω (by omega),φ];exact χ _ _ _ _ _ _ hg
  have HG:J (w.grownBy (w.setRow g (xs++es).toArray) (some g)):=⟨rfl,rfl,rfl,by rw [setRow_size];exact G _,fun k _ hk=>μ _ _ _ _ (fun e=>hk (by rw [e]))⟩
  generalize w.setRow g (xs++es).toArray=W2 at *;clear hg hs hx hh hel h1 h1x hca hr hxl;go_enter Tryz.func78,Tryz.ntmps78;go_wp2_with (first|(refine cB rfl 22 _ _ _ _ rfl _ _ _ _ _ rfl rfl rfl rfl RS1.out ?_;clear RS1)|(at_builtin;refine eF rfl _ _ 22 22 rfl _ _ _ _ rfl rfl RA.out ?_;clear RA))
  go_ret;exact⟨rfl,HF.out,HG.out⟩
 ·have hlt:i < n:=by omega
  obtain⟨m,hm⟩:∃m,m=n+1:=⟨_,rfl⟩
  obtain⟨i1,hi1⟩:∃i1,i1=i+1:=⟨_,rfl⟩
  have HSP:J (∀u,(ε 22 (.slice (some ⟨g,0,none⟩) n m) none (some (.int .i64 (m:Nat))) none).run U u=.ok (.slice (some ⟨g,0,none⟩) m m) u):=fun u=>qQ rtS g 0 n m m (G _) u;have HS1:J (∀u,(ε 22 (.slice (some ⟨g,0,none⟩) m m) (some (.int .i64 (i1:Nat))) none none).run U u=.ok (.slice (some ⟨g,i1 * 2,none⟩) (m - i1) (m - i1)) u):=fun u=>by have:=iK rtS g 0 m m i1 (by omega) u;unfold iB at this;rw [if_neg (by omega),γ] at this;exact this
  have HS2:J (∀u,(ε 22 (.slice (some ⟨g,0,none⟩) m m) (some (.int .i64 (i:Nat))) none none).run U u=.ok (.slice (some ⟨g,i * 2,none⟩) (m - i) (m - i)) u):=fun u=>by have:=iK rtS g 0 m m i (by omega) u;unfold iB at this;rw [if_neg (by omega),γ] at this;exact this
  have HOV:J (∀n c,(callFunc 114 #[.slice (some ⟨h,0,none⟩) 1 1,.slice (some ⟨g,i1 * 2,none⟩) n c]).run U w=.ok (.value (.bool E)) w):=fun n c=>aNQ hne hg (by omega) hh;obtain⟨Y1,hY1⟩:∃Y1:List M,Y1=cur.toList.take (i1 * 2)++xs.drop (i * 2)++cur.toList.drop (i1 * 2+(xs.drop (i * 2)).length):=⟨_,rfl⟩
  have hdl:(xs.drop (i * 2)).length=(n - i) * 2:=by rw [η,hxl];omega
  have hg0:w.drew.heap[g]? =some (.cells cur 78 (0,0)):=hg;have hc1:∀ty dc sc,(x8 #[22,22] ty #[.slice (some ⟨g,i1 * 2,none⟩) (m - i1) dc,.slice (some ⟨g,i * 2,none⟩) (m - i) sc]).run U w.drew=.ok (goInt (m - i1:Nat)) (w.drew.setRow g Y1.toArray):=fun ty dc sc=>by
   have hmin:Nat.min (m - i) (m - i1)=m - i1:=Nat.min_eq_right (by omega);have:=nW rtS w.drew ty g (i1 * 2) (m - i1) dc ⟨g,i * 2,none⟩ (m - i) sc cur 78 (xs.drop (i * 2)) hg0 (by rw [hmin,hdl];congr 1;omega) (fun j v hj=>by
    rw [jX,z8 _ g _ _ _ _ hg0];rw [υ,<-hx] at hj;rw [List.getElem?_take] at hj;split at hj
    ·simpa using hj
    ·cases hj) (by rw [hdl,hs];omega) (fun u hu=>h1x u (z4 hu))
   rw [hmin,<-hY1] at this;exact this
  have aI0:Y1.length=m * 2:=by rw [hY1];simp only [ξ,α,η,δ,hs,hxl];omega
  have g1:(w.drew.setRow g Y1.toArray).heap[g]? =some (.cells Y1.toArray 78 (0,0)):=χ _ _ _ _ _ _ hg0;have hh1:(w.drew.setRow g Y1.toArray).heap[h]? =some (.cells es.toArray 78 (0,0)):=(μ _ _ _ _ hne).trans hh;obtain⟨Y2,hY2⟩:∃Y2:List M,Y2=Y1.take (i * 2)++es++Y1.drop (i * 2+es.length):=⟨_,rfl⟩
  have hc2:∀ty dc,(x8 #[22,22] ty #[.slice (some ⟨g,i * 2,none⟩) (m - i) dc,.slice (some ⟨h,0,none⟩) 1 1]).run U (w.drew.setRow g Y1.toArray)=.ok (goInt 1) ((w.drew.setRow g Y1.toArray).setRow g Y2.toArray):=fun ty dc=>by have hmin:Nat.min 1 (m - i)=1:=Nat.min_eq_left (by omega);have:=nW rtS (w.drew.setRow g Y1.toArray) ty g (i * 2) (m - i) dc ⟨h,0,none⟩ 1 1 Y1.toArray 78 es g1 (by rw [hmin];omega) (fun j v hj=>by rw [jX,z8 _ h _ _ _ _ hh1,γ,<-hj];simp) (by rw [y3,aI0];omega) h1;rw [hmin,List.toList_toArray,<-hY2] at this;exact this
  have hYF:Y2=xs.take (i * 2)++es++xs.drop (i * 2):=by
   have hA:Y1.take (i * 2)=xs.take (i * 2):=by rw [hY1,y4,List.take_append_of_le_length (by rw [α,δ,hs];omega),List.take_take,<-hx,List.take_take];congr 1;omega
   have hB:Y1.drop (i * 2+es.length)=xs.drop (i * 2):=by rw [hY1,hel,show i * 2+2=i1 * 2 by omega,show cur.toList.drop (i1 * 2+(xs.drop (i * 2)).length)=[] from ω (by rw [δ,hs,hdl];omega),φ];exact List.drop_left' (by rw [α,δ,hs];omega)
   rw [hY2,hA,hB]
  have HF:J (((w.drew.setRow g Y1.toArray).setRow g Y2.toArray).heap[g]? =some (.cells (xs.take (i * 2)++es++xs.drop (i * 2)).toArray 78 (0,0))):=by rw [<-hYF];exact χ _ _ _ _ _ _ g1
  have HG:J (w.grownBy ((w.drew.setRow g Y1.toArray).setRow g Y2.toArray) (some g)):=⟨rfl,rfl,rfl,by rw [setRow_size,setRow_size];exact G _,fun k _ hk=>by
   rw [μ _ _ _ _ (fun e=>hk (by rw [e])),μ _ _ _ _ (fun e=>hk (by rw [e]))];rfl⟩
  have RC1:J (∀ty dc sc,_):=hc1;have RC2:J (∀ty dc,_):=hc2;obtain⟨W2,hW2⟩:∃W2,W2=(w.drew.setRow g Y1.toArray).setRow g Y2.toArray:=⟨_,rfl⟩
  rw [<-hW2] at HF HG RC2;obtain⟨W1,hW1⟩:∃W1,W1=w.drew.setRow g Y1.toArray:=⟨_,rfl⟩
  rw [<-hW1] at RC1 RC2;have e1:(n:Int)+1=(m:Int):=by omega
  have e2:IntKind.i64.wrap (m:Int)=(m:Int):=by rw [Φ];omega
  have e5:(i:Int)+1=(i1:Int):=by omega
  have e6:IntKind.i64.wrap (i1:Int)=(i1:Int):=by rw [Φ];omega
  have e7:¬(m:Int) < (m:Int):=by omega
  have e8:¬(i:Int)=(n:Int):=by omega
  rw [<-hm] at RS1 ⊢;have hmi:(i:Int)<=m:=by omega
  obtain⟨q1,hq1⟩:∃q,q=m - i1:=⟨_,rfl⟩
  obtain⟨q2,hq2⟩:∃q,q=m - i:=⟨_,rfl⟩
  rw [<-hq1] at HS1 RC1;rw [<-hq2] at HS2 RC1 RC2;clear hg hs hx hh hel h1 h1x hca hxl hc1 hc2 g1 hh1 aI0 hYF hdl hY1 hY2 hg0 hW2 hW1 hne he hlt hm hi1 hq1 hq2;go_enter Tryz.func78,Tryz.ntmps78;go_wp2_with (first|(refine cB rfl 22 _ _ _ _ rfl _ _ _ _ _ rfl rfl rfl rfl RS1.out ?_;clear RS1)|(refine cB rfl 22 _ _ _ _ rfl _ _ _ _ _ rfl rfl rfl rfl (HSP.out _) ?_;clear HSP)|(refine cB rfl 22 _ _ _ _ rfl _ _ _ _ _ rfl rfl rfl rfl (HS1.out _) ?_)|(simp only [HOV.out]))
  refine aO (fun u=>True) (fun j=>E) (by kernel_rfl) ?_;refine dwp 0 ((.slice (some ⟨g,0,none⟩) m m)) ?_;refine dwp 1 ((.int .i64 (i:Int))) ?_;refine dwp 2 ((.int .i64 1)) ?_;refine dwp 3 ((.int .i64 (i1:Int))) ?_;refine dwp 4 ((.slice (some ⟨g,i1 * 2,none⟩) q1 q1)) ?_ (hy:=(fun u=>dH rfl rfl rfl rfl rfl (HS1.out u)));refine dwp 5 ((.slice (some ⟨g,0,none⟩) m m)) ?_;refine dwp 6 ((.int .i64 (i:Int))) ?_;refine dwp 7 ((.slice (some ⟨g,i * 2,none⟩) q2 q2)) ?_ (hy:=(fun u=>dH rfl rfl rfl rfl rfl (HS2.out u)));refine aH (i:=8) (by kernel_rfl) rfl ?_;intro K' hK';rw [if_pos (by rfl)];refine aBj rfl rfl rfl (RC1.out _ _ _) ?_;refine hK' _ _ (.inr id) ?_;clear hK';try simp only [Act.put,List.setIfInBounds_toArray,List.set_cons_zero,List.set_cons_succ]
  refine aM (by kernel_rfl) ?_ _;have aQe:=RC2.out 3 q2;clear RC2;go_wp2_with (first|(refine cB rfl 22 _ _ _ _ rfl _ _ _ _ _ rfl rfl rfl rfl (HS2.out _) ?_;clear HS2))
  go_ret;exact⟨rfl,HF.out,HG.out⟩
end Go.Proofs.YtfedoljlipfhdaaGreatDoor.Sh
namespace Go
variable {P:Program} {md:Region.Mode} {ops:Array Oper} {Q:Exit->Act->B->Prop} {S:B->Prop} {D:Nat->Bool}
theorem rC {i j:Nat} {oi oj:Oper} {fuel:Nat} {listed:Array Bool} {a:Act} {w:B} (hr:Region.ready md ops listed=[i,j]) (hi:ops[i]? =some oi) (hj:ops[j]? =some oj)
  (h1:∀K':Act->B->Prop,(∀a' w',(D i=κ\/(S w->S w'))->dG P md ops Q S D fuel (listed.setIfInBounds i κ) a' w'->K' a' w')->if Region.wanted oi (yielded ops a.tmps)=κ then Oper.wp P oi a w K' Q else K' (a.put oi.dst undef) w)
  (h2:∀K':Act->B->Prop,(∀a' w',(D j=κ\/(S w->S w'))->dG P md ops Q S D fuel (listed.setIfInBounds j κ) a' w'->K' a' w')->if Region.wanted oj (yielded ops a.tmps)=κ then Oper.wp P oj a w K' Q else K' (a.put oj.dst undef) w):
  dG P md ops Q S D (fuel+1) listed a w:=by
 refine ⟨fun h0=>(by rw [hr] at h0;cases h0),fun k hk=> ?_⟩;rw [hr] at hk;rcases List.mem_cons.1 hk with rfl | hk
 ·exact wpOp_step hi fun K' hK=>h1 K' fun a' w' h1 h2=>hK a' w' ⟨h1,h2⟩
 ·obtain rfl:k=j:=by simpa using hk
  exact wpOp_step hj fun K' hK=>h2 K' fun a' w' h1 h2=>hK a' w' ⟨h1,h2⟩
end Go
namespace Go.Proofs.YtfedoljlipfhdaaGreatDoor.Sh
open Go.RowKit Go.Fm
def qE (x:aP) (s:ByteArray) (at_:Int):Int:=match eH x.sheets s with
 | none=>6
 | some _=>if at_ < 0\/(x.sheets.length:Int)<=at_ then 9 else 0
def dU (x:aP) (i j:Nat):aP:=bZ (bJ x i) j (x.sheets[i]?.getD ⟨⟨#[]⟩,[]⟩)
abbrev aES (w:B) (v0:Nat) (s1 n1 l1:M) (y:aP) (w3:B) (pa:Option Ψ) (n pc:Nat):Prop:=∃w6,w3.cell? ⟨v0,0,none⟩=some s1/\w3.frozen? ⟨v0,0,none⟩=E/\
   J ((ν 26 (pt v0)).run U (w3.setCell ⟨v0,0,none⟩ (.slice pa n pc))=.ok (.agg #[.slice pa n pc,n1,l1]) (w3.setCell ⟨v0,0,none⟩ (.slice pa n pc)))/\
   J ((N 26 (.pointer (some ⟨w.heap.size+1,0,none⟩)) (.agg #[.slice pa n pc,n1,l1])).run U (w3.setCell ⟨v0,0,none⟩ (.slice pa n pc))=.ok () w6)/\
   J (w6.heap[w.heap.size+1]? =some (.cells #[.slice pa n pc,n1,l1] 26))/\J (dD w.heap.size w6 (.slice pa n pc) n1 l1 y)/\J (H w.heap.size w w6)
theorem aAO {base i:Nat} {w:B} {sv:M} {x:aP} {cv:Nat->M} (h1:w.ownsRow base 78 2 sv x.sheets.length ((pairs x.sheets cv).flatMap bW)) (hi:i < x.sheets.length) {q:Option Ψ} {m d:Nat} (e:cv i=.slice q m d):
  ∃A c0,sv=.slice (some A) x.sheets.length c0/\
   J ((ν 78 (.pointer (some (A.add (i * 2))))).run U w=.ok (.agg #[.string x.sheets[i].name,.slice q m d]) w)/\
   J ((N 78 (pt w.heap.size) (.agg #[.string x.sheets[i].name,.slice q m d])).run U (w.alloc (.cells #[dP,.slice none 0 0] 78))=.ok () (w.alloc (dF x.sheets[i].name (.slice q m d)))):=by
 have hl:(pairs x.sheets cv).length=x.sheets.length:=by simp
 have R:=oF (enc:=bW) (L:=pairs x.sheets cv) bD (by rw [hl];exact h1);rw [hl] at R;have R2:Rws base w.heap.size 2 w sv x.sheets.length (iG x.sheets cv):=R.congr fun j hj=>by simp [iG,O hj]
 obtain⟨sa,sc,rfl⟩:=aW h1;obtain⟨A,ov,W,q1⟩:=Rws.runs R2 hi Tryz.underlying78 rfl aMF (getD_some (f:=fun o=>bY o (cv i)) hi) rfl (by rw [e];simp [bY,Γ]) #[dP,.slice none 0 0] rfl;obtain⟨ea,eo,eW,r1,r2,_⟩:=q1;subst ea eo eW;rw [e] at r1 r2;exact⟨A,sc,rfl,r1,r2⟩
theorem aHe {base i:Nat} {w:B} {sv nv lv:M} {x:aP} (h:dD base w sv nv lv x) (hi:i < x.sheets.length):
  ∃A c0 q d,sv=.slice (some A) x.sheets.length c0/\w.ownsRow base 57 3 (.slice q x.sheets[i].cells.length d) x.sheets[i].cells.length (x.sheets[i].cells.flatMap cellC)/\
   J ((ν 78 (.pointer (some (A.add (i * 2))))).run U w=.ok (.agg #[.string x.sheets[i].name,.slice q x.sheets[i].cells.length d]) w)/\
   J ((N 78 (pt w.heap.size) (.agg #[.string x.sheets[i].name,.slice q x.sheets[i].cells.length d])).run U (w.alloc (.cells #[dP,.slice none 0 0] 78))=.ok () (w.alloc (dF x.sheets[i].name (.slice q x.sheets[i].cells.length d)))):=by
 obtain⟨cv,h1,h2⟩:=h.sh;have h3:=h2 i _ (O hi);obtain⟨q,d,e⟩:=aW h3;obtain⟨A,sc,rfl,r1,r2⟩:=aAO h1 hi e;rw [e] at h3;exact⟨A,sc,q,d,rfl,h3,r1,r2⟩
theorem aET {w u0:B} {i j:Nat} {x:aP} {lo hi:Nat} {sv nv lv:M} (h:BkM lo hi u0 sv nv lv x) (hhi:hi<=u0.heap.size) (hz:Small x) (hi:i < x.sheets.length) (hj:j < x.sheets.length) (hw:H w.heap.size w u0) (hX1:u0.heap[w.heap.size+1]? =some (bkO bI bI bI)) {n':Nat} (hn:n'=x.sheets.length - 1):
  ι U 12 #[.agg #[sv,nv,lv]] u0 fun e v=>∃A c0 p1 n1 c1 p2 n2 c2 q m d nm,e=.returned (.agg #[.slice (some A) x.sheets.length c0,.slice p1 n1 c1,.slice p2 n2 c2])/\
   (v.alloc (.cells #[.slice (some A) x.sheets.length c0,.slice p1 n1 c1,.slice p2 n2 c2] 26)).cell? ⟨v.heap.size,0,none⟩=some (.slice (some A) x.sheets.length c0)/\
   J ((ν 78 (.pointer (some (A.add (i * 2))))).run U (v.alloc (.cells #[.slice (some A) x.sheets.length c0,.slice p1 n1 c1,.slice p2 n2 c2] 26))=.ok (.agg #[.string nm,.slice q m d]) (v.alloc (.cells #[.slice (some A) x.sheets.length c0,.slice p1 n1 c1,.slice p2 n2 c2] 26)))/\
   J ((N 78 (.pointer (some ⟨v.heap.size+1,0,none⟩)) (.agg #[.string nm,.slice q m d])).run U ((v.alloc (.cells #[.slice (some A) x.sheets.length c0,.slice p1 n1 c1,.slice p2 n2 c2] 26)).alloc (.cells #[dP,.slice none 0 0] 78))=.ok () ((v.alloc (.cells #[.slice (some A) x.sheets.length c0,.slice p1 n1 c1,.slice p2 n2 c2] 26)).alloc (dF nm (.slice q m d))))/\
   ((v.alloc (.cells #[.slice (some A) x.sheets.length c0,.slice p1 n1 c1,.slice p2 n2 c2] 26)).alloc (dF nm (.slice q m d))).cell? ⟨v.heap.size,0,none⟩=some (.slice (some A) x.sheets.length c0)/\
   J (ι U 80 #[.slice (some A) x.sheets.length c0,.int .i64 (i:Nat)] ((v.alloc (.cells #[.slice (some A) x.sheets.length c0,.slice p1 n1 c1,.slice p2 n2 c2] 26)).alloc (dF nm (.slice q m d))) fun e w4=>∃p c a1 k1 a2 k2,e=.returned (.slice p n' c)/\J (w4.drew.heap[v.heap.size+1]? =some (dF nm (.slice q m d)))/\
    J (∀u,(ε 22 (.slice p n' c) none (some (.int .i64 (j:Nat))) none).run U u=.ok (.slice a1 j k1) u)/\J (∀u,(ε 22 (.slice p n' c) (some (.int .i64 (j:Nat))) none none).run U u=.ok (.slice a2 (n' - j) k2) u)/\
    (∃v1 w1 v2 w2 pa pc w3,J ((β #[22,22] 22 #[bI,.slice a1 j k1]).run U w4.drew=.ok v1 w1)/\J ((β #[22,22] 22 #[v1,.slice (some ⟨w1.heap.size,0,none⟩) 1 1]).run U (w1.alloc (dF nm (.slice q m d)))=.ok v2 w2)/\
     J ((β #[22,22] 22 #[v2,.slice a2 (n' - j) k2]).run U w2=.ok (.slice pa (n'+1) pc) w3)/\J (w1.heap[v.heap.size+1]? =some (dF nm (.slice q m d)))/\J (w2.heap[v.heap.size+1]? =some (dF nm (.slice q m d)))/\J (w3.heap[v.heap.size+1]? =some (dF nm (.slice q m d)))/\
     J (aES w v.heap.size (.slice (some A) x.sheets.length c0) (.slice p1 n1 c1) (.slice p2 n2 c2) (dU x i j) w3 pa (n'+1) pc))/\
    (∃v1 w1 v2 w2 pa pc w3,J ((β #[22,22] 22 #[bI,.slice a1 j k1]).run U (w4.drew.alloc (dF nm (.slice q m d)))=.ok v1 w1)/\J ((β #[22,22] 22 #[v1,.slice (some ⟨w4.heap.size,0,none⟩) 1 1]).run U w1=.ok v2 w2)/\
     J ((β #[22,22] 22 #[v2,.slice a2 (n' - j) k2]).run U w2=.ok (.slice pa (n'+1) pc) w3)/\J (w1.heap[v.heap.size+1]? =some (dF nm (.slice q m d)))/\J (w2.heap[v.heap.size+1]? =some (dF nm (.slice q m d)))/\J (w3.heap[v.heap.size+1]? =some (dF nm (.slice q m d)))/\
     J (aES w v.heap.size (.slice (some A) x.sheets.length c0) (.slice p1 n1 c1) (.slice p2 n2 c2) (dU x i j) w3 pa (n'+1) pc))):=by
 have hlen:x.sheets.length<=1000:=hz.sh;refine (pJ h hhi hz).mono ?_;rintro e v ⟨s1,m1,l1,rfl,hO,hb⟩;have hl1:=aF hX1;have hO:=hO.le hw.size;obtain⟨p1,c1,rfl⟩:=aW hO.nm;obtain⟨p2,c2,rfl⟩:=aW hO.lk;obtain⟨V,hV⟩:∃V,V=v.alloc (.cells #[s1,.slice p1 x.names.length c1,.slice p2 x.links.length c2] 26):=⟨_,rfl⟩
 have hX:V.heap[v.heap.size]? =some (.cells #[s1,.slice p1 x.names.length c1,.slice p2 x.links.length c2] 26):=by rw [hV];exact K v _
 have hbV:H v.heap.size v V:=by rw [hV];exact Sh.aC (I _ _) (G _) _
 have hVs:V.heap.size=v.heap.size+1:=by rw [hV];simp
 have hwv:H w.heap.size w v:=Sh.aD hw hw.size hb;have hbw:H w.heap.size w V:=Sh.aD hwv hwv.size hbV;have aDt:=(hb.block _ hl1).trans hX1;have nN:=(hbV.block _ (aF aDt)).trans aDt;have hne:w.heap.size+1 ≠ v.heap.size:=by have:=hb.size;omega
 have hOV:=hO.below hbV;obtain⟨A,c0,q,d,rfl,hq,r1,r2⟩:=aHe hOV hi;generalize hs:x.sheets[i]=t at *;obtain⟨V1,hV1⟩:∃V1,V1=V.alloc (dF t.name (.slice q t.cells.length d)):=⟨_,rfl⟩
 have aBD:H V.heap.size V V1:=by rw [hV1];exact Sh.aC (I _ _) (G _) _
 have hB1:V1.heap[v.heap.size+1]? =some (dF t.name (.slice q t.cells.length d)):=by rw [hV1,<-hVs];exact K V _
 have aKs:H w.heap.size w V1:=Sh.aD hbw hbw.size aBD;have aNR:=(aBD.block _ (aF hX)).trans hX;have aMP:=(aBD.block _ (aF nN)).trans nN;rw [hVs,<-hV1] at r2;refine ⟨A,c0,p1,_,c1,p2,_,c2,q,t.cells.length,d,t.name,rfl, ?_, ?_, ?_, ?_, ?_⟩
 ·rw [<-hV];exact aI hX rfl
 ·rw [<-hV];exact r1
 ·rw [<-hV,<-hV1];exact r2
 ·rw [<-hV,<-hV1];exact aI aNR rfl
 rw [<-hV,<-hV1];have hxl:(bJ x i).sheets.length=n':=by simp [bJ,List.length_eraseIdx,hi];omega
 refine Calls.mono (vT (hOV.below aBD) hi hlen aKs.size) ?_;rintro e w4 ⟨p,c,rfl,ho,hb4⟩;have aKt:H V1.heap.size V1 w4.drew:=hb4.drew;have aEU:H w.heap.size w w4.drew:=Sh.aD aKs aKs.size aKt;have ho':dD w.heap.size w4.drew (.slice p (bJ x i).sheets.length c) (.slice p1 x.names.length c1) (.slice p2 x.links.length c2) (bJ x i):=by have:=ho.below ((I w4.heap.size w4).drew);rw [hxl,hn];exact this
 have hq4:w4.drew.ownsRow w.heap.size 57 3 (.slice q t.cells.length d) t.cells.length (t.cells.flatMap cellC):=dY (dY hq fun g _ hg _=>aBD.block g (aF hg)) fun g _ hg _=>aKt.block g (aF hg);have hB4:=(aKt.block _ (aF hB1)).trans hB1;have hX4:=(aKt.block _ (aF aNR)).trans aNR;have aKu:=(aKt.block _ (aF aMP)).trans aMP;have hmv:dU x i j=bZ (bJ x i) j t:=by simp [dU,O hi,hs]
 have fin:∀{pa:Option Ψ} {pc:Nat} {w3:B},dD w.heap.size w3 (.slice pa (n'+1) pc) (.slice p1 x.names.length c1) (.slice p2 x.links.length c2) (bZ (bJ x i) j t)->H w4.drew.heap.size w4.drew w3->aES w v.heap.size (.slice (some A) x.sheets.length c0) (.slice p1 x.names.length c1) (.slice p2 x.links.length c2) (dU x i j) w3 pa (n'+1) pc:=fun h3 hb3=>by rw [hmv];exact tV h3 ((hb3.block _ (aF hX4)).trans hX4) ((hb3.block _ (aF aKu)).trans aKu) hne (Sh.aD aEU aEU.size hb3) (by have:=hwv.size;omega) (by omega)
 obtain⟨a1,k1,a2,k2,S1,S2,⟨v1,w1,v2,w2,pa,pc,w3,A1,A2,A3,B1,_,B2,O3,B3⟩,⟨v1',w1',v2',w2',pa',pc',w3',A1',A2',A3',_,B1',B2',O3',B3'⟩⟩:=aOJ (j:=j) ho' hq4 (by omega) (by omega) aEU.size;rw [hxl] at S1 S2 A3 O3 A3' O3';have hh:x.sheets.length - 1=n':=hn.symm;refine ⟨p,c,a1,k1,a2,k2,by rw [hh],hB4,S1,S2,⟨v1,w1,v2,w2,pa,pc,w3,A1,A2,A3,(B1.out.block _ (aF hB4)).trans hB4,(B2.out.block _ (aF hB4)).trans hB4,(B3.out.block _ (aF hB4)).trans hB4,fin O3.out B3.out⟩,⟨v1',w1',v2',w2',pa',pc',w3',A1',A2',A3',(B1'.out.block _ (aF hB4)).trans hB4,(B2'.out.block _ (aF hB4)).trans hB4,(B3'.out.block _ (aF hB4)).trans hB4,fin O3'.out B3'.out⟩⟩
end Go.Proofs.YtfedoljlipfhdaaGreatDoor.Sh
namespace Go.Proofs.YtfedoljlipfhdaaGreatDoor.Sh
open Go.RowKit
structure FrZ (lo hi:Nat) (w w':B):Prop where
 bel:H lo w w'
 up:∀g,hi<=g->g < w.heap.size->w'.heap[g]? =w.heap[g]?
theorem FrZ.refl (lo hi:Nat) (w:B):FrZ lo hi w w:=⟨I _ _,fun _ _ _=>rfl⟩
theorem FrZ.set {lo hi g:Nat} {w u:B} (h:FrZ lo hi w u) (h1:lo<=g) (h2:g < hi) (es:Array M):FrZ lo hi w (u.setRow g es):=
 ⟨below_setRow h.bel h1 es,fun k hk hl=>(μ _ _ _ _ (by omega)).trans (h.up k hk hl)⟩
def rD (lo hi:Nat) (w:B) (t:Ω) (sz:Nat) (v:M) (n:Nat):Prop:=
 (v=bI/\n=0)\/∃g cap cur,v=.slice (some ⟨g,0,none⟩) n cap/\lo<=g/\g < hi/\w.heap[g]? =some (.cells cur t (0,0))/\n * sz<=cur.size
theorem rD.of {lo hi sz n:Nat} {w w':B} {t:Ω} {v:M} {xs:List M} (h:w.ownsRow lo t sz v n xs) (hh:w.heap.size<=hi) (hk:∀g,g < w.heap.size->w'.heap[g]? =w.heap[g]?):rD lo hi w' t sz v n:=by
 rcases h.2 with e | ⟨g,cap,cur,e,h1,h2,h3,h4,h5,h6⟩
 ·exact .inl e
 ·have:=aF h2;exact .inr ⟨g,cap,cur,e,h1,by omega,(hk g this).trans h2,by rw [h5];exact x2 _ h3⟩
theorem rD.set {lo hi sz n g:Nat} {w:B} {t t':Ω} {v:M} {cur cur':Array M} (h:rD lo hi w t sz v n) (hg:w.heap[g]? =some (.cells cur t' (0,0))) (hs:cur'.size=cur.size):rD lo hi (w.setRow g cur') t sz v n:=by
 rcases h with e | ⟨k,cap,c,e,h1,h2,h3,h4⟩
 ·exact .inl e
 ·by_cases hk:k=g
  ·subst hk;rw [hg] at h3;cases h3
   exact .inr ⟨k,cap,cur',e,h1,h2,χ _ _ _ _ _ _ hg,by omega⟩
  ·exact .inr ⟨k,cap,c,e,h1,h2,(μ _ _ _ _ hk).trans h3,h4⟩
theorem rD.slice {lo hi sz n:Nat} {w:B} {t:Ω} {v:M} (h:rD lo hi w t sz v n):∃a c,v=.slice a n c:=by
 rcases h with ⟨rfl,rfl⟩ | ⟨k,cap,c,e,_⟩
 ·exact ⟨_,_,rfl⟩
 ·exact ⟨_,_,e⟩
theorem rD.store {lo hi sz n k:Nat} {w:B} {t:Ω} {a:Option Ψ} {c:Nat} {val:M} {vs:List M} (h:rD lo hi w t sz (.slice a n c) n) (hk:k < n) (hz:(sizeOf t).run U w=.ok sz w) (hv:val.cells=vs.toArray) (hl:vs.length=sz) (h1:∀u ∈ vs,u.oneCell'=κ):
  ∃(A:Ψ) (g:Nat) (cur cur':Array M),a=some A/\J ((N t (.pointer (some (A.add (k * sz)))) val).run U w=.ok () (w.setRow g cur'))/\w.heap[g]? =some (.cells cur t (0,0))/\cur'.size=cur.size/\lo<=g/\g < hi:=by
 rcases h with ⟨e,e2⟩ | ⟨g,cap,cur,e,h2,h3,h4,h5⟩
 ·omega
 ·cases e
  have hf:k * sz+vs.length<=cur.size:=by have:(k+1) * sz<=n * sz:=x2 _ hk;rw [Nat.add_mul] at this;omega
  refine ⟨⟨g,0,none⟩,g,cur,(cur.toList.take (k * sz)++vs++cur.toList.drop (k * sz+vs.length)).toArray,rfl, ?_,h4, ?_,h2,h3⟩
  ·show _=_;rw [ο,γ];exact aDc h4 hv hf h1 (by rw [hl];exact hz)
  ·simp only [y3,ξ,α,η,δ];omega
def SRw (lo hi:Nat) (w:B) (v:M) (n:Nat) (cv:Nat->M):Prop:=
 (v=bI/\n=0)\/∃g cap cur,v=.slice (some ⟨g,0,none⟩) n cap/\lo<=g/\g < hi/\w.heap[g]? =some (.cells cur 78 (0,0))/\n * 2<=cur.size/\∀j,j < n->cur[j * 2+1]? =some (cv j)
structure SpI (lo hi:Nat) (W w:B) (sv nv lv:M) (n:Nat) (cv:Nat->M) (m:Nat->Nat) (nn ln:Nat):Prop where
 sh:SRw lo hi w sv n cv
 cl:∀j,j < n->rD lo hi w 57 3 (cv j) (m j)
 nm:rD lo hi w 89 3 nv nn
 lk:rD lo hi w 91 7 lv ln
 fr:FrZ lo hi W w
section
variable {lo hi n nn ln:Nat} {W w:B} {sv nv lv:M} {cv:Nat->M} {m:Nat->Nat}
theorem SpI.set (h:SpI lo hi W w sv nv lv n cv m nn ln) {g:Nat} {cur cur':Array M} {t:Ω} (hg:w.heap[g]? =some (.cells cur t (0,0))) (ht:t ≠ 78) (hs:cur'.size=cur.size) (h1:lo<=g) (h2:g < hi):SpI lo hi W (w.setRow g cur') sv nv lv n cv m nn ln:=by
 refine ⟨?_,fun j hj=>(h.cl j hj).set hg hs,h.nm.set hg hs,h.lk.set hg hs,h.fr.set h1 h2 _⟩;rcases h.sh with e | ⟨k,cap,c,e,k1,k2,k3,k4⟩
 ·exact .inl e
 ·have hk:k ≠ g:=by
   intro eq;rw [eq,hg] at k3;cases k3
   exact ht rfl
  exact .inr ⟨k,cap,c,e,k1,k2,(μ _ _ _ _ hk).trans k3,k4⟩
theorem SpI.at {sa:Option Ψ} {sc:Nat} (h:SpI lo hi W w (.slice sa n sc) nv lv n cv m nn ln) {i:Nat} (hi':i < n):
  ∃(S:Ψ) (w2:B),sa=some S/\w.cell? ⟨(S.add (i * 2)).block,(S.add (i * 2)).off+1,none⟩=some (cv i)/\J ((N 9 (.pointer (some (S.add (i * 2)))) (.string ⟨#[115,112,111,105,108,116]⟩)).run U w=.ok () w2)/\J (SpI lo hi W w2 (.slice (some S) n sc) nv lv n cv m nn ln):=by
 rcases h.sh with ⟨e,e2⟩ | ⟨g,cap,cur,e,k1,k2,k3,k4,k5⟩
 ·omega
 ·cases e
  have hst:=aDc (o:=i * 2) (ty:=9) (v:=.string ⟨#[115,112,111,105,108,116]⟩) (vs:=[.string ⟨#[115,112,111,105,108,116]⟩]) k3 rfl (by simp;omega) (by simp [Γ]) (Tryz.sizeOf9 w);refine ⟨⟨g,0,none⟩,_,rfl, ?_,by show _=_;rw [ο,γ];exact hst, ?_⟩
  ·rw [ο];exact aI k3 (by rw [γ];exact k5 i hi')
  ·have hsz:(cur.toList.take (i * 2)++ [Value.string ⟨#[115,112,111,105,108,116]⟩]++cur.toList.drop (i * 2+ [Value.string ⟨#[115,112,111,105,108,116]⟩].length)).toArray.size=cur.size:=by simp only [y3,ξ,α,η,δ,θ,y7];omega
   refine ⟨.inr ⟨g,_,_,rfl,k1,k2,χ _ _ _ _ _ _ k3,by rw [hsz];exact k4,fun j hj=> ?_⟩,fun j hj=>(h.cl j hj).set k3 hsz,h.nm.set k3 hsz,h.lk.set k3 hsz,h.fr.set k1 k2 _⟩;rw [<-k5 j hj];simp only [List.getElem?_toArray,θ,y7];by_cases hlt:j < i
   ·rw [y4,List.getElem?_append_left (by simp;omega),σ (by omega)];simp
   ·rw [List.getElem?_append_right (by simp;omega),υ];simp only [ξ,α,δ,θ,y7,Θ];congr 1;omega
end
def clN (x:aP) (j:Nat):Nat:=(x.sheets[j]?.map (·.cells.length)).getD 0
theorem aNS {x:aP} (hz:Small x) (j:Nat):clN x j<=1000:=by
 unfold clN;by_cases hj:j < x.sheets.length
 ·rw [O hj];exact hz.cl _ (List.getElem_mem hj)
 ·rw [List.getElem?_eq_none (by omega)];exact π _
theorem dD.spi {lo:Nat} {w1 w:B} {sv nv lv:M} {x:aP} (h:dD lo w1 sv nv lv x) (hb:∀g,g < w1.heap.size->w.heap[g]? =w1.heap[g]?):
  ∃cv,SpI lo w1.heap.size w w sv nv lv x.sheets.length cv (clN x) x.names.length x.links.length:=by
 obtain⟨cv,h1,h2⟩:=h.sh;refine ⟨cv, ?_,fun j hj=> ?_,rD.of h.nm (G _) hb,rD.of h.lk (G _) hb,FrZ.refl _ _ _⟩
 ·rcases h1.2 with e | ⟨g,cap,cur,e,k1,k2,k3,k4,k5,k6⟩
  ·exact .inl e
  ·have hl:=aF k2;refine .inr ⟨g,cap,cur,e,k1,hl,(hb g hl).trans k2,by omega,fun j hj=> ?_⟩;have hp:(pairs x.sheets cv).length=x.sheets.length:=by simp
   have hf:=xR (enc:=bW) bD (pairs x.sheets cv) j 1 (by omega) (by decide);rw [<-k6,σ (by omega)] at hf;rw [Θ] at hf;rw [hf];simp [bY]
 ·have:=h2 j _ (O hj);unfold clN;rw [O hj];exact rD.of this (G _) hb
theorem aPN (u:B):(Ξ 57 #[(0,.int .i64 (-1))]).run U u=.ok (.agg #[.int .i64 (-1),iI,dP]) u:=by kernel_rfl
theorem aPO (u:B):(Ξ 89 #[]).run U u=.ok (.agg #[dP,dP,dP]) u:=by kernel_rfl
theorem aPP (u:B):(Ξ 91 #[]).run U u=.ok (.agg #[dP,dP,iI,iI,iI,iI,dP]) u:=by kernel_rfl
theorem aHf {lo:Nat} {w1 w:B} {sv nv lv:M} {x:aP} (h:dD lo w1 sv nv lv x) (hz:Small x) (hlo:lo<=w1.heap.size) (hs:w1.heap.size<=w.heap.size) (hb:∀g,g < w1.heap.size->w.heap[g]? =w1.heap[g]?):
  ι U 16 #[.agg #[sv,nv,lv]] w fun e w'=>e=.returned (.tuple #[])/\FrZ lo w1.heap.size w w':=by
 obtain⟨W,hW⟩:∃W,W=w.alloc (bkO sv nv lv):=⟨_,rfl⟩
 have hWs:W.heap.size=w.heap.size+1:=by rw [hW];simp
 have hbW:H w.heap.size w W:=by rw [hW];exact Sh.aC (I _ _) (G _) _
 have hG0:W.heap[w.heap.size]? =some (bkO sv nv lv):=by rw [hW];exact K w _
 obtain⟨cv,hI⟩:=h.spi (w:=W) fun g hg=>(hbW.block g (by omega)).trans (hb g hg);have hlm:∀j,clN x j<=1000:=aNS hz;have hls:x.sheets.length<=1000:=hz.sh;have hln:x.names.length<=1000:=hz.nm;have hll:x.links.length<=1000:=hz.lk;have KB:J (∀u,FrZ lo w1.heap.size W u->u.cell? ⟨w.heap.size,0,none⟩=some sv/\u.cell? ⟨w.heap.size,1,none⟩=some nv/\u.cell? ⟨w.heap.size,2,none⟩=some lv):=fun u hu=>bE ((hu.up _ hs (by omega)).trans hG0);have aPQ:J (∀u,FrZ lo w1.heap.size W u->FrZ lo w1.heap.size w u):=fun u hu=>
  ⟨⟨hu.bel.os.trans hbW.os,hu.bel.tape.trans hbW.tape,hu.bel.output.trans hbW.output,Δ hbW.size hu.bel.size,fun k hk=>(hu.bel.block k hk).trans (hbW.block k (by omega))⟩,fun g hg hl=>(hu.up g hg (by omega)).trans (hbW.block g hl)⟩
 have HI:J _:=hI;obtain⟨sa,sc,rfl⟩:∃a c,sv=.slice a x.sheets.length c:=by obtain⟨cv',q1,_⟩:=h.sh;exact aW q1
 obtain⟨na,nc,rfl⟩:=aW h.nm;obtain⟨la,lc,rfl⟩:=aW h.lk;obtain⟨z0,z1,z2⟩:=bE hG0;rw [hW] at z0 z1 z2;have HW:J (w.alloc (bkO (.slice sa x.sheets.length sc) (.slice na x.names.length nc) (.slice la x.links.length lc))=W):=hW.symm;clear h hs hb hlo hI hW hWs hbW hG0 hz;generalize clN x=m at *;generalize x.sheets.length=n at *;generalize x.names.length=nn at *;generalize x.links.length=ln at *;go_enter Tryz.func16,Tryz.ntmps16;go_wp2;go_loopw [9] (fun i wr=>∃(k:Nat),k<=n/\i=.int .i64 (k:Nat)/\J (SpI lo w1.heap.size W wr (.slice sa n sc) (.slice na nn nc) (.slice la ln lc) n cv m nn ln)) (fun i _=>n - (intOf i).toNat)
 case atStart=> rw [HW.out];exact⟨0,π _,rfl,HI.out⟩
 case round=>
  obtain⟨k,hk,rfl,HI⟩:=hrel;clear z0 z1 z2;by_cases hkL:k < n
  ·have hki:(k:Int) < n:=by omega
   have mF:k < 9223372036854775807:=by omega
   obtain⟨ca,cc,hcv⟩:=(HI.out.cl k hkL).slice;have HCV:J (cv k=.slice ca (m k) cc):=hcv;obtain⟨S,_,rfl,c1,_,_⟩:=HI.out.at hkL;obtain⟨z0,_,_⟩:=KB.out _ HI.out.fr;rw [hcv] at c1;clear hcv;have hmk:=hlm k;obtain⟨mk,hmk'⟩:∃mk,mk=m k:=⟨_,rfl⟩
   have HMK:J (m k=mk):=hmk'.symm;rw [<-hmk'] at c1 hmk HCV;clear hmk';go_wp2;go_loopw [19] (fun i wr=>∃(j:Nat),j<=mk/\i=.int .i64 (j:Nat)/\J (SpI lo w1.heap.size W wr (.slice (some S) n sc) (.slice na nn nc) (.slice la ln lc) n cv m nn ln)) (fun i _=>mk - (intOf i).toNat)
   case atStart=>exact⟨0,π _,rfl,HI⟩
   case round=>
    clear HI z0 c1;obtain⟨j,hj,rfl,HI⟩:=hrel;obtain⟨S',w2,e,c1,RS,HI2⟩:=HI.out.at hkL;obtain rfl:=Option.some.inj e;clear e;obtain⟨z0,_,_⟩:=KB.out _ HI.out.fr;rw [HCV.out] at c1;by_cases hjL:j < mk
    ·have hji:(j:Int) < mk:=by omega
     have aOK:j < 9223372036854775807:=by omega
     have hR:=HI.out.cl k hkL;rw [HCV.out,HMK.out] at hR;obtain⟨A,g,cur,cur',rfl,RC,hg,hsz,hg1,hg2⟩:=hR.store hjL (Tryz.sizeOf57 _) (val:=.agg #[.int .i64 (-1),iI,dP]) (vs:=[.int .i64 (-1),iI,dP]) rfl rfl (by simp [Γ]);have HI3:J (SpI lo w1.heap.size W _ (.slice (some S) n sc) (.slice na nn nc) (.slice la ln lc) n cv m nn ln):=HI.out.set hg (by decide) hsz hg1 hg2;clear hR hg hsz hg1 hg2 HI HI2 RS;generalize World.setRow _ g cur'=w3 at *;go_wp2_with (first|((with_reducible show wL (x1 57 _));refine aY rfl 57 _ rfl _ _ (by go_simp) (aPN _) ?_)|((with_reducible show wL (z7 57 _ _));refine aA rfl 57 _ _ rfl _ _ _ rfl rfl RC.out ?_;clear RC))
     go_roundw
     case rel=>exact⟨j+1,by omega,by go_num,HI3⟩
     case measure=>simp [intOf];omega
    ·have hji:¬(j:Int) < mk:=by omega
     clear c1 HI;go_wp2_with (first|((with_reducible show wL (z7 9 _ _));refine aA rfl 9 _ _ rfl _ _ _ rfl rfl RS.out ?_;clear RS))
     go_roundw
     case rel=>exact⟨k+1,by omega,by go_num,HI2⟩
     case measure=>simp [intOf];omega
  ·have hki:¬(k:Int) < n:=by omega
   obtain⟨z0,z1,z2⟩:=KB.out _ HI.out.fr;clear z0;go_wp2;go_loopw [41] (fun i wr=>∃(j:Nat),j<=nn/\i=.int .i64 (j:Nat)/\J (SpI lo w1.heap.size W wr (.slice sa n sc) (.slice na nn nc) (.slice la ln lc) n cv m nn ln)) (fun i _=>nn - (intOf i).toNat)
   case atStart=>exact⟨0,π _,rfl,HI⟩
   case round=>
    clear HI z1 z2;obtain⟨j,hj,rfl,HI⟩:=hrel;obtain⟨z0,z1,z2⟩:=KB.out _ HI.out.fr;clear z0;by_cases hjL:j < nn
    ·have hji:(j:Int) < nn:=by omega
     have aOK:j < 9223372036854775807:=by omega
     obtain⟨A,g,cur,cur',rfl,RC,hg,hsz,hg1,hg2⟩:=HI.out.nm.store hjL (Tryz.sizeOf89 _) (val:=.agg #[dP,dP,dP]) (vs:=[dP,dP,dP]) rfl rfl (by simp [Γ]);have HI3:J (SpI lo w1.heap.size W _ (.slice sa n sc) (.slice (some A) nn nc) (.slice la ln lc) n cv m nn ln):=HI.out.set hg (by decide) hsz hg1 hg2;clear hg hsz hg1 hg2 HI z2;generalize World.setRow _ g cur'=w3 at *;go_wp2_with (first|((with_reducible show wL (x1 89 _));refine aY rfl 89 _ rfl _ _ (by go_simp) (aPO _) ?_)|((with_reducible show wL (z7 89 _ _));refine aA rfl 89 _ _ rfl _ _ _ rfl rfl RC.out ?_;clear RC))
     go_roundw
     case rel=>exact⟨j+1,by omega,by go_num,HI3⟩
     case measure=>simp [intOf];omega
    ·have hji:¬(j:Int) < nn:=by omega
     clear z1;go_wp2;go_loopw [53] (fun i wr=>∃(j:Nat),j<=ln/\i=.int .i64 (j:Nat)/\J (SpI lo w1.heap.size W wr (.slice sa n sc) (.slice na nn nc) (.slice la ln lc) n cv m nn ln)) (fun i _=>ln - (intOf i).toNat)
     case atStart=>exact⟨0,π _,rfl,HI⟩
     case round=>
      clear HI z2 hj hjL hji;obtain⟨j,hj,rfl,HI⟩:=hrel;obtain⟨z0,z1,z2⟩:=KB.out _ HI.out.fr;clear z0 z1;by_cases hjL:j < ln
      ·have hji:(j:Int) < ln:=by omega
       have aOK:j < 9223372036854775807:=by omega
       obtain⟨A,g,cur,cur',rfl,RC,hg,hsz,hg1,hg2⟩:=HI.out.lk.store hjL (Tryz.sizeOf91 _) (val:=.agg #[dP,dP,iI,iI,iI,iI,dP]) (vs:=[dP,dP,iI,iI,iI,iI,dP]) rfl rfl (by simp [Γ]);have HI3:J (SpI lo w1.heap.size W _ (.slice sa n sc) (.slice na nn nc) (.slice (some A) ln lc) n cv m nn ln):=HI.out.set hg (by decide) hsz hg1 hg2;clear hg hsz hg1 hg2 HI;generalize World.setRow _ g cur'=w3 at *;go_wp2_with (first|((with_reducible show wL (x1 91 _));refine aY rfl 91 _ rfl _ _ (by go_simp) (aPP _) ?_)|((with_reducible show wL (z7 91 _ _));refine aA rfl 91 _ _ rfl _ _ _ rfl rfl RC.out ?_;clear RC))
       go_roundw
       case rel=>exact⟨j+1,by omega,by go_num,HI3⟩
       case measure=>simp [intOf];omega
      ·have hji:¬(j:Int) < ln:=by omega
       have HF:=aPQ.out _ HI.out.fr;have HFH:J _:=HF;clear HF HI z2;go_wp2;exact bodyPost_end (results_none rfl _ _ _) rfl ⟨rfl,HFH.out⟩
end Go.Proofs.YtfedoljlipfhdaaGreatDoor.Sh
