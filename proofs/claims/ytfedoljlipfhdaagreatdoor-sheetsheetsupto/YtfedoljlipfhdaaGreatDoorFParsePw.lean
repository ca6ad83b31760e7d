/- FNeg, FArgs, FCell, FWord, FWord2, VGood, FOne, FAll, FPure2, FWhole, TLex, FParse. -/
import Derived.Defers
import Derived.Recover
import Derived.Test.YtfedoljlipfhdaaGreatDoorFLevPw
set_option linter.unusedVariables false
set_option linter.unusedSimpArgs false
set_option maxHeartbeats 16000000
set_option maxRecDepth 100000
open Go.Proofs.Tryz renaming prog->Z
open Go renaming Calls->J,World->N,bodyPost_ret->α,heap_alloc_new->δ,Value->ε,cell_of_row->ζ,setRow_heap->Γ,Ending->z1
open Go.RowKit renaming Hid->D,Below->ν
open Bool renaming false->I,true->η
open Go.World renaming grownBy_alloc->E,frozen?->σ,setCell->Ψ
open Option.some renaming inj->O,injEq->Δ
open Nat renaming le_refl->β,le_trans->z0
open Go.Instr renaming storeAt->γ,loadAt->υ,buildSlice->Ξ
open Option renaming bind_some->θ,map_some->ψ
open List renaming setIfInBounds_toArray->ι,set_cons_zero->ο,set_cons_succ->π,length_cons->χ,length_map->ω,not_mem_nil->Θ,replicate->Φ,mem_cons->Ω,length->z2
open Go.RowKit.Below renaming refl->κ,heap_alloc->μ
open Go.Lib renaming grownBy_setCell->ξ
open Go.World.ownsRow renaming lt->ρ
open Go.ByteArray renaming toList_eq->τ
open Go.Value renaming slice->φ
namespace Go.Proofs.YtfedoljlipfhdaaGreatDoor
open Go.RowKit Go.Fm
theorem aLI {W:N} {b:Nat} {ts:List Tk.Tok} (hn:ts.length<=256) (C6:∀u,aU ts=[45]->PR W b ts.tail u->J Z 296 #[pt b] u (PO W b u (PP 6 ts.tail)))
  (C7:∀u,PR W b ts u->J Z 313 #[pt b] u (PO W b u (PP 7 ts))) {w:N} (X:PR W b ts w):
  J Z 296 #[pt b] w (PO W b w (PP 6 ts)):=by
 have hb:=X.lt;have e:PP 6 ts=if aU ts=[45] then (PP 6 ts.tail).map fun p=>(unT [45] p.1,p.2) else PP 7 ts:=aI6 upF trF ts;rw [e];by_cases h:aU ts=[45]
 ·rw [if_pos h];have SK:J Z 311 #[pt b,.string ⟨#[45]⟩] (w.alloc (.cells nd0 67)) fun e w'=>e=.returned (.bool η)/\Sp W b ts.tail (w.alloc (.cells nd0 67)) w':=fP (X.alloc (.cells nd0 67)) (by omega) [45] (by decide) h;have C:=fun u=>C6 u h;clear C6 C7 X e;cases hP:PP 6 ts.tail with
  | none=>
   rw [hP] at C;have C':∀u,PR W b ts.tail u->J Z 296 #[pt b] u fun e w'=>e=.panicked dK/\u.grownBy w' (some b):=C;clear C hP h;go_enter Tryz.func296,Tryz.ntmps296;go_wp2_with (first|(go_at_call 311;refine SK.mono ?_;rintro e w1 ⟨rfl,hs⟩;have HS:D (Sp W b ts.tail (w.alloc (.cells nd0 67)) w1):=hs;clear hs)|(go_at_call 296;refine (C' _ HS.out.1).mono ?_;rintro e w2 ⟨rfl,hg⟩))
   exact⟨rfl,rfl,aG (E _ _ _) (aG HS.out.2 hg)⟩
  | some p=>
   obtain⟨m,r⟩:=p;rw [hP] at C;have C':∀u,PR W b ts.tail u->J Z 296 #[pt b] u fun e w'=>∃es,e=.returned (.agg es)/\NK (fun i=>u.heap.size<=i) w' es m/\Sp W b r u w':=C;have C2:∀u,Sp W b ts.tail (w.alloc (.cells nd0 67)) u->J Z 296 #[pt b] u fun e w'=>∃es,e=.returned (.agg es)/\D (NK (fun i=>w.heap.size < i) w' es m)/\D (Sp W b r (w.alloc (.cells nd0 67)) w'):=fun u hu=>(C' u hu.1).mono (by
    rintro e w' ⟨es,rfl,h1,h2⟩;exact⟨es,rfl,h1.mono (fun i hi _=>by have:=hu.2.size;simp at this;omega),hu.step h2⟩)
   have UN:∀(u:N) (es:Array ε),NK (fun i=>w.heap.size < i) u es m->Sp W b r (w.alloc (.cells nd0 67)) u->J Z 312 #[.string ⟨#[45]⟩,.agg es] u fun e w'=>∃fs,e=.returned (.agg fs)/\D ((γ 67 (pt w.heap.size) (.agg fs)).run Z w'=.ok () (w'.setRow w.heap.size fs))/\D (w'.heap[w.heap.size]? =some (.cells nd0 67))/\D (fs.size=18)/\
     D (NK (fun i=>w.heap.size<=i) (w'.setRow w.heap.size fs) fs (unT [45] m)/\Sp W b r w (w'.setRow w.heap.size fs)):=fun u es hN hS=>(aAF [45] hN).mono (by
    rintro e w' ⟨fs,rfl,h1,h2⟩;exact⟨fs,rfl,gF hb (h1.mono (fun i hi _=>by have:=hS.2.size;simp at this;rcases hi with hi | hi <;> omega)) (hS.bel h2)⟩)
   clear C C' hP h;go_enter Tryz.func296,Tryz.ntmps296;go_wp2_with (first|(go_at_call 311;refine SK.mono ?_;rintro e w1 ⟨rfl,hs⟩;have HS:D (Sp W b ts.tail (w.alloc (.cells nd0 67)) w1):=hs;clear hs)|(go_at_call 296;refine (C2 _ HS.out).mono ?_;rintro e w2 ⟨es,rfl,HN,HS2⟩)|(go_at_call 312;refine (UN _ _ HN.out HS2.out).mono ?_;rintro e w3 ⟨fs,rfl,RS,HG,HZ,HF⟩)|(refine aA rfl 67 _ _ rfl _ _ _ rfl rfl RS.out ?_))
   exact α (aZ HG.out HZ.out rfl rfl) rfl ⟨fs,rfl,HF.out.1,HF.out.2⟩
 ·rw [if_neg h];have SK:J Z 311 #[pt b,.string ⟨#[45]⟩] (w.alloc (.cells nd0 67)) fun e w'=>e=.returned (.bool I)/\w'=w.alloc (.cells nd0 67):=iW (X.alloc (.cells nd0 67)) (by omega) [45] h;have C:=C7 _ (X.alloc (.cells nd0 67));clear C6 C7 X e;cases hP:PP 7 ts with
  | none=>
   rw [hP] at C;have C':J Z 313 #[pt b] (w.alloc (.cells nd0 67)) fun e w'=>e=.panicked dK/\(w.alloc (.cells nd0 67)).grownBy w' (some b):=C;clear C hP h;go_enter Tryz.func296,Tryz.ntmps296;go_wp2_with (first|(go_at_call 311;refine SK.mono ?_;rintro e w1 ⟨rfl,hs⟩;obtain rfl:=hs.symm;clear hs)|(go_at_call 313;refine C'.mono ?_;rintro e w2 ⟨rfl,hg⟩))
   exact⟨rfl,rfl,aG (E _ _ _) hg⟩
  | some p=>
   obtain⟨m,r⟩:=p;rw [hP] at C;have C':J Z 313 #[pt b] (w.alloc (.cells nd0 67)) fun e w'=>∃fs,e=.returned (.agg fs)/\D ((γ 67 (pt w.heap.size) (.agg fs)).run Z w'=.ok () (w'.setRow w.heap.size fs))/\D (w'.heap[w.heap.size]? =some (.cells nd0 67))/\D (fs.size=18)/\
     D (NK (fun i=>w.heap.size<=i) (w'.setRow w.heap.size fs) fs m/\Sp W b r w (w'.setRow w.heap.size fs)):=C.mono (by
    rintro e w' ⟨fs,rfl,h1,h2⟩;exact⟨fs,rfl,gF hb (qW h1) h2⟩)
   clear C hP h;go_enter Tryz.func296,Tryz.ntmps296;go_wp2_with (first|(go_at_call 311;refine SK.mono ?_;rintro e w1 ⟨rfl,hs⟩;obtain rfl:=hs.symm;clear hs)|(go_at_call 313;refine C'.mono ?_;rintro e w2 ⟨fs,rfl,RS,HG,HZ,HF⟩)|(refine aA rfl 67 _ _ rfl _ _ _ rfl rfl RS.out ?_))
   exact α (aZ HG.out HZ.out rfl rfl) rfl ⟨fs,rfl,HF.out.1,HF.out.2⟩
theorem aNv {n:T} {r:List Tk.Tok} (h:aU r ≠ [37]) (k:Nat):gX k n r=(n,r):=by
 cases k with
 | zero=>rfl
 | succ k=>unfold gX;rw [if_neg h]
theorem aLJ {n:T} {r:List Tk.Tok} (h:aU r=[37]):gX r.length n r=gX r.tail.length (unT [37] n) r.tail:=by
 have h2:=(bB (ts:=r) h (by decide)).1;rw [<-h2]
 conv=>lhs;unfold gX
 rw [if_pos h]
theorem aLK {W:N} {b:Nat} {ts:List Tk.Tok} (hn:ts.length<=256) (C8:∀u,PR W b ts u->J Z 319 #[pt b] u (PO W b u (PP 8 ts))) {w:N} (X:PR W b ts w):
  J Z 313 #[pt b] w (PO W b w (PP 7 ts)):=by
 have hb:=X.lt;have e:PP 7 ts=(PP 8 ts).map fun p=>gX p.2.length p.1 p.2:=aI7 upF trF ts;rw [e];have C:=C8 _ (X.alloc (.cells nd0 67));clear C8 X e;cases hP:PP 8 ts with
 | none=>
  rw [hP] at C;have C':J Z 319 #[pt b] (w.alloc (.cells nd0 67)) fun e w'=>e=.panicked dK/\(w.alloc (.cells nd0 67)).grownBy w' (some b):=C;clear C hP;go_enter Tryz.func313,Tryz.ntmps313;go_wp2_with (go_at_call 319;refine C'.mono ?_;rintro e w2 ⟨rfl,hg⟩)
  exact⟨rfl,rfl,aG (E _ _ _) hg⟩
 | some p=>
  obtain⟨n0,r0⟩:=p;have hr0:=jC upF trF (by omega) _ n0 r0 hP;rw [hP] at C;have C0':J Z 319 #[pt b] (w.alloc (.cells nd0 67)) fun e w1=>∃es,e=.returned (.agg es)/\
    D ((γ 67 (pt w1.heap.size) (.agg es)).run Z (w1.alloc (.cells nd0 67))=.ok () (w1.alloc (.cells es 67)))/\D (NK (fun i=>w.heap.size < i/\i ≠ w1.heap.size) (w1.alloc (.cells es 67)) es n0)/\D (Sp W b r0 w (w1.alloc (.cells es 67)))/\
    D ((w1.alloc (.cells es 67)).heap[w.heap.size]? =some (.cells nd0 67))/\D ((w1.alloc (.cells es 67)).heap[w1.heap.size]? =some (.cells es 67))/\D (w.heap.size < w1.heap.size):=by
   refine C.mono ?_;rintro e w1 ⟨es,rfl,h1,h2⟩;have hlt:w.heap.size < w1.heap.size:=by have:=h2.2.size;simp at this;omega
   refine ⟨es,rfl,(aCS w1 h1.nt).1, ?_,h2.dW.alloc _, ?_,δ _ _,hlt⟩
   ·refine NK.below (K:=fun i=>w.heap.size < i/\i ≠ w1.heap.size) (h1.mono (fun i hi hl=> ?_)) (aC (κ _ _) (.cells es 67));simp at hi;exact⟨by omega,by omega⟩
   ·exact (μ _ _ _ hlt).trans (h2.kept (δ w _) (by omega))
  clear C hP;rw [ψ];generalize ho:gX r0.length n0 r0=o;have HO:D (gX r0.length n0 r0=o):=ho;clear ho;go_enter Tryz.func313,Tryz.ntmps313;go_wp2_with (first|(go_at_call 319;refine C0'.mono ?_;rintro e w1 ⟨es0,rfl,RS0,HN0,HS0,HG0,HG7,HLT⟩)|(refine aA rfl 67 _ _ rfl _ _ _ rfl rfl RS0.out ?_))
  clear C0';try simp only [Act.put,ι,ο,π]
  generalize hg7:w1.heap.size=g7 at *;clear hg7;go_loopw [7] (fun _ wr=>∃(nT:T) (r:List Tk.Tok) (es:Array ε),D (gX r.length nT r=o)/\r.length<=r0.length/\D (wr.heap[g7]? =some (.cells es 67))/\D (NK (fun i=>w.heap.size < i/\i ≠ g7) wr es nT)/\D (Sp W b r w wr)/\D (wr.heap[w.heap.size]? =some (.cells nd0 67))) (fun _ wr=>nM b wr)
  case atStart=>exact⟨n0,r0,es0,HO,β _,HG7,HN0,HS0,HG0⟩
  case round=>
   obtain⟨nT,r,es,HL,hr,H7,HN,HS,H0⟩:=hrel;clear HO HG7 HN0 HS0 HG0 RS0;have hleft:=HS.out.1.left;by_cases hq:aU r=[37]
   ·have SK:J Z 311 #[pt b,.string ⟨#[37]⟩] wr fun e w'=>e=.returned (.bool η)/\Sp W b r.tail wr w':=fP HS.out.1 (by omega) [37] (by decide) hq;have hrt:=(bB (ts:=r) hq (by decide)).1;have HQ:D (gX r.tail.length (unT [37] nT) r.tail=o):=by show _=_;rw [<-HL.out];exact(aLJ hq).symm
    have aPy:g7 < wr.heap.size:=bA H7.out;have SK2:J Z 311 #[pt b,.string ⟨#[37]⟩] wr fun e w2=>e=.returned (.bool η)/\D (Sp W b r.tail w w2)/\D (NK (fun i=>w.heap.size < i/\i ≠ g7) w2 es nT)/\D ((υ 67 (pt g7)).run Z w2=.ok (.agg es) w2)/\D (w2.heap[g7]? =some (.cells es 67))/\D (w2.heap[w.heap.size]? =some (.cells nd0 67))/\D (g7 < w2.heap.size):=SK.mono (by
     rintro e w2 ⟨rfl,h⟩;have h7:w2.heap[g7]? =some (.cells es 67):=h.kept H7.out (by have:=HLT.out;omega);exact⟨rfl,HS.out.step h,HN.out.grown h.2 (fun g e hk=>by cases e;have:=hk.1;omega),HN.out.lod h7,h7,h.kept H0.out (by omega),bA h7⟩)
    have UN:∀u:N,NK (fun i=>w.heap.size < i/\i ≠ g7) u es nT->Sp W b r.tail w u->u.heap[g7]? =some (.cells es 67)->u.heap[w.heap.size]? =some (.cells nd0 67)->J Z 312 #[.string ⟨#[37]⟩,.agg es] u fun e w'=>∃fs,e=.returned (.agg fs)/\D ((γ 67 (pt g7) (.agg fs)).run Z w'=.ok () (w'.setRow g7 fs))/\D ((w'.setRow g7 fs).heap[g7]? =some (.cells fs 67))/\D ((w'.setRow g7 fs).heap[w.heap.size]? =some (.cells nd0 67))/\
      D (NK (fun i=>w.heap.size < i/\i ≠ g7) (w'.setRow g7 fs) fs (unT [37] nT))/\D (Sp W b r.tail w (w'.setRow g7 fs)):=fun u hN hS h7 h0=>(aAF [37] hN).mono (by
     rintro e w' ⟨fs,rfl,h1,h2⟩;have hl:=HLT.out;have h7':w'.heap[g7]? =some (.cells es 67):=(h2.block _ (bA h7)).trans h7;have h0':w'.heap[w.heap.size]? =some (.cells nd0 67):=(h2.block _ (bA h0)).trans h0;have hN':NK (fun i=>w.heap.size < i/\i ≠ g7) w' fs (unT [37] nT):=h1.mono (fun i hi _=>by
      have:=bA h7;rcases hi with hi | hi
      ·exact hi
      ·exact ⟨by omega,by omega⟩)
     exact⟨fs,rfl,h1.sto h7' hN.size,Γ _ _ _ _ _ _ h7',((aK _ _ _).block _ (bA h0') (by intro e;have:=O e;omega)).trans h0',hN'.grown (aK _ _ _) (fun g e hk=>by cases e;exact hk.2 rfl),(hS.bel h2).grown (aK _ _ _) (by omega) hb⟩)
    clear SK hq HL;generalize hrr:r.tail=r' at *;clear hrr;go_wp2_with (first|(go_at_call 311;refine SK2.mono ?_;rintro e w2 ⟨rfl,HS2,HN2,RL,H72,H02,_⟩)|(refine aB rfl 67 _ rfl _ _ rfl RL.out ?_)|(go_at_call 312;refine (UN _ HN2.out HS2.out H72.out H02.out).mono ?_;rintro e w3 ⟨fs,rfl,RS,H75,H05,HN5,HS5⟩)|(refine aA rfl 67 _ _ rfl _ _ _ rfl rfl RS.out ?_))
    try simp only [Act.put,ι,ο,π]
    go_roundw
    case rel=>exact⟨unT [37] nT,r',fs,HQ,by omega,H75,HN5,HS5,H05⟩
    case measure=>rw [HS5.out.1.left,hleft];omega
   ·have SK:CW 311 #[pt b,.string ⟨#[37]⟩] wr (.bool I):=iW HS.out.1 (by omega) [37] hq;have HQ:D (o=(nT,r)):=by show _=_;rw [<-HL.out];exact aNv hq _
    have RL:=HN.out.lod H7.out;have RS:=HN.out.sto H0.out rfl;have HF:D (Sp W b r w (wr.setRow w.heap.size es)):=HS.out.grown (aK _ _ _) (β _) hb;have HNF:D (NK (fun i=>w.heap.size<=i) (wr.setRow w.heap.size es) es nT):=(HN.out.grown (aK _ _ _) (fun g e hk=>by cases e;have:=hk.1;omega)).mono (fun i hi _=>by have:=hi.1;omega);have hes:=HN.out.size;clear hq HL hleft;go_wp2_with (first|(go_at_call 311;refine SK.mono ?_;rintro e w1 ⟨rfl,hs⟩;obtain rfl:=hs.symm;clear hs)|(refine aB rfl 67 _ rfl _ _ rfl RL.out ?_)|(refine aA rfl 67 _ _ rfl _ _ _ rfl rfl RS.out ?_))
    refine α (aZ H0.out hes rfl rfl) rfl ?_;rw [HQ.out];exact⟨es,rfl,HNF.out,HF.out⟩
def AA (ts:List Tk.Tok):Option (List T × List Tk.Tok):=
 if aU ts=[41] then some ([],ts.tail) else (PP 1 ts).bind fun p=>(dX (PP 1) (p.2.length+1) [p.1] p.2).bind fun q=>if q.1.length<=16 then some q else none
theorem aFI (s:List UInt8) (ts:List Tk.Tok):qA upF (PP 1) s ts=(AA ts).map fun q=>(tree (bN 7 (bs (upF s))) q.1,q.2):=by
 unfold qA AA;by_cases h:aU ts=[41]
 ·rw [if_pos h,if_pos h];rfl
 ·rw [if_neg h,if_neg h];cases hP:PP 1 ts with
  | none=>rfl
  | some p=>
   have hl:=jC upF trF (by omega) _ p.1 p.2 hP;simp only [θ];have hf:dX (PP 1) (ts.length+1) [p.1] p.2=dX (PP 1) (p.2.length+1) [p.1] p.2:=uT (jC upF trF (lv:=1) (β _)) (ts.length+1) [p.1] p.2 (p.2.length+1) (by omega) (by omega);rw [hf];cases dX (PP 1) (p.2.length+1) [p.1] p.2 with
   | none=>rfl
   | some q=>
    simp only [θ];split <;> rfl
def AO (W:N) (b:Nat) (w:N) (o:Option (List T × List Tk.Tok)) (e:z1) (w':N):Prop:=
 match o with
 | none=>e=.panicked dK/\w.grownBy w' (some b)
 | some p=>∃q n c,e=.returned (.slice q n c)/\n=p.1.length/\(p.1=[]\/∃a,q=some a/\InK (fun i=>w.heap.size<=i) w' a (mk p.1))/\Sp W b p.2 w w'
def oD (base:Nat) (w:N) (v:ε) (L:List (Array ε × T)):Prop:=w.ownsRow base 67 18 v L.length (L.flatMap (·.1.toList))
theorem nD {base:Nat} {w:N} {v:ε} {L:List (Array ε × T)} (h:oD base w v L):∃a c,v=.slice a L.length c:=by
 rcases h.2 with ⟨rfl,h0⟩ | ⟨g,cap,cur,rfl,_⟩
 ·exact ⟨none,0,by rw [h0]⟩
 ·exact ⟨_,_,rfl⟩
theorem aJs {K:Nat->Prop} {base:Nat} {w u:N} {es:Array ε} {t:T} (h:NK K u es t) (hb:base<=w.heap.size):oD base (w.alloc (.cells es 67)) (.slice (some ⟨w.heap.size,0,none⟩) 1 1) [(es,t)]:=by have hz:=h.size;refine ⟨by simp [hz],.inr ⟨w.heap.size,1,es,rfl,hb,δ _ _,β _,by simp [maxLen],by rw [hz], ?_⟩⟩;simp [List.take_of_length_le,hz]
theorem jH {base:Nat} {w w':N} {v:ε} {L:List (Array ε × T)} {row:Option Nat} (h:oD base w v L) (hg:w.grownBy w' row) (hne:v.ownBlock=none\/v.ownBlock ≠ row):oD base w' v L:=World.ownsRow.kept h hg hne
theorem aJt {K K':Nat->Prop} {base:Nat} {w u:N} {v:ε} {L:List (Array ε × T)} (h:oD base w v L) {es:Array ε} {t:T} (hN:NK K u es t) {g:Nat} (hg:w.heap[g]? =some (.cells es 67)) (hn:L.length<=100000) (hbase:base<=w.heap.size):
  ∃v' w',D ((Builtin.append_ #[65,65] 65 #[v,.slice (some ⟨g,0,none⟩) 1 1]).run Z w=.ok v' w')/\oD base w' v' (L++ [(es,t)])/\w.grownBy w' v.ownBlock/\(v'.ownBlock=v.ownBlock\/v'.ownBlock=some w.heap.size):=by
 obtain⟨i0,hi,hz0,hz1,hz2⟩:=info_parts aI9;have hz:=hN.size;have hadd:∀k,(⟨g,0,none⟩:Addr).add k=⟨g,k,none⟩:=fun k=>by unfold Addr.add;split <;> simp_all
 obtain⟨v',w',r1,o1,g1,_,g2⟩:=run_append_own_at w base 65 65 67 i0 _ 18 192 Tryz.underlying65 hi hz0 hz1 hz2 rfl (by decide) v _ _ h ⟨g,0,none⟩ 1 1 es.toList (by simp [hz])
  (fun j x hj=>by rw [hadd,ζ w g j _ _ _ hg,<-hj];simp) (by
   have:=hN.one;intro x hx;rw [Array.all_eq_true_iff_forall_mem] at this;exact this x (by simpa using hx)) (by simp only [maxLen];omega) (by omega) hbase
 refine ⟨v',w',r1, ?_,g1,g2⟩;unfold oD;rw [List.length_append,List.flatMap_append];simpa using o1
theorem aC5 {K:Nat->Prop} {base:Nat} {w:N} {a:Option Addr} {n c:Nat} {L:List (Array ε × T)} (h:oD base w (.slice a n c) L) (hL:∀x ∈ L,NK K w x.1 x.2) (hK:∀g,(φ a n c).ownBlock=some g->K g):L=[]\/∃a',a=some a'/\InK K w a' (mk (L.map (·.2))):=by
 have hc:=fun g (hg:(φ a n c).ownBlock=some g)=>World.ownsRow.cells h hg;rcases h.2 with ⟨e,h0⟩ | ⟨g,cap,cur,e,_⟩
 ·exact .inl (List.eq_nil_of_length_eq_zero h0)
 ·cases e
  refine .inr ⟨_,rfl,InK.row (hK g rfl) L 0 hL (fun j v hj=> ?_)⟩;have hadd:(⟨g,0,none⟩:Addr).add j=⟨g,j,none⟩:=by unfold Addr.add;split <;> simp_all
  have:=hc g rfl j v hj;rw [hadd] at this;rw [Nat.zero_add];exact this
theorem wF {base b:Nat} {w:N} {v:ε} {L:List (Array ε × T)} (h:oD base w v L) (hb:b < base):v.ownBlock=none\/v.ownBlock ≠ some b:=by
 cases hv:v.ownBlock with
 | none=>exact .inl rfl
 | some g=>exact .inr (fun e=>by have:=(ρ h g hv).1;have:=O e;omega)
theorem yN {p:Part} {k:Nat} {acc:List T} {r:List Tk.Tok} (h:aU r=[41]):dX p (k+1) acc r=some (acc,r.tail):=by unfold dX;rw [if_pos h]
theorem aC6 {p:Part} {k:Nat} {acc:List T} {r:List Tk.Tok} (h:aU r ≠ [41]) (h':aU r ≠ [44]):dX p (k+1) acc r=none:=by unfold dX;rw [if_neg h,if_neg h']
theorem yO {acc:List T} {r:List Tk.Tok} (h:aU r ≠ [41]) (h':aU r=[44]):dX (PP 1) (r.length+1) acc r=(PP 1 r.tail).bind fun p=>dX (PP 1) (p.2.length+1) (acc++ [p.1]) p.2:=by
 have h2:=(bB (ts:=r) h' (by decide)).1
 conv=>lhs;unfold dX
 rw [if_neg h,if_pos h'];cases hq:PP 1 r.tail with
 | none=>rfl
 | some p=>
  simp only [θ];have h3:=jC upF trF (by omega) _ p.1 p.2 hq;exact uT (jC upF trF (by omega)) _ _ _ _ (by omega) (by omega)
theorem aJu {W:N} {b:Nat} {ts:List Tk.Tok} (hn:ts.length<=256) (h:aU ts=[41]) {w:N} (X:PR W b ts w):J Z 327 #[pt b] w fun e w'=>e=.returned (.slice none 0 0)/\Sp W b ts.tail w w':=by
 have SK:J Z 311 #[pt b,.string ⟨#[41]⟩] w fun e w'=>e=.returned (.bool η)/\Sp W b ts.tail w w':=fP X (by omega) [41] (by decide) h;clear X h;go_enter Tryz.func327,Tryz.ntmps327;go_wp2_with (go_at_call 311;refine SK.mono ?_;rintro e w1 ⟨rfl,hs⟩;have HS:D (Sp W b ts.tail w w1):=hs;clear hs)
 go_ret;exact⟨rfl,HS.out⟩
theorem aGN {W:N} {b:Nat} {ts:List Tk.Tok} (hn:ts.length<=256) (h:aU ts ≠ [41]) {w:N} (X:PR W b ts w) (C:J Z 152 #[pt b] w fun e w'=>e=.panicked dK/\w.grownBy w' (some b)):J Z 327 #[pt b] w fun e w'=>e=.panicked dK/\w.grownBy w' (some b):=by
 have SK:CW 311 #[pt b,.string ⟨#[41]⟩] w (.bool I):=iW X (by omega) [41] h;clear X h;go_enter Tryz.func327,Tryz.ntmps327;go_wp2_with (first|(go_at_call 311;refine SK.mono ?_;rintro e w1 ⟨rfl,hs⟩;obtain rfl:=hs.symm;clear hs)|(go_at_call 152;refine C.mono ?_;rintro e w2 ⟨rfl,hg⟩))
 exact⟨rfl,rfl,hg⟩
theorem aGO {W:N} {b:Nat} {ts:List Tk.Tok} (hn:ts.length<=256) (h:aU ts ≠ [41]) {w:N} (X:PR W b ts w) {n0:T} {r0:List Tk.Tok} (hr0:r0.length < ts.length)
  (C0:J Z 152 #[pt b] w fun e w'=>∃es,e=.returned (.agg es)/\NK (fun i=>w.heap.size<=i) w' es n0/\Sp W b r0 w w')
  (C:∀ts' u,ts'.length<=r0.length->PR W b ts' u->J Z 152 #[pt b] u (PO W b u (PP 1 ts'))):
  J Z 327 #[pt b] w (AO W b w ((dX (PP 1) (r0.length+1) [n0] r0).bind fun q=>if q.1.length<=16 then some q else none)):=by
 have SK:CW 311 #[pt b,.string ⟨#[41]⟩] w (.bool I):=iW X (by omega) [41] h;have hb:=X.lt;have C0':J Z 152 #[pt b] w fun e w1=>∃es,e=.returned (.agg es)/\D ((Ξ 65 1 #[(0,.agg es)]).run Z w1=.ok (.slice (some ⟨w1.heap.size,0,none⟩) 1 1) (w1.alloc (.cells es 67)))/\
   D (oD w.heap.size (w1.alloc (.cells es 67)) (.slice (some ⟨w1.heap.size,0,none⟩) 1 1) [(es,n0)])/\D (NK (fun i=>w.heap.size<=i/\i ≠ w1.heap.size) (w1.alloc (.cells es 67)) es n0)/\D (Sp W b r0 w (w1.alloc (.cells es 67))):=C0.mono (by
  rintro e w1 ⟨es,rfl,h1,h2⟩;refine ⟨es,rfl, ?_,aJs h1 h2.2.size, ?_,h2.alloc _⟩
  ·obtain ⟨p,n,c,e,_⟩:=h1;show _=_;rw [e];exact pF _ _ _ _ _
  ·exact NK.below (K:=fun i=>w.heap.size<=i/\i ≠ w1.heap.size) (h1.mono (fun i hi hl=>⟨hi,by omega⟩)) (aC (κ _ _) (.cells es 67)))
 clear C0 X h;generalize ho:dX (PP 1) (r0.length+1) [n0] r0=o;have HO:D (dX (PP 1) (r0.length+1) [n0] r0=o):=ho;have HC:D (∀ts' u,ts'.length<=r0.length->PR W b ts' u->J Z 152 #[pt b] u (PO W b u (PP 1 ts'))):=C;clear ho C;go_enter Tryz.func327,Tryz.ntmps327;go_wp2_with (first|(go_at_call 311;refine SK.mono ?_;rintro e w1 ⟨rfl,hs⟩;obtain rfl:=hs.symm;clear hs)|(go_at_call 152;refine C0'.mono ?_;rintro e w1 ⟨es0,rfl,RB0,HO0,HN0,HS0⟩)|(refine dQ rfl 65 1 _ rfl _ _ _ (by go_simp) RB0.out ?_))
 clear C0' SK;try simp only [Act.put,ι,ο,π]
 obtain⟨g1,hg1⟩:∃g1,w1.heap.size=g1:=⟨_,rfl⟩
 rw [hg1] at HO0 HN0;simp only [hg1];clear hg1 RB0;go_loopw [3] (fun v wr=>∃(L:List (Array ε × T)) (r:List Tk.Tok),D (dX (PP 1) (r.length+1) (L.map (·.2)) r=o)/\L.length+r.length<=256/\r.length<=r0.length/\D (oD w.heap.size wr v L)/\D (∀x ∈ L,NK (fun i=>w.heap.size<=i/\v.ownBlock ≠ some i) wr x.1 x.2)/\D (Sp W b r w wr)) (fun _ wr=>nM b wr)
 case atStart=>exact⟨[(es0,n0)],r0,HO,by simp;omega,β _,HO0,by
  show ∀x ∈ _,_;intro x hx;simp only [Ω,Θ,or_false] at hx;subst hx;exact HN0.out.mono (fun i hi _=>⟨hi.1,by simp only [Value.ownBlock];intro e;exact hi.2 (O e).symm⟩),HS0⟩
 case round=>
  obtain⟨L,r,HL,hlen,hr,HW,HN,HS⟩:=hrel;clear HO HO0 HN0 HS0;have hleft:=HS.out.1.left;obtain⟨a,c,hv⟩:=nD HW.out;subst hv;by_cases h41:aU r=[41]
  ·have SK:J Z 311 #[pt b,.string ⟨#[41]⟩] wr fun e w'=>e=.returned (.bool η)/\Sp W b r.tail wr w':=fP HS.out.1 (by omega) [41] (by decide) h41;have HQ:D (o=some (L.map (·.2),r.tail)):=by show _=_;rw [<-HL.out];exact yN h41
   have SK2:J Z 311 #[pt b,.string ⟨#[41]⟩] wr fun e w'=>e=.returned (.bool η)/\D (Sp W b r.tail w w')/\D (L=[]\/∃a',a=some a'/\InK (fun i=>w.heap.size<=i) w' a' (mk (L.map (·.2)))):=SK.mono (by
    rintro e w' ⟨rfl,h⟩;have hob:=wF HW.out hb;refine ⟨rfl,HS.out.step h,aC5 (jH HW.out h.2 hob) (fun x hx=>(((HN.out x hx).grown h.2 (fun g e hk=>by cases e;have:=hk.1;omega)).mono (fun i hi _=>hi.1))) (fun g hg=> ?_)⟩;exact(ρ HW.out g hg).1)
   clear SK HL hleft HN HW;generalize hrr:r.tail=r' at *;clear hrr;by_cases h16:L.length<=16
   ·have aNw:¬(16:Int) < (L.length:Int):=by omega
    go_wp2_with (go_at_call 311;refine SK2.mono ?_;rintro e w2 ⟨rfl,HS2,HI⟩)
    go_ret;rw [HQ.out];simp only [θ,ω,if_pos h16];exact⟨a,L.length,c,rfl,by simp,HI.out.imp (fun e=>by rw [e];rfl) id,HS2.out⟩
   ·have aNw:(16:Int) < (L.length:Int):=by omega
    go_wp2_with (go_at_call 311;refine SK2.mono ?_;rintro e w2 ⟨rfl,HS2,HI⟩)
    refine ⟨rfl, ?_⟩;rw [HQ.out];simp only [θ,ω,if_neg h16];exact⟨rfl,HS2.out.2⟩
  ·have SK:CW 311 #[pt b,.string ⟨#[41]⟩] wr (.bool I):=iW HS.out.1 (by omega) [41] h41;by_cases h44:aU r=[44]
   ·have MU:J Z 322 #[pt b,.string ⟨#[44]⟩] wr fun e w'=>e=.returned (.tuple #[])/\Sp W b r.tail wr w':=aC3 HS.out.1 (by omega) [44] (by decide) h44;have hrt:=(bB (ts:=r) h44 (by decide)).1;have HQ:D (o=(PP 1 r.tail).bind fun p=>dX (PP 1) (p.2.length+1) (L.map (·.2)++ [p.1]) p.2):=by show _=_;rw [<-HL.out];exact yO h41 h44
    have C1:=fun u hu=>HC.out r.tail u (by omega) hu;clear HL h41 h44;generalize hrr:r.tail=r' at *;clear hrr;cases hP:PP 1 r' with
    | none=>
     rw [hP] at C1 HQ;have HQ2:D (o=none):=HQ.out;have C1':∀u,PR W b r' u->J Z 152 #[pt b] u fun e w'=>e=.panicked dK/\u.grownBy w' (some b):=C1;clear C1 HQ hP HC;go_wp2_with (first|(go_at_call 311;refine SK.mono ?_;rintro e w1 ⟨rfl,hs⟩;obtain rfl:=hs.symm;clear hs)|(go_at_call 322;refine MU.mono ?_;rintro e w2 ⟨rfl,hs⟩;have HS2:D (Sp W b r' wr w2):=hs;clear hs)|(go_at_call 152;refine (C1' _ HS2.out.1).mono ?_;rintro e w3 ⟨rfl,hg⟩))
     refine ⟨rfl, ?_⟩;rw [HQ2.out];exact⟨rfl,aG HS.out.2 (aG HS2.out.2 hg)⟩
    | some p=>
     obtain⟨m,r2⟩:=p;have hr2:=jC upF trF (by omega) _ m r2 hP;rw [hP] at C1 HQ;have HQ2:D (dX (PP 1) (r2.length+1) ((L.map (·.2))++ [m]) r2=o):=HQ.out.symm;have C1':∀u,Sp W b r' wr u->J Z 152 #[pt b] u fun e w3=>∃es2 v' w5,e=.returned (.agg es2)/\
       D ((Ξ 65 1 #[(0,.agg es2)]).run Z w3=.ok (.slice (some ⟨w3.heap.size,0,none⟩) 1 1) (w3.alloc (.cells es2 67)))/\
       D ((Builtin.append_ #[65,65] 65 #[.slice a L.length c,.slice (some ⟨w3.heap.size,0,none⟩) 1 1]).run Z (w3.alloc (.cells es2 67))=.ok v' w5)/\
       D (oD w.heap.size w5 v' (L++ [(es2,m)]))/\D (∀x ∈ L++ [(es2,m)],NK (fun i=>w.heap.size<=i/\v'.ownBlock ≠ some i) w5 x.1 x.2)/\D (Sp W b r2 w w5):=fun u hu=>(C1 u hu.1).mono (by
      rintro e w3 ⟨es2,rfl,h1,h2⟩;have hS3:Sp W b r2 wr w3:=hu.step h2;have hob:=wF HW.out hb;have hW3:=jH (jH HW.out hS3.2 hob) (E w3 (.cells es2 67) none) (by cases (φ a L.length c).ownBlock <;> simp);have hbs:w.heap.size<=w3.heap.size:=(HS.out.step hS3).2.size;obtain⟨v',w5,R,o5,g5,g6⟩:=aJt (K':=fun _=>True) hW3 h1 (g:=w3.heap.size) (δ _ _) (by omega) (by simp;omega);have aBq:∀g,(φ a L.length c).ownBlock=some g->w.heap.size<=g/\g < wr.heap.size:=fun g hg=>ρ HW.out g hg;refine ⟨es2,v',w5,rfl, ?_,R,o5,fun x hx=> ?_, ?_⟩
      ·obtain ⟨p,n,c,e,_⟩:=h1;show _=_;rw [e];exact pF _ _ _ _ _
      ·have hzu:wr.heap.size<=u.heap.size:=hu.2.size;have hzw:u.heap.size<=w3.heap.size:=h2.2.size;have base:NK (fun i=>w.heap.size<=i/\(φ a L.length c).ownBlock ≠ some i/\i < w3.heap.size) (w3.alloc (.cells es2 67)) x.1 x.2:=by
        refine NK.below ?_ (aC (κ _ _) _);rcases List.mem_append.1 hx with hx | hx
        ·exact ((HN.out x hx).grown hS3.2 (fun g e hk=>by cases e;have:=hk.1;omega)).mono (fun i hi hl=>⟨hi.1,hi.2,hl⟩)
        ·simp only [Ω,Θ,or_false] at hx;subst hx;exact h1.mono (fun i hi hl=>⟨by have:=HS.out.2.size;omega,fun e=>by have:=(aBq i e).2;omega,hl⟩)
       refine (base.grown g5 (fun g e hk=>hk.2.1 e)).mono (fun i hi _=>⟨hi.1,fun e=> ?_⟩);rcases g6 with g6 | g6
       ·exact hi.2.1 (by rw [<-g6];exact e)
       ·rw [g6] at e;have:=O e;have:=hi.2.2;simp at *;omega
      ·have:=(HS.out.step hS3).alloc (.cells es2 67);cases hvb:(φ a L.length c).ownBlock with
       | none=>
        rw [hvb] at g5;exact⟨this.1.grown g5 (fun k e=>by cases e),World.grownBy.andThen this.2 g5 (fun j e=>by cases e)⟩
       | some g=>
        rw [hvb] at g5;exact this.grown g5 (aBq g hvb).1 hb)
     clear C1 HQ hP HC HN;have HLE:D ((L++ [((#[]:Array ε),m)]).length=L.length+1):=by show _=_;simp
     go_wp2_with (first|(go_at_call 311;refine SK.mono ?_;rintro e w1 ⟨rfl,hs⟩;obtain rfl:=hs.symm;clear hs)|(go_at_call 322;refine MU.mono ?_;rintro e w2 ⟨rfl,hs⟩;have HS2:D (Sp W b r' wr w2):=hs;clear hs)|(go_at_call 152;refine (C1' _ HS2.out).mono ?_;rintro e w3 ⟨es2,v',w5,rfl,RB,RA,HO5,HN5,HS5⟩)|(refine dQ rfl 65 1 _ rfl _ _ _ (by go_simp) RB.out ?_)|(at_builtin;refine wpList_append_run rfl _ _ 65 rfl _ _ _ _ rfl rfl RA.out ?_))
     go_roundw
     case rel=>exact⟨L++ [(es2,m)],r2,by show _=_;rw [List.map_append];exact HQ2.out,by simp;omega,by omega,HO5,HN5,HS5⟩
     case measure=>rw [HS5.out.1.left,hleft];omega
   ·have MU:J Z 322 #[pt b,.string ⟨#[44]⟩] wr fun e w'=>e=.panicked dK/\w'=wr:=aFG HS.out.1 (by omega) [44] h44;have HQ:D (o=none):=by show _=_;rw [<-HL.out];exact aC6 h41 h44
    clear HL h41 h44;go_wp2_with (first|(go_at_call 311;refine SK.mono ?_;rintro e w1 ⟨rfl,hs⟩;obtain rfl:=hs.symm;clear hs)|(go_at_call 322;refine MU.mono ?_;rintro e w2 ⟨rfl,hs⟩;obtain rfl:=hs.symm;clear hs))
    refine ⟨rfl, ?_⟩;rw [HQ.out];exact⟨rfl,HS.out.2⟩
def aBr (x:Ad.Ref) (r:List Tk.Tok):Option (T × List Tk.Tok):=
 if aU r=[58] then (match r.tail with
   | .inr (.inr (.inl y)):: q=>if y.fA=[] then some (tree (aOo x y) [],q) else none
   | _=>none) else some (tree (aOn x) [],r)
theorem aFJ:(Tryz.prog.info? 64).map (·.size)=some 6:=by kernel_rfl
section
variable {W w:N} {b:Nat} {b1 h1:ByteArray} {r1 c1:Int} {fr1 fc1:Bool}
abbrev cw (w:N) (b1 h1:ByteArray) (r1 c1:Int) (fr1 fc1:Bool):N:=(w.alloc (.cells #[.string b1,.string h1,.int .i64 r1,.int .i64 c1,.bool fr1,.bool fc1] 64)).alloc (.cells nd0 67)
theorem aJv {L:List Tk.Tok} {u:N} (hb:b < w.heap.size) (h:Sp W b L (cw w b1 h1 r1 c1 fr1 fc1) u) (a:Lab):
  D ((γ 67 (.pointer (some ⟨w.heap.size+1,0,none⟩)) (.agg (lcs a (.slice none 0 0)))).run Z u=.ok () (u.setRow (w.heap.size+1) (lcs a (.slice none 0 0))))/\D (u.heap[w.heap.size+1]? =some (.cells nd0 67))/\
  D (Sp W b L w (u.setRow (w.heap.size+1) (lcs a (.slice none 0 0))))/\D ((υ 64 (pt w.heap.size)).run Z u=.ok (.agg #[.string b1,.string h1,.int .i64 r1,.int .i64 c1,.bool fr1,.bool fc1]) u):=by
 have e1:(cw w b1 h1 r1 c1 fr1 fc1).heap[w.heap.size+1]? =some (.cells nd0 67):=by have:=δ (w.alloc (.cells #[.string b1,.string h1,.int .i64 r1,.int .i64 c1,.bool fr1,.bool fc1] 64)) (.cells nd0 67);simpa using this
 have e0:(cw w b1 h1 r1 c1 fr1 fc1).heap[w.heap.size]? =some (.cells #[.string b1,.string h1,.int .i64 r1,.int .i64 c1,.bool fr1,.bool fc1] 64):=(μ _ _ _ (by simp)).trans (δ w _);have k1:=h.kept e1 (by omega);have k0:=h.kept e0 (by omega);exact⟨qV k1 rfl a none 0 0,k1,(h.dW.dW).grown (aK _ _ _) (by omega) hb,lod k0 rfl Tryz.underlying64 aFJ⟩
theorem cells_one {L:List Tk.Tok} (hn:L.length<=256) (h:aU L ≠ [58]) (X:PR W b L w):J Z 325 #[pt b,.agg #[.string b1,.string h1,.int .i64 r1,.int .i64 c1,.bool fr1,.bool fc1]] w fun e w'=>e=.returned (.agg (lcs ⟨2,nb,0,0,nb,b1,h1,r1,c1,fr1,fc1,nb,nb,0,0,I,I⟩ (.slice none 0 0)))/\Sp W b L w w':=by
 have hb:=X.lt;have X2:=(X.alloc (.cells #[.string b1,.string h1,.int .i64 r1,.int .i64 c1,.bool fr1,.bool fc1] 64)).alloc (.cells nd0 67);have SK:J Z 311 #[pt b,.string ⟨#[58]⟩] (cw w b1 h1 r1 c1 fr1 fc1) fun e w'=>e=.returned (.bool I)/\w'=cw w b1 h1 r1 c1 fr1 fc1:=iW X2 (by omega) [58] h;obtain⟨RS,HG,HF,RL⟩:=aJv hb (Sp.refl X2) ⟨2,nb,0,0,nb,b1,h1,r1,c1,fr1,fc1,nb,nb,0,0,I,I⟩;clear X X2 h;obtain⟨w2,hw2⟩:∃w2,cw w b1 h1 r1 c1 fr1 fc1=w2:=⟨_,rfl⟩
 rw [hw2] at SK RS HG HF RL;go_enter Tryz.func325,Tryz.ntmps325;go_wp2_with (first|(go_at_call 311;refine SK.mono ?_;rintro e w1 ⟨rfl,hs⟩;obtain rfl:=hs.symm;clear hs)|(refine aB rfl 64 _ rfl _ _ rfl RL.out ?_)|(refine aA rfl 67 _ _ rfl _ _ _ rfl rfl RS.out ?_))
 exact α (aZ HG.out (fE _ _) rfl rfl) rfl ⟨rfl,HF.out⟩
theorem aGP {L:List Tk.Tok} (hn:L.length<=256) (h:aU L=[58]) (hL:L.tail=[]) (X:PR W b L w):J Z 325 #[pt b,.agg #[.string b1,.string h1,.int .i64 r1,.int .i64 c1,.bool fr1,.bool fc1]] w fun e w'=>e=.panicked dK/\w.grownBy w' (some b):=by
 have X2:=(X.alloc (.cells #[.string b1,.string h1,.int .i64 r1,.int .i64 c1,.bool fr1,.bool fc1] 64)).alloc (.cells nd0 67);have SK:J Z 311 #[pt b,.string ⟨#[58]⟩] (cw w b1 h1 r1 c1 fr1 fc1) fun e w'=>e=.returned (.bool η)/\Sp W b L.tail (cw w b1 h1 r1 c1 fr1 fc1) w':=fP X2 (by omega) [58] (by decide) h;have HG:D (w.grownBy (cw w b1 h1 r1 c1 fr1 fc1) (some b)):=aG (E _ _ _) (E _ _ _);rw [hL] at SK;clear X X2 h;obtain⟨w2,hw2⟩:∃w2,cw w b1 h1 r1 c1 fr1 fc1=w2:=⟨_,rfl⟩
 rw [hw2] at SK HG;go_enter Tryz.func325,Tryz.ntmps325;go_wp2_with (first|(go_at_call 311;refine SK.mono ?_;rintro e w1 ⟨rfl,hs⟩;have HS:D (Sp W b [] w2 w1):=hs;clear hs)|(go_at_call 236;refine (take_nil HS.out.1).mono ?_;rintro e w3 ⟨rfl,hg⟩))
 exact⟨rfl,rfl,aG HG.out (aG HS.out.2 hg)⟩
theorem aGQ {L q:List Tk.Tok} {t:Tk.Tok} (hn:L.length<=256) (h:aU L=[58]) (hL:L.tail=t:: q) (hk:(tk t).k=3) (hs:(tk t).h.toList=[]) (X:PR W b L w):J Z 325 #[pt b,.agg #[.string b1,.string h1,.int .i64 r1,.int .i64 c1,.bool fr1,.bool fc1]] w fun e w'=>
  e=.returned (.agg (lcs ⟨3,nb,0,0,nb,b1,h1,r1,c1,fr1,fc1,(tk t).b,(tk t).h,(tk t).r,(tk t).c,(tk t).fr,(tk t).fc⟩ (.slice none 0 0)))/\Sp W b q w w':=by
 have hb:=X.lt;have hlt:=(bB (ts:=L) h (by decide)).1;have hq:q.length<=255:=by rw [hL] at hlt;simp at hlt;omega
 have X2:=(X.alloc (.cells #[.string b1,.string h1,.int .i64 r1,.int .i64 c1,.bool fr1,.bool fc1] 64)).alloc (.cells nd0 67);have SK:J Z 311 #[pt b,.string ⟨#[58]⟩] (cw w b1 h1 r1 c1 fr1 fc1) fun e w'=>e=.returned (.bool η)/\Sp W b L.tail (cw w b1 h1 r1 c1 fr1 fc1) w':=fP X2 (by omega) [58] (by decide) h;rw [hL] at SK;have HG0:D (w.grownBy (cw w b1 h1 r1 c1 fr1 fc1) (some b)):=aG (E _ _ _) (E _ _ _);have TK:∀u,Sp W b (t:: q) (cw w b1 h1 r1 c1 fr1 fc1) u->J Z 236 #[pt b] u fun e w'=>e=.returned (.agg (tcs (tk t).k (tk t).n (tk t).s (tk t).b (tk t).h (tk t).r (tk t).c (tk t).fr (tk t).fc))/\D (Sp W b q (cw w b1 h1 r1 c1 fr1 fc1) w'):=fun u hu=>(take_cons hu.1 hq).mono (by
  rintro e w' ⟨rfl,h2⟩;exact⟨rfl,hu.step h2⟩)
 have FIN:=fun u (hu:Sp W b q (cw w b1 h1 r1 c1 fr1 fc1) u)=>aJv hb hu ⟨3,nb,0,0,nb,b1,h1,r1,c1,fr1,fc1,(tk t).b,(tk t).h,(tk t).r,(tk t).c,(tk t).fr,(tk t).fc⟩;clear X X2 h hL;generalize tk t=tt at *;obtain⟨k,n,s,bk,hh,r,c,fr,fc⟩:=tt;dsimp only at TK FIN hk hs ⊢;subst hk;have hsb:hh.toList.isEmpty=η:=by rw [hs];rfl
 obtain⟨w2,hw2⟩:∃w2,cw w b1 h1 r1 c1 fr1 fc1=w2:=⟨_,rfl⟩
 rw [hw2] at SK HG0;simp only [hw2] at TK FIN;clear hs;go_enter Tryz.func325,Tryz.ntmps325;go_wp2_with (first|(go_at_call 311;refine SK.mono ?_;rintro e w1 ⟨rfl,hs⟩;have HS:D (Sp W b (t:: q) w2 w1):=hs;clear hs)|(go_at_call 236;refine (TK _ HS.out).mono ?_;rintro e w3 ⟨rfl,HS3⟩;obtain⟨RS,HG,HF,RL⟩:=FIN _ (HS3.out.alloc (.cells (tcs 3 n s bk hh r c fr fc) 156)))|(refine aB rfl 64 _ rfl _ _ rfl RL.out ?_)|(refine aA rfl 67 _ _ rfl _ _ _ rfl rfl RS.out ?_))
 exact α (aZ HG.out (fE _ _) rfl rfl) rfl ⟨rfl,HF.out⟩
theorem aGR {L q:List Tk.Tok} {t:Tk.Tok} (hn:L.length<=256) (h:aU L=[58]) (hL:L.tail=t:: q) (hk:(tk t).k ≠ 3\/((tk t).k=3/\¬(tk t).h.toList=[])) (X:PR W b L w):J Z 325 #[pt b,.agg #[.string b1,.string h1,.int .i64 r1,.int .i64 c1,.bool fr1,.bool fc1]] w fun e w'=>e=.panicked dK/\w.grownBy w' (some b):=by
 have hlt:=(bB (ts:=L) h (by decide)).1;have hq:q.length<=255:=by rw [hL] at hlt;simp at hlt;omega
 have X2:=(X.alloc (.cells #[.string b1,.string h1,.int .i64 r1,.int .i64 c1,.bool fr1,.bool fc1] 64)).alloc (.cells nd0 67);have SK:J Z 311 #[pt b,.string ⟨#[58]⟩] (cw w b1 h1 r1 c1 fr1 fc1) fun e w'=>e=.returned (.bool η)/\Sp W b L.tail (cw w b1 h1 r1 c1 fr1 fc1) w':=fP X2 (by omega) [58] (by decide) h;rw [hL] at SK;have HG0:D (w.grownBy (cw w b1 h1 r1 c1 fr1 fc1) (some b)):=aG (E _ _ _) (E _ _ _);have TK:∀u,Sp W b (t:: q) (cw w b1 h1 r1 c1 fr1 fc1) u->J Z 236 #[pt b] u fun e w'=>e=.returned (.agg (tcs (tk t).k (tk t).n (tk t).s (tk t).b (tk t).h (tk t).r (tk t).c (tk t).fr (tk t).fc))/\D (Sp W b q (cw w b1 h1 r1 c1 fr1 fc1) w'):=fun u hu=>(take_cons hu.1 hq).mono (by
  rintro e w' ⟨rfl,h2⟩;exact⟨rfl,hu.step h2⟩)
 clear X X2 h hL;generalize tk t=tt at *;obtain⟨k,n,s,bk,hh,r,c,fr,fc⟩:=tt;dsimp only at TK hk ⊢;obtain⟨w2,hw2⟩:∃w2,cw w b1 h1 r1 c1 fr1 fc1=w2:=⟨_,rfl⟩
 rw [hw2] at SK HG0;simp only [hw2] at TK;rcases hk with hk | ⟨rfl,hs⟩
 ·have hkb:(k !=3)=η:=by simpa using hk
  clear hk;go_enter Tryz.func325,Tryz.ntmps325;go_wp2_with (first|(go_at_call 311;refine SK.mono ?_;rintro e w1 ⟨rfl,hs⟩;have HS:D (Sp W b (t:: q) w2 w1):=hs;clear hs)|(go_at_call 236;refine (TK _ HS.out).mono ?_;rintro e w3 ⟨rfl,HS3⟩))
  exact⟨rfl,rfl,aG HG0.out (HS3.out.alloc _).2⟩
 ·have hsb:hh.toList.isEmpty=I:=by
   cases hx:hh.toList with
   | nil=>exact absurd hx hs
   | cons _ _=>rfl
  clear hs;go_enter Tryz.func325,Tryz.ntmps325;go_wp2_with (first|(go_at_call 311;refine SK.mono ?_;rintro e w1 ⟨rfl,hs⟩;have HS:D (Sp W b (t:: q) w2 w1):=hs;clear hs)|(go_at_call 236;refine (TK _ HS.out).mono ?_;rintro e w3 ⟨rfl,HS3⟩))
  exact⟨rfl,rfl,aG HG0.out (HS3.out.alloc _).2⟩
end
theorem aGS {W w:N} {b:Nat} (x:Ad.Ref) {L:List Tk.Tok} (hn:L.length<=256) (X:PR W b L w):J Z 325 #[pt b,dL (ba x.book) (ba x.fA) x.cell.row x.cell.col x.cell.fr x.cell.fc] w (PO W b w (aBr x L)):=by
 unfold aBr;by_cases h:aU L=[58]
 ·rw [if_pos h];cases hL:L.tail with
  | nil=>exact aGP hn h hL X
  | cons t q=>
   have no:((tk t).k ≠ 3\/((tk t).k=3/\¬(tk t).h.toList=[]))->J Z 325 #[pt b,dL (ba x.book) (ba x.fA) x.cell.row x.cell.col x.cell.fr x.cell.fc] w (PO W b w none):=fun hne=>aGR hn h hL hne X;cases t using Tk.Tok.cs with
   | ref y=>
    simp only;by_cases hy:y.fA=[]
    ·rw [if_pos hy];refine (aGQ hn h hL rfl (by rw [τ];exact hy) X).mono ?_;rintro e w' ⟨rfl,h⟩;exact⟨_,rfl,NK.leaf,h⟩
    ·rw [if_neg hy];exact no (.inr ⟨rfl,fun e=>hy (by rw [τ] at e;exact e)⟩)
   | num n=>exact no (.inl (by simp [tk]))
   | str n=>exact no (.inl (by simp [tk]))
   | word n m=>exact no (.inl (by simp [tk]))
   | op n=>exact no (.inl (by simp [tk]))
   | bad n=>exact no (.inl (by simp [tk]))
 ·rw [if_neg h];refine (cells_one hn h X).mono ?_;rintro e w' ⟨rfl,h⟩;exact⟨_,rfl,NK.leaf,h⟩
def vS (b s:List UInt8) (r:List Tk.Tok):Option (T × List Tk.Tok):=
 if b=[]/\aU r=[40] then (AA r.tail).map fun q=>(tree (bN 7 (bs (upF s))) q.1,q.2) else (match trF s with
   | some n=>some (tree (fQ 3 n nb) [],r)
   | none=>some (tree (zP b s) [],r))
theorem aEp {s:List UInt8} (h:nK s=η):(∃n,trF s=some n/\dZ (ba s)=(3,n,noB))\/(trF s=none/\((dZ (ba s)).1==3)=I):=by
 have hp:=sF (l:=s) h;have h0:¬(ba s).toList=[]:=by rw [τ];intro e;have e':s=[]:=e;rw [e'] at h;cases h
 have h1:¬(ba s).data.toList.head? =some 39:=by
  show ¬s.head? =some 39;intro e;cases hl:s with
  | nil=>rw [hl] at h;cases h
  | cons c r=>
   rw [hl] at h e;simp only [List.head?_cons,Δ] at e;exact(uL h).1 e
 have hpp:¬(cK (ba s).data.toList).2=η:=by show ¬(cK s).2=η;rw [hp];decide
 unfold trF dZ;simp only [if_neg h0,if_neg h1,if_neg hpp];cases ht:(jQ (ba s)).2
 ·right;simp only [Bool.false_eq_true,if_false,true_and];split <;> rfl
 ·left;simp only [if_true];exact⟨_,rfl,rfl⟩
section
variable {W w:N} {b:Nat} {B S:ByteArray}
abbrev ww (w:N) (B S:ByteArray):N:=(w.alloc (.cells (tcs 4 0 S B noB 0 0 I I) 156)).alloc (.cells nd0 67)
theorem yP {K:Nat->Prop} {L:List Tk.Tok} {u:N} {es:Array ε} {t:T} (hb:b < w.heap.size) (h:Sp W b L (ww w B S) u) (hN:NK (fun i=>w.heap.size+1 < i) u es t):
  D ((γ 67 (.pointer (some ⟨w.heap.size+1,0,none⟩)) (.agg es)).run Z u=.ok () (u.setRow (w.heap.size+1) es))/\D (u.heap[w.heap.size+1]? =some (.cells nd0 67))/\D (es.size=18)/\
  D (NK (fun i=>w.heap.size<=i) (u.setRow (w.heap.size+1) es) es t/\Sp W b L w (u.setRow (w.heap.size+1) es)):=by
 have e1:(ww w B S).heap[w.heap.size+1]? =some (.cells nd0 67):=by have:=δ (w.alloc (.cells (tcs 4 0 S B noB 0 0 I I) 156)) (.cells nd0 67);simpa using this
 have k1:=h.kept e1 (by omega);exact⟨hN.sto k1 rfl,k1,hN.size,(hN.grown (aK _ _ _) (fun g e hk=>by cases e;exact Nat.lt_irrefl _ hk)).mono (fun i hi _=>by omega),(h.dW.dW).grown (aK _ _ _) (by omega) hb⟩
theorem iF {L:List Tk.Tok} {u:N} (hb:b < w.heap.size) (h:Sp W b L (ww w B S) u):u.cell? ⟨w.heap.size,2,none⟩=some (.string S)/\u.cell? ⟨w.heap.size,3,none⟩=some (.string B):=by have e0:(ww w B S).heap[w.heap.size]? =some (.cells (tcs 4 0 S B noB 0 0 I I) 156):=(μ _ _ _ (by simp)).trans (δ w _);have k0:=h.kept e0 (by omega);exact⟨by rw [ζ u _ 2 _ 156 (0,0) k0];rfl,by rw [ζ u _ 3 _ 156 (0,0) k0];rfl⟩
theorem aGT {s:List UInt8} {L:List Tk.Tok} (hn:L.length<=256) (h:aU L=[40]) (hs:s.length<=1000) (X:PR W b L w)
  (CA:∀u,PR W b L.tail u->J Z 327 #[pt b] u (AO W b u (AA L.tail))):
  J Z 326 #[pt b,.agg (tcs 4 0 (ba s) noB noB 0 0 I I)] w (PO W b w ((AA L.tail).map fun q=>(tree (bN 7 (bs (upF s))) q.1,q.2))):=by
 have hb:=X.lt;have X2:=(X.alloc (.cells (tcs 4 0 (ba s) noB noB 0 0 I I) 156)).alloc (.cells nd0 67);have SK:J Z 311 #[pt b,.string ⟨#[40]⟩] (ww w noB (ba s)) fun e w'=>e=.returned (.bool η)/\Sp W b L.tail (ww w noB (ba s)) w':=fP X2 (by omega) [40] (by decide) h;have SK2:J Z 311 #[pt b,.string ⟨#[40]⟩] (ww w noB (ba s)) fun e w'=>e=.returned (.bool η)/\w'.cell? ⟨w.heap.size,2,none⟩=some (.string (ba s))/\D (Sp W b L.tail (ww w noB (ba s)) w'):=SK.mono (by
  rintro e w' ⟨rfl,h⟩;exact⟨rfl,(iF hb h).1,h⟩)
 obtain⟨_,c3⟩:=iF hb (Sp.refl X2);have UP:=fun u=>aDS (ba s) (by rw [size_mk];omega) u;have eU:(⟨(szF 97 65 (ba s).data.toList).toArray⟩:ByteArray)=ba (upF s):=rfl;rw [eU] at UP;clear SK eU h X X2;cases hA:AA L.tail with
 | none=>
  rw [hA] at CA;have CA':∀u,PR W b L.tail u->J Z 327 #[pt b] u fun e w'=>e=.panicked dK/\u.grownBy w' (some b):=CA;have HG:D (w.grownBy (ww w noB (ba s)) (some b)):=aG (E _ _ _) (E _ _ _);clear CA hA;generalize L.tail=L' at *;obtain⟨w2,hw2⟩:∃w2,ww w noB (ba s)=w2:=⟨_,rfl⟩
  rw [hw2] at SK2 HG c3;generalize ba (upF s)=U at *;generalize ba s=SS at *;go_enter Tryz.func326,Tryz.ntmps326;go_wp2_with (first|(go_at_call 311;refine SK2.mono ?_;rintro e w3 ⟨rfl,c2,HS⟩)|(go_at_call 214;refine (UP _).mono ?_;rintro e w4 ⟨rfl,hs⟩;have HS4:D (Sp W b L' w2 w4):=HS.out.bel hs;clear hs)|(go_at_call 327;refine (CA' _ HS4.out.1).mono ?_;rintro e w5 ⟨rfl,hg⟩))
  exact⟨rfl,rfl,aG HG.out (aG HS4.out.2 hg)⟩
 | some p=>
  obtain⟨l,r⟩:=p;rw [hA] at CA;have CA':∀u,Sp W b L.tail (ww w noB (ba s)) u->J Z 327 #[pt b] u fun e w'=>∃q n c,e=.returned (.slice q n c)/\
    D ((γ 67 (.pointer (some ⟨w.heap.size+1,0,none⟩)) (.agg (lcs (bN 7 (ba (upF s))) (.slice q n c)))).run Z w'=.ok () (w'.setRow (w.heap.size+1) (lcs (bN 7 (ba (upF s))) (.slice q n c))))/\D (w'.heap[w.heap.size+1]? =some (.cells nd0 67))/\
    D (NK (fun i=>w.heap.size<=i) (w'.setRow (w.heap.size+1) (lcs (bN 7 (ba (upF s))) (.slice q n c))) (lcs (bN 7 (ba (upF s))) (.slice q n c)) (tree (bN 7 (ba (upF s))) l)/\Sp W b r w (w'.setRow (w.heap.size+1) (lcs (bN 7 (ba (upF s))) (.slice q n c)))):=fun u hu=>(CA u hu.1).mono (by
   rintro e w' ⟨q,n,c,rfl,h1,h2,h3⟩;dsimp only at h1 h2 h3;have hN:NK (fun i=>w.heap.size+1 < i) w' (lcs (bN 7 (ba (upF s))) (.slice q n c)) (tree (bN 7 (ba (upF s))) l):=by
    refine ⟨q,n,c,rfl,by show n=(kids (mk l)).length;rw [sV];exact h1, ?_⟩;rcases h2 with rfl | ⟨a,rfl,hi⟩
    ·exact .inl rfl
    ·exact .inr ⟨a,rfl,hi.mono (fun i hi _=>by have:=hu.2.size;simp at this;omega)⟩
   obtain⟨k1,k2,k3,k4⟩:=yP (K:=fun _=>True) hb (hu.step h3) hN;exact⟨q,n,c,rfl,k1,k2,k4⟩)
  clear CA hA;generalize L.tail=L' at *;obtain⟨w2,hw2⟩:∃w2,ww w noB (ba s)=w2:=⟨_,rfl⟩
  rw [hw2] at SK2 c3;simp only [hw2] at CA';have eB:bs (upF s)=ba (upF s):=rfl;rw [ψ,eB];clear eB;generalize ba (upF s)=U at *;generalize ba s=SS at *;go_enter Tryz.func326,Tryz.ntmps326;go_wp2_with (first|(go_at_call 311;refine SK2.mono ?_;rintro e w3 ⟨rfl,c2,HS⟩)|(go_at_call 214;refine (UP _).mono ?_;rintro e w4 ⟨rfl,hs⟩;have HS4:D (Sp W b L' w2 w4):=HS.out.bel hs;clear hs)|(go_at_call 327;refine (CA' _ HS4.out).mono ?_;rintro e w5 ⟨q,n,c,rfl,RS,HG,HF⟩)|(refine aA rfl 67 _ _ rfl _ _ _ rfl rfl RS.out ?_))
  exact α (aZ HG.out (fE _ _) rfl rfl) rfl ⟨_,rfl,HF.out.1,HF.out.2⟩
end
section
variable {W w:N} {b:Nat} {B S:ByteArray}
theorem yQ {n:Int} {L:List Tk.Tok} (hn:L.length<=256) (X:PR W b L w) (hB:B.toList.isEmpty=I) (TY:∀u,Sp W b L (ww w B S) u->CR 160 #[.string S] u (.agg #[.int .i64 3,.int .i64 n,.string noB])):
  J Z 326 #[pt b,.agg (tcs 4 0 S B noB 0 0 I I)] w fun e w'=>e=.returned (.agg (lcs (fQ 3 n nb) (.slice none 0 0)))/\Sp W b L w w':=by
 have hb:=X.lt;have X2:=(X.alloc (.cells (tcs 4 0 S B noB 0 0 I I) 156)).alloc (.cells nd0 67);obtain⟨c2,c3⟩:=iF hb (Sp.refl X2);have HS0:D (Sp W b L (ww w B S) (ww w B S)):=Sp.refl X2;have CC:=fun u (hu:Sp W b L (ww w B S) u)=>(iF hb hu).1;have FIN:=fun u (hu:Sp W b L (ww w B S) u)=>yP (K:=fun _=>True) hb hu (NK.leaf (a:=(fQ 3 n nb)));obtain⟨w2,hw2⟩:∃w2,ww w B S=w2:=⟨_,rfl⟩
 rw [hw2] at c2 c3 HS0;simp only [hw2] at TY FIN CC;clear X X2;go_enter Tryz.func326,Tryz.ntmps326;go_wp2_with (first|(go_at_call 160;refine (TY _ HS0.out).mono ?_;rintro e w3 ⟨rfl,hs⟩;have HS3:D (Sp W b L w2 (w3.alloc (.cells #[.int .i64 3,.int .i64 n,.string noB] 62))):=(HS0.out.bel hs).alloc _;clear hs)|(go_at_call 323;refine (mK 3 n noB _).mono ?_;rintro e w4 ⟨rfl,hs⟩;obtain⟨RS,HG,HZ,HF⟩:=FIN _ (HS3.out.bel hs);clear hs)|(refine aA rfl 67 _ _ rfl _ _ _ rfl rfl RS.out ?_))
 exact α (aZ HG.out HZ.out rfl rfl) rfl ⟨rfl,HF.out.2⟩
theorem yR {k n:Int} {x:ByteArray} {L:List Tk.Tok} (hn:L.length<=256) (X:PR W b L w) (hB:B.toList.isEmpty=I) (TY:∀u,Sp W b L (ww w B S) u->CR 160 #[.string S] u (.agg #[.int .i64 k,.int .i64 n,.string x])) (hk:(k==3)=I):
  J Z 326 #[pt b,.agg (tcs 4 0 S B noB 0 0 I I)] w fun e w'=>e=.returned (.agg (lcs ⟨4,S,0,0,nb,B,nb,0,0,I,I,nb,nb,0,0,I,I⟩ (.slice none 0 0)))/\Sp W b L w w':=by
 have hb:=X.lt;have X2:=(X.alloc (.cells (tcs 4 0 S B noB 0 0 I I) 156)).alloc (.cells nd0 67);obtain⟨c2,c3⟩:=iF hb (Sp.refl X2);have HS0:D (Sp W b L (ww w B S) (ww w B S)):=Sp.refl X2;have CC:=fun u (hu:Sp W b L (ww w B S) u)=>(iF hb hu).1;have FIN:=fun u (hu:Sp W b L (ww w B S) u)=>yP (K:=fun _=>True) hb hu (NK.leaf (a:=⟨4,S,0,0,nb,B,nb,0,0,I,I,nb,nb,0,0,I,I⟩));obtain⟨w2,hw2⟩:∃w2,ww w B S=w2:=⟨_,rfl⟩
 rw [hw2] at c2 c3 HS0;simp only [hw2] at TY FIN CC;clear X X2;go_enter Tryz.func326,Tryz.ntmps326;go_wp2_with (first|(go_at_call 160;refine (TY _ HS0.out).mono ?_;rintro e w3 ⟨rfl,hs⟩;have HS3:D (Sp W b L w2 (w3.alloc (.cells #[.int .i64 k,.int .i64 n,.string x] 62))):=(HS0.out.bel hs).alloc _;have c22:=CC _ HS3.out;obtain⟨RS,HG,HZ,HF⟩:=FIN _ HS3.out;clear hs)|(refine aA rfl 67 _ _ rfl _ _ _ rfl rfl RS.out ?_))
 exact α (aZ HG.out HZ.out rfl rfl) rfl ⟨rfl,HF.out.2⟩
theorem yS {n:Int} {L:List Tk.Tok} (hn:L.length<=256) (X:PR W b L w) (hB:B=noB) (h:aU L ≠ [40]) (TY:∀u,Sp W b L (ww w B S) u->CR 160 #[.string S] u (.agg #[.int .i64 3,.int .i64 n,.string noB])):
  J Z 326 #[pt b,.agg (tcs 4 0 S B noB 0 0 I I)] w fun e w'=>e=.returned (.agg (lcs (fQ 3 n nb) (.slice none 0 0)))/\Sp W b L w w':=by
 have hb:=X.lt;have X2:=(X.alloc (.cells (tcs 4 0 S B noB 0 0 I I) 156)).alloc (.cells nd0 67);obtain⟨c2,c3⟩:=iF hb (Sp.refl X2);have HS0:D (Sp W b L (ww w B S) (ww w B S)):=Sp.refl X2;have CC:=fun u (hu:Sp W b L (ww w B S) u)=>(iF hb hu).1;have FIN:=fun u (hu:Sp W b L (ww w B S) u)=>yP (K:=fun _=>True) hb hu (NK.leaf (a:=(fQ 3 n nb)));have SK:J Z 311 #[pt b,.string ⟨#[40]⟩] (ww w B S) fun e w'=>e=.returned (.bool I)/\w'=ww w B S:=iW X2 (by omega) [40] h;subst hB;clear h;obtain⟨w2,hw2⟩:∃w2,ww w noB S=w2:=⟨_,rfl⟩
 rw [hw2] at SK c2 c3 HS0;simp only [hw2] at TY FIN CC;clear X X2;go_enter Tryz.func326,Tryz.ntmps326;go_wp2_with (first|(go_at_call 311;refine SK.mono ?_;rintro e w1 ⟨rfl,hs⟩;obtain rfl:=hs.symm;clear hs)|(go_at_call 160;refine (TY _ HS0.out).mono ?_;rintro e w3 ⟨rfl,hs⟩;have HS3:D (Sp W b L w2 (w3.alloc (.cells #[.int .i64 3,.int .i64 n,.string noB] 62))):=(HS0.out.bel hs).alloc _;clear hs)|(go_at_call 323;refine (mK 3 n noB _).mono ?_;rintro e w4 ⟨rfl,hs⟩;obtain⟨RS,HG,HZ,HF⟩:=FIN _ (HS3.out.bel hs);clear hs)|(refine aA rfl 67 _ _ rfl _ _ _ rfl rfl RS.out ?_))
 exact α (aZ HG.out HZ.out rfl rfl) rfl ⟨rfl,HF.out.2⟩
theorem yT {k n:Int} {x:ByteArray} {L:List Tk.Tok} (hn:L.length<=256) (X:PR W b L w) (hB:B=noB) (h:aU L ≠ [40]) (TY:∀u,Sp W b L (ww w B S) u->CR 160 #[.string S] u (.agg #[.int .i64 k,.int .i64 n,.string x])) (hk:(k==3)=I):
  J Z 326 #[pt b,.agg (tcs 4 0 S B noB 0 0 I I)] w fun e w'=>e=.returned (.agg (lcs ⟨4,S,0,0,nb,B,nb,0,0,I,I,nb,nb,0,0,I,I⟩ (.slice none 0 0)))/\Sp W b L w w':=by
 have hb:=X.lt;have X2:=(X.alloc (.cells (tcs 4 0 S B noB 0 0 I I) 156)).alloc (.cells nd0 67);obtain⟨c2,c3⟩:=iF hb (Sp.refl X2);have HS0:D (Sp W b L (ww w B S) (ww w B S)):=Sp.refl X2;have CC:=fun u (hu:Sp W b L (ww w B S) u)=>(iF hb hu).1;have FIN:=fun u (hu:Sp W b L (ww w B S) u)=>yP (K:=fun _=>True) hb hu (NK.leaf (a:=⟨4,S,0,0,nb,B,nb,0,0,I,I,nb,nb,0,0,I,I⟩));have SK:J Z 311 #[pt b,.string ⟨#[40]⟩] (ww w B S) fun e w'=>e=.returned (.bool I)/\w'=ww w B S:=iW X2 (by omega) [40] h;subst hB;clear h;obtain⟨w2,hw2⟩:∃w2,ww w noB S=w2:=⟨_,rfl⟩
 rw [hw2] at SK c2 c3 HS0;simp only [hw2] at TY FIN CC;clear X X2;go_enter Tryz.func326,Tryz.ntmps326;go_wp2_with (first|(go_at_call 311;refine SK.mono ?_;rintro e w1 ⟨rfl,hs⟩;obtain rfl:=hs.symm;clear hs)|(go_at_call 160;refine (TY _ HS0.out).mono ?_;rintro e w3 ⟨rfl,hs⟩;have HS3:D (Sp W b L w2 (w3.alloc (.cells #[.int .i64 k,.int .i64 n,.string x] 62))):=(HS0.out.bel hs).alloc _;have c22:=CC _ HS3.out;obtain⟨RS,HG,HZ,HF⟩:=FIN _ HS3.out;clear hs)|(refine aA rfl 67 _ _ rfl _ _ _ rfl rfl RS.out ?_))
 exact α (aZ HG.out HZ.out rfl rfl) rfl ⟨rfl,HF.out.2⟩
end
theorem aJw {W w:N} {b:Nat} (bk s:List UInt8) {L:List Tk.Tok} (hn:L.length<=256) (hh:nK s=η) (hs:s.length<=1000) (X:PR W b L w)
  (CA:∀u,aU L=[40]->PR W b L.tail u->J Z 327 #[pt b] u (AO W b u (AA L.tail))):
  J Z 326 #[pt b,.agg (tcs 4 0 (ba s) (ba bk) noB 0 0 I I)] w (PO W b w (vS bk s L)):=by
 unfold vS;by_cases h:bk=[]/\aU L=[40]
 ·rw [if_pos h];obtain⟨rfl,h⟩:=h;exact aGT hn h hs X (fun u hu=>CA u h hu)
 ·rw [if_neg h];have TY:∀u,Sp W b L (ww w (ba bk) (ba s)) u->CR 160 #[.string (ba s)] u (.agg #[.int .i64 (dZ (ba s)).1,.int .i64 (dZ (ba s)).2.1,.string (dZ (ba s)).2.2]):=fun u hu=>uK (ba s) (by rw [size_mk];omega) u hu.1.t.t.t;have hg:((ba bk).toList.isEmpty=I)\/((ba bk)=noB/\aU L ≠ [40]):=by
   cases bk with
   | nil=>exact .inr ⟨rfl,fun e=>h ⟨rfl,e⟩⟩
   | cons c r=>exact .inl (by rw [τ];rfl)
  rcases aEp hh with ⟨n,h1,h2⟩ | ⟨h1,h2⟩
  ·rw [h1];rw [h2] at TY;rcases hg with hg | ⟨hg,hg2⟩
   ·exact (yQ hn X hg TY).mono (by rintro e w' ⟨rfl,h⟩;exact⟨_,rfl,NK.leaf,h⟩)
   ·exact (yS hn X hg hg2 TY).mono (by rintro e w' ⟨rfl,h⟩;exact⟨_,rfl,NK.leaf,h⟩)
  ·rw [h1];rcases hg with hg | ⟨hg,hg2⟩
   ·exact (yR hn X hg TY h2).mono (by rintro e w' ⟨rfl,h⟩;exact⟨_,rfl,NK.leaf (a:=zP bk s),h⟩)
   ·exact (yT hn X hg hg2 TY h2).mono (by rintro e w' ⟨rfl,h⟩;exact⟨_,rfl,NK.leaf (a:=zP bk s),h⟩)
end Go.Proofs.YtfedoljlipfhdaaGreatDoor
namespace Go.Proofs.YtfedoljlipfhdaaGreatDoor
open Go.RowKit
theorem aLL (s:ByteArray) (w:N):CR 324 #[.string s] w (if aGg s=η then .agg #[.int .i64 2,.int .i64 0,.string s] else .agg #[.int .i64 4,.int .i64 2,.string ⟨#[]⟩]):=by
 rcases aAr s with ⟨he,h⟩ | ⟨he,h⟩;all_goals rw [h]
 ·have he':¬255 < (s.size:Int):=by omega
  go_enter Tryz.func324,Tryz.ntmps324;go_wp2_with (go_at_call 202;refine (uJ _ _).mono ?_;rintro e w1 ⟨rfl,hb⟩;have HB:D (ν w.heap.size w w1):=iC hb;obtain⟨⟨c0,c1,c2⟩,f0,f1,f2⟩:=fG hb;clear hb)
  exact α (v:=.agg #[.int .i64 2,.int .i64 0,.string s]) (by simp [results,Tryz.results324,go_sem,c0,c1,c2]) rfl ⟨rfl,aCj HB.out⟩
 ·have he':255 < (s.size:Int):=by omega
  go_enter Tryz.func324,Tryz.ntmps324;go_wp2_with (go_at_call 208;refine (rZ _ _).mono ?_;rintro e w1 ⟨rfl,hb⟩;have HB:D (ν w.heap.size w w1):=iC hb;obtain⟨⟨c0,c1,c2⟩,f0,f1,f2⟩:=fG hb;clear hb)
  exact α (v:=.agg #[.int .i64 4,.int .i64 2,.string ⟨#[]⟩]) (by simp [results,Tryz.results324,go_sem,c0,c1,c2];rfl) rfl ⟨rfl,aCj HB.out⟩
end Go.Proofs.YtfedoljlipfhdaaGreatDoor
namespace Go.Proofs.YtfedoljlipfhdaaGreatDoor
open Go.RowKit Go.Fm
section
variable {W w:N} {b:Nat}
abbrev w0 (w:N):N:=w.alloc (.cells nd0 67)
theorem aJx {ts r:List Tk.Tok} {n:T} (hn:ts.length<=256) (h:aU ts=[40]) (hr:r.length<=256) (X:PR W b ts w) (C:∀u,PR W b ts.tail u->J Z 152 #[pt b] u (PO W b u (some (n,r)))) (h41:aU r=[41]):
  J Z 319 #[pt b] w (PO W b w (some (n,r.tail))):=by
 have hb:=X.lt;have X2:=X.alloc (.cells nd0 67);have SK:J Z 311 #[pt b,.string ⟨#[40]⟩] (w0 w) fun e w'=>e=.returned (.bool η)/\D (Sp W b ts.tail (w0 w) w'):=fP X2 (by omega) [40] (by decide) h;have C2:∀u,Sp W b ts.tail (w0 w) u->J Z 152 #[pt b] u fun e w1=>∃es,e=.returned (.agg es)/\D ((γ 67 (pt w1.heap.size) (.agg es)).run Z (w1.alloc (.cells nd0 67))=.ok () (w1.alloc (.cells es 67)))/\D (Sp W b r (w0 w) (w1.alloc (.cells es 67)))/\
   D (∀u,Sp W b r.tail (w1.alloc (.cells es 67)) u->(υ 67 (pt w1.heap.size)).run Z u=.ok (.agg es) u/\Sp W b r.tail (w0 w) u/\NK (fun i=>w.heap.size < i) u es n):=fun u hu=>(C u hu.1).mono (by
  rintro e w1 ⟨es,rfl,h1,h2⟩;have hS:Sp W b r (w0 w) (w1.alloc (.cells es 67)):=(hu.step h2).alloc _;refine ⟨es,rfl,(aCS w1 h1.nt).1,hS,fun v hv=> ?_⟩;have hz:=hu.2.size;have hzz:=h2.2.size;simp at hz;refine ⟨h1.lod (hv.kept (δ w1 _) (by omega)),hS.step hv, ?_⟩;exact((h1.mono (K':=fun i=>w.heap.size < i) (fun i hi _=>by omega)).below (aC (κ _ _) (.cells es 67))).grown hv.2 (fun g e hk=>by cases e;omega))
 have MU:∀u,PR W b r u->J Z 322 #[pt b,.string ⟨#[41]⟩] u fun e w'=>e=.returned (.tuple #[])/\Sp W b r.tail u w':=fun u hu=>aC3 hu hr [41] (by decide) h41;clear C X X2 h h41;generalize ts.tail=L' at *;generalize r.tail=r' at *;obtain⟨w2,hw2⟩:∃w2,w0 w=w2:=⟨_,rfl⟩
 have FIN:∀(u:N) (es:Array ε),Sp W b r' w2 u->NK (fun i=>w.heap.size < i) u es n->_:=fun u es hu hN=>by rw [<-hw2] at hu;exact gF hb hN hu
 rw [hw2] at SK;simp only [hw2] at C2;go_enter Tryz.func319,Tryz.ntmps319;go_wp2_with (first|(go_at_call 311;refine SK.mono ?_;rintro e w3 ⟨rfl,HS⟩)|(go_at_call 152;refine (C2 _ HS.out).mono ?_;rintro e w4 ⟨es,rfl,RS0,HS4,HL4⟩)|(refine aA rfl 67 _ _ rfl _ _ _ rfl rfl RS0.out ?_;clear RS0)|(go_at_call 322;refine (MU _ HS4.out.1).mono ?_;rintro e w5 ⟨rfl,hs⟩;obtain⟨rl5,hs5,hn5⟩:=HL4.out _ hs;have RL5:D _:=rl5;obtain⟨RS,HG,HZ,HF⟩:=FIN _ _ hs5 hn5;clear hs rl5 hs5 hn5)|(refine aB rfl 67 _ rfl _ _ rfl RL5.out ?_)|(refine aA rfl 67 _ _ rfl _ _ _ rfl rfl RS.out ?_))
 exact α (aZ HG.out HZ.out rfl rfl) rfl ⟨_,rfl,HF.out.1,HF.out.2⟩
theorem aBs {ts r:List Tk.Tok} {n:T} (hn:ts.length<=256) (h:aU ts=[40]) (hr:r.length<=256) (X:PR W b ts w) (C:∀u,PR W b ts.tail u->J Z 152 #[pt b] u (PO W b u (some (n,r)))) (h41:aU r ≠ [41]):
  J Z 319 #[pt b] w fun e w'=>e=.panicked dK/\w.grownBy w' (some b):=by
 have X2:=X.alloc (.cells nd0 67);have SK:J Z 311 #[pt b,.string ⟨#[40]⟩] (w0 w) fun e w'=>e=.returned (.bool η)/\D (Sp W b ts.tail (w0 w) w'):=fP X2 (by omega) [40] (by decide) h;have C2:∀u,Sp W b ts.tail (w0 w) u->J Z 152 #[pt b] u fun e w1=>∃es,e=.returned (.agg es)/\D ((γ 67 (pt w1.heap.size) (.agg es)).run Z (w1.alloc (.cells nd0 67))=.ok () (w1.alloc (.cells es 67)))/\D (Sp W b r (w0 w) (w1.alloc (.cells es 67))):=fun u hu=>(C u hu.1).mono (by
  rintro e w1 ⟨es,rfl,h1,h2⟩;exact⟨es,rfl,(aCS w1 h1.nt).1,(hu.step h2).alloc _⟩)
 have MU:∀u,PR W b r u->J Z 322 #[pt b,.string ⟨#[41]⟩] u fun e w'=>e=.panicked dK/\w'=u:=fun u hu=>aFG hu hr [41] h41;have HG0:D (w.grownBy (w0 w) (some b)):=E _ _ _;clear C X X2 h h41;generalize ts.tail=L' at *;obtain⟨w2,hw2⟩:∃w2,w0 w=w2:=⟨_,rfl⟩
 rw [hw2] at SK HG0;simp only [hw2] at C2;go_enter Tryz.func319,Tryz.ntmps319;go_wp2_with (first|(go_at_call 311;refine SK.mono ?_;rintro e w3 ⟨rfl,HS⟩)|(go_at_call 152;refine (C2 _ HS.out).mono ?_;rintro e w4 ⟨es,rfl,RS0,HS4⟩)|(refine aA rfl 67 _ _ rfl _ _ _ rfl rfl RS0.out ?_;clear RS0)|(go_at_call 322;refine (MU _ HS4.out.1).mono ?_;rintro e w5 ⟨rfl,hs⟩;obtain rfl:=hs.symm;clear hs))
 exact⟨rfl,rfl,aG HG0.out HS4.out.2⟩
theorem aGU {ts:List Tk.Tok} (hn:ts.length<=256) (h:aU ts=[40]) (X:PR W b ts w) (C:∀u,PR W b ts.tail u->J Z 152 #[pt b] u fun e w'=>e=.panicked dK/\u.grownBy w' (some b)):
  J Z 319 #[pt b] w fun e w'=>e=.panicked dK/\w.grownBy w' (some b):=by
 have X2:=X.alloc (.cells nd0 67);have SK:J Z 311 #[pt b,.string ⟨#[40]⟩] (w0 w) fun e w'=>e=.returned (.bool η)/\D (Sp W b ts.tail (w0 w) w'):=fP X2 (by omega) [40] (by decide) h;have HG0:D (w.grownBy (w0 w) (some b)):=E _ _ _;clear X X2 h;generalize ts.tail=L' at *;obtain⟨w2,hw2⟩:∃w2,w0 w=w2:=⟨_,rfl⟩
 rw [hw2] at SK HG0;go_enter Tryz.func319,Tryz.ntmps319;go_wp2_with (first|(go_at_call 311;refine SK.mono ?_;rintro e w3 ⟨rfl,HS⟩)|(go_at_call 152;refine (C _ HS.out.1).mono ?_;rintro e w4 ⟨rfl,hg⟩))
 exact⟨rfl,rfl,aG HG0.out (aG HS.out.2 hg)⟩
theorem aLM (X:PR W b [] w):J Z 319 #[pt b] w fun e w'=>e=.panicked dK/\w.grownBy w' (some b):=by
 have X2:=X.alloc (.cells nd0 67);have SK:J Z 311 #[pt b,.string ⟨#[40]⟩] (w0 w) fun e w'=>e=.returned (.bool I)/\w'=w0 w:=iW X2 (by simp) [40] (by decide);have TK:=take_nil X2;have HG0:D (w.grownBy (w0 w) (some b)):=E _ _ _;clear X X2;go_enter Tryz.func319,Tryz.ntmps319;go_wp2_with (first|(go_at_call 311;refine SK.mono ?_;rintro e w3 ⟨rfl,hs⟩;obtain rfl:=hs.symm;clear hs)|(go_at_call 236;refine TK.mono ?_;rintro e w4 ⟨rfl,hg⟩))
 exact⟨rfl,rfl,aG HG0.out hg⟩
theorem aNx {t:Tk.Tok} {q:List Tk.Tok} (hn:(t:: q).length<=256) (h:aU (t:: q) ≠ [40]) (X:PR W b (t:: q) w):
  J Z 311 #[pt b,.string ⟨#[40]⟩] (w0 w) (fun e w'=>e=.returned (.bool I)/\w'=w0 w)/\J Z 236 #[pt b] (w0 w) (fun e w'=>e=.returned (.agg (tcs (tk t).k (tk t).n (tk t).s (tk t).b (tk t).h (tk t).r (tk t).c (tk t).fr (tk t).fc))/\D (Sp W b q (w0 w) w')):=
 ⟨iW (X.alloc (.cells nd0 67)) hn [40] h,take_cons (X.alloc (.cells nd0 67)) (by simp at hn;omega)⟩
theorem one_num {n:Int} {q:List Tk.Tok} (hb:b < w.heap.size) (SK:J Z 311 #[pt b,.string ⟨#[40]⟩] (w0 w) fun e w'=>e=.returned (.bool I)/\w'=w0 w)
  (TK:J Z 236 #[pt b] (w0 w) fun e w'=>e=.returned (.agg (tcs 1 n noB noB noB 0 0 I I))/\D (Sp W b q (w0 w) w')) (V:∀u,J Z 204 #[.int .i64 n,.bool η] u fun e w'=>e=.returned (.agg #[.int .i64 1,.int .i64 n,.string noB])/\ν u.heap.size u w'):
  J Z 319 #[pt b] w fun e w'=>e=.returned (.agg (lcs (fQ 1 n noB) (.slice none 0 0)))/\Sp W b q w w':=by
 have FIN:=fun u (hu:Sp W b q (w0 w) u)=>gF hb (NK.leaf (a:=fQ 1 n noB)) hu;go_enter Tryz.func319,Tryz.ntmps319;go_wp2_with (first|(go_at_call 311;refine SK.mono ?_;rintro e w3 ⟨rfl,hs⟩;obtain rfl:=hs.symm;clear hs)|(go_at_call 236;refine TK.mono ?_;rintro e w4 ⟨rfl,HS4⟩)|(go_at_call 204;refine (V _).mono ?_;rintro e w5 ⟨rfl,hs⟩;have HS5:D (Sp W b q (w0 w) w5):=(HS4.out.alloc _).bel hs;clear hs)|(go_at_call 323;refine (mK 1 n noB _).mono ?_;rintro e w6 ⟨rfl,hs⟩;obtain⟨RS,HG,HZ,HF⟩:=FIN _ (HS5.out.bel hs);clear hs)|(refine aA rfl 67 _ _ rfl _ _ _ rfl rfl RS.out ?_))
 exact α (aZ HG.out HZ.out rfl rfl) rfl ⟨rfl,HF.out.2⟩
theorem aLN {S:ByteArray} {q:List Tk.Tok} (hb:b < w.heap.size) (SK:J Z 311 #[pt b,.string ⟨#[40]⟩] (w0 w) fun e w'=>e=.returned (.bool I)/\w'=w0 w)
  (TK:J Z 236 #[pt b] (w0 w) fun e w'=>e=.returned (.agg (tcs 2 0 S noB noB 0 0 I I))/\D (Sp W b q (w0 w) w')) (V:∀u,J Z 324 #[.string S] u fun e w'=>e=.returned (.agg #[.int .i64 2,.int .i64 0,.string S])/\ν u.heap.size u w'):
  J Z 319 #[pt b] w fun e w'=>e=.returned (.agg (lcs (fQ 2 0 S) (.slice none 0 0)))/\Sp W b q w w':=by
 have FIN:=fun u (hu:Sp W b q (w0 w) u)=>gF hb (NK.leaf (a:=fQ 2 0 S)) hu;go_enter Tryz.func319,Tryz.ntmps319;go_wp2_with (first|(go_at_call 311;refine SK.mono ?_;rintro e w3 ⟨rfl,hs⟩;obtain rfl:=hs.symm;clear hs)|(go_at_call 236;refine TK.mono ?_;rintro e w4 ⟨rfl,HS4⟩)|(go_at_call 324;refine (V _).mono ?_;rintro e w5 ⟨rfl,hs⟩;have HS5:D (Sp W b q (w0 w) w5):=(HS4.out.alloc _).bel hs;clear hs)|(go_at_call 323;refine (mK 2 0 S _).mono ?_;rintro e w6 ⟨rfl,hs⟩;obtain⟨RS,HG,HZ,HF⟩:=FIN _ (HS5.out.bel hs);clear hs)|(refine aA rfl 67 _ _ rfl _ _ _ rfl rfl RS.out ?_))
 exact α (aZ HG.out HZ.out rfl rfl) rfl ⟨rfl,HF.out.2⟩
theorem aLO {n:Int} {q:List Tk.Tok} (hb:b < w.heap.size) (SK:J Z 311 #[pt b,.string ⟨#[40]⟩] (w0 w) fun e w'=>e=.returned (.bool I)/\w'=w0 w)
  (TK:J Z 236 #[pt b] (w0 w) fun e w'=>e=.returned (.agg (tcs 6 n noB noB noB 0 0 I I))/\D (Sp W b q (w0 w) w')) (V:∀u,J Z 208 #[.int .i64 n] u fun e w'=>e=.returned (.agg #[.int .i64 4,.int .i64 n,.string noB])/\ν u.heap.size u w'):
  J Z 319 #[pt b] w fun e w'=>e=.returned (.agg (lcs (fQ 4 n noB) (.slice none 0 0)))/\Sp W b q w w':=by
 have FIN:=fun u (hu:Sp W b q (w0 w) u)=>gF hb (NK.leaf (a:=fQ 4 n noB)) hu;go_enter Tryz.func319,Tryz.ntmps319;go_wp2_with (first|(go_at_call 311;refine SK.mono ?_;rintro e w3 ⟨rfl,hs⟩;obtain rfl:=hs.symm;clear hs)|(go_at_call 236;refine TK.mono ?_;rintro e w4 ⟨rfl,HS4⟩)|(go_at_call 208;refine (V _).mono ?_;rintro e w5 ⟨rfl,hs⟩;have HS5:D (Sp W b q (w0 w) w5):=(HS4.out.alloc _).bel hs;clear hs)|(go_at_call 323;refine (mK 4 n noB _).mono ?_;rintro e w6 ⟨rfl,hs⟩;obtain⟨RS,HG,HZ,HF⟩:=FIN _ (HS5.out.bel hs);clear hs)|(refine aA rfl 67 _ _ rfl _ _ _ rfl rfl RS.out ?_))
 exact α (aZ HG.out HZ.out rfl rfl) rfl ⟨rfl,HF.out.2⟩
theorem aLP {S:ByteArray} {q:List Tk.Tok} (SK:J Z 311 #[pt b,.string ⟨#[40]⟩] (w0 w) fun e w'=>e=.returned (.bool I)/\w'=w0 w)
  (TK:J Z 236 #[pt b] (w0 w) fun e w'=>e=.returned (.agg (tcs 5 0 S noB noB 0 0 I I))/\D (Sp W b q (w0 w) w')):
  J Z 319 #[pt b] w fun e w'=>e=.panicked dK/\w.grownBy w' (some b):=by
 have HG0:D (w.grownBy (w0 w) (some b)):=E _ _ _;go_enter Tryz.func319,Tryz.ntmps319;go_wp2_with (first|(go_at_call 311;refine SK.mono ?_;rintro e w3 ⟨rfl,hs⟩;obtain rfl:=hs.symm;clear hs)|(go_at_call 236;refine TK.mono ?_;rintro e w4 ⟨rfl,HS4⟩))
 exact⟨rfl,rfl,aG HG0.out (HS4.out.alloc _).2⟩
theorem aLQ {B H:ByteArray} {r c:Int} {fr fc:Bool} {q:List Tk.Tok} {o:Option (T × List Tk.Tok)} (hb:b < w.heap.size) (SK:J Z 311 #[pt b,.string ⟨#[40]⟩] (w0 w) fun e w'=>e=.returned (.bool I)/\w'=w0 w)
  (TK:J Z 236 #[pt b] (w0 w) fun e w'=>e=.returned (.agg (tcs 3 0 noB B H r c fr fc))/\D (Sp W b q (w0 w) w')) (C:∀u,PR W b q u->J Z 325 #[pt b,.agg #[.string B,.string H,.int .i64 r,.int .i64 c,.bool fr,.bool fc]] u (PO W b u o)):
  J Z 319 #[pt b] w (PO W b w o):=by
 have HG0:D (w.grownBy (w0 w) (some b)):=E _ _ _;cases o with
 | none=>
  have C':∀u,PR W b q u->J Z 325 #[pt b,.agg #[.string B,.string H,.int .i64 r,.int .i64 c,.bool fr,.bool fc]] u fun e w'=>e=.panicked dK/\u.grownBy w' (some b):=C;clear C;go_enter Tryz.func319,Tryz.ntmps319;go_wp2_with (first|(go_at_call 311;refine SK.mono ?_;rintro e w3 ⟨rfl,hs⟩;obtain rfl:=hs.symm;clear hs)|(go_at_call 236;refine TK.mono ?_;rintro e w4 ⟨rfl,HS4⟩)|(go_at_call 325;refine (C' _ (HS4.out.alloc _).1).mono ?_;rintro e w5 ⟨rfl,hg⟩))
  exact⟨rfl,rfl,aG HG0.out (aG (HS4.out.alloc _).2 hg)⟩
 | some p=>
  have C':∀u,Sp W b q (w0 w) u->J Z 325 #[pt b,.agg #[.string B,.string H,.int .i64 r,.int .i64 c,.bool fr,.bool fc]] u fun e w1=>∃es,e=.returned (.agg es)/\D ((γ 67 (pt w.heap.size) (.agg es)).run Z w1=.ok () (w1.setRow w.heap.size es))/\D (w1.heap[w.heap.size]? =some (.cells nd0 67))/\D (es.size=18)/\
    D (NK (fun i=>w.heap.size<=i) (w1.setRow w.heap.size es) es p.1/\Sp W b p.2 w (w1.setRow w.heap.size es)):=fun u hu=>(C u hu.1).mono (by
   rintro e w1 ⟨es,rfl,h1,h2⟩;exact⟨es,rfl,gF hb (h1.mono (fun i hi _=>by have:=hu.2.size;simp at this;omega)) (hu.step h2)⟩)
  clear C;go_enter Tryz.func319,Tryz.ntmps319;go_wp2_with (first|(go_at_call 311;refine SK.mono ?_;rintro e w3 ⟨rfl,hs⟩;obtain rfl:=hs.symm;clear hs)|(go_at_call 236;refine TK.mono ?_;rintro e w4 ⟨rfl,HS4⟩)|(go_at_call 325;refine (C' _ (HS4.out.alloc _)).mono ?_;rintro e w5 ⟨es,rfl,RS,HG,HZ,HF⟩)|(refine aA rfl 67 _ _ rfl _ _ _ rfl rfl RS.out ?_))
  exact α (aZ HG.out HZ.out rfl rfl) rfl ⟨_,rfl,HF.out.1,HF.out.2⟩
theorem aJy {S B:ByteArray} {q:List Tk.Tok} {o:Option (T × List Tk.Tok)} (hb:b < w.heap.size) (SK:J Z 311 #[pt b,.string ⟨#[40]⟩] (w0 w) fun e w'=>e=.returned (.bool I)/\w'=w0 w)
  (TK:J Z 236 #[pt b] (w0 w) fun e w'=>e=.returned (.agg (tcs 4 0 S B noB 0 0 I I))/\D (Sp W b q (w0 w) w')) (C:∀u,PR W b q u->J Z 326 #[pt b,.agg (tcs 4 0 S B noB 0 0 I I)] u (PO W b u o)):
  J Z 319 #[pt b] w (PO W b w o):=by
 have HG0:D (w.grownBy (w0 w) (some b)):=E _ _ _;cases o with
 | none=>
  have C':∀u,PR W b q u->J Z 326 #[pt b,.agg (tcs 4 0 S B noB 0 0 I I)] u fun e w'=>e=.panicked dK/\u.grownBy w' (some b):=C;clear C;go_enter Tryz.func319,Tryz.ntmps319;go_wp2_with (first|(go_at_call 311;refine SK.mono ?_;rintro e w3 ⟨rfl,hs⟩;obtain rfl:=hs.symm;clear hs)|(go_at_call 236;refine TK.mono ?_;rintro e w4 ⟨rfl,HS4⟩)|(go_at_call 326;refine (C' _ (HS4.out.alloc _).1).mono ?_;rintro e w5 ⟨rfl,hg⟩))
  exact⟨rfl,rfl,aG HG0.out (aG (HS4.out.alloc _).2 hg)⟩
 | some p=>
  have C':∀u,Sp W b q (w0 w) u->J Z 326 #[pt b,.agg (tcs 4 0 S B noB 0 0 I I)] u fun e w1=>∃es,e=.returned (.agg es)/\D ((γ 67 (pt w.heap.size) (.agg es)).run Z w1=.ok () (w1.setRow w.heap.size es))/\D (w1.heap[w.heap.size]? =some (.cells nd0 67))/\D (es.size=18)/\
    D (NK (fun i=>w.heap.size<=i) (w1.setRow w.heap.size es) es p.1/\Sp W b p.2 w (w1.setRow w.heap.size es)):=fun u hu=>(C u hu.1).mono (by
   rintro e w1 ⟨es,rfl,h1,h2⟩;exact⟨es,rfl,gF hb (h1.mono (fun i hi _=>by have:=hu.2.size;simp at this;omega)) (hu.step h2)⟩)
  clear C;go_enter Tryz.func319,Tryz.ntmps319;go_wp2_with (first|(go_at_call 311;refine SK.mono ?_;rintro e w3 ⟨rfl,hs⟩;obtain rfl:=hs.symm;clear hs)|(go_at_call 236;refine TK.mono ?_;rintro e w4 ⟨rfl,HS4⟩)|(go_at_call 326;refine (C' _ (HS4.out.alloc _)).mono ?_;rintro e w5 ⟨es,rfl,RS,HG,HZ,HF⟩)|(refine aA rfl 67 _ _ rfl _ _ _ rfl rfl RS.out ?_))
  exact α (aZ HG.out HZ.out rfl rfl) rfl ⟨_,rfl,HF.out.1,HF.out.2⟩
end
theorem aJz {W w:N} {b:Nat} {ts:List Tk.Tok} (hn:ts.length<=256) (X:PR W b ts w) (C:∀ts' u,ts'.length<=ts.length->PR W b ts' u->J Z 152 #[pt b] u (PO W b u (PP 1 ts'))):
  J Z 327 #[pt b] w (AO W b w (AA ts)):=by
 unfold AA;by_cases h:aU ts=[41]
 ·rw [if_pos h];exact(aJu hn h X).mono (by rintro e w' ⟨rfl,hs⟩;exact⟨none,0,0,rfl,rfl,.inl rfl,hs⟩)
 ·rw [if_neg h];have C0:=C ts w (β _) X;cases hP:PP 1 ts with
  | none=>
   rw [hP] at C0;exact aGN hn h X C0
  | some p=>
   rw [hP] at C0;have hl:=jC upF trF (by omega) _ p.1 p.2 hP;exact aGO hn h X hl C0 (fun ts' u h1 h2=>C ts' u (by omega) h2)
theorem aAG {b s:List UInt8} (h:Tk.okT gnF trB okN (Tk.Tok.word b s)):nK s=η/\s.length<=1000:=by
 have hg:∀s,gnF s=η->nK s=η/\s.length<=1000:=fun s h=>⟨(aC1 h).2.1,by have:=(aC1 h).1;omega⟩
 rcases h with ⟨_,h | h⟩ | ⟨_,h⟩
 ·exact hg s h
 ·obtain ⟨h1,h2⟩:=vQ h;refine ⟨?_, ?_⟩
  ·cases s with
   | nil=>exact absurd rfl h1
   | cons c r=>exact h2 c (by simp)
  ·rcases aCV h with e | e
   ·have:=congrArg z2 e;simp [szF] at this;omega
   ·have:=congrArg z2 e;simp [szF] at this;omega
 ·exact hg s h
theorem aLR {W w:N} {b:Nat} {ts:List Tk.Tok} (hn:ts.length<=256) (X:PR W b ts w) (C:∀ts' u,ts'.length < ts.length->PR W b ts' u->J Z 152 #[pt b] u (PO W b u (PP 1 ts'))):
  J Z 319 #[pt b] w (PO W b w (PP 8 ts)):=by
 have e:PP 8 ts=jB upF trF (PP 1) ts:=aI8 upF trF ts;rw [e];have hb:=X.lt;cases ts with
 | nil=>exact aLM X
 | cons t q=>
  have hok:=X.ok t (by simp);have hq:q.length<=256:=by simp at hn;omega
  by_cases h40:aU (t:: q)=[40]
  ·cases t using Tk.Tok.cs with
   | op s=>
    have hs:s=[40]:=h40;have e2:jB upF trF (PP 1) (Tk.Tok.op s:: q)=(PP 1 q).bind fun p=>if aU p.2=[41] then some (p.1,p.2.tail) else none:=by simp only [jB];rw [if_pos hs]
    rw [e2];have C1:=fun u hu=>C q u (by simp) hu;cases hP:PP 1 q with
    | none=>
     rw [hP] at C1;exact aGU hn h40 X C1
    | some p=>
     obtain⟨n,r⟩:=p;rw [hP] at C1;have hl:=jC upF trF (by omega) _ n r hP;simp only [θ];by_cases h41:aU r=[41]
     ·rw [if_pos h41];exact aJx hn h40 (by omega) X C1 h41
     ·rw [if_neg h41];exact aBs hn h40 (by omega) X C1 h41
   | num n=>cases h40
   | str n=>cases h40
   | ref n=>cases h40
   | word n m=>cases h40
   | bad n=>cases h40
  ·obtain ⟨SK,TK⟩:=aNx hn h40 X;have lf:∀{a:Lab} {f:Nat} {r:List Tk.Tok},J Z 319 #[pt b] w (fun e w'=>e=.returned (.agg (lcs a (.slice none 0 0)))/\Sp W b r w w')->J Z 319 #[pt b] w (PO W b w (some (tree a [],r))):=fun h=>h.mono (by rintro e w' ⟨rfl,h⟩;exact⟨_,rfl,NK.leaf,h⟩);cases t using Tk.Tok.cs with
   | op s=>
    have hs:s ≠ [40]:=h40;have e2:jB upF trF (PP 1) (Tk.Tok.op s:: q)=none:=by simp only [jB];rw [if_neg hs]
    rw [e2];exact aLP SK TK
   | num n=>
    have hg:ofV n η=.agg #[.int .i64 1,.int .i64 n,.string noB]:=by
     unfold ofV;have hgd:gd n=η:=by have h1:okN n:=hok.1;unfold gd;simp only [Bool.and_eq_true,decide_eq_true_eq];exact⟨by have:=h1.1;omega,h1.2⟩
     rw [hgd];rfl
    have V:=fun u=>aIq n η u;rw [hg] at V;exact lf (f:=0) (one_num hb SK TK V)
   | str s=>
    have hl:aGg (ba s)=η:=by
     have h1:s.length<=255:=hok.2;rcases aAr (ba s) with ⟨_,h⟩ | ⟨h2,h⟩
     ·exact h
     ·rw [size_mk] at h2;omega
    have V:=fun u=>aLL (ba s) u;rw [hl] at V;exact lf (f:=0) (aLN hb SK TK V)
   | bad n=>
    have hg:xA (n:Int)=n:=by have h1:1<=n/\n<=8:=hok.1;unfold xA;rw [if_pos (aA0 n h1.1 h1.2)]
    have V:=fun u=>rZ (n:Int) u;rw [hg] at V;exact lf (f:=0) (aLO hb SK TK V)
   | ref x=>exact aLQ hb SK TK (fun u hu=>aGS x hq hu)
   | word bk s=>
    obtain⟨h1,h2⟩:=aAG hok.1;have e2:jB upF trF (PP 1) (Tk.Tok.word bk s:: q)=vS bk s q:=by
     simp only [jB,vS];rw [aFI];split
     ·rfl
     ·cases trF s <;> rfl
    rw [e2];refine aJy hb SK TK (fun u hu=>aJw bk s hq h1 h2 hu (fun v h40 hv=> ?_));have hl:=(bB (ts:=q) h40 (by decide)).1;exact aJz (by omega) hv (fun ts' u' h3 h4=>C ts' u' (by simp;omega) h4)
def fnN:Nat->Nat
 | 1=>152
 | 2=>197
 | 3=>237
 | 4=>268
 | 5=>282
 | 6=>296
 | 7=>313
 | _=>319
theorem aJA:∀(n lv:Nat) (ts:List Tk.Tok),1<=lv->lv<=8->need lv ts<=n->ts.length<=256->∀(W:N) (b:Nat) (w:N),PR W b ts w->J Z (fnN lv) #[pt b] w (PO W b w (PP lv ts))
 | 0,lv,ts,h1,h8,hn,_=>by unfold need at hn;omega
 | n+1,lv,ts,h1,h8,hn,hl=>by
  intro W b w X;have IH:=aJA n;unfold need at hn;have R:∀lv',1<=lv'->lv'<=8->lv < lv'->∀ts' u,ts'.length<=ts.length->PR W b ts' u->J Z (fnN lv') #[pt b] u (PO W b u (PP lv' ts')):=fun lv' a1 a2 a3 ts' u h2 h3=>IH lv' ts' a1 a2 (by unfold need;omega) (by omega) W b u h3;have hc:lv=1\/lv=2\/lv=3\/lv=4\/lv=5\/lv=6\/lv=7\/lv=8:=by omega
  rcases hc with rfl | rfl | rfl | rfl | rfl | rfl | rfl | rfl
  ·exact aLD hl (R 2 (by omega) (by omega) (by omega)) X
  ·exact aLE hl (R 3 (by omega) (by omega) (by omega)) X
  ·exact aLF hl (R 4 (by omega) (by omega) (by omega)) X
  ·exact aLG hl (R 5 (by omega) (by omega) (by omega)) X
  ·exact aLH hl (R 6 (by omega) (by omega) (by omega)) X
  ·refine aLI hl (fun u h hu=> ?_) (fun u hu=>R 7 (by omega) (by omega) (by omega) ts u (β _) hu) X;have:=(bB (ts:=ts) h (by decide)).1;exact IH 6 ts.tail (by omega) (by omega) (by unfold need;omega) (by omega) W b u hu
  ·exact aLK hl (fun u hu=>R 8 (by omega) (by omega) (by omega) ts u (β _) hu) X
  ·exact aLR hl X (fun ts' u h2 hu=>IH 1 ts' (by omega) (by omega) (by unfold need;omega) (by omega) W b u hu)
theorem aBt {W w:N} {b:Nat} {ts:List Tk.Tok} (hn:ts.length<=256) (X:PR W b ts w):J Z 152 #[pt b] w (PO W b w (PP 1 ts)):=
 aJA _ 1 ts (by omega) (by omega) (β _) hn W b w X
end Go.Proofs.YtfedoljlipfhdaaGreatDoor
namespace Go.Fm
open Go.Ad Go.Tk
def Few (part:Part):Prop:=∀ts n r,part ts=some (n,r)->zT n+r.length<=ts.length
def uV (l:List T):Nat:=(l.map zT).sum
theorem pG (a:Lab) (l:List T):zT (tree a l)=uV l+1:=by unfold zT tree uV;rw [aAz,sV]
theorem aC7 {part:Part} (hp:Few part) {lv:Nat} (hlv:lv ≠ 0):∀(k:Nat) (n:T) (ts:List Tok) (m:T) (r:List Tok),eG part lv k n ts=some (m,r)->zT m+r.length<=zT n+ts.length
 | 0,n,ts,m,r,h=>by cases h;exact β _
 | k+1,n,ts,m,r,h=>by
  unfold eG at h;split at h
  ·rename_i hs
   have h1:=(bB (ts:=ts) rfl (mY (by omega))).1;cases hq:part ts.tail with
   | none=>rw [hq] at h;cases h
   | some p=>
    rw [hq] at h;have h2:=hp _ p.1 p.2 hq;have h3:=aC7 hp hlv k _ _ _ _ h;have h4:zT (yG (aU ts) n p.1)=zT n+zT p.1+1:=by unfold yG;rw [pG];simp [uV]
    omega
  ·cases h;exact β _
theorem aFK:∀(k:Nat) (n:T) (ts:List Tok),zT (gX k n ts).1+(gX k n ts).2.length<=zT n+ts.length
 | 0,n,ts=>β _
 | k+1,n,ts=>by
  unfold gX;split
  ·rename_i hs
   have h1:=(bB (ts:=ts) hs (by decide)).1;have:=aFK k (unT [37] n) ts.tail;have h4:zT (unT [37] n)=zT n+1:=by unfold unT;rw [pG];simp [uV]
   omega
  ·exact β _
theorem aC8 {part:Part} (hp:Few part):∀(k:Nat) (acc:List T) (ts:List Tok) (m:List T) (r:List Tok),dX part k acc ts=some (m,r)->uV m+r.length<=uV acc+ts.length
 | 0,acc,ts,m,r,h=>by cases h
 | k+1,acc,ts,m,r,h=>by
  unfold dX at h;split at h
  ·rename_i hs
   have h1:=(bB (ts:=ts) hs (by decide)).1;cases h;omega
  ·split at h
   ·rename_i hs
    have h1:=(bB (ts:=ts) hs (by decide)).1;cases hq:part ts.tail with
    | none=>rw [hq] at h;cases h
    | some p=>
     rw [hq] at h;have h2:=hp _ p.1 p.2 hq;have h3:=aC8 hp k _ _ _ _ h;have h4:uV (acc++ [p.1])=uV acc+zT p.1:=by simp [uV]
     omega
   ·cases h
section
variable (up:List UInt8->List UInt8) (tr:List UInt8->Option Int)
theorem aJB {part:Part} (hp:Few part) {s:List UInt8} {ts:List Tok} {m:T} {r:List Tok} (h:qA up part s ts=some (m,r)):zT m+r.length<=ts.length+1:=by
 unfold qA at h;split at h
 ·rename_i hs
  have h1:=(bB (ts:=ts) hs (by decide)).1;cases h
  rw [pG];simp [uV];omega
 ·cases hq:part ts with
  | none=>rw [hq] at h;cases h
  | some p=>
   rw [hq] at h;have h2:=hp _ p.1 p.2 hq;simp only [θ] at h;cases ha:dX part (ts.length+1) [p.1] p.2 with
   | none=>rw [ha] at h;cases h
   | some q=>
    rw [ha] at h;simp only [θ] at h;have h3:=aC8 hp _ _ _ q.1 q.2 ha;have h4:uV [p.1]=zT p.1:=by simp [uV]
    split at h
    ·cases h
     rw [pG];omega
    ·cases h
theorem nE (a:Lab):zT (tree a [])=1:=by rw [pG];rfl
theorem aLS {part:Part} (hp:Few part):Few (jB up tr part):=by
 intro ts m r h;cases ts with
 | nil=>cases h
 | cons t q=>
  simp only [χ];cases t using Tk.Tok.cs with
  | num n=>cases h;rw [nE];omega
  | str s=>cases h;rw [nE];omega
  | bad n=>cases h;rw [nE];omega
  | ref x=>
   simp only [jB] at h;split at h
   ·rename_i hs
    have h1:=(bB (ts:=q) hs (by decide)).1;split at h
    ·rename_i y q' he
     rw [he] at h1;simp only [χ] at h1;split at h
     ·cases h;rw [nE];omega
     ·cases h
    ·cases h
   ·cases h;rw [nE];omega
  | word b s=>
   simp only [jB] at h;split at h
   ·rename_i hs
    have h1:=(bB (ts:=q) hs.2 (by decide)).1;have:=aJB up hp h;omega
   ·split at h
    ·cases h;rw [nE];omega
    ·cases h;rw [nE];omega
  | op s=>
   simp only [jB] at h;split at h
   ·cases hq:part q with
    | none=>rw [hq] at h;cases h
    | some p=>
     rw [hq] at h;have h2:=hp _ p.1 p.2 hq;simp only [θ] at h;split at h
     ·cases h
      have:p.2.tail.length<=p.2.length:=by rw [List.length_tail];omega
      omega
     ·cases h
   ·cases h
theorem nG:∀(f lv:Nat),1<=lv->Few (psN up tr f lv)
 | 0,lv,_=>fun ts n r h=>by cases h
 | f+1,lv,hlv=>fun ts n r h=>by
  unfold psN at h;split at h
  ·cases hq:psN up tr f (lv+1) ts with
   | none=>rw [hq] at h;cases h
   | some p=>
    rw [hq] at h;have h2:=nG f (lv+1) (by omega) _ p.1 p.2 hq;have h3:=aC7 (nG f (lv+1) (by omega)) (by omega) _ _ _ _ _ h;omega
  ·split at h
   ·split at h
    ·rename_i hs
     have h1:=(bB (ts:=ts) hs (by decide)).1;cases hq:psN up tr f 6 ts.tail with
     | none=>rw [hq] at h;cases h
     | some p=>
      rw [hq] at h;have h2:=nG f 6 (by omega) _ p.1 p.2 hq;cases h
      have h4:zT (unT [45] p.1)=zT p.1+1:=by unfold unT;rw [pG];simp [uV]
      omega
    ·exact nG f 7 (by omega) _ n r h
   ·split at h
    ·cases hq:psN up tr f 8 ts with
     | none=>rw [hq] at h;cases h
     | some p=>
      rw [hq] at h;have h2:=nG f 8 (by omega) _ p.1 p.2 hq;have h3:=aFK ts.length p.1 p.2;simp only [ψ,Δ] at h;rw [h] at h3;exact z0 h3 h2
    ·exact aLS up tr (nG f 1 (β _)) _ n r h
theorem aJC {lv:Nat} (hlv:1<=lv):Few (ps up tr lv):=fun ts n r h=>nG up tr _ lv hlv ts n r h
end
end Go.Fm
namespace Go.Proofs.YtfedoljlipfhdaaGreatDoor
open Go.RowKit Go.Fm
def qX (ts:List Tk.Tok):Option T:=match PP 1 ts with
 | some (t,[])=>if dT t<=24 then some t else none
 | _=>none
def WO (W:N) (b:Nat) (w:N) (o:Option T) (e:z1) (w':N):Prop:=
 match o with
 | none=>e=.panicked dK/\w.grownBy w' (some b)
 | some t=>∃es,e=.returned (.agg es)/\NK (fun i=>w.heap.size<=i) w' es t/\w.grownBy w' (some b)/\zT t<=256
theorem jL {P:Program} {ops:Array Oper} {rest:List Oper} {o:Oper} {a:Act} {w:N} {Q:Exit->Act->N->Prop} (ty:TypeId) (x:Operand) (ho:o.op=.load ty x)
  (p v:ε) (hx:a.eval x=p) (hrun:(υ ty p).run P w=.ok v w) (hw:Region.wanted o (yielded ops a.tmps)=η) (h:wpList P ops Q rest (a.put o.dst v) w):wpList P ops Q (o:: rest) a w:=by
 refine wpList_step fun K hK=> ?_;rw [if_pos hw];unfold Oper.wp execOp;simp only [ho,hx,Sem.run_bind,Sem.run_pure,hrun,Result.andThen_ok];exact hK _ _ h
section
variable {W w:N} {b:Nat}
theorem aEq (C:J Z 152 #[pt b] (w0 w) fun e w'=>e=.panicked dK/\(w0 w).grownBy w' (some b)):
  J Z 107 #[pt b] w fun e w'=>e=.panicked dK/\w.grownBy w' (some b):=by
 go_enter Tryz.func107,Tryz.ntmps107;go_wp2_with (go_at_call 152;refine C.mono ?_;rintro e w1 ⟨rfl,hg⟩)
 exact⟨rfl,rfl,aG (E _ _ _) hg⟩
theorem qY {t:T} {r:List Tk.Tok} (hb:b < w.heap.size) (C:J Z 152 #[pt b] (w0 w) (PO W b (w0 w) (some (t,r)))):
  J Z 152 #[pt b] (w0 w) fun e w1=>∃es a c,e=.returned (.agg es)/\D ((γ 67 (pt w1.heap.size) (.agg es)).run Z (w1.alloc (.cells nd0 67))=.ok () (w1.alloc (.cells es 67)))/\
   (w1.alloc (.cells es 67)).cell? ⟨b,0,none⟩=some (.slice a r.length c)/\D (NK (fun i=>w.heap.size < i) (w1.alloc (.cells es 67)) es t)/\D (Sp W b r (w0 w) (w1.alloc (.cells es 67)))/\D ((w1.alloc (.cells es 67)).heap[w1.heap.size]? =some (.cells es 67)):=C.mono (by
 rintro e w1 ⟨es,rfl,h1,h2⟩;have hS:Sp W b r (w0 w) (w1.alloc (.cells es 67)):=h2.alloc _;obtain⟨v,hv,hts⟩:=hS.1.blk;obtain⟨a,c,rfl⟩:=hts.slice;rw [ω] at hv;refine ⟨es,a,c,rfl,(aCS w1 h1.nt).1,by rw [ζ _ b 0 _ 138 (0,0) hv];rfl, ?_,hS,δ _ _⟩;exact(h1.mono (K':=fun i=>w.heap.size < i) (fun i hi _=>by simp at hi;omega)).below (aC (κ _ _) (.cells es 67)))
theorem aEr {t:T} {r:List Tk.Tok} (hb:b < w.heap.size) (hr:0 < r.length) (C:J Z 152 #[pt b] (w0 w) (PO W b (w0 w) (some (t,r)))):
  J Z 107 #[pt b] w fun e w'=>e=.panicked dK/\w.grownBy w' (some b):=by
 have C':=qY hb C;have hri:decide ((0:Int) < (r.length:Int))=η:=by simp;omega
 have aP9:(0:Int) < (r.length:Int):=by omega
 clear C;generalize r.length=n at *;go_enter Tryz.func107,Tryz.ntmps107;go_wp2_with (first|(go_at_call 152;refine C'.mono ?_;rintro e w1 ⟨es,a,c,rfl,RS0,c0,HN,HS,H3⟩)|(refine aA rfl 67 _ _ rfl _ _ _ rfl rfl RS0.out ?_))
 exact⟨rfl,rfl,aG (E _ _ _) HS.out.2⟩
theorem aEs {t:T} (hb:b < w.heap.size) (hz:zT t<=1000000) (hd:¬dT t<=24) (C:J Z 152 #[pt b] (w0 w) (PO W b (w0 w) (some (t,[])))):
  J Z 107 #[pt b] w fun e w'=>e=.panicked dK/\w.grownBy w' (some b):=by
 have C':=qY hb C;have hdi:(24:Int) < ((dT t:Nat):Int):=by omega
 have DP:=fun u es h=>aAB t hz u es h;clear C hd;generalize dT t=d at *;go_enter Tryz.func107,Tryz.ntmps107;go_wp2_with (first|(go_at_call 152;refine C'.mono ?_;rintro e w1 ⟨es,a,c,rfl,RS0,c0,HN,HS,H3⟩;have RL:=HN.out.lod H3.out)|(refine aA rfl 67 _ _ rfl _ _ _ rfl rfl RS0.out ?_;clear RS0)|(refine jL 67 _ rfl _ _ rfl RL.out (by go_simp) ?_)|(go_at_call 44;refine (DP _ _ HN.out.nt).mono ?_;rintro e w3 ⟨rfl,hs⟩;have HS3:D (Sp W b [] (w0 w) w3):=HS.out.bel hs;clear hs))
 all_goals exact⟨rfl,rfl,aG (E _ _ _) HS3.out.2⟩
theorem aGV {t:T} (hb:b < w.heap.size) (hz:zT t<=1000000) (hd:dT t<=24) (C:J Z 152 #[pt b] (w0 w) (PO W b (w0 w) (some (t,[])))):
  J Z 107 #[pt b] w fun e w'=>∃es,e=.returned (.agg es)/\NK (fun i=>w.heap.size<=i) w' es t/\w.grownBy w' (some b):=by
 have C':=qY hb C;have hdi:¬(24:Int) < ((dT t:Nat):Int):=by omega
 have DP:=fun u es h=>aAB t hz u es h;have FIN:=fun (u:N) (es:Array ε) (hN:NK (fun i=>w.heap.size < i) u es t) (hu:Sp W b [] (w0 w) u)=>gF hb hN hu;clear C hd;generalize dT t=d at *;go_enter Tryz.func107,Tryz.ntmps107;go_wp2_with (first|(go_at_call 152;refine C'.mono ?_;rintro e w1 ⟨es,a,c,rfl,RS0,c0,HN,HS,H3⟩;have RL:=HN.out.lod H3.out)|(refine aA rfl 67 _ _ rfl _ _ _ rfl rfl RS0.out ?_;clear RS0)|(refine jL 67 _ rfl _ _ rfl RL.out (by go_simp) ?_)|(go_at_call 44;refine (DP _ _ HN.out.nt).mono ?_;rintro e w3 ⟨rfl,hs⟩;obtain⟨RS,HG,HZ,HF⟩:=FIN _ _ (HN.out.below hs) (HS.out.bel hs);have RL3:=HN.out.lod ((hs.block _ (bA H3.out)).trans H3.out);clear hs)|(refine aB rfl 67 _ rfl _ _ rfl RL3.out ?_)|(refine aA rfl 67 _ _ rfl _ _ _ rfl rfl RS.out ?_))
 exact α (aZ HG.out HZ.out rfl rfl) rfl ⟨_,rfl,HF.out.1,HF.out.2.2⟩
end
theorem aAH {W w:N} {b:Nat} {ts:List Tk.Tok} (hn:ts.length<=256) (X:PR W b ts w):J Z 107 #[pt b] w (WO W b w (qX ts)):=by
 have C:=aBt hn (X.alloc (.cells nd0 67));have hb:=X.lt;unfold qX;cases hP:PP 1 ts with
 | none=>rw [hP] at C;exact aEq C
 | some p=>
  obtain⟨t,r⟩:=p;rw [hP] at C;have hz:=aJC upF trF (by omega) _ t r hP;cases r with
  | nil=>
   simp only;by_cases hd:dT t<=24
   ·rw [if_pos hd];exact(aGV hb (by omega) hd C).mono (by rintro e w' ⟨es,rfl,h1,h2⟩;exact⟨es,rfl,h1,h2,by simp at hz;omega⟩)
   ·rw [if_neg hd];exact aEs hb (by omega) hd C
  | cons x r=>exact aEr hb (by simp) C
end Go.Proofs.YtfedoljlipfhdaaGreatDoor
namespace Go.Proofs.YtfedoljlipfhdaaGreatDoor
open Go.RowKit
theorem LX.own {W w w':N} {b:Nat} {l:List UInt8} {v:ε} {L:List TT} (h:LX W b l w) (ho:fO 156 W.heap.size w v L) (hg:w.grownBy w' v.ownBlock):LX W b l w':=
 h.grown hg fun k hk=>⟨(ρ ho k hk).1,fun e=>by
  rcases ho.ne h.blk (fun c z=>by simp) with h1 | h1
  ·rw [h1] at hk;cases hk
  ·exact h1 (by rw [hk,e])⟩
theorem fO.aOq {W u u1:N} {b:Nat} {l m:List UInt8} {v:ε} {L:List TT} (h:fO 156 W.heap.size u v L) (X:LX W b l u) (k:St W b m u u1):fO 156 W.heap.size u1 v L:=
 h.kept k.2 (h.ne X.blk (fun c z=>by simp))
def aPB (w:N) (o:Option (List Tk.Tok)) (e:z1) (w':N):Prop:=
 ν w.heap.size w w'/\match o with
  | none=>e=.returned (.tuple #[.slice none 0 0,.int .i64 10])
  | some L=>∃v,e=.returned (.tuple #[v,.int .i64 0])/\fO 156 w.heap.size w' v (L.map tk)/\L.length<=255
theorem aJD {l:List UInt8} {c:UInt8} {r:List UInt8} (h:l.dropWhile Tk.blank=c:: r):Tk.blank c=I:=uU h
theorem aLT {W w2:N} {b:Nat} {m:List UInt8} {v:ε} {L:List TT} (X:LX W b m w2) (ho:fO 156 W.heap.size w2 v L) (t:TT) (hn:L.length+1<=1000000):
  ∃v' w4,D ((Builtin.append_ #[119,119] 119 #[v,.slice (some ⟨w2.heap.size+1,0,none⟩) 1 1]).run Z ((w2.alloc (.cells (tcs t.k t.n t.s t.b t.h t.r t.c t.fr t.fc) 156)).alloc (.cells (tcs t.k t.n t.s t.b t.h t.r t.c t.fr t.fc) 156))=.ok v' w4)/\D (fO 156 W.heap.size w4 v' (L++ [t]))/\D (LX W b m w4):=by
 have X3:=(X.alloc (.cells (tcs t.k t.n t.s t.b t.h t.r t.c t.fr t.fc) 156)).alloc (.cells (tcs t.k t.n t.s t.b t.h t.r t.c t.fr t.fc) 156);have o3:fO 156 W.heap.size ((w2.alloc (.cells (tcs t.k t.n t.s t.b t.h t.r t.c t.fr t.fc) 156)).alloc (.cells (tcs t.k t.n t.s t.b t.h t.r t.c t.fr t.fc) 156)) v L:=
  (ho.below (aC (κ _ _) _)).below (aC (κ _ _) _)
 obtain⟨v',w4,R,o4,g4,_⟩:=aCZ (t:=t) (g:=w2.heap.size+1) (e':=156) (z:=(0,0)) Tryz.underlying119 aNp o3 (by
  have:=δ (w2.alloc (.cells (tcs t.k t.n t.s t.b t.h t.r t.c t.fr t.fc) 156)) (.cells (tcs t.k t.n t.s t.b t.h t.r t.c t.fr t.fc) 156);rw [show (w2.alloc (.cells (tcs t.k t.n t.s t.b t.h t.r t.c t.fr t.fc) 156)).heap.size=w2.heap.size+1 by simp] at this;exact this) hn X3.bel.size
 exact⟨v',w4,R,o4,X3.own o3 g4⟩
theorem aJE (l:List UInt8) (w:N) (hl:255 < l.length):CW 105 #[.string (ba l)] w (.tuple #[.slice none 0 0,.int .i64 3]):=by
 have hs:(ba l).size=l.length:=size_mk l;have h1:(255:Int) < l.length:=by omega
 generalize ba l=A at *;generalize l.length=n at *;go_enter Tryz.func105,Tryz.ntmps105;go_wp2;go_ret2;exact⟨rfl,rfl⟩
theorem uW (l:List UInt8) (w:N) (T:dS w) (hl:l.length<=255):J Z 105 #[.string (ba l)] w (aPB w (gY l)):=by
 have hs:(ba l).size=l.length:=size_mk l;have h1:¬(255:Int) < l.length:=by omega
 have X0:D (LX w w.heap.size l (w.alloc (aN6 l))):=⟨T,aC (κ _ _) _,β _,δ w _⟩
 generalize ho:gY l=o;have HO:D (gY l=o):=ho;clear ho T;go_enter Tryz.func105,Tryz.ntmps105;go_wp2;clear hs h1;go_loopw [4] (fun v wr=>∃(L:List Tk.Tok) (m:List UInt8),L.length+m.length<=255/\D (o=(gY m).map (L++ ·))/\D (LX w w.heap.size m wr)/\D (fO 156 w.heap.size wr v (L.map tk))) (fun _ wr=>aFD w.heap.size wr)
 case atStart=>exact⟨[],l,by simpa using hl,by show _=_;rw [<-HO.out];cases gY l <;> simp,X0,fO.nil _ _ _⟩
 case round=>
  obtain⟨L,m,hlen,HQ,HX,HW⟩:=hrel;clear HO X0;have hm:m.length<=255:=by omega
  have hlm:=sW HX.out;have MO:=fun u (Y:LX w w.heap.size m u)=>aIN Y hm;have hdl:=Tk.lD Tk.blank m;cases hD:m.dropWhile Tk.blank with
  | nil=>
   rw [hD] at MO;have HN:D (o=some L):=by show _=_;rw [HQ.out,<-yI,hD];show some (L++ [])=_;rw [List.append_nil]
   have MO':∀u,LX w w.heap.size m u->J Z 150 #[pt w.heap.size] u fun e w'=>e=.returned (.bool I)/\St w w.heap.size [] u w':=MO;clear MO HQ;go_wp2_with (go_at_call 150;refine (MO' _ HX.out).mono ?_;rintro e w2 ⟨rfl,hs⟩;have H2:D (St w w.heap.size [] wr w2):=hs;clear hs)
   go_ret2;rw [HN.out];exact⟨H2.out.1.bel,_,rfl,HW.out.aOq HX.out H2.out,by omega⟩
  | cons c r=>
   rw [hD] at MO hdl;have MO':∀u,LX w w.heap.size m u->J Z 150 #[pt w.heap.size] u fun e w'=>e=.returned (.bool η)/\St w w.heap.size (c:: r) u w':=MO;have hb:=aJD hD;have NX:=fun u (Y:LX w w.heap.size (c:: r) u)=>aJk Y (by omega);have hlx:=aC0 (r:=r) hb;rw [<-hD,yI] at hlx;rw [hD] at hlx;cases h1:Tk.one gnF trB pnF (c:: r) with
   | none=>
    rw [h1] at NX hlx;have HN:D (o=none):=by show _=_;rw [HQ.out,hlx];rfl
    have NX':∀u,LX w w.heap.size (c:: r) u->J Z 151 #[pt w.heap.size] u fun e w'=>∃(t:TT) (q:List UInt8),e=.returned (.tuple #[.agg (tcs t.k t.n t.s t.b t.h t.r t.c t.fr t.fc),.bool I])/\St w w.heap.size q u w':=fun u Y=>(NX u Y).mono (by
     rintro e w' ⟨⟨t,rfl⟩,q,h⟩;exact⟨t,q,rfl,h⟩)
    clear MO NX HQ hlx;go_wp2_with (first|(go_at_call 150;refine (MO' _ HX.out).mono ?_;rintro e w2 ⟨rfl,hs⟩;have H2:D (St w w.heap.size (c:: r) wr w2):=hs;clear hs)|(go_at_call 151;refine (NX' _ H2.out.1).mono ?_;rintro e w3 ⟨t,q,rfl,hs⟩;have H3:D (St w w.heap.size q wr w3):=H2.out.step hs;clear hs))
    go_ret2;rw [HN.out];exact⟨((H3.out.alloc _).1).bel,rfl⟩
   | some p=>
    obtain⟨t,q⟩:=p;have hql:=pE h1;rw [h1] at NX hlx;have HN:D (o=(gY q).map ((L++ [t])++ ·)):=by show _=_;rw [HQ.out,hlx];simp only;cases gY q <;> simp
    have NX':∀u,LX w w.heap.size (c:: r) u->J Z 151 #[pt w.heap.size] u fun e w'=>e=.returned (.tuple #[.agg (tcs (tk t).k (tk t).n (tk t).s (tk t).b (tk t).h (tk t).r (tk t).c (tk t).fr (tk t).fc),.bool η])/\St w w.heap.size q u w':=fun u Y=>(NX u Y).mono (by
     rintro e w' ⟨rfl,h⟩;exact⟨rfl,h⟩)
    have HL:D ((L++ [t]).length+q.length<=255):=by show _<=_;simp at hql hdl ⊢;omega
    have HM:D (q.length < m.length):=by show _ < _;simp at hql hdl ⊢;omega
    have HT:D (∀x,x=tk t->(L++ [t]).map tk=L.map tk++ [x]):=fun x e=>by rw [e];simp
    clear MO NX HQ hlx h1 hql;generalize htt:tk t=tt at *;have HT2:D ((L++ [t]).map tk=L.map tk++ [tt]):=HT.out tt rfl;clear HT htt;go_wp2_with (first|(go_at_call 150;refine (MO' _ HX.out).mono ?_;rintro e w2 ⟨rfl,hs⟩;have H2:D (St w w.heap.size (c:: r) wr w2):=hs;clear hs)|(go_at_call 151;refine (NX' _ H2.out.1).mono ?_;rintro e w3 ⟨rfl,hs⟩;have H3:D (St w w.heap.size q wr w3):=H2.out.step hs;clear hs;obtain⟨v',w4,RR,HO4,HX4⟩:=aLT H3.out.1 (HW.out.aOq HX.out H3.out) tt (by have:=HL.out;simp at this ⊢;omega))|(at_builtin;refine wpList_append_run rfl _ _ 119 rfl _ _ _ _ rfl rfl RR.out ?_))
    go_roundw
    case rel=>exact⟨L++ [t],q,HL.out,HN,HX4,by show fO _ _ _ _ _;rw [HT2.out];exact HO4.out⟩
    case measure=>rw [sW HX4.out,hlm];exact HM.out
end Go.Proofs.YtfedoljlipfhdaaGreatDoor
namespace Go.Proofs.YtfedoljlipfhdaaGreatDoor
open Go.RowKit Go.Fm
def qC:T:=tree (bN 0 nb) []
def uX (l:List UInt8):T × Int:=
 if 255 < l.length then (qC,3) else match gY l with
  | none=>(qC,10)
  | some ts=>match qX ts with
   | none=>(qC,10)
   | some t=>(t,0)
theorem aLU (W:N):(binOp .eql 20 (.iface 33 (.int .i64 10)) (.iface 33 (.int .i64 10))).run Z W=.ok (.bool η) W:=by kernel_rfl
theorem eq_nil (W:N):(binOp .eql 20 .nilIface .nilIface).run Z W=.ok (.bool η) W:=by kernel_rfl
theorem aOr (W:N):(binOp .eql 20 (.iface 33 (.int .i64 10)) .nilIface).run Z W=.ok (.bool I) W:=by kernel_rfl
theorem aEt (p q:Addr) (w:N):CallsD Z 106 #[.pointer (some p),.pointer (some q)] .returning w fun e u' w'=>e=.returned (.tuple #[])/\u'=.returning/\w'=w:=by
 have e1:=eq_nil;refine callsD_of_wpS Tryz.func106 rfl fun c₀ cs hu=> ?_;apply wpS_seq;apply wpS_region;simp [wpOpsS,go_sem,recoverD,hu,Tryz.ntmps106,Exit.thenS,Array.replicate,Φ];refine wpS_of_wp ?_;go_wp2;cases c₀
 simp_all [bodyPostS,results,Tryz.results106]
theorem aEu {g2 g3:Nat} {zs:Array ε} {x:ε} (w:N) (h2:w.heap[g2]? =some (.cells zs 67)) (hz:zs.size=18) (h3:w.heap[g3]? =some (.cells #[x] 33)) (hne:g3 ≠ g2):
  CallsD Z 106 #[pt g2,pt g3] (.panicking dK) w fun e u' w'=>e=.returned (.tuple #[])/\u'=.panicking [{ v:=.iface 33 (.int .i64 10),recovered:=η }]/\w'=(w.setRow g2 nd0).setCell ⟨g3,0,none⟩ (.int .i64 10):=by
 have e1:=aLU;have e2:=aOr;have RS:D ((γ 67 (pt g2) (.agg nd0)).run Z w=.ok () (w.setRow g2 nd0)):=sto h2 iO hz (nC (bN 0 nb) none 0 0);have H3:(w.setRow g2 nd0).heap[g3]? =some (.cells #[x] 33):=((aK w g2 nd0).block _ (bA h3) (by intro e;exact hne (O e))).trans h3;have c3:(w.setRow g2 nd0).cell? ⟨g3,0,none⟩=some x:=by rw [ζ _ g3 0 _ 33 (0,0) H3];rfl
 have f3:(w.setRow g2 nd0).frozen? ⟨g3,0,none⟩=I:=by unfold σ;rw [H3];rfl
 unfold dK;refine callsD_of_wpS Tryz.func106 rfl fun c₀ cs hu=> ?_;apply wpS_seq;apply wpS_region;simp [wpOpsS,go_sem,recoverD,hu,Tryz.ntmps106,Exit.thenS,Array.replicate,Φ];refine wpS_of_wp ?_;go_wp2_with (refine aA rfl 67 _ _ rfl _ _ _ rfl rfl RS.out ?_)
 cases c₀
 simp_all [bodyPostS,results,Tryz.results106]
theorem qZ {fn:Func} {p u:Tmp} (h:fn.results=#[.cell p 67,.cell u 33]) {tmps:Array ε} {w:N} {g2 g3:Nat} {es:Array ε} {x:ε}
  (hp:tmps.getD p undef=pt g2) (hu:tmps.getD u undef=pt g3) (h2:w.heap[g2]? =some (.cells es 67)) (he:es.size=18) (h3:w.heap[g3]? =some (.cells #[x] 33)):
  (results fn tmps).run Z w=.ok (.tuple #[.agg es,x]) w:=by
 have hp':tmps[p]?.getD undef=pt g2:=by simpa using hp
 have hu':tmps[u]?.getD undef=pt g3:=by simpa using hu
 have c3:w.cell? ⟨g3,0,none⟩=some x:=by rw [ζ _ g3 0 _ 33 (0,0) h3];rfl
 have r2:=run_loadVar_row (P:=Z) w g2 67 67 es (0,0) _ h2 Tryz.underlying67 rfl (by rw [he];exact iO);have r3:(loadVar 33 ⟨g3,0,none⟩).run Z w=.ok x w:=by have h29:=Tryz.underlying33;simp [go_sem,c3]
 simp [results,h,hp',hu',asAddr,r2,r3]
def PA (w:N) (p:T × Int) (e:z1) (w':N):Prop:=∃es,e=.returned (.tuple #[.agg es,.int .i64 p.2])/\NT w' es p.1/\zT p.1<=256/\ν w.heap.size w w'
abbrev wpa (w:N):N:=(w.alloc (.cells nd0 67)).alloc (.cells #[.int .i64 0] 33)
theorem tH {w u:N} (h:ν (wpa w).heap.size (wpa w) u):u.heap[w.heap.size]? =some (.cells nd0 67)/\u.heap[w.heap.size+1]? =some (.cells #[.int .i64 0] 33)/\ν w.heap.size w u:=by have:=new2 h;exact⟨this.1,this.2,rP h⟩
theorem pI (w:N):NT w nd0 qC:=⟨none,0,0,rfl,rfl,.inl rfl⟩
theorem tJ {w:N} {g:Nat} {x y:ε} (h:w.heap[g]? =some (.cells #[x] 33)):(w.setCell ⟨g,0,none⟩ y).heap[g]? =some (.cells #[y] 33):=by simp [Ψ,Array.getElem?_modify,h]
theorem aAI {A:ByteArray} {c:Int} (hc:(c==0)=I) (w:N) (L:CR 105 #[.string A] (wpa w) (.tuple #[.slice none 0 0,.int .i64 c])):
  J Z 74 #[.string A] w (PA w (qC,c)):=by
 have hcn:(c !=0)=η:=by simpa using hc
 have L':J Z 105 #[.string A] (wpa w) fun e w1=>e=.returned (.tuple #[.slice none 0 0,.int .i64 c])/\w1.cell? ⟨w.heap.size+1,0,none⟩=some (.int .i64 0)/\w1.frozen? ⟨w.heap.size+1,0,none⟩=I/\D (w1.heap[w.heap.size]? =some (.cells nd0 67)/\w1.heap[w.heap.size+1]? =some (.cells #[.int .i64 0] 33)/\ν w.heap.size w w1):=L.mono (by
  rintro e w1 ⟨rfl,h⟩;have k:=tH h;exact⟨rfl,by rw [ζ _ _ 0 _ 33 (0,0) k.2.1];rfl,by unfold σ;rw [k.2.1];rfl,k⟩)
 clear L;go_enter Tryz.func74,Tryz.ntmps74;go_wp2_with (go_at_call 105;refine L'.mono ?_;rintro e w1 ⟨rfl,c1,f1,HK⟩)
 obtain⟨w2,hw2⟩:∃w2,w1.setCell ⟨w.heap.size+1,0,none⟩ (.int .i64 c)=w2:=⟨_,rfl⟩
 rw [hw2];have k2:w2.heap[w.heap.size]? =some (.cells nd0 67):=by rw [<-hw2];exact((ξ w1 (w.heap.size+1) 0 (.int .i64 c)).block _ (bA HK.out.1) (by intro e;have:=O e;omega)).trans HK.out.1
 have k3:w2.heap[w.heap.size+1]? =some (.cells #[.int .i64 c] 33):=by rw [<-hw2];exact tJ HK.out.2.1
 have kb:ν w.heap.size w w2:=by rw [<-hw2];exact HK.out.2.2.setCell (by simp) _
 have ld:∀u:N,u.heap[w.heap.size+1]? =some (.cells #[.int .i64 c] 33)->(υ 33 (.pointer (some ⟨w.heap.size+1,0,none⟩))).run Z u=.ok (.int .i64 c) u:=fun u hu=>by
  have c3:u.cell? ⟨w.heap.size+1,0,none⟩=some (.int .i64 c):=by rw [ζ _ _ 0 _ 33 (0,0) hu];rfl
  have h29:=Tryz.underlying33;simp [go_sem,c3]
 have LD:D _:=ld;have RB:∀u:N,(Instr.build 67 #[]).run Z u=.ok (.agg nd0) u:=fun u=>by kernel_rfl
 have RS:D ((γ 67 (pt w.heap.size) (.agg nd0)).run Z w2.drew=.ok () (w2.drew.setRow w.heap.size nd0)):=sto (w:=w2.drew) k2 iO rfl (nC (bN 0 nb) none 0 0);obtain⟨w3,hw3⟩:∃w3,w2.drew.setRow w.heap.size nd0=w3:=⟨_,rfl⟩
 rw [hw3] at RS;have j2:w3.heap[w.heap.size]? =some (.cells nd0 67):=by rw [<-hw3];exact Γ w2.drew _ _ _ _ _ k2
 have j3:w3.heap[w.heap.size+1]? =some (.cells #[.int .i64 c] 33):=by rw [<-hw3];exact((aK w2.drew w.heap.size nd0).block _ (bA (u:=w2.drew) k3) (by intro e;have:=O e;omega)).trans k3
 have jb:ν w.heap.size w w3:=by rw [<-hw3];exact kb.drew.grown (aK _ _ _) kb.size (fun k e=>by cases e;exact β _)
 have RS3:D ((γ 33 (.pointer (some ⟨w.heap.size+1,0,none⟩)) (.int .i64 c)).run Z w3=.ok () (w3.setCell ⟨w.heap.size+1,0,none⟩ (.int .i64 c))):=by
  have c3:w3.cell? ⟨w.heap.size+1,0,none⟩=some (.int .i64 c):=by rw [ζ _ _ 0 _ 33 (0,0) j3];rfl
  have f3:w3.frozen? ⟨w.heap.size+1,0,none⟩=I:=by unfold σ;rw [j3];rfl
  have h29:=Tryz.underlying33;show _=_;simp [go_sem,c3,f3]
 have HE:D ((w3.setCell ⟨w.heap.size+1,0,none⟩ (.int .i64 c)).heap[w.heap.size]? =some (.cells nd0 67)/\(w3.setCell ⟨w.heap.size+1,0,none⟩ (.int .i64 c)).heap[w.heap.size+1]? =some (.cells #[.int .i64 c] 33)/\ν w.heap.size w (w3.setCell ⟨w.heap.size+1,0,none⟩ (.int .i64 c))):=
  ⟨((ξ w3 (w.heap.size+1) 0 (.int .i64 c)).block _ (bA j2) (by intro e;have:=O e;omega)).trans j2,tJ j3,jb.setCell (by simp) _⟩
 have J3:D _:=LD.out w3 j3;have K3:D _:=LD.out w2.drew k3;clear ld c1 f1 k2 k3 kb j2 j3 jb hw2 hw3;refine aO (fun u=>(υ 33 (.pointer (some ⟨w.heap.size+1,0,none⟩))).run Z u=.ok (.int .i64 c) u) (fun j=>j==3) (by kernel_rfl) ?_;refine dwp 0 (.agg nd0) ?_ (hy:=(by intro u;kernel_rfl));refine dwl 1 (.int .i64 c) ?_ (hS:=K3.out) (hy:=(fun u hSu=>lU rfl rfl hSu));refine aH (i:=2) (by kernel_rfl) rfl ?_;intro K hK;rw [if_pos (by go_simp)];refine kK none rfl 67 _ _ rfl _ _ rfl rfl RS.out (hK _ _ (.inr fun _=>J3.out) ?_);clear hK;try simp only [Act.put,ι,ο,π]
 refine aH (i:=3) (by kernel_rfl) rfl ?_;intro K hK;rw [if_pos (by go_simp)];refine kK none rfl 33 _ _ rfl _ _ rfl rfl RS3.out (hK _ _ (.inl rfl) ?_);clear hK;try simp only [Act.put,ι,ο,π]
 refine aM (by kernel_rfl) ?_ _;go_wp2;refine α (qZ rfl rfl rfl HE.out.1 rfl HE.out.2.1) rfl ⟨nd0,rfl,pI _,by show zT qC<=256;decide,HE.out.2.2⟩
theorem aBu:∀(k:Nat) (l:List UInt8) (L:List Tk.Tok),Tk.nR gnF trB pnF k l=some L->L.length<=l.length
 | 0,l,L,h=>by cases h
 | k+1,[],L,h=>by cases h;exact β _
 | k+1,c:: r,L,h=>by
  unfold Tk.nR at h;split at h
  ·have:=aBu k r L h;simp;omega
  ·cases ho:Tk.one gnF trB pnF (c:: r) with
   | none=>rw [ho] at h;cases h
   | some p=>
    rw [ho] at h;simp only at h;have hl:=pE (t:=p.1) (m:=p.2) ho;cases hk:Tk.nR gnF trB pnF k p.2 with
    | none=>rw [hk] at h;cases h
    | some M=>
     rw [hk] at h;cases h
     have:=aBu k p.2 M hk;simp only [χ] at *;omega
theorem aJF {l:List UInt8} {L:List Tk.Tok} (h:gY l=some L) (hl:l.length<=255):L.length<=255:=z0 (aBu _ _ _ h) hl
theorem aAJ {w:N} (T:dS w) {l:List UInt8} {ts:List Tk.Tok} (hl:l.length<=255) (hx:gY l=some ts) {w1:N} {v:ε} (hB:ν (wpa w).heap.size (wpa w) w1) (ho:fO 156 (wpa w).heap.size w1 v (ts.map tk)):
  ∃w2,w1.setCell ⟨w.heap.size+1,0,none⟩ (.int .i64 0)=w2/\PR w2 w2.heap.size ts (w2.alloc (aJo v))/\ν w.heap.size w w2/\w2.heap[w.heap.size]? =some (.cells nd0 67)/\w2.heap[w.heap.size+1]? =some (.cells #[.int .i64 0] 33)/\w.heap.size+2<=w2.heap.size:=by
 obtain⟨k1,k2,k3⟩:=tH hB;have hz:w.heap.size+2<=w1.heap.size:=by have:=hB.size;simp at this;omega
 have G:=ξ w1 (w.heap.size+1) 0 (.int .i64 0);have hb2:ν w.heap.size w (w1.setCell ⟨w.heap.size+1,0,none⟩ (.int .i64 0)):=k3.setCell (by simp) _;have ho2:fO 156 (wpa w).heap.size (w1.setCell ⟨w.heap.size+1,0,none⟩ (.int .i64 0)) v (ts.map tk):=ho.kept G (by
  cases hv:v.ownBlock with
  | none=>exact .inl rfl
  | some g=>
   right;intro e;have:=(ρ ho g hv).1;have:=O e;simp at *;omega)
 have hz2:w1.heap.size=(w1.setCell ⟨w.heap.size+1,0,none⟩ (.int .i64 0)).heap.size:=by simp [Ψ]
 refine ⟨_,rfl,⟨T.below hb2,aC (κ _ _) _,β _,fun t ht=>⟨aJl hx t ht,aJn hl hx t ht⟩,v,δ _ _,TS.of ho2⟩,hb2, ?_,tJ k2,by omega⟩;exact(G.block _ (bA k1) (by intro e;have:=O e;omega)).trans k1
theorem aGW {l:List UInt8} {ts:List Tk.Tok} (hl:l.length<=255) (hx:gY l=some ts) (hts:ts.length<=255) (ha:qX ts=none) (w:N) (T:dS w):J Z 74 #[.string (ba l)] w (PA w (qC,10)):=by
 have hmf:∀(fn:Fn) (first cap:Array ε) (w:N),(Instr.makeFunc fn first cap).run Z w=.ok (.func fn first cap) w:=fun _ _ _ _=>rfl;have L:=uW l (wpa w) (T.below (aC (aC (κ _ _) _) _)) hl;rw [hx] at L;have L':J Z 105 #[.string (ba l)] (wpa w) fun e w1=>∃a c n w2,e=.returned (.tuple #[.slice a n c,.int .i64 0])/\w1.cell? ⟨w.heap.size+1,0,none⟩=some (.int .i64 0)/\w1.frozen? ⟨w.heap.size+1,0,none⟩=I/\w1.setCell ⟨w.heap.size+1,0,none⟩ (.int .i64 0)=w2/\w2.cell? ⟨w.heap.size+1,0,none⟩=some (.int .i64 0)/\
   (J Z 107 #[pt w2.heap.size] (w2.alloc (aJo (.slice a n c))) fun e w4=>e=.panicked dK/\D (w4.heap[w.heap.size]? =some (.cells nd0 67)/\w4.heap[w.heap.size+1]? =some (.cells #[.int .i64 0] 33)/\ν w.heap.size w w4)):=L.mono (by
  rintro e w1 ⟨hB,v,rfl,ho,_⟩;obtain⟨w2,e2,X,b2,k2,k3,hz⟩:=aAJ T hl hx hB ho;obtain⟨q1,q2,q3⟩:=tH hB;obtain⟨a,c,rfl⟩:=ho.slice;refine ⟨a,c,_,w2,rfl,by rw [ζ _ _ 0 _ 33 (0,0) q2];rfl,by unfold σ;rw [q2];rfl,e2,by rw [ζ _ _ 0 _ 33 (0,0) k3];rfl, ?_⟩;have C:=aAH (by omega) X;rw [ha] at C;refine C.mono ?_;rintro e w4 ⟨rfl,hg⟩;refine ⟨rfl,(hg.block _ (by simp;omega) (by intro e;have:=O e;omega)).trans ((μ _ _ _ (by omega)).trans k2),(hg.block _ (by simp;omega) (by intro e;have:=O e;omega)).trans ((μ _ _ _ (by omega)).trans k3), ?_⟩;exact(aC b2 _).grown hg (by simp;omega) (fun k e=>by cases e;omega))
 clear L T hx ha;go_enter_defers Tryz.func74,Tryz.ntmps74
 go_wp2_with (first|(go_at_call 105;refine L'.mono ?_;rintro e w1 ⟨a,c,n,w2,rfl,c1,f1,e2,c2,C⟩)|(go_at_call 107;refine C.mono ?_;rintro e w4 ⟨rfl,HK⟩))
 refine leaves_cons (f:=106) (args:=#[pt w.heap.size,.pointer (some ⟨w.heap.size+1,0,none⟩)]) (by simp) (by simp [go_sem]) ?_;refine (aEu _ HK.out.1 rfl HK.out.2.1 (by omega)).mono ?_;rintro e u' w'' ⟨rfl,rfl,rfl⟩;have G:=aK w4 w.heap.size nd0;have h3:(w4.setRow w.heap.size nd0).heap[w.heap.size+1]? =some (.cells #[.int .i64 0] 33):=(G.block _ (bA HK.out.2.1) (by intro e;have:=O e;omega)).trans HK.out.2.1;have h2:(w4.setRow w.heap.size nd0).heap[w.heap.size]? =some (.cells nd0 67):=Γ _ _ _ _ _ _ HK.out.1;have h2':=((ξ (w4.setRow w.heap.size nd0) (w.heap.size+1) 0 (.int .i64 10)).block _ (bA h2) (by intro e;have:=O e;omega)).trans h2;have hb:ν w.heap.size w (w4.setRow w.heap.size nd0):=HK.out.2.2.grown G HK.out.2.2.size (fun k e=>by cases e;exact β _);exact⟨_,qZ rfl rfl rfl h2' rfl (tJ h3),nd0,rfl,pI _,by show zT qC<=256;decide,hb.setCell (by simp) _⟩
theorem aEv {l:List UInt8} {ts:List Tk.Tok} {t:T} (hl:l.length<=255) (hx:gY l=some ts) (hts:ts.length<=255) (ha:qX ts=some t) (w:N) (T:dS w):J Z 74 #[.string (ba l)] w (PA w (t,0)):=by
 have hmf:∀(fn:Fn) (first cap:Array ε) (w:N),(Instr.makeFunc fn first cap).run Z w=.ok (.func fn first cap) w:=fun _ _ _ _=>rfl;have L:=uW l (wpa w) (T.below (aC (aC (κ _ _) _) _)) hl;rw [hx] at L;have L':J Z 105 #[.string (ba l)] (wpa w) fun e w1=>∃a c n w2,e=.returned (.tuple #[.slice a n c,.int .i64 0])/\w1.cell? ⟨w.heap.size+1,0,none⟩=some (.int .i64 0)/\w1.frozen? ⟨w.heap.size+1,0,none⟩=I/\w1.setCell ⟨w.heap.size+1,0,none⟩ (.int .i64 0)=w2/\w2.cell? ⟨w.heap.size+1,0,none⟩=some (.int .i64 0)/\
   (J Z 107 #[pt w2.heap.size] (w2.alloc (aJo (.slice a n c))) fun e w4=>∃es,e=.returned (.agg es)/\D ((γ 67 (pt w.heap.size) (.agg es)).run Z w4=.ok () (w4.setRow w.heap.size es))/\(w4.setRow w.heap.size es).cell? ⟨w.heap.size+1,0,none⟩=some (.int .i64 0)/\(w4.setRow w.heap.size es).frozen? ⟨w.heap.size+1,0,none⟩=I/\
    D (((w4.setRow w.heap.size es).setCell ⟨w.heap.size+1,0,none⟩ (.int .i64 0)).heap[w.heap.size]? =some (.cells es 67)/\((w4.setRow w.heap.size es).setCell ⟨w.heap.size+1,0,none⟩ (.int .i64 0)).heap[w.heap.size+1]? =some (.cells #[.int .i64 0] 33)/\ν w.heap.size w ((w4.setRow w.heap.size es).setCell ⟨w.heap.size+1,0,none⟩ (.int .i64 0))/\
     NT ((w4.setRow w.heap.size es).setCell ⟨w.heap.size+1,0,none⟩ (.int .i64 0)) es t/\zT t<=256/\es.size=18)):=L.mono (by
  rintro e w1 ⟨hB,v,rfl,ho,_⟩;obtain⟨w2,e2,X,b2,k2,k3,hz⟩:=aAJ T hl hx hB ho;obtain⟨q1,q2,q3⟩:=tH hB;obtain⟨a,c,rfl⟩:=ho.slice;refine ⟨a,c,_,w2,rfl,by rw [ζ _ _ 0 _ 33 (0,0) q2];rfl,by unfold σ;rw [q2];rfl,e2,by rw [ζ _ _ 0 _ 33 (0,0) k3];rfl, ?_⟩;have C:=aAH (by omega) X;rw [ha] at C;refine C.mono ?_;rintro e w4 ⟨es,rfl,hN,hg,hzt⟩;have m2:w4.heap[w.heap.size]? =some (.cells nd0 67):=(hg.block _ (by simp;omega) (by intro e;have:=O e;omega)).trans ((μ _ _ _ (by omega)).trans k2);have m3:w4.heap[w.heap.size+1]? =some (.cells #[.int .i64 0] 33):=(hg.block _ (by simp;omega) (by intro e;have:=O e;omega)).trans ((μ _ _ _ (by omega)).trans k3);have mb:ν w.heap.size w w4:=(aC b2 _).grown hg (by simp;omega) (fun k e=>by cases e;omega);have G:=aK w4 w.heap.size es;have h3:(w4.setRow w.heap.size es).heap[w.heap.size+1]? =some (.cells #[.int .i64 0] 33):=(G.block _ (bA m3) (by intro e;have:=O e;omega)).trans m3;have h2:(w4.setRow w.heap.size es).heap[w.heap.size]? =some (.cells es 67):=Γ _ _ _ _ _ _ m2;have G2:=ξ (w4.setRow w.heap.size es) (w.heap.size+1) 0 (.int .i64 0);have h2':=(G2.block _ (bA h2) (by intro e;have:=O e;omega)).trans h2;have hb:ν w.heap.size w (w4.setRow w.heap.size es):=mb.grown G mb.size (fun k e=>by cases e;exact β _);have hn1:NK (fun i=>w.heap.size+2<=i) w4 es t:=hN.mono (fun i hi _=>by simp at hi;omega);refine ⟨es,rfl,hN.sto m2 rfl,by rw [ζ _ _ 0 _ 33 (0,0) h3];rfl,by unfold σ;rw [h3];rfl,h2',tJ h3,hb.setCell (by simp) _, ?_,hzt,hN.size⟩;exact((hn1.grown G (fun g e hk=>by cases e;omega)).grown G2 (fun g e hk=>by cases e;omega)).nt)
 clear L T hx ha;go_enter_defers Tryz.func74,Tryz.ntmps74
 go_wp2_with (first|(go_at_call 105;refine L'.mono ?_;rintro e w1 ⟨a,c,n,w2,rfl,c1,f1,e2,c2,C⟩)|(go_at_call 107;refine C.mono ?_;rintro e w4 ⟨es,rfl,RS,c4,f4,HK⟩)|(refine aA rfl 67 _ _ rfl _ _ _ rfl rfl RS.out ?_))
 refine leaves_cons (f:=106) (args:=#[pt w.heap.size,.pointer (some ⟨w.heap.size+1,0,none⟩)]) (by simp) (by simp [go_sem]) ?_;refine (aEt _ _ _).mono ?_;rintro e u' w'' ⟨rfl,rfl,rfl⟩;exact⟨_,qZ rfl rfl rfl HK.out.1 HK.out.2.2.2.2.2 HK.out.2.1,es,rfl,HK.out.2.2.2.1,HK.out.2.2.2.2.1,HK.out.2.2.1⟩
theorem aEw (l:List UInt8) (w:N) (T:dS w):J Z 74 #[.string (ba l)] w (PA w (uX l)):=by
 have TW:dS (wpa w):=T.below (aC (aC (κ _ _) _) _);unfold uX;by_cases h:255 < l.length
 ·rw [if_pos h];exact aAI (by decide) w ((aJE l (wpa w) h).mono (by rintro e w1 ⟨rfl,rfl⟩;exact⟨rfl,κ _ _⟩))
 ·rw [if_neg h];have L:=uW l (wpa w) TW (by omega);cases hx:gY l with
  | none=>
   rw [hx] at L;exact aAI (by decide) w (L.mono (by rintro e w1 ⟨h1,rfl⟩;exact⟨rfl,h1⟩))
  | some ts=>
   have hts:ts.length<=255:=aJF hx (by omega);cases ha:qX ts with
   | none=>simp only [ha];exact aGW (by omega) hx hts ha w T
   | some t=>simp only [ha];exact aEv (by omega) hx hts ha w T
end Go.Proofs.YtfedoljlipfhdaaGreatDoor
