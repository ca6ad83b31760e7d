/- FArgs, FCell, FWord, FWord2, VGood, FOne, FAll, FPure2, FWhole, TLex. -/
import Derived.Test.YtlhoklhjbpkgpaaGreatDoorFNegPu
set_option linter.unusedVariables false
set_option linter.unusedSimpArgs false
set_option maxHeartbeats 16000000
set_option maxRecDepth 100000
namespace Go.Proofs.YtlhoklhjbpkgpaaGreatDoor
open Go.RowKit Go.Fm
def AA (ts:List Tk.Tok):Option (List T × List Tk.Tok):=
 if aV ts=[41] then some ([],ts.tail) else (PP 1 ts).bind fun p=>(dR (PP 1) (p.2.length+1) [p.1] p.2).bind fun q=>if q.1.length<=16 then some q else none
theorem aFq (s:List UInt8) (ts:List Tk.Tok):qG upF (PP 1) s ts=(AA ts).map fun q=>(tree (bG 7 (bs (upF s))) q.1,q.2):=by
 unfold qG AA;by_cases h:aV ts=[41]
 ·rw [if_pos h,if_pos h];rfl
 ·rw [if_neg h,if_neg h];cases hP:PP 1 ts with
  | none=>rfl
  | some p=>
   have hl:=jB upF trF (by omega) _ p.1 p.2 hP;simp only [Option.bind_some];have hf:dR (PP 1) (ts.length+1) [p.1] p.2=dR (PP 1) (p.2.length+1) [p.1] p.2:=uW (jB upF trF (lv:=1) (Nat.le_refl _)) (ts.length+1) [p.1] p.2 (p.2.length+1) (by omega) (by omega);rw [hf];cases dR (PP 1) (p.2.length+1) [p.1] p.2 with
   | none=>rfl
   | some q=>
    simp only [Option.bind_some];split <;> rfl
def AO (W:World) (b:Nat) (w:World) (o:Option (List T × List Tk.Tok)) (e:Ending) (w':World):Prop:=
 match o with
 | none=>e=.panicked dA/\w.grownBy w' (some b)
 | some p=>∃q n c,e=.returned (.slice q n c)/\n=p.1.length/\(p.1=[]\/∃a,q=some a/\InK (fun i=>w.heap.size<=i) w' a (mk p.1))/\Sp W b p.2 w w'
def oI (base:Nat) (w:World) (v:Value) (L:List (Array Value × T)):Prop:=w.ownsRow base 67 18 v L.length (L.flatMap (·.1.toList))
theorem nJ {base:Nat} {w:World} {v:Value} {L:List (Array Value × T)} (h:oI base w v L):∃a c,v=.slice a L.length c:=by
 rcases h.2 with ⟨rfl,h0⟩ | ⟨g,cap,cur,rfl,_⟩
 ·exact ⟨none,0,by rw [h0]⟩
 ·exact ⟨_,_,rfl⟩
theorem aI6 {K:Nat->Prop} {base:Nat} {w u:World} {es:Array Value} {t:T} (h:NK K u es t) (hb:base<=w.heap.size):oI base (w.alloc (.cells es 67)) (.slice (some ⟨w.heap.size,0,none⟩) 1 1) [(es,t)]:=by have hz:=h.size;refine ⟨by simp [hz],.inr ⟨w.heap.size,1,es,rfl,hb,heap_alloc_new _ _,Nat.le_refl _,by simp [maxLen],by rw [hz], ?_⟩⟩;simp [List.take_of_length_le,hz]
theorem jK {base:Nat} {w w':World} {v:Value} {L:List (Array Value × T)} {row:Option Nat} (h:oI base w v L) (hg:w.grownBy w' row) (hne:v.ownBlock=none\/v.ownBlock ≠ row):oI base w' v L:=World.ownsRow.kept h hg hne
theorem aI7 {K K':Nat->Prop} {base:Nat} {w u:World} {v:Value} {L:List (Array Value × T)} (h:oI base w v L) {es:Array Value} {t:T} (hN:NK K u es t) {g:Nat} (hg:w.heap[g]? =some (.cells es 67)) (hn:L.length<=100000) (hbase:base<=w.heap.size):
  ∃v' w',Hid ((Builtin.append_ #[65,65] 65 #[v,.slice (some ⟨g,0,none⟩) 1 1]).run Tryz.prog w=.ok v' w')/\oI base w' v' (L++ [(es,t)])/\w.grownBy w' v.ownBlock/\(v'.ownBlock=v.ownBlock\/v'.ownBlock=some w.heap.size):=by
 obtain⟨i0,hi,hz0,hz1,hz2⟩:=info_parts aIN;have hz:=hN.size;have hadd:∀k,(⟨g,0,none⟩:Addr).add k=⟨g,k,none⟩:=fun k=>by unfold Addr.add;split <;> simp_all
 obtain⟨v',w',r1,o1,g1,_,g2⟩:=run_append_own_at w base 65 65 67 i0 _ 18 192 Tryz.underlying65 hi hz0 hz1 hz2 rfl (by decide) v _ _ h ⟨g,0,none⟩ 1 1 es.toList (by simp [hz])
  (fun j x hj=>by rw [hadd,cell_of_row w g j _ _ _ hg,<-hj];simp) (by
   have:=hN.one;intro x hx;rw [Array.all_eq_true_iff_forall_mem] at this;exact this x (by simpa using hx)) (by simp only [maxLen];omega) (by omega) hbase
 refine ⟨v',w',r1, ?_,g1,g2⟩;unfold oI;rw [List.length_append,List.flatMap_append];simpa using o1
theorem aCR {K:Nat->Prop} {base:Nat} {w:World} {a:Option Addr} {n c:Nat} {L:List (Array Value × T)} (h:oI base w (.slice a n c) L) (hL:∀x ∈ L,NK K w x.1 x.2) (hK:∀g,(Value.slice a n c).ownBlock=some g->K g):L=[]\/∃a',a=some a'/\InK K w a' (mk (L.map (·.2))):=by
 have hc:=fun g (hg:(Value.slice a n c).ownBlock=some g)=>World.ownsRow.cells h hg;rcases h.2 with ⟨e,h0⟩ | ⟨g,cap,cur,e,_⟩
 ·exact .inl (List.eq_nil_of_length_eq_zero h0)
 ·cases e
  refine .inr ⟨_,rfl,InK.row (hK g rfl) L 0 hL (fun j v hj=> ?_)⟩;have hadd:(⟨g,0,none⟩:Addr).add j=⟨g,j,none⟩:=by unfold Addr.add;split <;> simp_all
  have:=hc g rfl j v hj;rw [hadd] at this;rw [Nat.zero_add];exact this
theorem wT {base b:Nat} {w:World} {v:Value} {L:List (Array Value × T)} (h:oI base w v L) (hb:b < base):v.ownBlock=none\/v.ownBlock ≠ some b:=by
 cases hv:v.ownBlock with
 | none=>exact .inl rfl
 | some g=>exact .inr (fun e=>by have:=(World.ownsRow.lt h g hv).1;have:=Option.some.inj e;omega)
theorem yX {p:Part} {k:Nat} {acc:List T} {r:List Tk.Tok} (h:aV r=[41]):dR p (k+1) acc r=some (acc,r.tail):=by unfold dR;rw [if_pos h]
theorem aCS {p:Part} {k:Nat} {acc:List T} {r:List Tk.Tok} (h:aV r ≠ [41]) (h':aV r ≠ [44]):dR p (k+1) acc r=none:=by unfold dR;rw [if_neg h,if_neg h']
theorem yY {acc:List T} {r:List Tk.Tok} (h:aV r ≠ [41]) (h':aV r=[44]):dR (PP 1) (r.length+1) acc r=(PP 1 r.tail).bind fun p=>dR (PP 1) (p.2.length+1) (acc++ [p.1]) p.2:=by
 have h2:=(bA (ts:=r) h' (by decide)).1
 conv=>lhs;unfold dR
 rw [if_neg h,if_pos h'];cases hq:PP 1 r.tail with
 | none=>rfl
 | some p=>
  simp only [Option.bind_some];have h3:=jB upF trF (by omega) _ p.1 p.2 hq;exact uW (jB upF trF (by omega)) _ _ _ _ (by omega) (by omega)
theorem aI8 {W:World} {b:Nat} {ts:List Tk.Tok} (hn:ts.length<=256) (h:aV ts=[41]) {w:World} (X:PR W b ts w):Calls Tryz.prog 327 #[pt b] w fun e w'=>e=.returned (.slice none 0 0)/\Sp W b ts.tail w w':=by
 have SK:Calls Tryz.prog 311 #[pt b,.string ⟨#[41]⟩] w fun e w'=>e=.returned (.bool true)/\Sp W b ts.tail w w':=fK X (by omega) [41] (by decide) h;clear X h;go_enter Tryz.func327,Tryz.ntmps327;go_wp2_with (go_at_call 311;refine SK.mono ?_;rintro e w1 ⟨rfl,hs⟩;have HS:Hid (Sp W b ts.tail w w1):=hs;clear hs)
 go_ret;exact⟨rfl,HS.out⟩
theorem aGt {W:World} {b:Nat} {ts:List Tk.Tok} (hn:ts.length<=256) (h:aV ts ≠ [41]) {w:World} (X:PR W b ts w) (C:Calls Tryz.prog 152 #[pt b] w fun e w'=>e=.panicked dA/\w.grownBy w' (some b)):Calls Tryz.prog 327 #[pt b] w fun e w'=>e=.panicked dA/\w.grownBy w' (some b):=by
 have SK:CW 311 #[pt b,.string ⟨#[41]⟩] w (.bool false):=iU X (by omega) [41] h;clear X h;go_enter Tryz.func327,Tryz.ntmps327;go_wp2_with (first|(go_at_call 311;refine SK.mono ?_;rintro e w1 ⟨rfl,hs⟩;obtain rfl:=hs.symm;clear hs)|(go_at_call 152;refine C.mono ?_;rintro e w2 ⟨rfl,hg⟩))
 exact⟨rfl,rfl,hg⟩
theorem aGu {W:World} {b:Nat} {ts:List Tk.Tok} (hn:ts.length<=256) (h:aV ts ≠ [41]) {w:World} (X:PR W b ts w) {n0:T} {r0:List Tk.Tok} (hr0:r0.length < ts.length)
  (C0:Calls Tryz.prog 152 #[pt b] w fun e w'=>∃es,e=.returned (.agg es)/\NK (fun i=>w.heap.size<=i) w' es n0/\Sp W b r0 w w')
  (C:∀ts' u,ts'.length<=r0.length->PR W b ts' u->Calls Tryz.prog 152 #[pt b] u (PO W b u (PP 1 ts'))):
  Calls Tryz.prog 327 #[pt b] w (AO W b w ((dR (PP 1) (r0.length+1) [n0] r0).bind fun q=>if q.1.length<=16 then some q else none)):=by
 have SK:CW 311 #[pt b,.string ⟨#[41]⟩] w (.bool false):=iU X (by omega) [41] h;have hb:=X.lt;have C0':Calls Tryz.prog 152 #[pt b] w fun e w1=>∃es,e=.returned (.agg es)/\Hid ((Instr.buildSlice 65 1 #[(0,.agg es)]).run Tryz.prog w1=.ok (.slice (some ⟨w1.heap.size,0,none⟩) 1 1) (w1.alloc (.cells es 67)))/\
   Hid (oI w.heap.size (w1.alloc (.cells es 67)) (.slice (some ⟨w1.heap.size,0,none⟩) 1 1) [(es,n0)])/\Hid (NK (fun i=>w.heap.size<=i/\i ≠ w1.heap.size) (w1.alloc (.cells es 67)) es n0)/\Hid (Sp W b r0 w (w1.alloc (.cells es 67))):=C0.mono (by
  rintro e w1 ⟨es,rfl,h1,h2⟩;refine ⟨es,rfl, ?_,aI6 h1 h2.2.size, ?_,h2.alloc _⟩
  ·obtain ⟨p,n,c,e,_⟩:=h1;show _=_;rw [e];exact pJ _ _ _ _ _
  ·exact NK.below (K:=fun i=>w.heap.size<=i/\i ≠ w1.heap.size) (h1.mono (fun i hi hl=>⟨hi,by omega⟩)) (aD (Below.refl _ _) (.cells es 67)))
 clear C0 X h;generalize ho:dR (PP 1) (r0.length+1) [n0] r0=o;have HO:Hid (dR (PP 1) (r0.length+1) [n0] r0=o):=ho;have HC:Hid (∀ts' u,ts'.length<=r0.length->PR W b ts' u->Calls Tryz.prog 152 #[pt b] u (PO W b u (PP 1 ts'))):=C;clear ho C;go_enter Tryz.func327,Tryz.ntmps327;go_wp2_with (first|(go_at_call 311;refine SK.mono ?_;rintro e w1 ⟨rfl,hs⟩;obtain rfl:=hs.symm;clear hs)|(go_at_call 152;refine C0'.mono ?_;rintro e w1 ⟨es0,rfl,RB0,HO0,HN0,HS0⟩)|(refine dL rfl 65 1 _ rfl _ _ _ (by go_simp) RB0.out ?_))
 clear C0' SK;try simp only [Act.put,List.setIfInBounds_toArray,List.set_cons_zero,List.set_cons_succ]
 obtain⟨g1,hg1⟩:∃g1,w1.heap.size=g1:=⟨_,rfl⟩
 rw [hg1] at HO0 HN0;simp only [hg1];clear hg1 RB0;go_loopw [3] (fun v wr=>∃(L:List (Array Value × T)) (r:List Tk.Tok),Hid (dR (PP 1) (r.length+1) (L.map (·.2)) r=o)/\L.length+r.length<=256/\r.length<=r0.length/\Hid (oI w.heap.size wr v L)/\Hid (∀x ∈ L,NK (fun i=>w.heap.size<=i/\v.ownBlock ≠ some i) wr x.1 x.2)/\Hid (Sp W b r w wr)) (fun _ wr=>nS b wr)
 case atStart=>exact⟨[(es0,n0)],r0,HO,by simp;omega,Nat.le_refl _,HO0,by
  show ∀x ∈ _,_;intro x hx;simp only [List.mem_cons,List.not_mem_nil,or_false] at hx;subst hx;exact HN0.out.mono (fun i hi _=>⟨hi.1,by simp only [Value.ownBlock];intro e;exact hi.2 (Option.some.inj e).symm⟩),HS0⟩
 case round=>
  obtain⟨L,r,HL,hlen,hr,HW,HN,HS⟩:=hrel;clear HO HO0 HN0 HS0;have hleft:=HS.out.1.left;obtain⟨a,c,hv⟩:=nJ HW.out;subst hv;by_cases h41:aV r=[41]
  ·have SK:Calls Tryz.prog 311 #[pt b,.string ⟨#[41]⟩] wr fun e w'=>e=.returned (.bool true)/\Sp W b r.tail wr w':=fK HS.out.1 (by omega) [41] (by decide) h41;have HQ:Hid (o=some (L.map (·.2),r.tail)):=by show _=_;rw [<-HL.out];exact yX h41
   have SK2:Calls Tryz.prog 311 #[pt b,.string ⟨#[41]⟩] wr fun e w'=>e=.returned (.bool true)/\Hid (Sp W b r.tail w w')/\Hid (L=[]\/∃a',a=some a'/\InK (fun i=>w.heap.size<=i) w' a' (mk (L.map (·.2)))):=SK.mono (by
    rintro e w' ⟨rfl,h⟩;have hob:=wT HW.out hb;refine ⟨rfl,HS.out.step h,aCR (jK HW.out h.2 hob) (fun x hx=>(((HN.out x hx).grown h.2 (fun g e hk=>by cases e;have:=hk.1;omega)).mono (fun i hi _=>hi.1))) (fun g hg=> ?_)⟩;exact(World.ownsRow.lt HW.out g hg).1)
   clear SK HL hleft HN HW;generalize hrr:r.tail=r' at *;clear hrr;by_cases h16:L.length<=16
   ·have aNi:¬(16:Int) < (L.length:Int):=by omega
    go_wp2_with (go_at_call 311;refine SK2.mono ?_;rintro e w2 ⟨rfl,HS2,HI⟩)
    go_ret;rw [HQ.out];simp only [Option.bind_some,List.length_map,if_pos h16];exact⟨a,L.length,c,rfl,by simp,HI.out.imp (fun e=>by rw [e];rfl) id,HS2.out⟩
   ·have aNi:(16:Int) < (L.length:Int):=by omega
    go_wp2_with (go_at_call 311;refine SK2.mono ?_;rintro e w2 ⟨rfl,HS2,HI⟩)
    refine ⟨rfl, ?_⟩;rw [HQ.out];simp only [Option.bind_some,List.length_map,if_neg h16];exact⟨rfl,HS2.out.2⟩
  ·have SK:CW 311 #[pt b,.string ⟨#[41]⟩] wr (.bool false):=iU HS.out.1 (by omega) [41] h41;by_cases h44:aV r=[44]
   ·have MU:Calls Tryz.prog 322 #[pt b,.string ⟨#[44]⟩] wr fun e w'=>e=.returned (.tuple #[])/\Sp W b r.tail wr w':=aCP HS.out.1 (by omega) [44] (by decide) h44;have hrt:=(bA (ts:=r) h44 (by decide)).1;have HQ:Hid (o=(PP 1 r.tail).bind fun p=>dR (PP 1) (p.2.length+1) (L.map (·.2)++ [p.1]) p.2):=by show _=_;rw [<-HL.out];exact yY h41 h44
    have C1:=fun u hu=>HC.out r.tail u (by omega) hu;clear HL h41 h44;generalize hrr:r.tail=r' at *;clear hrr;cases hP:PP 1 r' with
    | none=>
     rw [hP] at C1 HQ;have HQ2:Hid (o=none):=HQ.out;have C1':∀u,PR W b r' u->Calls Tryz.prog 152 #[pt b] u fun e w'=>e=.panicked dA/\u.grownBy w' (some b):=C1;clear C1 HQ hP HC;go_wp2_with (first|(go_at_call 311;refine SK.mono ?_;rintro e w1 ⟨rfl,hs⟩;obtain rfl:=hs.symm;clear hs)|(go_at_call 322;refine MU.mono ?_;rintro e w2 ⟨rfl,hs⟩;have HS2:Hid (Sp W b r' wr w2):=hs;clear hs)|(go_at_call 152;refine (C1' _ HS2.out.1).mono ?_;rintro e w3 ⟨rfl,hg⟩))
     refine ⟨rfl, ?_⟩;rw [HQ2.out];exact⟨rfl,aI HS.out.2 (aI HS2.out.2 hg)⟩
    | some p=>
     obtain⟨m,r2⟩:=p;have hr2:=jB upF trF (by omega) _ m r2 hP;rw [hP] at C1 HQ;have HQ2:Hid (dR (PP 1) (r2.length+1) ((L.map (·.2))++ [m]) r2=o):=HQ.out.symm;have C1':∀u,Sp W b r' wr u->Calls Tryz.prog 152 #[pt b] u fun e w3=>∃es2 v' w5,e=.returned (.agg es2)/\
       Hid ((Instr.buildSlice 65 1 #[(0,.agg es2)]).run Tryz.prog w3=.ok (.slice (some ⟨w3.heap.size,0,none⟩) 1 1) (w3.alloc (.cells es2 67)))/\
       Hid ((Builtin.append_ #[65,65] 65 #[.slice a L.length c,.slice (some ⟨w3.heap.size,0,none⟩) 1 1]).run Tryz.prog (w3.alloc (.cells es2 67))=.ok v' w5)/\
       Hid (oI w.heap.size w5 v' (L++ [(es2,m)]))/\Hid (∀x ∈ L++ [(es2,m)],NK (fun i=>w.heap.size<=i/\v'.ownBlock ≠ some i) w5 x.1 x.2)/\Hid (Sp W b r2 w w5):=fun u hu=>(C1 u hu.1).mono (by
      rintro e w3 ⟨es2,rfl,h1,h2⟩;have hS3:Sp W b r2 wr w3:=hu.step h2;have hob:=wT HW.out hb;have hW3:=jK (jK HW.out hS3.2 hob) (World.grownBy_alloc w3 (.cells es2 67) none) (by cases (Value.slice a L.length c).ownBlock <;> simp);have hbs:w.heap.size<=w3.heap.size:=(HS.out.step hS3).2.size;obtain⟨v',w5,R,o5,g5,g6⟩:=aI7 (K':=fun _=>True) hW3 h1 (g:=w3.heap.size) (heap_alloc_new _ _) (by omega) (by simp;omega);have aBr:∀g,(Value.slice a L.length c).ownBlock=some g->w.heap.size<=g/\g < wr.heap.size:=fun g hg=>World.ownsRow.lt HW.out g hg;refine ⟨es2,v',w5,rfl, ?_,R,o5,fun x hx=> ?_, ?_⟩
      ·obtain ⟨p,n,c,e,_⟩:=h1;show _=_;rw [e];exact pJ _ _ _ _ _
      ·have hzu:wr.heap.size<=u.heap.size:=hu.2.size;have hzw:u.heap.size<=w3.heap.size:=h2.2.size;have base:NK (fun i=>w.heap.size<=i/\(Value.slice a L.length c).ownBlock ≠ some i/\i < w3.heap.size) (w3.alloc (.cells es2 67)) x.1 x.2:=by
        refine NK.below ?_ (aD (Below.refl _ _) _);rcases List.mem_append.1 hx with hx | hx
        ·exact ((HN.out x hx).grown hS3.2 (fun g e hk=>by cases e;have:=hk.1;omega)).mono (fun i hi hl=>⟨hi.1,hi.2,hl⟩)
        ·simp only [List.mem_cons,List.not_mem_nil,or_false] at hx;subst hx;exact h1.mono (fun i hi hl=>⟨by have:=HS.out.2.size;omega,fun e=>by have:=(aBr i e).2;omega,hl⟩)
       refine (base.grown g5 (fun g e hk=>hk.2.1 e)).mono (fun i hi _=>⟨hi.1,fun e=> ?_⟩);rcases g6 with g6 | g6
       ·exact hi.2.1 (by rw [<-g6];exact e)
       ·rw [g6] at e;have:=Option.some.inj e;have:=hi.2.2;simp at *;omega
      ·have:=(HS.out.step hS3).alloc (.cells es2 67);cases hvb:(Value.slice a L.length c).ownBlock with
       | none=>
        rw [hvb] at g5;exact⟨this.1.grown g5 (fun k e=>by cases e),World.grownBy.andThen this.2 g5 (fun j e=>by cases e)⟩
       | some g=>
        rw [hvb] at g5;exact this.grown g5 (aBr g hvb).1 hb)
     clear C1 HQ hP HC HN;have HLE:Hid ((L++ [((#[]:Array Value),m)]).length=L.length+1):=by show _=_;simp
     go_wp2_with (first|(go_at_call 311;refine SK.mono ?_;rintro e w1 ⟨rfl,hs⟩;obtain rfl:=hs.symm;clear hs)|(go_at_call 322;refine MU.mono ?_;rintro e w2 ⟨rfl,hs⟩;have HS2:Hid (Sp W b r' wr w2):=hs;clear hs)|(go_at_call 152;refine (C1' _ HS2.out).mono ?_;rintro e w3 ⟨es2,v',w5,rfl,RB,RA,HO5,HN5,HS5⟩)|(refine dL rfl 65 1 _ rfl _ _ _ (by go_simp) RB.out ?_)|(at_builtin;refine wpList_append_run rfl _ _ 65 rfl _ _ _ _ rfl rfl RA.out ?_))
     go_roundw
     case rel=>exact⟨L++ [(es2,m)],r2,by show _=_;rw [List.map_append];exact HQ2.out,by simp;omega,by omega,HO5,HN5,HS5⟩
     case measure=>rw [HS5.out.1.left,hleft];omega
   ·have MU:Calls Tryz.prog 322 #[pt b,.string ⟨#[44]⟩] wr fun e w'=>e=.panicked dA/\w'=wr:=aFo HS.out.1 (by omega) [44] h44;have HQ:Hid (o=none):=by show _=_;rw [<-HL.out];exact aCS h41 h44
    clear HL h41 h44;go_wp2_with (first|(go_at_call 311;refine SK.mono ?_;rintro e w1 ⟨rfl,hs⟩;obtain rfl:=hs.symm;clear hs)|(go_at_call 322;refine MU.mono ?_;rintro e w2 ⟨rfl,hs⟩;obtain rfl:=hs.symm;clear hs))
    refine ⟨rfl, ?_⟩;rw [HQ.out];exact⟨rfl,HS.out.2⟩
def aBs (x:Ad.Ref) (r:List Tk.Tok):Option (T × List Tk.Tok):=
 if aV r=[58] then (match r.tail with
   | .inr (.inr (.inl y)):: q=>if y.eP=[] then some (tree (aOa x y) [],q) else none
   | _=>none) else some (tree (aN9 x) [],r)
theorem aFr:(Tryz.prog.info? 64).map (·.size)=some 6:=by kernel_rfl
section
variable {W w:World} {b:Nat} {b1 h1:ByteArray} {r1 c1:Int} {fr1 fc1:Bool}
abbrev cw (w:World) (b1 h1:ByteArray) (r1 c1:Int) (fr1 fc1:Bool):World:=(w.alloc (.cells #[.string b1,.string h1,.int .i64 r1,.int .i64 c1,.bool fr1,.bool fc1] 64)).alloc (.cells nd0 67)
theorem aI9 {L:List Tk.Tok} {u:World} (hb:b < w.heap.size) (h:Sp W b L (cw w b1 h1 r1 c1 fr1 fc1) u) (a:Lab):
  Hid ((Instr.storeAt 67 (.pointer (some ⟨w.heap.size+1,0,none⟩)) (.agg (lcs a (.slice none 0 0)))).run Tryz.prog u=.ok () (u.setRow (w.heap.size+1) (lcs a (.slice none 0 0))))/\Hid (u.heap[w.heap.size+1]? =some (.cells nd0 67))/\
  Hid (Sp W b L w (u.setRow (w.heap.size+1) (lcs a (.slice none 0 0))))/\Hid ((Instr.loadAt 64 (pt w.heap.size)).run Tryz.prog u=.ok (.agg #[.string b1,.string h1,.int .i64 r1,.int .i64 c1,.bool fr1,.bool fc1]) u):=by
 have e1:(cw w b1 h1 r1 c1 fr1 fc1).heap[w.heap.size+1]? =some (.cells nd0 67):=by have:=heap_alloc_new (w.alloc (.cells #[.string b1,.string h1,.int .i64 r1,.int .i64 c1,.bool fr1,.bool fc1] 64)) (.cells nd0 67);simpa using this
 have e0:(cw w b1 h1 r1 c1 fr1 fc1).heap[w.heap.size]? =some (.cells #[.string b1,.string h1,.int .i64 r1,.int .i64 c1,.bool fr1,.bool fc1] 64):=(Below.heap_alloc _ _ _ (by simp)).trans (heap_alloc_new w _);have k1:=h.kept e1 (by omega);have k0:=h.kept e0 (by omega);exact⟨qX k1 rfl a none 0 0,k1,(h.dQ.dQ).grown (aL _ _ _) (by omega) hb,lod k0 rfl Tryz.underlying64 aFr⟩
theorem cells_one {L:List Tk.Tok} (hn:L.length<=256) (h:aV L ≠ [58]) (X:PR W b L w):Calls Tryz.prog 325 #[pt b,.agg #[.string b1,.string h1,.int .i64 r1,.int .i64 c1,.bool fr1,.bool fc1]] w fun e w'=>e=.returned (.agg (lcs ⟨2,nb,0,0,nb,b1,h1,r1,c1,fr1,fc1,nb,nb,0,0,false,false⟩ (.slice none 0 0)))/\Sp W b L w w':=by
 have hb:=X.lt;have X2:=(X.alloc (.cells #[.string b1,.string h1,.int .i64 r1,.int .i64 c1,.bool fr1,.bool fc1] 64)).alloc (.cells nd0 67);have SK:Calls Tryz.prog 311 #[pt b,.string ⟨#[58]⟩] (cw w b1 h1 r1 c1 fr1 fc1) fun e w'=>e=.returned (.bool false)/\w'=cw w b1 h1 r1 c1 fr1 fc1:=iU X2 (by omega) [58] h;obtain⟨RS,HG,HF,RL⟩:=aI9 hb (Sp.refl X2) ⟨2,nb,0,0,nb,b1,h1,r1,c1,fr1,fc1,nb,nb,0,0,false,false⟩;clear X X2 h;obtain⟨w2,hw2⟩:∃w2,cw w b1 h1 r1 c1 fr1 fc1=w2:=⟨_,rfl⟩
 rw [hw2] at SK RS HG HF RL;go_enter Tryz.func325,Tryz.ntmps325;go_wp2_with (first|(go_at_call 311;refine SK.mono ?_;rintro e w1 ⟨rfl,hs⟩;obtain rfl:=hs.symm;clear hs)|(refine aC rfl 64 _ rfl _ _ rfl RL.out ?_)|(refine aB rfl 67 _ _ rfl _ _ _ rfl rfl RS.out ?_))
 exact bodyPost_ret (aY HG.out (fB _ _) rfl rfl) rfl ⟨rfl,HF.out⟩
theorem aGv {L:List Tk.Tok} (hn:L.length<=256) (h:aV L=[58]) (hL:L.tail=[]) (X:PR W b L w):Calls Tryz.prog 325 #[pt b,.agg #[.string b1,.string h1,.int .i64 r1,.int .i64 c1,.bool fr1,.bool fc1]] w fun e w'=>e=.panicked dA/\w.grownBy w' (some b):=by
 have X2:=(X.alloc (.cells #[.string b1,.string h1,.int .i64 r1,.int .i64 c1,.bool fr1,.bool fc1] 64)).alloc (.cells nd0 67);have SK:Calls Tryz.prog 311 #[pt b,.string ⟨#[58]⟩] (cw w b1 h1 r1 c1 fr1 fc1) fun e w'=>e=.returned (.bool true)/\Sp W b L.tail (cw w b1 h1 r1 c1 fr1 fc1) w':=fK X2 (by omega) [58] (by decide) h;have HG:Hid (w.grownBy (cw w b1 h1 r1 c1 fr1 fc1) (some b)):=aI (World.grownBy_alloc _ _ _) (World.grownBy_alloc _ _ _);rw [hL] at SK;clear X X2 h;obtain⟨w2,hw2⟩:∃w2,cw w b1 h1 r1 c1 fr1 fc1=w2:=⟨_,rfl⟩
 rw [hw2] at SK HG;go_enter Tryz.func325,Tryz.ntmps325;go_wp2_with (first|(go_at_call 311;refine SK.mono ?_;rintro e w1 ⟨rfl,hs⟩;have HS:Hid (Sp W b [] w2 w1):=hs;clear hs)|(go_at_call 236;refine (take_nil HS.out.1).mono ?_;rintro e w3 ⟨rfl,hg⟩))
 exact⟨rfl,rfl,aI HG.out (aI HS.out.2 hg)⟩
theorem aGw {L q:List Tk.Tok} {t:Tk.Tok} (hn:L.length<=256) (h:aV L=[58]) (hL:L.tail=t:: q) (hk:(tk t).k=3) (hs:(tk t).h.toList=[]) (X:PR W b L w):Calls Tryz.prog 325 #[pt b,.agg #[.string b1,.string h1,.int .i64 r1,.int .i64 c1,.bool fr1,.bool fc1]] w fun e w'=>
  e=.returned (.agg (lcs ⟨3,nb,0,0,nb,b1,h1,r1,c1,fr1,fc1,(tk t).b,(tk t).h,(tk t).r,(tk t).c,(tk t).fr,(tk t).fc⟩ (.slice none 0 0)))/\Sp W b q w w':=by
 have hb:=X.lt;have hlt:=(bA (ts:=L) h (by decide)).1;have hq:q.length<=255:=by rw [hL] at hlt;simp at hlt;omega
 have X2:=(X.alloc (.cells #[.string b1,.string h1,.int .i64 r1,.int .i64 c1,.bool fr1,.bool fc1] 64)).alloc (.cells nd0 67);have SK:Calls Tryz.prog 311 #[pt b,.string ⟨#[58]⟩] (cw w b1 h1 r1 c1 fr1 fc1) fun e w'=>e=.returned (.bool true)/\Sp W b L.tail (cw w b1 h1 r1 c1 fr1 fc1) w':=fK X2 (by omega) [58] (by decide) h;rw [hL] at SK;have HG0:Hid (w.grownBy (cw w b1 h1 r1 c1 fr1 fc1) (some b)):=aI (World.grownBy_alloc _ _ _) (World.grownBy_alloc _ _ _);have TK:∀u,Sp W b (t:: q) (cw w b1 h1 r1 c1 fr1 fc1) u->Calls Tryz.prog 236 #[pt b] u fun e w'=>e=.returned (.agg (tcs (tk t).k (tk t).n (tk t).s (tk t).b (tk t).h (tk t).r (tk t).c (tk t).fr (tk t).fc))/\Hid (Sp W b q (cw w b1 h1 r1 c1 fr1 fc1) w'):=fun u hu=>(take_cons hu.1 hq).mono (by
  rintro e w' ⟨rfl,h2⟩;exact⟨rfl,hu.step h2⟩)
 have FIN:=fun u (hu:Sp W b q (cw w b1 h1 r1 c1 fr1 fc1) u)=>aI9 hb hu ⟨3,nb,0,0,nb,b1,h1,r1,c1,fr1,fc1,(tk t).b,(tk t).h,(tk t).r,(tk t).c,(tk t).fr,(tk t).fc⟩;clear X X2 h hL;generalize tk t=tt at *;obtain⟨k,n,s,bk,hh,r,c,fr,fc⟩:=tt;dsimp only at TK FIN hk hs ⊢;subst hk;have hsb:hh.toList.isEmpty=true:=by rw [hs];rfl
 obtain⟨w2,hw2⟩:∃w2,cw w b1 h1 r1 c1 fr1 fc1=w2:=⟨_,rfl⟩
 rw [hw2] at SK HG0;simp only [hw2] at TK FIN;clear hs;go_enter Tryz.func325,Tryz.ntmps325;go_wp2_with (first|(go_at_call 311;refine SK.mono ?_;rintro e w1 ⟨rfl,hs⟩;have HS:Hid (Sp W b (t:: q) w2 w1):=hs;clear hs)|(go_at_call 236;refine (TK _ HS.out).mono ?_;rintro e w3 ⟨rfl,HS3⟩;obtain⟨RS,HG,HF,RL⟩:=FIN _ (HS3.out.alloc (.cells (tcs 3 n s bk hh r c fr fc) 156)))|(refine aC rfl 64 _ rfl _ _ rfl RL.out ?_)|(refine aB rfl 67 _ _ rfl _ _ _ rfl rfl RS.out ?_))
 exact bodyPost_ret (aY HG.out (fB _ _) rfl rfl) rfl ⟨rfl,HF.out⟩
theorem aGx {L q:List Tk.Tok} {t:Tk.Tok} (hn:L.length<=256) (h:aV L=[58]) (hL:L.tail=t:: q) (hk:(tk t).k ≠ 3\/((tk t).k=3/\¬(tk t).h.toList=[])) (X:PR W b L w):Calls Tryz.prog 325 #[pt b,.agg #[.string b1,.string h1,.int .i64 r1,.int .i64 c1,.bool fr1,.bool fc1]] w fun e w'=>e=.panicked dA/\w.grownBy w' (some b):=by
 have hlt:=(bA (ts:=L) h (by decide)).1;have hq:q.length<=255:=by rw [hL] at hlt;simp at hlt;omega
 have X2:=(X.alloc (.cells #[.string b1,.string h1,.int .i64 r1,.int .i64 c1,.bool fr1,.bool fc1] 64)).alloc (.cells nd0 67);have SK:Calls Tryz.prog 311 #[pt b,.string ⟨#[58]⟩] (cw w b1 h1 r1 c1 fr1 fc1) fun e w'=>e=.returned (.bool true)/\Sp W b L.tail (cw w b1 h1 r1 c1 fr1 fc1) w':=fK X2 (by omega) [58] (by decide) h;rw [hL] at SK;have HG0:Hid (w.grownBy (cw w b1 h1 r1 c1 fr1 fc1) (some b)):=aI (World.grownBy_alloc _ _ _) (World.grownBy_alloc _ _ _);have TK:∀u,Sp W b (t:: q) (cw w b1 h1 r1 c1 fr1 fc1) u->Calls Tryz.prog 236 #[pt b] u fun e w'=>e=.returned (.agg (tcs (tk t).k (tk t).n (tk t).s (tk t).b (tk t).h (tk t).r (tk t).c (tk t).fr (tk t).fc))/\Hid (Sp W b q (cw w b1 h1 r1 c1 fr1 fc1) w'):=fun u hu=>(take_cons hu.1 hq).mono (by
  rintro e w' ⟨rfl,h2⟩;exact⟨rfl,hu.step h2⟩)
 clear X X2 h hL;generalize tk t=tt at *;obtain⟨k,n,s,bk,hh,r,c,fr,fc⟩:=tt;dsimp only at TK hk ⊢;obtain⟨w2,hw2⟩:∃w2,cw w b1 h1 r1 c1 fr1 fc1=w2:=⟨_,rfl⟩
 rw [hw2] at SK HG0;simp only [hw2] at TK;rcases hk with hk | ⟨rfl,hs⟩
 ·have hkb:(k !=3)=true:=by simpa using hk
  clear hk;go_enter Tryz.func325,Tryz.ntmps325;go_wp2_with (first|(go_at_call 311;refine SK.mono ?_;rintro e w1 ⟨rfl,hs⟩;have HS:Hid (Sp W b (t:: q) w2 w1):=hs;clear hs)|(go_at_call 236;refine (TK _ HS.out).mono ?_;rintro e w3 ⟨rfl,HS3⟩))
  exact⟨rfl,rfl,aI HG0.out (HS3.out.alloc _).2⟩
 ·have hsb:hh.toList.isEmpty=false:=by
   cases hx:hh.toList with
   | nil=>exact absurd hx hs
   | cons _ _=>rfl
  clear hs;go_enter Tryz.func325,Tryz.ntmps325;go_wp2_with (first|(go_at_call 311;refine SK.mono ?_;rintro e w1 ⟨rfl,hs⟩;have HS:Hid (Sp W b (t:: q) w2 w1):=hs;clear hs)|(go_at_call 236;refine (TK _ HS.out).mono ?_;rintro e w3 ⟨rfl,HS3⟩))
  exact⟨rfl,rfl,aI HG0.out (HS3.out.alloc _).2⟩
end
theorem aGy {W w:World} {b:Nat} (x:Ad.Ref) {L:List Tk.Tok} (hn:L.length<=256) (X:PR W b L w):Calls Tryz.prog 325 #[pt b,dB (ba x.book) (ba x.eP) x.cell.row x.cell.col x.cell.fr x.cell.fc] w (PO W b w (aBs x L)):=by
 unfold aBs;by_cases h:aV L=[58]
 ·rw [if_pos h];cases hL:L.tail with
  | nil=>exact aGv hn h hL X
  | cons t q=>
   have no:((tk t).k ≠ 3\/((tk t).k=3/\¬(tk t).h.toList=[]))->Calls Tryz.prog 325 #[pt b,dB (ba x.book) (ba x.eP) x.cell.row x.cell.col x.cell.fr x.cell.fc] w (PO W b w none):=fun hne=>aGx hn h hL hne X;cases t using Tk.Tok.cs with
   | ref y=>
    simp only;by_cases hy:y.eP=[]
    ·rw [if_pos hy];refine (aGw hn h hL rfl (by rw [ByteArray.toList_eq];exact hy) X).mono ?_;rintro e w' ⟨rfl,h⟩;exact⟨_,rfl,NK.leaf,h⟩
    ·rw [if_neg hy];exact no (.inr ⟨rfl,fun e=>hy (by rw [ByteArray.toList_eq] at e;exact e)⟩)
   | num n=>exact no (.inl (by simp [tk]))
   | str n=>exact no (.inl (by simp [tk]))
   | word n m=>exact no (.inl (by simp [tk]))
   | op n=>exact no (.inl (by simp [tk]))
   | bad n=>exact no (.inl (by simp [tk]))
 ·rw [if_neg h];refine (cells_one hn h X).mono ?_;rintro e w' ⟨rfl,h⟩;exact⟨_,rfl,NK.leaf,h⟩
def vY (b s:List UInt8) (r:List Tk.Tok):Option (T × List Tk.Tok):=
 if b=[]/\aV r=[40] then (AA r.tail).map fun q=>(tree (bG 7 (bs (upF s))) q.1,q.2) else (match trF s with
   | some n=>some (tree (fM 3 n nb) [],r)
   | none=>some (tree (aAd b s) [],r))
theorem aEc {s:List UInt8} (h:nQ s=true):(∃n,trF s=some n/\dS (ba s)=(3,n,noB))\/(trF s=none/\((dS (ba s)).1==3)=false):=by
 have hp:=sJ (l:=s) h;have h0:¬(ba s).toList=[]:=by rw [ByteArray.toList_eq];intro e;have e':s=[]:=e;rw [e'] at h;cases h
 have h1:¬(ba s).data.toList.head? =some 39:=by
  show ¬s.head? =some 39;intro e;cases hl:s with
  | nil=>rw [hl] at h;cases h
  | cons c r=>
   rw [hl] at h e;simp only [List.head?_cons,Option.some.injEq] at e;exact(uO h).1 e
 have hpp:¬(bS (ba s).data.toList).2=true:=by show ¬(bS s).2=true;rw [hp];decide
 unfold trF dS;simp only [if_neg h0,if_neg h1,if_neg hpp];cases ht:(jR (ba s)).2
 ·right;simp only [Bool.false_eq_true,if_false,true_and];split <;> rfl
 ·left;simp only [if_true];exact⟨_,rfl,rfl⟩
section
variable {W w:World} {b:Nat} {B S:ByteArray}
abbrev ww (w:World) (B S:ByteArray):World:=(w.alloc (.cells (tcs 4 0 S B noB 0 0 false false) 156)).alloc (.cells nd0 67)
theorem yZ {K:Nat->Prop} {L:List Tk.Tok} {u:World} {es:Array Value} {t:T} (hb:b < w.heap.size) (h:Sp W b L (ww w B S) u) (hN:NK (fun i=>w.heap.size+1 < i) u es t):
  Hid ((Instr.storeAt 67 (.pointer (some ⟨w.heap.size+1,0,none⟩)) (.agg es)).run Tryz.prog u=.ok () (u.setRow (w.heap.size+1) es))/\Hid (u.heap[w.heap.size+1]? =some (.cells nd0 67))/\Hid (es.size=18)/\
  Hid (NK (fun i=>w.heap.size<=i) (u.setRow (w.heap.size+1) es) es t/\Sp W b L w (u.setRow (w.heap.size+1) es)):=by
 have e1:(ww w B S).heap[w.heap.size+1]? =some (.cells nd0 67):=by have:=heap_alloc_new (w.alloc (.cells (tcs 4 0 S B noB 0 0 false false) 156)) (.cells nd0 67);simpa using this
 have k1:=h.kept e1 (by omega);exact⟨hN.sto k1 rfl,k1,hN.size,(hN.grown (aL _ _ _) (fun g e hk=>by cases e;exact Nat.lt_irrefl _ hk)).mono (fun i hi _=>by omega),(h.dQ.dQ).grown (aL _ _ _) (by omega) hb⟩
theorem gX {L:List Tk.Tok} {u:World} (hb:b < w.heap.size) (h:Sp W b L (ww w B S) u):u.cell? ⟨w.heap.size,2,none⟩=some (.string S)/\u.cell? ⟨w.heap.size,3,none⟩=some (.string B):=by have e0:(ww w B S).heap[w.heap.size]? =some (.cells (tcs 4 0 S B noB 0 0 false false) 156):=(Below.heap_alloc _ _ _ (by simp)).trans (heap_alloc_new w _);have k0:=h.kept e0 (by omega);exact⟨by rw [cell_of_row u _ 2 _ 156 (0,0) k0];rfl,by rw [cell_of_row u _ 3 _ 156 (0,0) k0];rfl⟩
theorem aGz {s:List UInt8} {L:List Tk.Tok} (hn:L.length<=256) (h:aV L=[40]) (hs:s.length<=1000) (X:PR W b L w)
  (CA:∀u,PR W b L.tail u->Calls Tryz.prog 327 #[pt b] u (AO W b u (AA L.tail))):
  Calls Tryz.prog 326 #[pt b,.agg (tcs 4 0 (ba s) noB noB 0 0 false false)] w (PO W b w ((AA L.tail).map fun q=>(tree (bG 7 (bs (upF s))) q.1,q.2))):=by
 have hb:=X.lt;have X2:=(X.alloc (.cells (tcs 4 0 (ba s) noB noB 0 0 false false) 156)).alloc (.cells nd0 67);have SK:Calls Tryz.prog 311 #[pt b,.string ⟨#[40]⟩] (ww w noB (ba s)) fun e w'=>e=.returned (.bool true)/\Sp W b L.tail (ww w noB (ba s)) w':=fK X2 (by omega) [40] (by decide) h;have SK2:Calls Tryz.prog 311 #[pt b,.string ⟨#[40]⟩] (ww w noB (ba s)) fun e w'=>e=.returned (.bool true)/\w'.cell? ⟨w.heap.size,2,none⟩=some (.string (ba s))/\Hid (Sp W b L.tail (ww w noB (ba s)) w'):=SK.mono (by
  rintro e w' ⟨rfl,h⟩;exact⟨rfl,(gX hb h).1,h⟩)
 obtain⟨_,c3⟩:=gX hb (Sp.refl X2);have UP:=fun u=>aDF (ba s) (by rw [size_mk];omega) u;have eU:(⟨(szF 97 65 (ba s).data.toList).toArray⟩:ByteArray)=ba (upF s):=rfl;rw [eU] at UP;clear SK eU h X X2;cases hA:AA L.tail with
 | none=>
  rw [hA] at CA;have CA':∀u,PR W b L.tail u->Calls Tryz.prog 327 #[pt b] u fun e w'=>e=.panicked dA/\u.grownBy w' (some b):=CA;have HG:Hid (w.grownBy (ww w noB (ba s)) (some b)):=aI (World.grownBy_alloc _ _ _) (World.grownBy_alloc _ _ _);clear CA hA;generalize L.tail=L' at *;obtain⟨w2,hw2⟩:∃w2,ww w noB (ba s)=w2:=⟨_,rfl⟩
  rw [hw2] at SK2 HG c3;generalize ba (upF s)=U at *;generalize ba s=SS at *;go_enter Tryz.func326,Tryz.ntmps326;go_wp2_with (first|(go_at_call 311;refine SK2.mono ?_;rintro e w3 ⟨rfl,c2,HS⟩)|(go_at_call 214;refine (UP _).mono ?_;rintro e w4 ⟨rfl,hs⟩;have HS4:Hid (Sp W b L' w2 w4):=HS.out.bel hs;clear hs)|(go_at_call 327;refine (CA' _ HS4.out.1).mono ?_;rintro e w5 ⟨rfl,hg⟩))
  exact⟨rfl,rfl,aI HG.out (aI HS4.out.2 hg)⟩
 | some p=>
  obtain⟨l,r⟩:=p;rw [hA] at CA;have CA':∀u,Sp W b L.tail (ww w noB (ba s)) u->Calls Tryz.prog 327 #[pt b] u fun e w'=>∃q n c,e=.returned (.slice q n c)/\
    Hid ((Instr.storeAt 67 (.pointer (some ⟨w.heap.size+1,0,none⟩)) (.agg (lcs (bG 7 (ba (upF s))) (.slice q n c)))).run Tryz.prog w'=.ok () (w'.setRow (w.heap.size+1) (lcs (bG 7 (ba (upF s))) (.slice q n c))))/\Hid (w'.heap[w.heap.size+1]? =some (.cells nd0 67))/\
    Hid (NK (fun i=>w.heap.size<=i) (w'.setRow (w.heap.size+1) (lcs (bG 7 (ba (upF s))) (.slice q n c))) (lcs (bG 7 (ba (upF s))) (.slice q n c)) (tree (bG 7 (ba (upF s))) l)/\Sp W b r w (w'.setRow (w.heap.size+1) (lcs (bG 7 (ba (upF s))) (.slice q n c)))):=fun u hu=>(CA u hu.1).mono (by
   rintro e w' ⟨q,n,c,rfl,h1,h2,h3⟩;dsimp only at h1 h2 h3;have hN:NK (fun i=>w.heap.size+1 < i) w' (lcs (bG 7 (ba (upF s))) (.slice q n c)) (tree (bG 7 (ba (upF s))) l):=by
    refine ⟨q,n,c,rfl,by show n=(kids (mk l)).length;rw [sZ];exact h1, ?_⟩;rcases h2 with rfl | ⟨a,rfl,hi⟩
    ·exact .inl rfl
    ·exact .inr ⟨a,rfl,hi.mono (fun i hi _=>by have:=hu.2.size;simp at this;omega)⟩
   obtain⟨k1,k2,k3,k4⟩:=yZ (K:=fun _=>True) hb (hu.step h3) hN;exact⟨q,n,c,rfl,k1,k2,k4⟩)
  clear CA hA;generalize L.tail=L' at *;obtain⟨w2,hw2⟩:∃w2,ww w noB (ba s)=w2:=⟨_,rfl⟩
  rw [hw2] at SK2 c3;simp only [hw2] at CA';have eB:bs (upF s)=ba (upF s):=rfl;rw [Option.map_some,eB];clear eB;generalize ba (upF s)=U at *;generalize ba s=SS at *;go_enter Tryz.func326,Tryz.ntmps326;go_wp2_with (first|(go_at_call 311;refine SK2.mono ?_;rintro e w3 ⟨rfl,c2,HS⟩)|(go_at_call 214;refine (UP _).mono ?_;rintro e w4 ⟨rfl,hs⟩;have HS4:Hid (Sp W b L' w2 w4):=HS.out.bel hs;clear hs)|(go_at_call 327;refine (CA' _ HS4.out).mono ?_;rintro e w5 ⟨q,n,c,rfl,RS,HG,HF⟩)|(refine aB rfl 67 _ _ rfl _ _ _ rfl rfl RS.out ?_))
  exact bodyPost_ret (aY HG.out (fB _ _) rfl rfl) rfl ⟨_,rfl,HF.out.1,HF.out.2⟩
end
section
variable {W w:World} {b:Nat} {B S:ByteArray}
theorem zA {n:Int} {L:List Tk.Tok} (hn:L.length<=256) (X:PR W b L w) (hB:B.toList.isEmpty=false) (TY:∀u,Sp W b L (ww w B S) u->CR 160 #[.string S] u (.agg #[.int .i64 3,.int .i64 n,.string noB])):
  Calls Tryz.prog 326 #[pt b,.agg (tcs 4 0 S B noB 0 0 false false)] w fun e w'=>e=.returned (.agg (lcs (fM 3 n nb) (.slice none 0 0)))/\Sp W b L w w':=by
 have hb:=X.lt;have X2:=(X.alloc (.cells (tcs 4 0 S B noB 0 0 false false) 156)).alloc (.cells nd0 67);obtain⟨c2,c3⟩:=gX hb (Sp.refl X2);have HS0:Hid (Sp W b L (ww w B S) (ww w B S)):=Sp.refl X2;have CC:=fun u (hu:Sp W b L (ww w B S) u)=>(gX hb hu).1;have FIN:=fun u (hu:Sp W b L (ww w B S) u)=>yZ (K:=fun _=>True) hb hu (NK.leaf (a:=(fM 3 n nb)));obtain⟨w2,hw2⟩:∃w2,ww w B S=w2:=⟨_,rfl⟩
 rw [hw2] at c2 c3 HS0;simp only [hw2] at TY FIN CC;clear X X2;go_enter Tryz.func326,Tryz.ntmps326;go_wp2_with (first|(go_at_call 160;refine (TY _ HS0.out).mono ?_;rintro e w3 ⟨rfl,hs⟩;have HS3:Hid (Sp W b L w2 (w3.alloc (.cells #[.int .i64 3,.int .i64 n,.string noB] 62))):=(HS0.out.bel hs).alloc _;clear hs)|(go_at_call 323;refine (mP 3 n noB _).mono ?_;rintro e w4 ⟨rfl,hs⟩;obtain⟨RS,HG,HZ,HF⟩:=FIN _ (HS3.out.bel hs);clear hs)|(refine aB rfl 67 _ _ rfl _ _ _ rfl rfl RS.out ?_))
 exact bodyPost_ret (aY HG.out HZ.out rfl rfl) rfl ⟨rfl,HF.out.2⟩
theorem zB {k n:Int} {x:ByteArray} {L:List Tk.Tok} (hn:L.length<=256) (X:PR W b L w) (hB:B.toList.isEmpty=false) (TY:∀u,Sp W b L (ww w B S) u->CR 160 #[.string S] u (.agg #[.int .i64 k,.int .i64 n,.string x])) (hk:(k==3)=false):
  Calls Tryz.prog 326 #[pt b,.agg (tcs 4 0 S B noB 0 0 false false)] w fun e w'=>e=.returned (.agg (lcs ⟨4,S,0,0,nb,B,nb,0,0,false,false,nb,nb,0,0,false,false⟩ (.slice none 0 0)))/\Sp W b L w w':=by
 have hb:=X.lt;have X2:=(X.alloc (.cells (tcs 4 0 S B noB 0 0 false false) 156)).alloc (.cells nd0 67);obtain⟨c2,c3⟩:=gX hb (Sp.refl X2);have HS0:Hid (Sp W b L (ww w B S) (ww w B S)):=Sp.refl X2;have CC:=fun u (hu:Sp W b L (ww w B S) u)=>(gX hb hu).1;have FIN:=fun u (hu:Sp W b L (ww w B S) u)=>yZ (K:=fun _=>True) hb hu (NK.leaf (a:=⟨4,S,0,0,nb,B,nb,0,0,false,false,nb,nb,0,0,false,false⟩));obtain⟨w2,hw2⟩:∃w2,ww w B S=w2:=⟨_,rfl⟩
 rw [hw2] at c2 c3 HS0;simp only [hw2] at TY FIN CC;clear X X2;go_enter Tryz.func326,Tryz.ntmps326;go_wp2_with (first|(go_at_call 160;refine (TY _ HS0.out).mono ?_;rintro e w3 ⟨rfl,hs⟩;have HS3:Hid (Sp W b L w2 (w3.alloc (.cells #[.int .i64 k,.int .i64 n,.string x] 62))):=(HS0.out.bel hs).alloc _;have c22:=CC _ HS3.out;obtain⟨RS,HG,HZ,HF⟩:=FIN _ HS3.out;clear hs)|(refine aB rfl 67 _ _ rfl _ _ _ rfl rfl RS.out ?_))
 exact bodyPost_ret (aY HG.out HZ.out rfl rfl) rfl ⟨rfl,HF.out.2⟩
theorem zC {n:Int} {L:List Tk.Tok} (hn:L.length<=256) (X:PR W b L w) (hB:B=noB) (h:aV L ≠ [40]) (TY:∀u,Sp W b L (ww w B S) u->CR 160 #[.string S] u (.agg #[.int .i64 3,.int .i64 n,.string noB])):
  Calls Tryz.prog 326 #[pt b,.agg (tcs 4 0 S B noB 0 0 false false)] w fun e w'=>e=.returned (.agg (lcs (fM 3 n nb) (.slice none 0 0)))/\Sp W b L w w':=by
 have hb:=X.lt;have X2:=(X.alloc (.cells (tcs 4 0 S B noB 0 0 false false) 156)).alloc (.cells nd0 67);obtain⟨c2,c3⟩:=gX hb (Sp.refl X2);have HS0:Hid (Sp W b L (ww w B S) (ww w B S)):=Sp.refl X2;have CC:=fun u (hu:Sp W b L (ww w B S) u)=>(gX hb hu).1;have FIN:=fun u (hu:Sp W b L (ww w B S) u)=>yZ (K:=fun _=>True) hb hu (NK.leaf (a:=(fM 3 n nb)));have SK:Calls Tryz.prog 311 #[pt b,.string ⟨#[40]⟩] (ww w B S) fun e w'=>e=.returned (.bool false)/\w'=ww w B S:=iU X2 (by omega) [40] h;subst hB;clear h;obtain⟨w2,hw2⟩:∃w2,ww w noB S=w2:=⟨_,rfl⟩
 rw [hw2] at SK c2 c3 HS0;simp only [hw2] at TY FIN CC;clear X X2;go_enter Tryz.func326,Tryz.ntmps326;go_wp2_with (first|(go_at_call 311;refine SK.mono ?_;rintro e w1 ⟨rfl,hs⟩;obtain rfl:=hs.symm;clear hs)|(go_at_call 160;refine (TY _ HS0.out).mono ?_;rintro e w3 ⟨rfl,hs⟩;have HS3:Hid (Sp W b L w2 (w3.alloc (.cells #[.int .i64 3,.int .i64 n,.string noB] 62))):=(HS0.out.bel hs).alloc _;clear hs)|(go_at_call 323;refine (mP 3 n noB _).mono ?_;rintro e w4 ⟨rfl,hs⟩;obtain⟨RS,HG,HZ,HF⟩:=FIN _ (HS3.out.bel hs);clear hs)|(refine aB rfl 67 _ _ rfl _ _ _ rfl rfl RS.out ?_))
 exact bodyPost_ret (aY HG.out HZ.out rfl rfl) rfl ⟨rfl,HF.out.2⟩
theorem zD {k n:Int} {x:ByteArray} {L:List Tk.Tok} (hn:L.length<=256) (X:PR W b L w) (hB:B=noB) (h:aV L ≠ [40]) (TY:∀u,Sp W b L (ww w B S) u->CR 160 #[.string S] u (.agg #[.int .i64 k,.int .i64 n,.string x])) (hk:(k==3)=false):
  Calls Tryz.prog 326 #[pt b,.agg (tcs 4 0 S B noB 0 0 false false)] w fun e w'=>e=.returned (.agg (lcs ⟨4,S,0,0,nb,B,nb,0,0,false,false,nb,nb,0,0,false,false⟩ (.slice none 0 0)))/\Sp W b L w w':=by
 have hb:=X.lt;have X2:=(X.alloc (.cells (tcs 4 0 S B noB 0 0 false false) 156)).alloc (.cells nd0 67);obtain⟨c2,c3⟩:=gX hb (Sp.refl X2);have HS0:Hid (Sp W b L (ww w B S) (ww w B S)):=Sp.refl X2;have CC:=fun u (hu:Sp W b L (ww w B S) u)=>(gX hb hu).1;have FIN:=fun u (hu:Sp W b L (ww w B S) u)=>yZ (K:=fun _=>True) hb hu (NK.leaf (a:=⟨4,S,0,0,nb,B,nb,0,0,false,false,nb,nb,0,0,false,false⟩));have SK:Calls Tryz.prog 311 #[pt b,.string ⟨#[40]⟩] (ww w B S) fun e w'=>e=.returned (.bool false)/\w'=ww w B S:=iU X2 (by omega) [40] h;subst hB;clear h;obtain⟨w2,hw2⟩:∃w2,ww w noB S=w2:=⟨_,rfl⟩
 rw [hw2] at SK c2 c3 HS0;simp only [hw2] at TY FIN CC;clear X X2;go_enter Tryz.func326,Tryz.ntmps326;go_wp2_with (first|(go_at_call 311;refine SK.mono ?_;rintro e w1 ⟨rfl,hs⟩;obtain rfl:=hs.symm;clear hs)|(go_at_call 160;refine (TY _ HS0.out).mono ?_;rintro e w3 ⟨rfl,hs⟩;have HS3:Hid (Sp W b L w2 (w3.alloc (.cells #[.int .i64 k,.int .i64 n,.string x] 62))):=(HS0.out.bel hs).alloc _;have c22:=CC _ HS3.out;obtain⟨RS,HG,HZ,HF⟩:=FIN _ HS3.out;clear hs)|(refine aB rfl 67 _ _ rfl _ _ _ rfl rfl RS.out ?_))
 exact bodyPost_ret (aY HG.out HZ.out rfl rfl) rfl ⟨rfl,HF.out.2⟩
end
theorem aJa {W w:World} {b:Nat} (bk s:List UInt8) {L:List Tk.Tok} (hn:L.length<=256) (hh:nQ s=true) (hs:s.length<=1000) (X:PR W b L w)
  (CA:∀u,aV L=[40]->PR W b L.tail u->Calls Tryz.prog 327 #[pt b] u (AO W b u (AA L.tail))):
  Calls Tryz.prog 326 #[pt b,.agg (tcs 4 0 (ba s) (ba bk) noB 0 0 false false)] w (PO W b w (vY bk s L)):=by
 unfold vY;by_cases h:bk=[]/\aV L=[40]
 ·rw [if_pos h];obtain⟨rfl,h⟩:=h;exact aGz hn h hs X (fun u hu=>CA u h hu)
 ·rw [if_neg h];have TY:∀u,Sp W b L (ww w (ba bk) (ba s)) u->CR 160 #[.string (ba s)] u (.agg #[.int .i64 (dS (ba s)).1,.int .i64 (dS (ba s)).2.1,.string (dS (ba s)).2.2]):=fun u hu=>uN (ba s) (by rw [size_mk];omega) u hu.1.t.t.t;have hg:((ba bk).toList.isEmpty=false)\/((ba bk)=noB/\aV L ≠ [40]):=by
   cases bk with
   | nil=>exact .inr ⟨rfl,fun e=>h ⟨rfl,e⟩⟩
   | cons c r=>exact .inl (by rw [ByteArray.toList_eq];rfl)
  rcases aEc hh with ⟨n,h1,h2⟩ | ⟨h1,h2⟩
  ·rw [h1];rw [h2] at TY;rcases hg with hg | ⟨hg,hg2⟩
   ·exact (zA hn X hg TY).mono (by rintro e w' ⟨rfl,h⟩;exact⟨_,rfl,NK.leaf,h⟩)
   ·exact (zC hn X hg hg2 TY).mono (by rintro e w' ⟨rfl,h⟩;exact⟨_,rfl,NK.leaf,h⟩)
  ·rw [h1];rcases hg with hg | ⟨hg,hg2⟩
   ·exact (zB hn X hg TY h2).mono (by rintro e w' ⟨rfl,h⟩;exact⟨_,rfl,NK.leaf (a:=aAd bk s),h⟩)
   ·exact (zD hn X hg hg2 TY h2).mono (by rintro e w' ⟨rfl,h⟩;exact⟨_,rfl,NK.leaf (a:=aAd bk s),h⟩)
end Go.Proofs.YtlhoklhjbpkgpaaGreatDoor
namespace Go.Proofs.YtlhoklhjbpkgpaaGreatDoor
open Go.RowKit
theorem aLt (s:ByteArray) (w:World):CR 324 #[.string s] w (if aFY s=true then .agg #[.int .i64 2,.int .i64 0,.string s] else .agg #[.int .i64 4,.int .i64 2,.string ⟨#[]⟩]):=by
 rcases aAs s with ⟨he,h⟩ | ⟨he,h⟩;all_goals rw [h]
 ·have he':¬255 < (s.size:Int):=by omega
  go_enter Tryz.func324,Tryz.ntmps324;go_wp2_with (go_at_call 202;refine (uM _ _).mono ?_;rintro e w1 ⟨rfl,hb⟩;have HB:Hid (Below w.heap.size w w1):=gU hb;obtain⟨⟨c0,c1,c2⟩,f0,f1,f2⟩:=fD hb;clear hb)
  exact bodyPost_ret (v:=.agg #[.int .i64 2,.int .i64 0,.string s]) (by simp [results,Tryz.results324,go_sem,c0,c1,c2]) rfl ⟨rfl,aB7 HB.out⟩
 ·have he':255 < (s.size:Int):=by omega
  go_enter Tryz.func324,Tryz.ntmps324;go_wp2_with (go_at_call 208;refine (sH _ _).mono ?_;rintro e w1 ⟨rfl,hb⟩;have HB:Hid (Below w.heap.size w w1):=gU hb;obtain⟨⟨c0,c1,c2⟩,f0,f1,f2⟩:=fD hb;clear hb)
  exact bodyPost_ret (v:=.agg #[.int .i64 4,.int .i64 2,.string ⟨#[]⟩]) (by simp [results,Tryz.results324,go_sem,c0,c1,c2];rfl) rfl ⟨rfl,aB7 HB.out⟩
end Go.Proofs.YtlhoklhjbpkgpaaGreatDoor
namespace Go.Proofs.YtlhoklhjbpkgpaaGreatDoor
open Go.RowKit Go.Fm
section
variable {W w:World} {b:Nat}
abbrev w0 (w:World):World:=w.alloc (.cells nd0 67)
theorem aJb {ts r:List Tk.Tok} {n:T} (hn:ts.length<=256) (h:aV ts=[40]) (hr:r.length<=256) (X:PR W b ts w) (C:∀u,PR W b ts.tail u->Calls Tryz.prog 152 #[pt b] u (PO W b u (some (n,r)))) (h41:aV r=[41]):
  Calls Tryz.prog 319 #[pt b] w (PO W b w (some (n,r.tail))):=by
 have hb:=X.lt;have X2:=X.alloc (.cells nd0 67);have SK:Calls Tryz.prog 311 #[pt b,.string ⟨#[40]⟩] (w0 w) fun e w'=>e=.returned (.bool true)/\Hid (Sp W b ts.tail (w0 w) w'):=fK X2 (by omega) [40] (by decide) h;have C2:∀u,Sp W b ts.tail (w0 w) u->Calls Tryz.prog 152 #[pt b] u fun e w1=>∃es,e=.returned (.agg es)/\Hid ((Instr.storeAt 67 (pt w1.heap.size) (.agg es)).run Tryz.prog (w1.alloc (.cells nd0 67))=.ok () (w1.alloc (.cells es 67)))/\Hid (Sp W b r (w0 w) (w1.alloc (.cells es 67)))/\
   Hid (∀u,Sp W b r.tail (w1.alloc (.cells es 67)) u->(Instr.loadAt 67 (pt w1.heap.size)).run Tryz.prog u=.ok (.agg es) u/\Sp W b r.tail (w0 w) u/\NK (fun i=>w.heap.size < i) u es n):=fun u hu=>(C u hu.1).mono (by
  rintro e w1 ⟨es,rfl,h1,h2⟩;have hS:Sp W b r (w0 w) (w1.alloc (.cells es 67)):=(hu.step h2).alloc _;refine ⟨es,rfl,(aCE w1 h1.nt).1,hS,fun v hv=> ?_⟩;have hz:=hu.2.size;have hzz:=h2.2.size;simp at hz;refine ⟨h1.lod (hv.kept (heap_alloc_new w1 _) (by omega)),hS.step hv, ?_⟩;exact((h1.mono (K':=fun i=>w.heap.size < i) (fun i hi _=>by omega)).below (aD (Below.refl _ _) (.cells es 67))).grown hv.2 (fun g e hk=>by cases e;omega))
 have MU:∀u,PR W b r u->Calls Tryz.prog 322 #[pt b,.string ⟨#[41]⟩] u fun e w'=>e=.returned (.tuple #[])/\Sp W b r.tail u w':=fun u hu=>aCP hu hr [41] (by decide) h41;clear C X X2 h h41;generalize ts.tail=L' at *;generalize r.tail=r' at *;obtain⟨w2,hw2⟩:∃w2,w0 w=w2:=⟨_,rfl⟩
 have FIN:∀(u:World) (es:Array Value),Sp W b r' w2 u->NK (fun i=>w.heap.size < i) u es n->_:=fun u es hu hN=>by rw [<-hw2] at hu;exact fZ hb hN hu
 rw [hw2] at SK;simp only [hw2] at C2;go_enter Tryz.func319,Tryz.ntmps319;go_wp2_with (first|(go_at_call 311;refine SK.mono ?_;rintro e w3 ⟨rfl,HS⟩)|(go_at_call 152;refine (C2 _ HS.out).mono ?_;rintro e w4 ⟨es,rfl,RS0,HS4,HL4⟩)|(refine aB rfl 67 _ _ rfl _ _ _ rfl rfl RS0.out ?_;clear RS0)|(go_at_call 322;refine (MU _ HS4.out.1).mono ?_;rintro e w5 ⟨rfl,hs⟩;obtain⟨rl5,hs5,hn5⟩:=HL4.out _ hs;have RL5:Hid _:=rl5;obtain⟨RS,HG,HZ,HF⟩:=FIN _ _ hs5 hn5;clear hs rl5 hs5 hn5)|(refine aC rfl 67 _ rfl _ _ rfl RL5.out ?_)|(refine aB rfl 67 _ _ rfl _ _ _ rfl rfl RS.out ?_))
 exact bodyPost_ret (aY HG.out HZ.out rfl rfl) rfl ⟨_,rfl,HF.out.1,HF.out.2⟩
theorem aBt {ts r:List Tk.Tok} {n:T} (hn:ts.length<=256) (h:aV ts=[40]) (hr:r.length<=256) (X:PR W b ts w) (C:∀u,PR W b ts.tail u->Calls Tryz.prog 152 #[pt b] u (PO W b u (some (n,r)))) (h41:aV r ≠ [41]):
  Calls Tryz.prog 319 #[pt b] w fun e w'=>e=.panicked dA/\w.grownBy w' (some b):=by
 have X2:=X.alloc (.cells nd0 67);have SK:Calls Tryz.prog 311 #[pt b,.string ⟨#[40]⟩] (w0 w) fun e w'=>e=.returned (.bool true)/\Hid (Sp W b ts.tail (w0 w) w'):=fK X2 (by omega) [40] (by decide) h;have C2:∀u,Sp W b ts.tail (w0 w) u->Calls Tryz.prog 152 #[pt b] u fun e w1=>∃es,e=.returned (.agg es)/\Hid ((Instr.storeAt 67 (pt w1.heap.size) (.agg es)).run Tryz.prog (w1.alloc (.cells nd0 67))=.ok () (w1.alloc (.cells es 67)))/\Hid (Sp W b r (w0 w) (w1.alloc (.cells es 67))):=fun u hu=>(C u hu.1).mono (by
  rintro e w1 ⟨es,rfl,h1,h2⟩;exact⟨es,rfl,(aCE w1 h1.nt).1,(hu.step h2).alloc _⟩)
 have MU:∀u,PR W b r u->Calls Tryz.prog 322 #[pt b,.string ⟨#[41]⟩] u fun e w'=>e=.panicked dA/\w'=u:=fun u hu=>aFo hu hr [41] h41;have HG0:Hid (w.grownBy (w0 w) (some b)):=World.grownBy_alloc _ _ _;clear C X X2 h h41;generalize ts.tail=L' at *;obtain⟨w2,hw2⟩:∃w2,w0 w=w2:=⟨_,rfl⟩
 rw [hw2] at SK HG0;simp only [hw2] at C2;go_enter Tryz.func319,Tryz.ntmps319;go_wp2_with (first|(go_at_call 311;refine SK.mono ?_;rintro e w3 ⟨rfl,HS⟩)|(go_at_call 152;refine (C2 _ HS.out).mono ?_;rintro e w4 ⟨es,rfl,RS0,HS4⟩)|(refine aB rfl 67 _ _ rfl _ _ _ rfl rfl RS0.out ?_;clear RS0)|(go_at_call 322;refine (MU _ HS4.out.1).mono ?_;rintro e w5 ⟨rfl,hs⟩;obtain rfl:=hs.symm;clear hs))
 exact⟨rfl,rfl,aI HG0.out HS4.out.2⟩
theorem aGA {ts:List Tk.Tok} (hn:ts.length<=256) (h:aV ts=[40]) (X:PR W b ts w) (C:∀u,PR W b ts.tail u->Calls Tryz.prog 152 #[pt b] u fun e w'=>e=.panicked dA/\u.grownBy w' (some b)):
  Calls Tryz.prog 319 #[pt b] w fun e w'=>e=.panicked dA/\w.grownBy w' (some b):=by
 have X2:=X.alloc (.cells nd0 67);have SK:Calls Tryz.prog 311 #[pt b,.string ⟨#[40]⟩] (w0 w) fun e w'=>e=.returned (.bool true)/\Hid (Sp W b ts.tail (w0 w) w'):=fK X2 (by omega) [40] (by decide) h;have HG0:Hid (w.grownBy (w0 w) (some b)):=World.grownBy_alloc _ _ _;clear X X2 h;generalize ts.tail=L' at *;obtain⟨w2,hw2⟩:∃w2,w0 w=w2:=⟨_,rfl⟩
 rw [hw2] at SK HG0;go_enter Tryz.func319,Tryz.ntmps319;go_wp2_with (first|(go_at_call 311;refine SK.mono ?_;rintro e w3 ⟨rfl,HS⟩)|(go_at_call 152;refine (C _ HS.out.1).mono ?_;rintro e w4 ⟨rfl,hg⟩))
 exact⟨rfl,rfl,aI HG0.out (aI HS.out.2 hg)⟩
theorem aLu (X:PR W b [] w):Calls Tryz.prog 319 #[pt b] w fun e w'=>e=.panicked dA/\w.grownBy w' (some b):=by
 have X2:=X.alloc (.cells nd0 67);have SK:Calls Tryz.prog 311 #[pt b,.string ⟨#[40]⟩] (w0 w) fun e w'=>e=.returned (.bool false)/\w'=w0 w:=iU X2 (by simp) [40] (by decide);have TK:=take_nil X2;have HG0:Hid (w.grownBy (w0 w) (some b)):=World.grownBy_alloc _ _ _;clear X X2;go_enter Tryz.func319,Tryz.ntmps319;go_wp2_with (first|(go_at_call 311;refine SK.mono ?_;rintro e w3 ⟨rfl,hs⟩;obtain rfl:=hs.symm;clear hs)|(go_at_call 236;refine TK.mono ?_;rintro e w4 ⟨rfl,hg⟩))
 exact⟨rfl,rfl,aI HG0.out hg⟩
theorem aNj {t:Tk.Tok} {q:List Tk.Tok} (hn:(t:: q).length<=256) (h:aV (t:: q) ≠ [40]) (X:PR W b (t:: q) w):
  Calls Tryz.prog 311 #[pt b,.string ⟨#[40]⟩] (w0 w) (fun e w'=>e=.returned (.bool false)/\w'=w0 w)/\Calls Tryz.prog 236 #[pt b] (w0 w) (fun e w'=>e=.returned (.agg (tcs (tk t).k (tk t).n (tk t).s (tk t).b (tk t).h (tk t).r (tk t).c (tk t).fr (tk t).fc))/\Hid (Sp W b q (w0 w) w')):=
 ⟨iU (X.alloc (.cells nd0 67)) hn [40] h,take_cons (X.alloc (.cells nd0 67)) (by simp at hn;omega)⟩
theorem one_num {n:Int} {q:List Tk.Tok} (hb:b < w.heap.size) (SK:Calls Tryz.prog 311 #[pt b,.string ⟨#[40]⟩] (w0 w) fun e w'=>e=.returned (.bool false)/\w'=w0 w)
  (TK:Calls Tryz.prog 236 #[pt b] (w0 w) fun e w'=>e=.returned (.agg (tcs 1 n noB noB noB 0 0 false false))/\Hid (Sp W b q (w0 w) w')) (V:∀u,Calls Tryz.prog 204 #[.int .i64 n,.bool true] u fun e w'=>e=.returned (.agg #[.int .i64 1,.int .i64 n,.string noB])/\Below u.heap.size u w'):
  Calls Tryz.prog 319 #[pt b] w fun e w'=>e=.returned (.agg (lcs (fM 1 n noB) (.slice none 0 0)))/\Sp W b q w w':=by
 have FIN:=fun u (hu:Sp W b q (w0 w) u)=>fZ hb (NK.leaf (a:=fM 1 n noB)) hu;go_enter Tryz.func319,Tryz.ntmps319;go_wp2_with (first|(go_at_call 311;refine SK.mono ?_;rintro e w3 ⟨rfl,hs⟩;obtain rfl:=hs.symm;clear hs)|(go_at_call 236;refine TK.mono ?_;rintro e w4 ⟨rfl,HS4⟩)|(go_at_call 204;refine (V _).mono ?_;rintro e w5 ⟨rfl,hs⟩;have HS5:Hid (Sp W b q (w0 w) w5):=(HS4.out.alloc _).bel hs;clear hs)|(go_at_call 323;refine (mP 1 n noB _).mono ?_;rintro e w6 ⟨rfl,hs⟩;obtain⟨RS,HG,HZ,HF⟩:=FIN _ (HS5.out.bel hs);clear hs)|(refine aB rfl 67 _ _ rfl _ _ _ rfl rfl RS.out ?_))
 exact bodyPost_ret (aY HG.out HZ.out rfl rfl) rfl ⟨rfl,HF.out.2⟩
theorem aLv {S:ByteArray} {q:List Tk.Tok} (hb:b < w.heap.size) (SK:Calls Tryz.prog 311 #[pt b,.string ⟨#[40]⟩] (w0 w) fun e w'=>e=.returned (.bool false)/\w'=w0 w)
  (TK:Calls Tryz.prog 236 #[pt b] (w0 w) fun e w'=>e=.returned (.agg (tcs 2 0 S noB noB 0 0 false false))/\Hid (Sp W b q (w0 w) w')) (V:∀u,Calls Tryz.prog 324 #[.string S] u fun e w'=>e=.returned (.agg #[.int .i64 2,.int .i64 0,.string S])/\Below u.heap.size u w'):
  Calls Tryz.prog 319 #[pt b] w fun e w'=>e=.returned (.agg (lcs (fM 2 0 S) (.slice none 0 0)))/\Sp W b q w w':=by
 have FIN:=fun u (hu:Sp W b q (w0 w) u)=>fZ hb (NK.leaf (a:=fM 2 0 S)) hu;go_enter Tryz.func319,Tryz.ntmps319;go_wp2_with (first|(go_at_call 311;refine SK.mono ?_;rintro e w3 ⟨rfl,hs⟩;obtain rfl:=hs.symm;clear hs)|(go_at_call 236;refine TK.mono ?_;rintro e w4 ⟨rfl,HS4⟩)|(go_at_call 324;refine (V _).mono ?_;rintro e w5 ⟨rfl,hs⟩;have HS5:Hid (Sp W b q (w0 w) w5):=(HS4.out.alloc _).bel hs;clear hs)|(go_at_call 323;refine (mP 2 0 S _).mono ?_;rintro e w6 ⟨rfl,hs⟩;obtain⟨RS,HG,HZ,HF⟩:=FIN _ (HS5.out.bel hs);clear hs)|(refine aB rfl 67 _ _ rfl _ _ _ rfl rfl RS.out ?_))
 exact bodyPost_ret (aY HG.out HZ.out rfl rfl) rfl ⟨rfl,HF.out.2⟩
theorem aLw {n:Int} {q:List Tk.Tok} (hb:b < w.heap.size) (SK:Calls Tryz.prog 311 #[pt b,.string ⟨#[40]⟩] (w0 w) fun e w'=>e=.returned (.bool false)/\w'=w0 w)
  (TK:Calls Tryz.prog 236 #[pt b] (w0 w) fun e w'=>e=.returned (.agg (tcs 6 n noB noB noB 0 0 false false))/\Hid (Sp W b q (w0 w) w')) (V:∀u,Calls Tryz.prog 208 #[.int .i64 n] u fun e w'=>e=.returned (.agg #[.int .i64 4,.int .i64 n,.string noB])/\Below u.heap.size u w'):
  Calls Tryz.prog 319 #[pt b] w fun e w'=>e=.returned (.agg (lcs (fM 4 n noB) (.slice none 0 0)))/\Sp W b q w w':=by
 have FIN:=fun u (hu:Sp W b q (w0 w) u)=>fZ hb (NK.leaf (a:=fM 4 n noB)) hu;go_enter Tryz.func319,Tryz.ntmps319;go_wp2_with (first|(go_at_call 311;refine SK.mono ?_;rintro e w3 ⟨rfl,hs⟩;obtain rfl:=hs.symm;clear hs)|(go_at_call 236;refine TK.mono ?_;rintro e w4 ⟨rfl,HS4⟩)|(go_at_call 208;refine (V _).mono ?_;rintro e w5 ⟨rfl,hs⟩;have HS5:Hid (Sp W b q (w0 w) w5):=(HS4.out.alloc _).bel hs;clear hs)|(go_at_call 323;refine (mP 4 n noB _).mono ?_;rintro e w6 ⟨rfl,hs⟩;obtain⟨RS,HG,HZ,HF⟩:=FIN _ (HS5.out.bel hs);clear hs)|(refine aB rfl 67 _ _ rfl _ _ _ rfl rfl RS.out ?_))
 exact bodyPost_ret (aY HG.out HZ.out rfl rfl) rfl ⟨rfl,HF.out.2⟩
theorem aLx {S:ByteArray} {q:List Tk.Tok} (SK:Calls Tryz.prog 311 #[pt b,.string ⟨#[40]⟩] (w0 w) fun e w'=>e=.returned (.bool false)/\w'=w0 w)
  (TK:Calls Tryz.prog 236 #[pt b] (w0 w) fun e w'=>e=.returned (.agg (tcs 5 0 S noB noB 0 0 false false))/\Hid (Sp W b q (w0 w) w')):
  Calls Tryz.prog 319 #[pt b] w fun e w'=>e=.panicked dA/\w.grownBy w' (some b):=by
 have HG0:Hid (w.grownBy (w0 w) (some b)):=World.grownBy_alloc _ _ _;go_enter Tryz.func319,Tryz.ntmps319;go_wp2_with (first|(go_at_call 311;refine SK.mono ?_;rintro e w3 ⟨rfl,hs⟩;obtain rfl:=hs.symm;clear hs)|(go_at_call 236;refine TK.mono ?_;rintro e w4 ⟨rfl,HS4⟩))
 exact⟨rfl,rfl,aI HG0.out (HS4.out.alloc _).2⟩
theorem aLy {B H:ByteArray} {r c:Int} {fr fc:Bool} {q:List Tk.Tok} {o:Option (T × List Tk.Tok)} (hb:b < w.heap.size) (SK:Calls Tryz.prog 311 #[pt b,.string ⟨#[40]⟩] (w0 w) fun e w'=>e=.returned (.bool false)/\w'=w0 w)
  (TK:Calls Tryz.prog 236 #[pt b] (w0 w) fun e w'=>e=.returned (.agg (tcs 3 0 noB B H r c fr fc))/\Hid (Sp W b q (w0 w) w')) (C:∀u,PR W b q u->Calls Tryz.prog 325 #[pt b,.agg #[.string B,.string H,.int .i64 r,.int .i64 c,.bool fr,.bool fc]] u (PO W b u o)):
  Calls Tryz.prog 319 #[pt b] w (PO W b w o):=by
 have HG0:Hid (w.grownBy (w0 w) (some b)):=World.grownBy_alloc _ _ _;cases o with
 | none=>
  have C':∀u,PR W b q u->Calls Tryz.prog 325 #[pt b,.agg #[.string B,.string H,.int .i64 r,.int .i64 c,.bool fr,.bool fc]] u fun e w'=>e=.panicked dA/\u.grownBy w' (some b):=C;clear C;go_enter Tryz.func319,Tryz.ntmps319;go_wp2_with (first|(go_at_call 311;refine SK.mono ?_;rintro e w3 ⟨rfl,hs⟩;obtain rfl:=hs.symm;clear hs)|(go_at_call 236;refine TK.mono ?_;rintro e w4 ⟨rfl,HS4⟩)|(go_at_call 325;refine (C' _ (HS4.out.alloc _).1).mono ?_;rintro e w5 ⟨rfl,hg⟩))
  exact⟨rfl,rfl,aI HG0.out (aI (HS4.out.alloc _).2 hg)⟩
 | some p=>
  have C':∀u,Sp W b q (w0 w) u->Calls Tryz.prog 325 #[pt b,.agg #[.string B,.string H,.int .i64 r,.int .i64 c,.bool fr,.bool fc]] u fun e w1=>∃es,e=.returned (.agg es)/\Hid ((Instr.storeAt 67 (pt w.heap.size) (.agg es)).run Tryz.prog w1=.ok () (w1.setRow w.heap.size es))/\Hid (w1.heap[w.heap.size]? =some (.cells nd0 67))/\Hid (es.size=18)/\
    Hid (NK (fun i=>w.heap.size<=i) (w1.setRow w.heap.size es) es p.1/\Sp W b p.2 w (w1.setRow w.heap.size es)):=fun u hu=>(C u hu.1).mono (by
   rintro e w1 ⟨es,rfl,h1,h2⟩;exact⟨es,rfl,fZ hb (h1.mono (fun i hi _=>by have:=hu.2.size;simp at this;omega)) (hu.step h2)⟩)
  clear C;go_enter Tryz.func319,Tryz.ntmps319;go_wp2_with (first|(go_at_call 311;refine SK.mono ?_;rintro e w3 ⟨rfl,hs⟩;obtain rfl:=hs.symm;clear hs)|(go_at_call 236;refine TK.mono ?_;rintro e w4 ⟨rfl,HS4⟩)|(go_at_call 325;refine (C' _ (HS4.out.alloc _)).mono ?_;rintro e w5 ⟨es,rfl,RS,HG,HZ,HF⟩)|(refine aB rfl 67 _ _ rfl _ _ _ rfl rfl RS.out ?_))
  exact bodyPost_ret (aY HG.out HZ.out rfl rfl) rfl ⟨_,rfl,HF.out.1,HF.out.2⟩
theorem aJc {S B:ByteArray} {q:List Tk.Tok} {o:Option (T × List Tk.Tok)} (hb:b < w.heap.size) (SK:Calls Tryz.prog 311 #[pt b,.string ⟨#[40]⟩] (w0 w) fun e w'=>e=.returned (.bool false)/\w'=w0 w)
  (TK:Calls Tryz.prog 236 #[pt b] (w0 w) fun e w'=>e=.returned (.agg (tcs 4 0 S B noB 0 0 false false))/\Hid (Sp W b q (w0 w) w')) (C:∀u,PR W b q u->Calls Tryz.prog 326 #[pt b,.agg (tcs 4 0 S B noB 0 0 false false)] u (PO W b u o)):
  Calls Tryz.prog 319 #[pt b] w (PO W b w o):=by
 have HG0:Hid (w.grownBy (w0 w) (some b)):=World.grownBy_alloc _ _ _;cases o with
 | none=>
  have C':∀u,PR W b q u->Calls Tryz.prog 326 #[pt b,.agg (tcs 4 0 S B noB 0 0 false false)] u fun e w'=>e=.panicked dA/\u.grownBy w' (some b):=C;clear C;go_enter Tryz.func319,Tryz.ntmps319;go_wp2_with (first|(go_at_call 311;refine SK.mono ?_;rintro e w3 ⟨rfl,hs⟩;obtain rfl:=hs.symm;clear hs)|(go_at_call 236;refine TK.mono ?_;rintro e w4 ⟨rfl,HS4⟩)|(go_at_call 326;refine (C' _ (HS4.out.alloc _).1).mono ?_;rintro e w5 ⟨rfl,hg⟩))
  exact⟨rfl,rfl,aI HG0.out (aI (HS4.out.alloc _).2 hg)⟩
 | some p=>
  have C':∀u,Sp W b q (w0 w) u->Calls Tryz.prog 326 #[pt b,.agg (tcs 4 0 S B noB 0 0 false false)] u fun e w1=>∃es,e=.returned (.agg es)/\Hid ((Instr.storeAt 67 (pt w.heap.size) (.agg es)).run Tryz.prog w1=.ok () (w1.setRow w.heap.size es))/\Hid (w1.heap[w.heap.size]? =some (.cells nd0 67))/\Hid (es.size=18)/\
    Hid (NK (fun i=>w.heap.size<=i) (w1.setRow w.heap.size es) es p.1/\Sp W b p.2 w (w1.setRow w.heap.size es)):=fun u hu=>(C u hu.1).mono (by
   rintro e w1 ⟨es,rfl,h1,h2⟩;exact⟨es,rfl,fZ hb (h1.mono (fun i hi _=>by have:=hu.2.size;simp at this;omega)) (hu.step h2)⟩)
  clear C;go_enter Tryz.func319,Tryz.ntmps319;go_wp2_with (first|(go_at_call 311;refine SK.mono ?_;rintro e w3 ⟨rfl,hs⟩;obtain rfl:=hs.symm;clear hs)|(go_at_call 236;refine TK.mono ?_;rintro e w4 ⟨rfl,HS4⟩)|(go_at_call 326;refine (C' _ (HS4.out.alloc _)).mono ?_;rintro e w5 ⟨es,rfl,RS,HG,HZ,HF⟩)|(refine aB rfl 67 _ _ rfl _ _ _ rfl rfl RS.out ?_))
  exact bodyPost_ret (aY HG.out HZ.out rfl rfl) rfl ⟨_,rfl,HF.out.1,HF.out.2⟩
end
theorem aJd {W w:World} {b:Nat} {ts:List Tk.Tok} (hn:ts.length<=256) (X:PR W b ts w) (C:∀ts' u,ts'.length<=ts.length->PR W b ts' u->Calls Tryz.prog 152 #[pt b] u (PO W b u (PP 1 ts'))):
  Calls Tryz.prog 327 #[pt b] w (AO W b w (AA ts)):=by
 unfold AA;by_cases h:aV ts=[41]
 ·rw [if_pos h];exact(aI8 hn h X).mono (by rintro e w' ⟨rfl,hs⟩;exact⟨none,0,0,rfl,rfl,.inl rfl,hs⟩)
 ·rw [if_neg h];have C0:=C ts w (Nat.le_refl _) X;cases hP:PP 1 ts with
  | none=>
   rw [hP] at C0;exact aGt hn h X C0
  | some p=>
   rw [hP] at C0;have hl:=jB upF trF (by omega) _ p.1 p.2 hP;exact aGu hn h X hl C0 (fun ts' u h1 h2=>C ts' u (by omega) h2)
theorem aAG {b s:List UInt8} (h:Tk.okT gnF trB okN (Tk.Tok.word b s)):nQ s=true/\s.length<=1000:=by
 have hg:∀s,gnF s=true->nQ s=true/\s.length<=1000:=fun s h=>⟨(aCN h).2.1,by have:=(aCN h).1;omega⟩
 rcases h with ⟨_,h | h⟩ | ⟨_,h⟩
 ·exact hg s h
 ·obtain ⟨h1,h2⟩:=vW h;refine ⟨?_, ?_⟩
  ·cases s with
   | nil=>exact absurd rfl h1
   | cons c r=>exact h2 c (by simp)
  ·rcases aCH h with e | e
   ·have:=congrArg List.length e;simp [szF] at this;omega
   ·have:=congrArg List.length e;simp [szF] at this;omega
 ·exact hg s h
theorem aLz {W w:World} {b:Nat} {ts:List Tk.Tok} (hn:ts.length<=256) (X:PR W b ts w) (C:∀ts' u,ts'.length < ts.length->PR W b ts' u->Calls Tryz.prog 152 #[pt b] u (PO W b u (PP 1 ts'))):
  Calls Tryz.prog 319 #[pt b] w (PO W b w (PP 8 ts)):=by
 have e:PP 8 ts=jA upF trF (PP 1) ts:=aIM upF trF ts;rw [e];have hb:=X.lt;cases ts with
 | nil=>exact aLu X
 | cons t q=>
  have hok:=X.ok t (by simp);have hq:q.length<=256:=by simp at hn;omega
  by_cases h40:aV (t:: q)=[40]
  ·cases t using Tk.Tok.cs with
   | op s=>
    have hs:s=[40]:=h40;have e2:jA upF trF (PP 1) (Tk.Tok.op s:: q)=(PP 1 q).bind fun p=>if aV p.2=[41] then some (p.1,p.2.tail) else none:=by simp only [jA];rw [if_pos hs]
    rw [e2];have C1:=fun u hu=>C q u (by simp) hu;cases hP:PP 1 q with
    | none=>
     rw [hP] at C1;exact aGA hn h40 X C1
    | some p=>
     obtain⟨n,r⟩:=p;rw [hP] at C1;have hl:=jB upF trF (by omega) _ n r hP;simp only [Option.bind_some];by_cases h41:aV r=[41]
     ·rw [if_pos h41];exact aJb hn h40 (by omega) X C1 h41
     ·rw [if_neg h41];exact aBt hn h40 (by omega) X C1 h41
   | num n=>cases h40
   | str n=>cases h40
   | ref n=>cases h40
   | word n m=>cases h40
   | bad n=>cases h40
  ·obtain ⟨SK,TK⟩:=aNj hn h40 X;have lf:∀{a:Lab} {f:Nat} {r:List Tk.Tok},Calls Tryz.prog 319 #[pt b] w (fun e w'=>e=.returned (.agg (lcs a (.slice none 0 0)))/\Sp W b r w w')->Calls Tryz.prog 319 #[pt b] w (PO W b w (some (tree a [],r))):=fun h=>h.mono (by rintro e w' ⟨rfl,h⟩;exact⟨_,rfl,NK.leaf,h⟩);cases t using Tk.Tok.cs with
   | op s=>
    have hs:s ≠ [40]:=h40;have e2:jA upF trF (PP 1) (Tk.Tok.op s:: q)=none:=by simp only [jA];rw [if_neg hs]
    rw [e2];exact aLx SK TK
   | num n=>
    have hg:ofV n true=.agg #[.int .i64 1,.int .i64 n,.string noB]:=by
     unfold ofV;have hgd:gd n=true:=by have h1:okN n:=hok.1;unfold gd;simp only [Bool.and_eq_true,decide_eq_true_eq];exact⟨by have:=h1.1;omega,h1.2⟩
     rw [hgd];rfl
    have V:=fun u=>aH4 n true u;rw [hg] at V;exact lf (f:=0) (one_num hb SK TK V)
   | str s=>
    have hl:aFY (ba s)=true:=by
     have h1:s.length<=255:=hok.2;rcases aAs (ba s) with ⟨_,h⟩ | ⟨h2,h⟩
     ·exact h
     ·rw [size_mk] at h2;omega
    have V:=fun u=>aLt (ba s) u;rw [hl] at V;exact lf (f:=0) (aLv hb SK TK V)
   | bad n=>
    have hg:xQ (n:Int)=n:=by have h1:1<=n/\n<=8:=hok.1;unfold xQ;rw [if_pos (aA0 n h1.1 h1.2)]
    have V:=fun u=>sH (n:Int) u;rw [hg] at V;exact lf (f:=0) (aLw hb SK TK V)
   | ref x=>exact aLy hb SK TK (fun u hu=>aGy x hq hu)
   | word bk s=>
    obtain⟨h1,h2⟩:=aAG hok.1;have e2:jA upF trF (PP 1) (Tk.Tok.word bk s:: q)=vY bk s q:=by
     simp only [jA,vY];rw [aFq];split
     ·rfl
     ·cases trF s <;> rfl
    rw [e2];refine aJc hb SK TK (fun u hu=>aJa bk s hq h1 h2 hu (fun v h40 hv=> ?_));have hl:=(bA (ts:=q) h40 (by decide)).1;exact aJd (by omega) hv (fun ts' u' h3 h4=>C ts' u' (by simp;omega) h4)
def fnN:Nat->Nat
 | 1=>152
 | 2=>197
 | 3=>237
 | 4=>268
 | 5=>282
 | 6=>296
 | 7=>313
 | _=>319
theorem aJe:∀(n lv:Nat) (ts:List Tk.Tok),1<=lv->lv<=8->need lv ts<=n->ts.length<=256->∀(W:World) (b:Nat) (w:World),PR W b ts w->Calls Tryz.prog (fnN lv) #[pt b] w (PO W b w (PP lv ts))
 | 0,lv,ts,h1,h8,hn,_=>by unfold need at hn;omega
 | n+1,lv,ts,h1,h8,hn,hl=>by
  intro W b w X;have IH:=aJe n;unfold need at hn;have R:∀lv',1<=lv'->lv'<=8->lv < lv'->∀ts' u,ts'.length<=ts.length->PR W b ts' u->Calls Tryz.prog (fnN lv') #[pt b] u (PO W b u (PP lv' ts')):=fun lv' a1 a2 a3 ts' u h2 h3=>IH lv' ts' a1 a2 (by unfold need;omega) (by omega) W b u h3;have hc:lv=1\/lv=2\/lv=3\/lv=4\/lv=5\/lv=6\/lv=7\/lv=8:=by omega
  rcases hc with rfl | rfl | rfl | rfl | rfl | rfl | rfl | rfl
  ·exact aLl hl (R 2 (by omega) (by omega) (by omega)) X
  ·exact aLm hl (R 3 (by omega) (by omega) (by omega)) X
  ·exact aLn hl (R 4 (by omega) (by omega) (by omega)) X
  ·exact aLo hl (R 5 (by omega) (by omega) (by omega)) X
  ·exact aLp hl (R 6 (by omega) (by omega) (by omega)) X
  ·refine aLq hl (fun u h hu=> ?_) (fun u hu=>R 7 (by omega) (by omega) (by omega) ts u (Nat.le_refl _) hu) X;have:=(bA (ts:=ts) h (by decide)).1;exact IH 6 ts.tail (by omega) (by omega) (by unfold need;omega) (by omega) W b u hu
  ·exact aLs hl (fun u hu=>R 8 (by omega) (by omega) (by omega) ts u (Nat.le_refl _) hu) X
  ·exact aLz hl X (fun ts' u h2 hu=>IH 1 ts' (by omega) (by omega) (by unfold need;omega) (by omega) W b u hu)
theorem aBu {W w:World} {b:Nat} {ts:List Tk.Tok} (hn:ts.length<=256) (X:PR W b ts w):Calls Tryz.prog 152 #[pt b] w (PO W b w (PP 1 ts)):=
 aJe _ 1 ts (by omega) (by omega) (Nat.le_refl _) hn W b w X
end Go.Proofs.YtlhoklhjbpkgpaaGreatDoor
namespace Go.Fm
open Go.Ad Go.Tk
def Few (part:Part):Prop:=∀ts n r,part ts=some (n,r)->zT n+r.length<=ts.length
def uY (l:List T):Nat:=(l.map zT).sum
theorem pK (a:Lab) (l:List T):zT (tree a l)=uY l+1:=by unfold zT tree uY;rw [aAz,sZ]
theorem aCT {part:Part} (hp:Few part) {lv:Nat} (hlv:lv ≠ 0):∀(k:Nat) (n:T) (ts:List Tok) (m:T) (r:List Tok),dV part lv k n ts=some (m,r)->zT m+r.length<=zT n+ts.length
 | 0,n,ts,m,r,h=>by cases h;exact Nat.le_refl _
 | k+1,n,ts,m,r,h=>by
  unfold dV at h;split at h
  ·rename_i hs
   have h1:=(bA (ts:=ts) rfl (nG (by omega))).1;cases hq:part ts.tail with
   | none=>rw [hq] at h;cases h
   | some p=>
    rw [hq] at h;have h2:=hp _ p.1 p.2 hq;have h3:=aCT hp hlv k _ _ _ _ h;have h4:zT (yQ (aV ts) n p.1)=zT n+zT p.1+1:=by unfold yQ;rw [pK];simp [uY]
    omega
  ·cases h;exact Nat.le_refl _
theorem aFs:∀(k:Nat) (n:T) (ts:List Tok),zT (gM k n ts).1+(gM k n ts).2.length<=zT n+ts.length
 | 0,n,ts=>Nat.le_refl _
 | k+1,n,ts=>by
  unfold gM;split
  ·rename_i hs
   have h1:=(bA (ts:=ts) hs (by decide)).1;have:=aFs k (unT [37] n) ts.tail;have h4:zT (unT [37] n)=zT n+1:=by unfold unT;rw [pK];simp [uY]
   omega
  ·exact Nat.le_refl _
theorem aCU {part:Part} (hp:Few part):∀(k:Nat) (acc:List T) (ts:List Tok) (m:List T) (r:List Tok),dR part k acc ts=some (m,r)->uY m+r.length<=uY acc+ts.length
 | 0,acc,ts,m,r,h=>by cases h
 | k+1,acc,ts,m,r,h=>by
  unfold dR at h;split at h
  ·rename_i hs
   have h1:=(bA (ts:=ts) hs (by decide)).1;cases h;omega
  ·split at h
   ·rename_i hs
    have h1:=(bA (ts:=ts) hs (by decide)).1;cases hq:part ts.tail with
    | none=>rw [hq] at h;cases h
    | some p=>
     rw [hq] at h;have h2:=hp _ p.1 p.2 hq;have h3:=aCU hp k _ _ _ _ h;have h4:uY (acc++ [p.1])=uY acc+zT p.1:=by simp [uY]
     omega
   ·cases h
section
variable (up:List UInt8->List UInt8) (tr:List UInt8->Option Int)
theorem aJf {part:Part} (hp:Few part) {s:List UInt8} {ts:List Tok} {m:T} {r:List Tok} (h:qG up part s ts=some (m,r)):zT m+r.length<=ts.length+1:=by
 unfold qG at h;split at h
 ·rename_i hs
  have h1:=(bA (ts:=ts) hs (by decide)).1;cases h
  rw [pK];simp [uY];omega
 ·cases hq:part ts with
  | none=>rw [hq] at h;cases h
  | some p=>
   rw [hq] at h;have h2:=hp _ p.1 p.2 hq;simp only [Option.bind_some] at h;cases ha:dR part (ts.length+1) [p.1] p.2 with
   | none=>rw [ha] at h;cases h
   | some q=>
    rw [ha] at h;simp only [Option.bind_some] at h;have h3:=aCU hp _ _ _ q.1 q.2 ha;have h4:uY [p.1]=zT p.1:=by simp [uY]
    split at h
    ·cases h
     rw [pK];omega
    ·cases h
theorem nK (a:Lab):zT (tree a [])=1:=by rw [pK];rfl
theorem aLA {part:Part} (hp:Few part):Few (jA up tr part):=by
 intro ts m r h;cases ts with
 | nil=>cases h
 | cons t q=>
  simp only [List.length_cons];cases t using Tk.Tok.cs with
  | num n=>cases h;rw [nK];omega
  | str s=>cases h;rw [nK];omega
  | bad n=>cases h;rw [nK];omega
  | ref x=>
   simp only [jA] at h;split at h
   ·rename_i hs
    have h1:=(bA (ts:=q) hs (by decide)).1;split at h
    ·rename_i y q' he
     rw [he] at h1;simp only [List.length_cons] at h1;split at h
     ·cases h;rw [nK];omega
     ·cases h
    ·cases h
   ·cases h;rw [nK];omega
  | word b s=>
   simp only [jA] at h;split at h
   ·rename_i hs
    have h1:=(bA (ts:=q) hs.2 (by decide)).1;have:=aJf up hp h;omega
   ·split at h
    ·cases h;rw [nK];omega
    ·cases h;rw [nK];omega
  | op s=>
   simp only [jA] at h;split at h
   ·cases hq:part q with
    | none=>rw [hq] at h;cases h
    | some p=>
     rw [hq] at h;have h2:=hp _ p.1 p.2 hq;simp only [Option.bind_some] at h;split at h
     ·cases h
      have:p.2.tail.length<=p.2.length:=by rw [List.length_tail];omega
      omega
     ·cases h
   ·cases h
theorem nL:∀(f lv:Nat),1<=lv->Few (psN up tr f lv)
 | 0,lv,_=>fun ts n r h=>by cases h
 | f+1,lv,hlv=>fun ts n r h=>by
  unfold psN at h;split at h
  ·cases hq:psN up tr f (lv+1) ts with
   | none=>rw [hq] at h;cases h
   | some p=>
    rw [hq] at h;have h2:=nL f (lv+1) (by omega) _ p.1 p.2 hq;have h3:=aCT (nL f (lv+1) (by omega)) (by omega) _ _ _ _ _ h;omega
  ·split at h
   ·split at h
    ·rename_i hs
     have h1:=(bA (ts:=ts) hs (by decide)).1;cases hq:psN up tr f 6 ts.tail with
     | none=>rw [hq] at h;cases h
     | some p=>
      rw [hq] at h;have h2:=nL f 6 (by omega) _ p.1 p.2 hq;cases h
      have h4:zT (unT [45] p.1)=zT p.1+1:=by unfold unT;rw [pK];simp [uY]
      omega
    ·exact nL f 7 (by omega) _ n r h
   ·split at h
    ·cases hq:psN up tr f 8 ts with
     | none=>rw [hq] at h;cases h
     | some p=>
      rw [hq] at h;have h2:=nL f 8 (by omega) _ p.1 p.2 hq;have h3:=aFs ts.length p.1 p.2;simp only [Option.map_some,Option.some.injEq] at h;rw [h] at h3;exact Nat.le_trans h3 h2
    ·exact aLA up tr (nL f 1 (Nat.le_refl _)) _ n r h
theorem aJg {lv:Nat} (hlv:1<=lv):Few (ps up tr lv):=fun ts n r h=>nL up tr _ lv hlv ts n r h
end
end Go.Fm
namespace Go.Proofs.YtlhoklhjbpkgpaaGreatDoor
open Go.RowKit Go.Fm
def qZ (ts:List Tk.Tok):Option T:=match PP 1 ts with
 | some (t,[])=>if dT t<=24 then some t else none
 | _=>none
def WO (W:World) (b:Nat) (w:World) (o:Option T) (e:Ending) (w':World):Prop:=
 match o with
 | none=>e=.panicked dA/\w.grownBy w' (some b)
 | some t=>∃es,e=.returned (.agg es)/\NK (fun i=>w.heap.size<=i) w' es t/\w.grownBy w' (some b)/\zT t<=256
theorem jN {P:Program} {ops:Array Oper} {rest:List Oper} {o:Oper} {a:Act} {w:World} {Q:Exit->Act->World->Prop} (ty:TypeId) (x:Operand) (ho:o.op=.load ty x)
  (p v:Value) (hx:a.eval x=p) (hrun:(Instr.loadAt ty p).run P w=.ok v w) (hw:Region.wanted o (yielded ops a.tmps)=true) (h:wpList P ops Q rest (a.put o.dst v) w):wpList P ops Q (o:: rest) a w:=by
 refine wpList_step fun K hK=> ?_;rw [if_pos hw];unfold Oper.wp execOp;simp only [ho,hx,Sem.run_bind,Sem.run_pure,hrun,Result.andThen_ok];exact hK _ _ h
section
variable {W w:World} {b:Nat}
theorem aEd (C:Calls Tryz.prog 152 #[pt b] (w0 w) fun e w'=>e=.panicked dA/\(w0 w).grownBy w' (some b)):
  Calls Tryz.prog 107 #[pt b] w fun e w'=>e=.panicked dA/\w.grownBy w' (some b):=by
 go_enter Tryz.func107,Tryz.ntmps107;go_wp2_with (go_at_call 152;refine C.mono ?_;rintro e w1 ⟨rfl,hg⟩)
 exact⟨rfl,rfl,aI (World.grownBy_alloc _ _ _) hg⟩
theorem rA {t:T} {r:List Tk.Tok} (hb:b < w.heap.size) (C:Calls Tryz.prog 152 #[pt b] (w0 w) (PO W b (w0 w) (some (t,r)))):
  Calls Tryz.prog 152 #[pt b] (w0 w) fun e w1=>∃es a c,e=.returned (.agg es)/\Hid ((Instr.storeAt 67 (pt w1.heap.size) (.agg es)).run Tryz.prog (w1.alloc (.cells nd0 67))=.ok () (w1.alloc (.cells es 67)))/\
   (w1.alloc (.cells es 67)).cell? ⟨b,0,none⟩=some (.slice a r.length c)/\Hid (NK (fun i=>w.heap.size < i) (w1.alloc (.cells es 67)) es t)/\Hid (Sp W b r (w0 w) (w1.alloc (.cells es 67)))/\Hid ((w1.alloc (.cells es 67)).heap[w1.heap.size]? =some (.cells es 67)):=C.mono (by
 rintro e w1 ⟨es,rfl,h1,h2⟩;have hS:Sp W b r (w0 w) (w1.alloc (.cells es 67)):=h2.alloc _;obtain⟨v,hv,hts⟩:=hS.1.blk;obtain⟨a,c,rfl⟩:=hts.slice;rw [List.length_map] at hv;refine ⟨es,a,c,rfl,(aCE w1 h1.nt).1,by rw [cell_of_row _ b 0 _ 138 (0,0) hv];rfl, ?_,hS,heap_alloc_new _ _⟩;exact(h1.mono (K':=fun i=>w.heap.size < i) (fun i hi _=>by simp at hi;omega)).below (aD (Below.refl _ _) (.cells es 67)))
theorem aEe {t:T} {r:List Tk.Tok} (hb:b < w.heap.size) (hr:0 < r.length) (C:Calls Tryz.prog 152 #[pt b] (w0 w) (PO W b (w0 w) (some (t,r)))):
  Calls Tryz.prog 107 #[pt b] w fun e w'=>e=.panicked dA/\w.grownBy w' (some b):=by
 have C':=rA hb C;have hri:decide ((0:Int) < (r.length:Int))=true:=by simp;omega
 have aPV:(0:Int) < (r.length:Int):=by omega
 clear C;generalize r.length=n at *;go_enter Tryz.func107,Tryz.ntmps107;go_wp2_with (first|(go_at_call 152;refine C'.mono ?_;rintro e w1 ⟨es,a,c,rfl,RS0,c0,HN,HS,H3⟩)|(refine aB rfl 67 _ _ rfl _ _ _ rfl rfl RS0.out ?_))
 exact⟨rfl,rfl,aI (World.grownBy_alloc _ _ _) HS.out.2⟩
theorem aEf {t:T} (hb:b < w.heap.size) (hz:zT t<=1000000) (hd:¬dT t<=24) (C:Calls Tryz.prog 152 #[pt b] (w0 w) (PO W b (w0 w) (some (t,[])))):
  Calls Tryz.prog 107 #[pt b] w fun e w'=>e=.panicked dA/\w.grownBy w' (some b):=by
 have C':=rA hb C;have hdi:(24:Int) < ((dT t:Nat):Int):=by omega
 have DP:=fun u es h=>aAB t hz u es h;clear C hd;generalize dT t=d at *;go_enter Tryz.func107,Tryz.ntmps107;go_wp2_with (first|(go_at_call 152;refine C'.mono ?_;rintro e w1 ⟨es,a,c,rfl,RS0,c0,HN,HS,H3⟩;have RL:=HN.out.lod H3.out)|(refine aB rfl 67 _ _ rfl _ _ _ rfl rfl RS0.out ?_;clear RS0)|(refine jN 67 _ rfl _ _ rfl RL.out (by go_simp) ?_)|(go_at_call 44;refine (DP _ _ HN.out.nt).mono ?_;rintro e w3 ⟨rfl,hs⟩;have HS3:Hid (Sp W b [] (w0 w) w3):=HS.out.bel hs;clear hs))
 all_goals exact⟨rfl,rfl,aI (World.grownBy_alloc _ _ _) HS3.out.2⟩
theorem aGB {t:T} (hb:b < w.heap.size) (hz:zT t<=1000000) (hd:dT t<=24) (C:Calls Tryz.prog 152 #[pt b] (w0 w) (PO W b (w0 w) (some (t,[])))):
  Calls Tryz.prog 107 #[pt b] w fun e w'=>∃es,e=.returned (.agg es)/\NK (fun i=>w.heap.size<=i) w' es t/\w.grownBy w' (some b):=by
 have C':=rA hb C;have hdi:¬(24:Int) < ((dT t:Nat):Int):=by omega
 have DP:=fun u es h=>aAB t hz u es h;have FIN:=fun (u:World) (es:Array Value) (hN:NK (fun i=>w.heap.size < i) u es t) (hu:Sp W b [] (w0 w) u)=>fZ hb hN hu;clear C hd;generalize dT t=d at *;go_enter Tryz.func107,Tryz.ntmps107;go_wp2_with (first|(go_at_call 152;refine C'.mono ?_;rintro e w1 ⟨es,a,c,rfl,RS0,c0,HN,HS,H3⟩;have RL:=HN.out.lod H3.out)|(refine aB rfl 67 _ _ rfl _ _ _ rfl rfl RS0.out ?_;clear RS0)|(refine jN 67 _ rfl _ _ rfl RL.out (by go_simp) ?_)|(go_at_call 44;refine (DP _ _ HN.out.nt).mono ?_;rintro e w3 ⟨rfl,hs⟩;obtain⟨RS,HG,HZ,HF⟩:=FIN _ _ (HN.out.below hs) (HS.out.bel hs);have RL3:=HN.out.lod ((hs.block _ (aZ H3.out)).trans H3.out);clear hs)|(refine aC rfl 67 _ rfl _ _ rfl RL3.out ?_)|(refine aB rfl 67 _ _ rfl _ _ _ rfl rfl RS.out ?_))
 exact bodyPost_ret (aY HG.out HZ.out rfl rfl) rfl ⟨_,rfl,HF.out.1,HF.out.2.2⟩
end
theorem aAH {W w:World} {b:Nat} {ts:List Tk.Tok} (hn:ts.length<=256) (X:PR W b ts w):Calls Tryz.prog 107 #[pt b] w (WO W b w (qZ ts)):=by
 have C:=aBu hn (X.alloc (.cells nd0 67));have hb:=X.lt;unfold qZ;cases hP:PP 1 ts with
 | none=>rw [hP] at C;exact aEd C
 | some p=>
  obtain⟨t,r⟩:=p;rw [hP] at C;have hz:=aJg upF trF (by omega) _ t r hP;cases r with
  | nil=>
   simp only;by_cases hd:dT t<=24
   ·rw [if_pos hd];exact(aGB hb (by omega) hd C).mono (by rintro e w' ⟨es,rfl,h1,h2⟩;exact⟨es,rfl,h1,h2,by simp at hz;omega⟩)
   ·rw [if_neg hd];exact aEf hb (by omega) hd C
  | cons x r=>exact aEe hb (by simp) C
end Go.Proofs.YtlhoklhjbpkgpaaGreatDoor
namespace Go.Proofs.YtlhoklhjbpkgpaaGreatDoor
open Go.RowKit
theorem LX.own {W w w':World} {b:Nat} {l:List UInt8} {v:Value} {L:List TT} (h:LX W b l w) (ho:fJ 156 W.heap.size w v L) (hg:w.grownBy w' v.ownBlock):LX W b l w':=
 h.grown hg fun k hk=>⟨(World.ownsRow.lt ho k hk).1,fun e=>by
  rcases ho.ne h.blk (fun c z=>by simp) with h1 | h1
  ·rw [h1] at hk;cases hk
  ·exact h1 (by rw [hk,e])⟩
theorem fJ.aOc {W u u1:World} {b:Nat} {l m:List UInt8} {v:Value} {L:List TT} (h:fJ 156 W.heap.size u v L) (X:LX W b l u) (k:St W b m u u1):fJ 156 W.heap.size u1 v L:=
 h.kept k.2 (h.ne X.blk (fun c z=>by simp))
def aPh (w:World) (o:Option (List Tk.Tok)) (e:Ending) (w':World):Prop:=
 Below w.heap.size w w'/\match o with
  | none=>e=.returned (.tuple #[.slice none 0 0,.int .i64 10])
  | some L=>∃v,e=.returned (.tuple #[v,.int .i64 0])/\fJ 156 w.heap.size w' v (L.map tk)/\L.length<=255
theorem aJh {l:List UInt8} {c:UInt8} {r:List UInt8} (h:l.dropWhile Tk.blank=c:: r):Tk.blank c=false:=uX h
theorem aLB {W w2:World} {b:Nat} {m:List UInt8} {v:Value} {L:List TT} (X:LX W b m w2) (ho:fJ 156 W.heap.size w2 v L) (t:TT) (hn:L.length+1<=1000000):
  ∃v' w4,Hid ((Builtin.append_ #[119,119] 119 #[v,.slice (some ⟨w2.heap.size+1,0,none⟩) 1 1]).run Tryz.prog ((w2.alloc (.cells (tcs t.k t.n t.s t.b t.h t.r t.c t.fr t.fc) 156)).alloc (.cells (tcs t.k t.n t.s t.b t.h t.r t.c t.fr t.fc) 156))=.ok v' w4)/\Hid (fJ 156 W.heap.size w4 v' (L++ [t]))/\Hid (LX W b m w4):=by
 have X3:=(X.alloc (.cells (tcs t.k t.n t.s t.b t.h t.r t.c t.fr t.fc) 156)).alloc (.cells (tcs t.k t.n t.s t.b t.h t.r t.c t.fr t.fc) 156);have o3:fJ 156 W.heap.size ((w2.alloc (.cells (tcs t.k t.n t.s t.b t.h t.r t.c t.fr t.fc) 156)).alloc (.cells (tcs t.k t.n t.s t.b t.h t.r t.c t.fr t.fc) 156)) v L:=
  (ho.below (aD (Below.refl _ _) _)).below (aD (Below.refl _ _) _)
 obtain⟨v',w4,R,o4,g4,_⟩:=aCL (t:=t) (g:=w2.heap.size+1) (e':=156) (z:=(0,0)) Tryz.underlying119 aNb o3 (by
  have:=heap_alloc_new (w2.alloc (.cells (tcs t.k t.n t.s t.b t.h t.r t.c t.fr t.fc) 156)) (.cells (tcs t.k t.n t.s t.b t.h t.r t.c t.fr t.fc) 156);rw [show (w2.alloc (.cells (tcs t.k t.n t.s t.b t.h t.r t.c t.fr t.fc) 156)).heap.size=w2.heap.size+1 by simp] at this;exact this) hn X3.bel.size
 exact⟨v',w4,R,o4,X3.own o3 g4⟩
theorem aJi (l:List UInt8) (w:World) (hl:255 < l.length):CW 105 #[.string (ba l)] w (.tuple #[.slice none 0 0,.int .i64 3]):=by
 have hs:(ba l).size=l.length:=size_mk l;have h1:(255:Int) < l.length:=by omega
 generalize ba l=A at *;generalize l.length=n at *;go_enter Tryz.func105,Tryz.ntmps105;go_wp2;go_ret2;exact⟨rfl,rfl⟩
theorem uZ (l:List UInt8) (w:World) (T:dD w) (hl:l.length<=255):Calls Tryz.prog 105 #[.string (ba l)] w (aPh w (gP l)):=by
 have hs:(ba l).size=l.length:=size_mk l;have h1:¬(255:Int) < l.length:=by omega
 have X0:Hid (LX w w.heap.size l (w.alloc (aNR l))):=⟨T,aD (Below.refl _ _) _,Nat.le_refl _,heap_alloc_new w _⟩
 generalize ho:gP l=o;have HO:Hid (gP l=o):=ho;clear ho T;go_enter Tryz.func105,Tryz.ntmps105;go_wp2;clear hs h1;go_loopw [4] (fun v wr=>∃(L:List Tk.Tok) (m:List UInt8),L.length+m.length<=255/\Hid (o=(gP m).map (L++ ·))/\Hid (LX w w.heap.size m wr)/\Hid (fJ 156 w.heap.size wr v (L.map tk))) (fun _ wr=>aFk w.heap.size wr)
 case atStart=>exact⟨[],l,by simpa using hl,by show _=_;rw [<-HO.out];cases gP l <;> simp,X0,fJ.nil _ _ _⟩
 case round=>
  obtain⟨L,m,hlen,HQ,HX,HW⟩:=hrel;clear HO X0;have hm:m.length<=255:=by omega
  have hlm:=tF HX.out;have MO:=fun u (Y:LX w w.heap.size m u)=>aIr Y hm;have hdl:=Tk.lH Tk.blank m;cases hD:m.dropWhile Tk.blank with
  | nil=>
   rw [hD] at MO;have HN:Hid (o=some L):=by show _=_;rw [HQ.out,<-yS,hD];show some (L++ [])=_;rw [List.append_nil]
   have MO':∀u,LX w w.heap.size m u->Calls Tryz.prog 150 #[pt w.heap.size] u fun e w'=>e=.returned (.bool false)/\St w w.heap.size [] u w':=MO;clear MO HQ;go_wp2_with (go_at_call 150;refine (MO' _ HX.out).mono ?_;rintro e w2 ⟨rfl,hs⟩;have H2:Hid (St w w.heap.size [] wr w2):=hs;clear hs)
   go_ret2;rw [HN.out];exact⟨H2.out.1.bel,_,rfl,HW.out.aOc HX.out H2.out,by omega⟩
  | cons c r=>
   rw [hD] at MO hdl;have MO':∀u,LX w w.heap.size m u->Calls Tryz.prog 150 #[pt w.heap.size] u fun e w'=>e=.returned (.bool true)/\St w w.heap.size (c:: r) u w':=MO;have hb:=aJh hD;have NX:=fun u (Y:LX w w.heap.size (c:: r) u)=>aIY Y (by omega);have hlx:=aCM (r:=r) hb;rw [<-hD,yS] at hlx;rw [hD] at hlx;cases h1:Tk.one gnF trB pnF (c:: r) with
   | none=>
    rw [h1] at NX hlx;have HN:Hid (o=none):=by show _=_;rw [HQ.out,hlx];rfl
    have NX':∀u,LX w w.heap.size (c:: r) u->Calls Tryz.prog 151 #[pt w.heap.size] u fun e w'=>∃(t:TT) (q:List UInt8),e=.returned (.tuple #[.agg (tcs t.k t.n t.s t.b t.h t.r t.c t.fr t.fc),.bool false])/\St w w.heap.size q u w':=fun u Y=>(NX u Y).mono (by
     rintro e w' ⟨⟨t,rfl⟩,q,h⟩;exact⟨t,q,rfl,h⟩)
    clear MO NX HQ hlx;go_wp2_with (first|(go_at_call 150;refine (MO' _ HX.out).mono ?_;rintro e w2 ⟨rfl,hs⟩;have H2:Hid (St w w.heap.size (c:: r) wr w2):=hs;clear hs)|(go_at_call 151;refine (NX' _ H2.out.1).mono ?_;rintro e w3 ⟨t,q,rfl,hs⟩;have H3:Hid (St w w.heap.size q wr w3):=H2.out.step hs;clear hs))
    go_ret2;rw [HN.out];exact⟨((H3.out.alloc _).1).bel,rfl⟩
   | some p=>
    obtain⟨t,q⟩:=p;have hql:=pI h1;rw [h1] at NX hlx;have HN:Hid (o=(gP q).map ((L++ [t])++ ·)):=by show _=_;rw [HQ.out,hlx];simp only;cases gP q <;> simp
    have NX':∀u,LX w w.heap.size (c:: r) u->Calls Tryz.prog 151 #[pt w.heap.size] u fun e w'=>e=.returned (.tuple #[.agg (tcs (tk t).k (tk t).n (tk t).s (tk t).b (tk t).h (tk t).r (tk t).c (tk t).fr (tk t).fc),.bool true])/\St w w.heap.size q u w':=fun u Y=>(NX u Y).mono (by
     rintro e w' ⟨rfl,h⟩;exact⟨rfl,h⟩)
    have HL:Hid ((L++ [t]).length+q.length<=255):=by show _<=_;simp at hql hdl ⊢;omega
    have HM:Hid (q.length < m.length):=by show _ < _;simp at hql hdl ⊢;omega
    have HT:Hid (∀x,x=tk t->(L++ [t]).map tk=L.map tk++ [x]):=fun x e=>by rw [e];simp
    clear MO NX HQ hlx h1 hql;generalize htt:tk t=tt at *;have HT2:Hid ((L++ [t]).map tk=L.map tk++ [tt]):=HT.out tt rfl;clear HT htt;go_wp2_with (first|(go_at_call 150;refine (MO' _ HX.out).mono ?_;rintro e w2 ⟨rfl,hs⟩;have H2:Hid (St w w.heap.size (c:: r) wr w2):=hs;clear hs)|(go_at_call 151;refine (NX' _ H2.out.1).mono ?_;rintro e w3 ⟨rfl,hs⟩;have H3:Hid (St w w.heap.size q wr w3):=H2.out.step hs;clear hs;obtain⟨v',w4,RR,HO4,HX4⟩:=aLB H3.out.1 (HW.out.aOc HX.out H3.out) tt (by have:=HL.out;simp at this ⊢;omega))|(at_builtin;refine wpList_append_run rfl _ _ 119 rfl _ _ _ _ rfl rfl RR.out ?_))
    go_roundw
    case rel=>exact⟨L++ [t],q,HL.out,HN,HX4,by show fJ _ _ _ _ _;rw [HT2.out];exact HO4.out⟩
    case measure=>rw [tF HX4.out,hlm];exact HM.out
end Go.Proofs.YtlhoklhjbpkgpaaGreatDoor
